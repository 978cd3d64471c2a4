/- ref.Binary: what is neither. -/
import Derived.Test.YtoponmdfjbhnoaaGreatDoorRows
import Derived.Test.YtoponmdfjbhnoaaGreatDoorGA
import Derived.Test.YtoponmdfjbhnoaaGreatDoorRefFault
import Derived.Test.YtoponmdfjbhnoaaGreatDoorLowOne
import Derived.Test.YtoponmdfjbhnoaaGreatDoorFmt
import Derived.Test.YtoponmdfjbhnoaaGreatDoorParseInt
import Derived.Test.YtoponmdfjbhnoaaGreatDoorRead
import Derived.Test.YtoponmdfjbhnoaaGreatDoorShBin
import Derived.Deep.RegionHeld3
namespace Go.Proofs.YtoponmdfjbhnoaaGreatDoor
open Go.RowKit
theorem refBin_short (l : List UInt8) (w : World) (h : l.length < 2) :
    Calls Tryz.prog 18 #[.string (S l)] w (RetSF w ([], 3, -1)) := by
  go_enter Tryz.func18, Tryz.ntmps18
  go_wp2_with fail
  refine (bareF 3 _).mono ?_
  rintro e w' ⟨rfl, hb⟩
  have hlow := below_then ((Below.refl w.heap.size w).alloc (Nat.le_refl _) _) hb
  have hF := (cell2_new w).later hb
  obtain ⟨q0, q1⟩ := hF.cells
  have f0 := hF.frozen 0
  have f1 := hF.frozen 1
  clear hF hb
  go_wp2_with fail
  refine bodyPost_ret (v := .tuple #[.string (S []), .agg #[.int .i64 3, .int .i64 (-1)]]) (by simp [results, Tryz.results18, go_sem, q0, q1]) rfl ⟨rfl, (hlow.setCell (Nat.le_refl _) _).setCell (Nat.le_refl _) _⟩
/-- what ToLower wants of the library's tables -/
def LowT (W : World) : Prop := Lib.CaseVar 3 Lib.caseA W ∧ Lib.Utf8Tabs 7 8 W
theorem LowT.later {W W' : World} (h : LowT W) (hb : Below W.heap.size W W') : LowT W' := ⟨Lib.CaseVar_below h.1 hb, Utf8Tabs_below h.2 hb⟩
theorem low_any (b : UInt8) (w : World) (h : LowT w) :
    Calls Tryz.prog 28 #[.string (S [b])] w fun e w' => e = .returned (.string (S (Lib.toLowerD [b]))) ∧ Below w.heap.size w w' := by
  have := Tryz.strings_ToLower_any (S [b]) w (by rw [S_size]; show 1 < 35184372088832; decide) h.1 h.2
  rw [S_data] at this
  exact this
theorem low_le3 (b : UInt8) : (Lib.toLowerD [b]).length ≤ 3 := by
  by_cases h8 : b.toNat < 128
  · rw [low_low b h8]; exact (show 1 ≤ 3 by decide)
  · rw [low_high b (by omega)]; decide
theorem hexIdx_any (c : UInt8) (w : World) :
    Calls Tryz.prog 29 #[.string (S hexAll), .int .u8 (c.toNat : Int)] w fun e w' => e = .returned (.int .i64 (Lib.indexByte hexAll c)) ∧ w = w' := by
  refine (Tryz.strings_IndexByte (S hexAll) _ w).mono ?_
  rintro e w' ⟨rfl, hw⟩
  refine ⟨?_, hw.symm⟩
  rw [S_data]
  simp
set_option maxRecDepth 100000 in
theorem refBin_none (a b : UInt8) (r x : List UInt8) (w : World) (hl : r.length ≤ 1000) (hT : LowT w) (hx : a :: Lib.toLowerD [b] = x) (n1 : x ≠ [48, 120]) (n2 : x ≠ [48, 98]) :
    Calls Tryz.prog 18 #[.string (S (a :: b :: r))] w (RetSF w ([], 3, -1)) := by
  have C := Lib.hid (low_any b)
  have HT := Lib.hid hT
  have hq3 := low_le3 b
  obtain ⟨q, hq⟩ : ∃ q, Lib.toLowerD [b] = q := ⟨_, rfl⟩
  rw [hq] at C hx hq3
  have Hx := Lib.hid hx
  have m1 : (x == [48, 120]) = false := beq_false_of_ne n1
  have m2 : (x == [48, 98]) = false := beq_false_of_ne n2
  clear hq hT hx
  go_enter Tryz.func18, Tryz.ntmps18
  go_wp2_with fail
  have hb0 := ((Below.refl w.heap.size w).alloc (Nat.le_refl _) (.cells #[.int .i64 0, .int .i64 0] 50))
  have HT1 := Lib.hid (HT.out.later hb0)
  have HF1 := Lib.hid (cell2_new w)
  obtain ⟨W1, hW1⟩ : ∃ W1, w.alloc (.cells #[.int .i64 0, .int .i64 0] 50) = W1 := ⟨_, rfl⟩
  rw [hW1] at HT1 hb0 HF1 ⊢
  clear hW1
  have hs1 : ¬ 9223372036854775807 < q.length + 1 := by omega
  have hs2 : ¬ 9223372036854775807 < 1 + q.length := by omega
  have hr1 : (1 : Int) ≤ (r.length : Int) + 1 + 1 := by omega
  have hr2 : (2 : Int) ≤ (r.length : Int) + 1 + 1 := by omega
  go_region_held3 (fun w' => Below W1.heap.size W1 w') (first | exact Below.refl _ _ | assumption | (refine below_then ?_ hb'; assumption) | exact below_drewN (Below.refl _ _) _ | (refine Below.drew ?_; first | assumption | exact Below.refl _ _)) (first | ((with_reducible refine (C.out _ (HT1.out.later (by first | assumption | exact Below.refl _ _ | exact (Below.refl _ _).drew))).mono ?_); rintro e w' ⟨rfl, hb'⟩))
  have hbw : Below W1.heap.size W1 w' := by assumption
  have HF := Lib.hid (HF1.out.later hbw)
  have HB := Lib.hid (below_then hb0 hbw)
  rw [Hx.out]
  clear C HT HT1 hb' hbw hb0 hs1 hs2 hq3 HF1
  go_wp2_with fail
  refine (bareF 3 _).mono ?_
  rintro e w2 ⟨rfl, hb2⟩
  have HB2 := Lib.hid (below_then HB.out hb2)
  have hF := HF.out.later hb2
  obtain ⟨q0, q1⟩ := hF.cells
  have f0 := hF.frozen 0
  have f1 := hF.frozen 1
  clear hF hb2
  go_wp2_with fail
  refine bodyPost_ret (v := .tuple #[.string (S []), .agg #[.int .i64 3, .int .i64 (-1)]]) (by simp [results, Tryz.results18, go_sem, q0, q1]) rfl ⟨rfl, (HB2.out.setCell (Nat.le_refl _) _).setCell (Nat.le_refl _) _⟩
set_option maxRecDepth 100000 in
theorem refBin_hexodd (a b : UInt8) (r : List UInt8) (w : World) (hl : r.length ≤ 1000) (hT : LowT w) (hx : a :: Lib.toLowerD [b] = [48, 120]) (ho : r.length % 2 = 1) :
    Calls Tryz.prog 18 #[.string (S (a :: b :: r))] w (RetSF w ([], 7, -1)) := by
  have C := Lib.hid (low_any b)
  have HT := Lib.hid hT
  have hq3 := low_le3 b
  obtain ⟨q, hq⟩ : ∃ q, Lib.toLowerD [b] = q := ⟨_, rfl⟩
  rw [hq] at C hx hq3
  have Hx := Lib.hid hx
  have hoi : (r.length : Int) % 2 = 1 := by omega
  clear hq hT hx
  go_enter Tryz.func18, Tryz.ntmps18
  go_wp2_with fail
  have hb0 := ((Below.refl w.heap.size w).alloc (Nat.le_refl _) (.cells #[.int .i64 0, .int .i64 0] 50))
  have HT1 := Lib.hid (HT.out.later hb0)
  have HF1 := Lib.hid (cell2_new w)
  obtain ⟨W1, hW1⟩ : ∃ W1, w.alloc (.cells #[.int .i64 0, .int .i64 0] 50) = W1 := ⟨_, rfl⟩
  rw [hW1] at HT1 hb0 HF1 ⊢
  clear hW1
  have hs1 : ¬ 9223372036854775807 < q.length + 1 := by omega
  have hs2 : ¬ 9223372036854775807 < 1 + q.length := by omega
  have hr1 : (1 : Int) ≤ (r.length : Int) + 1 + 1 := by omega
  have hr2 : (2 : Int) ≤ (r.length : Int) + 1 + 1 := by omega
  go_region_held3 (fun w' => Below W1.heap.size W1 w') (first | exact Below.refl _ _ | assumption | (refine below_then ?_ hb'; assumption) | exact below_drewN (Below.refl _ _) _ | (refine Below.drew ?_; first | assumption | exact Below.refl _ _)) (first | ((with_reducible refine (C.out _ (HT1.out.later (by first | assumption | exact Below.refl _ _ | exact (Below.refl _ _).drew))).mono ?_); rintro e w' ⟨rfl, hb'⟩))
  have hbw : Below W1.heap.size W1 w' := by assumption
  have HF := Lib.hid (HF1.out.later hbw)
  have HB := Lib.hid (below_then hb0 hbw)
  rw [Hx.out]
  clear C HT HT1 hb' hbw hb0 hs1 hs2 hq3 HF1
  go_wp2_with fail
  refine (bareF 7 _).mono ?_
  rintro e w2 ⟨rfl, hb2⟩
  have HB2 := Lib.hid (below_then HB.out hb2)
  have hF := HF.out.later hb2
  obtain ⟨q0, q1⟩ := hF.cells
  have f0 := hF.frozen 0
  have f1 := hF.frozen 1
  clear hF hb2
  go_wp2_with fail
  refine bodyPost_ret (v := .tuple #[.string (S []), .agg #[.int .i64 7, .int .i64 (-1)]]) (by simp [results, Tryz.results18, go_sem, q0, q1]) rfl ⟨rfl, (HB2.out.setCell (Nat.le_refl _) _).setCell (Nat.le_refl _) _⟩
set_option maxRecDepth 100000 in
theorem refBin_b64odd (a b : UInt8) (r : List UInt8) (w : World) (hl : r.length ≤ 1000) (hT : LowT w) (hx : a :: Lib.toLowerD [b] = [48, 98]) (ho : r.length % 4 ≠ 0) :
    Calls Tryz.prog 18 #[.string (S (a :: b :: r))] w (RetSF w ([], 7, -1)) := by
  have C := Lib.hid (low_any b)
  have HT := Lib.hid hT
  have hq3 := low_le3 b
  obtain ⟨q, hq⟩ : ∃ q, Lib.toLowerD [b] = q := ⟨_, rfl⟩
  rw [hq] at C hx hq3
  have Hx := Lib.hid hx
  have hoi : ((r.length : Int) % 4 != 0) = true := by rw [bne_iff_ne]; omega
  clear ho
  clear hq hT hx
  go_enter Tryz.func18, Tryz.ntmps18
  go_wp2_with fail
  have hb0 := ((Below.refl w.heap.size w).alloc (Nat.le_refl _) (.cells #[.int .i64 0, .int .i64 0] 50))
  have HT1 := Lib.hid (HT.out.later hb0)
  have HF1 := Lib.hid (cell2_new w)
  obtain ⟨W1, hW1⟩ : ∃ W1, w.alloc (.cells #[.int .i64 0, .int .i64 0] 50) = W1 := ⟨_, rfl⟩
  rw [hW1] at HT1 hb0 HF1 ⊢
  clear hW1
  have hs1 : ¬ 9223372036854775807 < q.length + 1 := by omega
  have hs2 : ¬ 9223372036854775807 < 1 + q.length := by omega
  have hr1 : (1 : Int) ≤ (r.length : Int) + 1 + 1 := by omega
  have hr2 : (2 : Int) ≤ (r.length : Int) + 1 + 1 := by omega
  go_region_held3 (fun w' => Below W1.heap.size W1 w') (first | exact Below.refl _ _ | assumption | (refine below_then ?_ hb'; assumption) | exact below_drewN (Below.refl _ _) _ | (refine Below.drew ?_; first | assumption | exact Below.refl _ _)) (first | ((with_reducible refine (C.out _ (HT1.out.later (by first | assumption | exact Below.refl _ _ | exact (Below.refl _ _).drew))).mono ?_); rintro e w' ⟨rfl, hb'⟩))
  have hbw : Below W1.heap.size W1 w' := by assumption
  have HF := Lib.hid (HF1.out.later hbw)
  have HB := Lib.hid (below_then hb0 hbw)
  rw [Hx.out]
  clear C HT HT1 hb' hbw hb0 hs1 hs2 hq3 HF1
  go_wp2_with fail
  refine (bareF 7 _).mono ?_
  rintro e w2 ⟨rfl, hb2⟩
  have HB2 := Lib.hid (below_then HB.out hb2)
  have hF := HF.out.later hb2
  obtain ⟨q0, q1⟩ := hF.cells
  have f0 := hF.frozen 0
  have f1 := hF.frozen 1
  clear hF hb2
  go_wp2_with fail
  refine bodyPost_ret (v := .tuple #[.string (S []), .agg #[.int .i64 7, .int .i64 (-1)]]) (by simp [results, Tryz.results18, go_sem, q0, q1]) rfl ⟨rfl, (HB2.out.setCell (Nat.le_refl _) _).setCell (Nat.le_refl _) _⟩
set_option maxRecDepth 100000 in
theorem refBin_hexloop (a b : UInt8) (r : List UInt8) (m : Nat) (res : List UInt8 × Int × Int) (w : World) (hl : r.length ≤ 1000) (hT : LowT w) (hx : a :: Lib.toLowerD [b] = [48, 120]) (ho : r.length % 2 = 0) (hm : m ≤ r.length) (hgood : ∀ j (hj : j < r.length), j < m → (hexV r[j]).isNone = false) (hbad : ∀ (hj : m < r.length), (hexV r[m]).isNone = true) (hr1 : m < r.length → res = ([], 3, 2 + (m : Int))) (hr2 : ¬ m < r.length → res = (unhex r, 0, -1)) :
    Calls Tryz.prog 18 #[.string (S (a :: b :: r))] w (RetSF w res) := by
  have C := Lib.hid (low_any b)
  have HT := Lib.hid hT
  have hq3 := low_le3 b
  obtain ⟨q, hq⟩ : ∃ q, Lib.toLowerD [b] = q := ⟨_, rfl⟩
  rw [hq] at C hx hq3
  have Hx := Lib.hid hx
  have hoi : (r.length : Int) % 2 = 0 := by omega
  have Hgood := Lib.hid hgood
  have Hbad := Lib.hid hbad
  have Hr1 := Lib.hid hr1
  have Hr2 := Lib.hid hr2
  clear hgood hbad hr1 hr2
  clear hq hT hx
  go_enter Tryz.func18, Tryz.ntmps18
  go_wp2_with fail
  have hb0 := ((Below.refl w.heap.size w).alloc (Nat.le_refl _) (.cells #[.int .i64 0, .int .i64 0] 50))
  have HT1 := Lib.hid (HT.out.later hb0)
  have HF1 := Lib.hid (cell2_new w)
  obtain ⟨W1, hW1⟩ : ∃ W1, w.alloc (.cells #[.int .i64 0, .int .i64 0] 50) = W1 := ⟨_, rfl⟩
  rw [hW1] at HT1 hb0 HF1 ⊢
  clear hW1
  have hs1 : ¬ 9223372036854775807 < q.length + 1 := by omega
  have hs2 : ¬ 9223372036854775807 < 1 + q.length := by omega
  have hr1 : (1 : Int) ≤ (r.length : Int) + 1 + 1 := by omega
  have hr2 : (2 : Int) ≤ (r.length : Int) + 1 + 1 := by omega
  go_region_held3 (fun w' => Below W1.heap.size W1 w') (first | exact Below.refl _ _ | assumption | (refine below_then ?_ hb'; assumption) | exact below_drewN (Below.refl _ _) _ | (refine Below.drew ?_; first | assumption | exact Below.refl _ _)) (first | ((with_reducible refine (C.out _ (HT1.out.later (by first | assumption | exact Below.refl _ _ | exact (Below.refl _ _).drew))).mono ?_); rintro e w' ⟨rfl, hb'⟩))
  have hbw : Below W1.heap.size W1 w' := by assumption
  have HF := Lib.hid (HF1.out.later hbw)
  have HB := Lib.hid (below_then hb0 hbw)
  rw [Hx.out]
  clear C HT HT1 hb' hbw hb0 hs1 hs2 hq3 HF1
  go_wp2_with fail
  try rw [hoi]
  have Ho := Lib.hid ho
  clear ho hoi
  go_loopg [37] (r.length + 1) (fun g c wr => ∃ k : Nat, k ≤ m ∧ g + k = r.length + 1 ∧ c = .int .i64 k ∧ wr = w')
  case atStart => exact ⟨0, by omega, by omega, rfl, rfl⟩
  case round =>
    obtain ⟨k, hk, hg, rfl, rfl⟩ := hrel
    have Hg := Lib.hid hg
    clear hg
    by_cases hlt : k < m
    · have hkl : k < r.length := by omega
      have hki : (k : Int) < (r.length : Int) := by omega
      have hy : 0 ≤ Lib.indexByte hexAll r[k] := by
        have h1 := Hgood.out k hkl hlt
        have h2 := hexAll_at r[k]
        rw [h1] at h2
        have h3 : ¬ Lib.indexByte hexAll r[k] < 0 := fun h => by have := h2.1 h; cases this
        omega
      have X := hexIdx_any r[k] wr
      generalize Lib.indexByte hexAll r[k] = y at hy X
      have X := Lib.hid X
      have hy2 : ¬ y < 0 := by omega
      go_wp2_with fail
      refine X.out.mono ?_
      rintro e w2 ⟨rfl, rfl⟩
      go_wp2_with fail
      go_roundg (gk - 1)
      case measure => have := Hg.out; omega
      case rel => exact ⟨k + 1, by omega, by have := Hg.out; omega, by go_num, rfl⟩
    · have hkm : k = m := by omega
      subst hkm
      by_cases hkl : k < r.length
      · have hki : (k : Int) < (r.length : Int) := by omega
        have hy : Lib.indexByte hexAll r[k] < 0 := (hexAll_at r[k]).2 (Hbad.out hkl)
        have X := hexIdx_any r[k] wr
        generalize Lib.indexByte hexAll r[k] = y at hy X
        have X := Lib.hid X
        have hF := HF.out
        obtain ⟨q0, q1⟩ := hF.cells
        have f0 := hF.frozen 0
        have f1 := hF.frozen 1
        rw [Hr1.out hkl]
        clear hF
        go_wp2_with fail
        refine X.out.mono ?_
        rintro e w2 ⟨rfl, rfl⟩
        go_wp2_with fail
        refine bodyPost_ret (v := .tuple #[.string (S []), .agg #[.int .i64 3, .int .i64 ((k : Int) + 2)]]) (by simp [results, Tryz.results18, go_sem, q0, q1]) rfl ⟨by rw [Int.add_comm], (HB.out.setCell (Nat.le_refl _) _).setCell (Nat.le_refl _) _⟩
      · have hkr : k = r.length := by omega
        subst hkr
        have hall : ∀ c ∈ r, (hexV c).isNone = false := fun c hc => by
          obtain ⟨j, hj, rfl⟩ := List.getElem_of_mem hc
          exact Hgood.out j hj hj
        have hpu := pairs_unhex r hall
        have hul : (unhex r).length ≤ 500 := by rw [← hpu, pairs_len]; omega
        obtain ⟨T, hTt⟩ : ∃ T, unhex r = T := ⟨_, rfl⟩
        have Hres := Lib.hid (Hr2.out (Nat.lt_irrefl _))
        rw [hTt] at hpu hul Hres
        have Hpu := Lib.hid hpu
        have Hall := Lib.hid hall
        obtain ⟨M, hM⟩ : ∃ M, r.length = 2 * M := ⟨r.length / 2, by have := Ho.out; omega⟩
        have HM := Lib.hid hM
        clear hpu hall hM hTt hkl hlt hk Hgood Hbad Hr1 Hr2 Hg
        go_wp2_with fail
        go_loopg [4, 6] (M + 1) (fun g vb vo W => ∃ (s o : List UInt8) (j : Nat), s.length = 2 * j ∧ g = j + 1 ∧ vb = .string (S s) ∧ vo = .string (S o) ∧ o ++ pairs s = T ∧ (∀ c ∈ s, (hexV c).isNone = false) ∧ Below wr.heap.size wr W)
        case atStart => exact ⟨r, [], M, HM.out, rfl, rfl, rfl, Hpu.out, Hall.out, Below.refl _ _⟩
        case round =>
          obtain ⟨s, o, j, hsl, hg, rfl, rfl, hT, hgood, hb⟩ := hrel
          have Hg3 := Lib.hid hg
          have Hb3 := Lib.hid hb
          have HT3 := Lib.hid hT
          have hol : o.length ≤ 500 := by
            have h1 := congrArg List.length hT
            rw [List.length_append] at h1; omega
          clear hg hb hT
          by_cases hj : 0 < j
          · have hs2 : 2 ≤ s.length := by omega
            have hemp : s.isEmpty = false := by cases s with | nil => simp at hs2 | cons _ _ => rfl
            have hstep := pairs_step s hs2
            have htl : (s.take 2).length = 2 := by simp; omega
            have hdl : (s.drop 2).length = 2 * (j - 1) := by simp; omega
            have ht2 : ∀ c ∈ s.take 2, isDig 16 c = true := fun c hc => (hexV_dig c (hgood c (List.mem_of_mem_take hc))).1
            have Hd2 := Lib.hid (fun c hc => hgood c (List.mem_of_mem_drop hc) : ∀ c ∈ s.drop 2, (hexV c).isNone = false)
            have hv := valB_lt 16 (by decide) (s.take 2) ht2
            rw [htl] at hv
            have C := Lib.hid (fun W' => parseInt_16 (s.take 2) W' (by omega) (by omega) ht2)
            obtain ⟨v, hve⟩ : ∃ v, valB 16 (s.take 2) = v := ⟨_, rfl⟩
            rw [hve] at hv C hstep
            have hv256 : v < 256 := hv
            have hvm : v % 256 = v := Nat.mod_eq_of_lt hv256
            have Hstep := Lib.hid hstep
            have hdr : List.take (2 * j - 2) (s.drop 2) = s.drop 2 := List.take_of_length_le (by omega)
            have Hdr := Lib.hid hdr
            clear hgood hv hstep ht2 hve hdr
            go_wp2_with fail
            with_reducible refine (C.out _).mono ?_
            rintro e w2 ⟨rfl, hb2⟩
            have hcv := run_string_new1 (P := Tryz.prog) 44 9 5 Tryz.underlying44 Tryz.underlying5 Tryz.underlying9 w2 v 5
            rw [hvm, show (v : Int) % 256 = (v : Int) from by omega] at hcv
            clear hvm
            go_wp2_with fail
            go_roundg (gk - 1)
            case measure => have := Hg3.out; omega
            case rel => exact ⟨s.drop 2, o ++ [UInt8.ofNat v], j - 1, hdl, by have := Hg3.out; omega, by rw [Hdr.out], rfl, by rw [← HT3.out, Hstep.out, List.append_assoc]; rfl, Hd2.out, (below_then Hb3.out hb2).alloc (by have := (below_then Hb3.out hb2).size; omega) _⟩
          · have hj0 : j = 0 := by omega
            subst hj0
            obtain rfl : s = [] := List.eq_nil_of_length_eq_zero hsl
            have hoT : o = T := by rw [← HT3.out]; simp [pairs]
            subst hoT
            have HB := Lib.hid (below_then HB.out Hb3.out)
            have HF := Lib.hid (HF.out.later Hb3.out)
            go_wp2_with fail
            refine (goodF _).mono ?_
            rintro e w2 ⟨rfl, hb2⟩
            have HB2 := Lib.hid (below_then HB.out hb2)
            have hF := HF.out.later hb2
            obtain ⟨q0, q1⟩ := hF.cells
            have f0 := hF.frozen 0
            have f1 := hF.frozen 1
            clear hF hb2
            go_wp2_with fail
            refine bodyPost_ret (v := .tuple #[.string (S o), .agg #[.int .i64 0, .int .i64 (-1)]]) (by simp [results, Tryz.results18, go_sem, q0, q1]) rfl ⟨by rw [Hres.out], (HB2.out.setCell (Nat.le_refl _) _).setCell (Nat.le_refl _) _⟩
end Go.Proofs.YtoponmdfjbhnoaaGreatDoor
