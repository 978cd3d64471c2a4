/- ref.Binary: letters. -/
import Derived.Test.YtoponmdfjbhnoaaGreatDoorRefBin
namespace Go.Proofs.YtoponmdfjbhnoaaGreatDoor
open Go.RowKit
theorem trim_any (l : List UInt8) (w : World) (hl : l.length ≤ 4294967280) :
    Calls Tryz.prog 32 #[.string (S l), .string (S [61])] w fun e w' => e = .returned (.string (S (Lib.trimSuffix l [61]))) ∧ w = w' := by
  have h := Tryz.strings_TrimSuffix (S l) (S [61]) w (by rw [S_size]; omega)
  rw [S_data, S_data] at h
  exact h.mono fun _ _ ⟨h1, h2⟩ => ⟨h1, h2.symm⟩
theorem has_any (l : List UInt8) (w : World) :
    Calls Tryz.prog 34 #[.string (S l), .string (S [49])] w fun e w' => e = .returned (.bool (decide (0 ≤ Lib.indexByte l 49))) ∧ w = w' := by
  have h := Tryz.strings_Contains_one (S l) 49 w
  rw [S_data] at h
  exact h.mono fun _ _ ⟨h1, h2⟩ => ⟨h1, h2.symm⟩
theorem BruijnT.keep {w W : World} (h : BruijnT w) (hb : Below w.heap.size w W) : BruijnT W := h.later hb
set_option maxRecDepth 100000 in
set_option maxHeartbeats 1000000 in
theorem refBin_b64loop (a b : UInt8) (r : List UInt8) (m p : Nat) (res : List UInt8 × Int × Int) (w : World) (hl : r.length ≤ 1000) (hT : LowT w) (hTB : BruijnT w) (hx : a :: Lib.toLowerD [b] = [48, 98]) (ho : r.length % 4 = 0) (hm : m = r.length - eqs r) (hp : p ≤ m) (hgood : ∀ j (hj : j < r.length), j < p → 0 ≤ letN r[j]) (hbad : ∀ (hj : p < r.length), p < m → letN r[p] < 0)
    (hr1 : p < m → res = ([], 3, 2 + (p : Int))) (hr2 : ¬ p < m → (runL (r.take m)).1 ≠ 0 → res = ([], 3, 2 + ((m - 1 : Nat) : Int))) (hr3 : ¬ p < m → (runL (r.take m)).1 = 0 → res = ((runL (r.take m)).2.2, 0, -1)) :
    Calls Tryz.prog 18 #[.string (S (a :: b :: r))] w (RetSF w res) := by
  have C := Lib.hid (low_any b)
  have HT := Lib.hid hT
  have hq3 := low_le3 b
  obtain ⟨q, hq⟩ : ∃ q, Lib.toLowerD [b] = q := ⟨_, rfl⟩
  rw [hq] at C hx hq3
  have Hx := Lib.hid hx
  have hoi : ((r.length : Int) % 4 != 0) = false := by rw [Bool.eq_false_iff, Ne, bne_iff_ne]; omega
  have he2 := eqs_le r
  have hel := eqs_len r
  have hmr : m ≤ r.length := by omega
  have hm4 : m % 4 ≠ 1 := by omega
  have hst := strike r
  rw [← hm] at hst
  have hbl : (r.take m).length = m := by rw [List.length_take]; omega
  have hg2 : ∀ (j : Nat) (c : UInt8), (r.take m)[j]? = some c → j < p → 0 ≤ letN c := fun j c hj hjp => by
    obtain ⟨hjl, hje⟩ := List.getElem?_eq_some_iff.1 hj
    rw [← hje, List.getElem_take]; exact hgood j (by omega) hjp
  have hb2 : ∀ (c : UInt8), (r.take m)[p]? = some c → letN c < 0 := fun c hj => by
    obtain ⟨hjl, hje⟩ := List.getElem?_eq_some_iff.1 hj
    rw [← hje, List.getElem_take]; exact hbad (by omega) (by omega)
  obtain ⟨bd, hbd⟩ : ∃ bd, r.take m = bd := ⟨_, rfl⟩
  rw [hbd] at hst hbl hr2 hr3 hb2
  simp only [hbd] at hg2
  have Hgood := Lib.hid hg2
  have Hbad := Lib.hid hb2
  have Hr1 := Lib.hid hr1
  have Hr2 := Lib.hid hr2
  have Hr3 := Lib.hid hr3
  have HTB0 := Lib.hid hTB
  clear hg2 hb2 hgood hbad hr1 hr2 hr3 hbd hTB hm he2 hel ho
  clear hq hT hx
  go_enter Tryz.func18, Tryz.ntmps18
  go_wp2_with fail
  have hb0 := ((Below.refl w.heap.size w).alloc (Nat.le_refl _) (.cells #[.int .i64 0, .int .i64 0] 50))
  have HT1 := Lib.hid (HT.out.later hb0)
  have HF1 := Lib.hid (cell2_new w)
  obtain ⟨W1, hW1⟩ : ∃ W1, w.alloc (.cells #[.int .i64 0, .int .i64 0] 50) = W1 := ⟨_, rfl⟩
  rw [hW1] at HT1 hb0 HF1 ⊢
  clear hW1
  have hs1 : ¬ 9223372036854775807 < q.length + 1 := by omega
  have hs2 : ¬ 9223372036854775807 < 1 + q.length := by omega
  have hr1 : (1 : Int) ≤ (r.length : Int) + 1 + 1 := by omega
  have hr2 : (2 : Int) ≤ (r.length : Int) + 1 + 1 := by omega
  go_region_held3 (fun w' => Below W1.heap.size W1 w') (first | exact Below.refl _ _ | assumption | (refine below_then ?_ hb'; assumption) | exact below_drewN (Below.refl _ _) _ | (refine Below.drew ?_; first | assumption | exact Below.refl _ _)) (first | ((with_reducible refine (C.out _ (HT1.out.later (by first | assumption | exact Below.refl _ _ | exact (Below.refl _ _).drew))).mono ?_); rintro e w' ⟨rfl, hb'⟩))
  have hbw : Below W1.heap.size W1 w' := by assumption
  have HF := Lib.hid (HF1.out.later hbw)
  have HB := Lib.hid (below_then hb0 hbw)
  rw [Hx.out]
  clear C HT HT1 hb' hbw hb0 hs1 hs2 hq3 HF1
  have HTB := Lib.hid (HTB0.out.keep HB.out)
  clear HTB0
  rcases hst with ⟨h1, h2⟩ | ⟨h1, h2⟩
  case' inl =>
    have C1 := Lib.hid (trim_any r)
    rw [h1] at C1
    have e1 : (r != r) = false := by simp
    clear h1
    go_wp2_with fail
    refine (C1.out _ (by omega)).mono ?_
    rintro e w2 ⟨rfl, rfl⟩
    go_wp2_with fail
    rw [← h2, hbl]
    clear h2 e1
  case' inr =>
    have C1 := Lib.hid (trim_any r)
    have hq := (strike_one r)
    have hql : (Lib.trimSuffix r [61]).length ≤ r.length := by rw [hq, List.length_take]; omega
    have C2 := Lib.hid (trim_any (Lib.trimSuffix r [61]))
    rw [h2] at C2
    have e1 : (Lib.trimSuffix r [61] == r) = false := beq_false_of_ne h1
    clear h1 h2 hq
    generalize Lib.trimSuffix r [61] = t at C1 C2 e1 hql
    go_wp2_with fail
    refine (C1.out _ (by omega)).mono ?_
    rintro e w2 ⟨rfl, rfl⟩
    go_wp2_with fail
    refine (C2.out _ (by omega)).mono ?_
    rintro e w2 ⟨rfl, rfl⟩
    go_wp2_with fail
  all_goals
    clear hoi hr1 hr2 Hx
    have hbm : m ≤ 1000 := by omega
    go_loopg [83] (m + 1) (fun g c wr => ∃ k : Nat, k ≤ p ∧ g + k = m + 1 ∧ c = .int .i64 k ∧ w' = wr)
    case atStart => exact ⟨0, by omega, by omega, rfl, rfl⟩
    case round =>
      obtain ⟨k, hk, hg, rfl, rfl⟩ := hrel
      have Hg := Lib.hid hg
      clear hg
      by_cases hlt : k < p
      · have hkl : k < bd.length := by omega
        have hki : (k : Int) < (m : Int) := by omega
        have hy := Hgood.out k _ (List.getElem?_eq_getElem hkl) hlt
        have X := index_any bd[k] w'
        generalize letN bd[k] = y at hy X
        have X := Lib.hid X
        have hy2 : ¬ y < 0 := by omega
        go_wp2_with fail
        refine X.out.mono ?_
        rintro e w2 ⟨rfl, rfl⟩
        go_wp2_with fail
        go_roundg (gk - 1)
        case measure => have := Hg.out; omega
        case rel => exact ⟨k + 1, by omega, by have := Hg.out; omega, by go_num, rfl⟩
      · have hkm : k = p := by omega
        subst hkm
        by_cases hkl : k < m
        · have hkl2 : k < bd.length := by omega
          have hki : (k : Int) < (m : Int) := by omega
          have hy := Hbad.out _ (List.getElem?_eq_getElem hkl2)
          have X := index_any bd[k] w'
          generalize letN bd[k] = y at hy X
          have X := Lib.hid X
          have hF := HF.out
          obtain ⟨q0, q1⟩ := hF.cells
          have f0 := hF.frozen 0
          have f1 := hF.frozen 1
          have Hres := Lib.hid (Hr1.out hkl)
          clear hF
          go_wp2_with fail
          refine X.out.mono ?_
          rintro e w2 ⟨rfl, rfl⟩
          go_wp2_with fail
          refine bodyPost_ret (v := .tuple #[.string (S []), .agg #[.int .i64 3, .int .i64 ((k : Int) + 2)]]) (by simp [results, Tryz.results18, go_sem, q0, q1]) rfl ⟨by rw [Hres.out, Int.add_comm], (HB.out.setCell (Nat.le_refl _) _).setCell (Nat.le_refl _) _⟩
        · have hkr : k = m := by omega
          subst hkr
          have hall : ∀ c ∈ bd, 0 ≤ letN c := fun c hc => by
            obtain ⟨j, hj, rfl⟩ := List.getElem_of_mem hc
            exact Hgood.out j _ (List.getElem?_eq_getElem hj) (by omega)
          have hrun := octs_run bd.length bd rfl hall
          have hinv := runL_inv bd
          have hsd := sixBits_two bd
          have hsl := sixBits_len bd
          have hr2 := Hr2.out (Nat.lt_irrefl _)
          have hr3 := Hr3.out (Nat.lt_irrefl _)
          rw [hbl] at hinv hsl
          have h0m : (runL bd).1 ≠ 0 → k ≠ 0 := fun h e => by
            apply h
            have : bd = [] := List.eq_nil_of_length_eq_zero (by omega)
            rw [this]; rfl
          generalize runL bd = st at hrun hinv hr2 hr3 h0m
          obtain ⟨va, sz, B⟩ := st
          obtain ⟨i1, i2, i3, i4⟩ := hrun
          obtain ⟨j1, _, j3⟩ := hinv
          simp only at i1 i2 i3 j1 j3 hr2 hr3 h0m
          have hs4 : sz ≤ 4 := by omega
          have hBl : B.length ≤ 1000 := by omega
          have HA := Lib.hid (⟨i1, i2, i3, hr2, hr3, h0m⟩ : (octs (sixBits bd)).1 = B ∧ (octs (sixBits bd)).2.length = sz ∧ valB 2 (octs (sixBits bd)).2 = va ∧ (va ≠ 0 → res = ([], 3, 2 + ((k - 1 : Nat) : Int))) ∧ (va = 0 → res = (B, 0, -1)) ∧ (va ≠ 0 → k ≠ 0))
          have Hall := Lib.hid hall
          have Hsd := Lib.hid hsd
          have Hsl := Lib.hid hsl
          clear i1 i2 i3 i4 hr2 hr3 h0m j1 j3 hall hsd hsl hlt hk hkl Hgood Hbad Hr1 Hr2 Hr3 Hg
          go_wp2_with fail
          go_loopg [11, 97] (k + 1) (fun g vb c W => ∃ i : Nat, i ≤ k ∧ g + i = k + 1 ∧ c = .int .i64 i ∧ vb = .string (S (sixBits (bd.take i))) ∧ Below w'.heap.size w' W)
          case atStart => exact ⟨0, by omega, by omega, rfl, rfl, Below.refl _ _⟩
          case round =>
            obtain ⟨i, hi, hg, rfl, rfl, hb⟩ := hrel
            have Hg2 := Lib.hid hg
            have Hb2 := Lib.hid hb
            clear hg hb
            by_cases hil : i < k
            · have hib : i < bd.length := by omega
              have hii : (i : Int) < (k : Int) := by omega
              have hbd := letN_bd bd[i]
              have h0 := Hall.out bd[i] (List.getElem_mem hib)
              have X := fun W => index_any bd[i] W
              have hst : sixBits (bd.take i) ++ lowD 2 (letN bd[i]).toNat 6 = sixBits (bd.take (i + 1)) := by
                rw [List.take_succ_eq_append_getElem hib, sixBits_snoc]
              have hln : (sixBits (bd.take i)).length ≤ 6000 := by rw [sixBits_len, List.length_take]; omega
              obtain ⟨n, hn⟩ : ∃ n : Nat, letN bd[i] = (n : Int) := ⟨(letN bd[i]).toNat, by omega⟩
              rw [hn, Int.toNat_natCast] at hst
              rw [hn] at X hbd
              have hn64 : n < 64 := by omega
              have D := Lib.hid (fun W hT => digits2_6 n W hn64 hT)
              have hl6 := lowD_len 2 n 6
              have Hst := Lib.hid hst
              have X := Lib.hid X
              obtain ⟨z, hz⟩ : ∃ z, sixBits (bd.take i) = z := ⟨_, rfl⟩
              obtain ⟨y, hy⟩ : ∃ y, lowD 2 n 6 = y := ⟨_, rfl⟩
              rw [hz, hy] at Hst
              rw [hz] at hln ⊢
              rw [hy] at hl6 D
              clear hst hz hy hn hbd h0
              go_wp2_with fail
              refine (X.out _).mono ?_
              rintro e w2 ⟨rfl, rfl⟩
              go_wp2_with fail
              with_reducible refine (D.out _ (HTB.out.later Hb2.out)).mono ?_
              rintro e w3 ⟨rfl, hb3⟩
              go_wp2_with fail
              go_roundg (gk - 1)
              case measure => have := Hg2.out; omega
              case rel => exact ⟨i + 1, by omega, by have := Hg2.out; omega, by go_num, by rw [Hst.out], below_then Hb2.out hb3⟩
            · have hik : i = k := by omega
              subst hik
              rw [List.take_of_length_le (by omega)]
              obtain ⟨z, hz⟩ : ∃ z, sixBits bd = z := ⟨_, rfl⟩
              rw [hz] at HA Hsd Hsl ⊢
              clear hz hil
              go_wp2_with fail
              go_loopg [11, 13] (z.length / 8 + 1) (fun g vb vo W => ∃ (s o : List UInt8), g = s.length / 8 + 1 ∧ vb = .string (S s) ∧ vo = .string (S o) ∧ o ++ (octs s).1 = B ∧ (octs s).2 = (octs z).2 ∧ (∀ c ∈ s, isDig 2 c = true) ∧ s.length ≤ 6000 ∧ Below w'.heap.size w' W)
              case atStart => exact ⟨z, [], rfl, rfl, rfl, HA.out.1, rfl, Hsd.out, by have := Hsl.out; omega, Hb2.out⟩
              case round =>
                obtain ⟨s, o, hg, rfl, rfl, hB, hL, htwo, hs6, hb⟩ := hrel
                have Hg3 := Lib.hid hg
                have Hb3 := Lib.hid hb
                have HB3 := Lib.hid hB
                have HL3 := Lib.hid hL
                have hol : o.length ≤ 1000 := by
                  have h1 := congrArg List.length hB
                  rw [List.length_append] at h1; omega
                clear hg hb hB hL
                by_cases h8 : 8 ≤ s.length
                · have h8i : (8 : Int) ≤ (s.length : Int) := by omega
                  have hstep := octs_step s h8
                  have htl : (s.take 8).length = 8 := by simp; omega
                  have ht8 : ∀ c ∈ s.take 8, isDig 2 c = true := fun c hc => htwo c (List.mem_of_mem_take hc)
                  have Hd8 := Lib.hid (fun c hc => htwo c (List.mem_of_mem_drop hc) : ∀ c ∈ s.drop 8, isDig 2 c = true)
                  have hv := valB_lt 2 (by decide) (s.take 8) ht8
                  rw [htl] at hv
                  have C := Lib.hid (fun W' => parseInt_2 (s.take 8) W' (by omega) (by omega) ht8)
                  obtain ⟨v, hve⟩ : ∃ v, valB 2 (s.take 8) = v := ⟨_, rfl⟩
                  rw [hve] at hv C hstep
                  have hv256 : v < 256 := hv
                  have hvm : v % 256 = v := Nat.mod_eq_of_lt hv256
                  have Hstep := Lib.hid hstep
                  have Hdr := Lib.hid (List.take_of_length_le (by simp) : List.take (s.length - 8) (s.drop 8) = s.drop 8)
                  have Hs6 := Lib.hid hs6
                  have hge : decide ((8 : Int) ≤ (s.length : Int)) = true := decide_eq_true h8i
                  clear htwo hv hstep ht8 hve
                  go_wp2_with fail
                  with_reducible refine (C.out _).mono ?_
                  rintro e w2 ⟨rfl, hb2⟩
                  have hcv := run_string_new1 (P := Tryz.prog) 44 9 5 Tryz.underlying44 Tryz.underlying5 Tryz.underlying9 w2 v 5
                  rw [hvm, show (v : Int) % 256 = (v : Int) from by omega] at hcv
                  clear hvm
                  go_wp2_with fail
                  go_roundg (gk - 1)
                  case measure => have := Hg3.out; omega
                  case rel => exact ⟨s.drop 8, o ++ [UInt8.ofNat v], by have := Hg3.out; rw [List.length_drop]; omega, by rw [Hdr.out], rfl, by rw [← HB3.out, Hstep.out, List.append_assoc]; rfl, by rw [← HL3.out, Hstep.out], Hd8.out, by rw [List.length_drop]; have := Hs6.out; omega, (below_then Hb3.out hb2).alloc (by have := (below_then Hb3.out hb2).size; omega) _⟩
                · have h8i : ¬ (8 : Int) ≤ (s.length : Int) := by omega
                  have hsh := octs_short s (by omega)
                  obtain ⟨_, g2, g3, g4, g5, g6⟩ := HA.out
                  have hL2 := HL3.out
                  have hB2 := HB3.out
                  rw [hsh] at hL2 hB2
                  simp only [List.append_nil] at hL2 hB2
                  rw [← hL2] at g2 g3
                  have hone := has_one s htwo
                  have X := fun W => has_any s W
                  rw [g3] at hone
                  by_cases hva : va = 0
                  · have hcon : ¬ (0 ≤ Lib.indexByte s 49) := fun h => hone.1 h hva
                    rw [decide_eq_false hcon] at X
                    have X := Lib.hid X
                    have hs4i : ¬ (4 : Int) < (s.length : Int) := by omega
                    have Hres := Lib.hid (g5 hva)
                    have HoB := Lib.hid hB2
                    have HBx := Lib.hid (below_then HB.out Hb3.out)
                    have HFx := Lib.hid (HF.out.later Hb3.out)
                    clear g2 g3 g4 g5 g6 hsh hL2 hB2 hone hcon hva hs4 hs6 htwo
                    go_wp2_with fail
                    refine (X.out _).mono ?_
                    rintro e w4 ⟨rfl, rfl⟩
                    go_wp2_with fail
                    refine (goodF _).mono ?_
                    rintro e w2 ⟨rfl, hb2⟩
                    have HB2 := Lib.hid (below_then HBx.out hb2)
                    have hF := HFx.out.later hb2
                    obtain ⟨q0, q1⟩ := hF.cells
                    have f0 := hF.frozen 0
                    have f1 := hF.frozen 1
                    clear hF hb2
                    go_wp2_with fail
                    refine bodyPost_ret (v := .tuple #[.string (S o), .agg #[.int .i64 0, .int .i64 (-1)]]) (by simp [results, Tryz.results18, go_sem, q0, q1]) rfl ⟨by rw [Hres.out, HoB.out], (HB2.out.setCell (Nat.le_refl _) _).setCell (Nat.le_refl _) _⟩
                  · have hcon : 0 ≤ Lib.indexByte s 49 := hone.2 hva
                    rw [decide_eq_true hcon] at X
                    have X := Lib.hid X
                    have Hres := Lib.hid (g4 hva)
                    have hk0 := g6 hva
                    have HBx := Lib.hid (below_then HB.out Hb3.out)
                    have hF := HF.out.later Hb3.out
                    obtain ⟨q0, q1⟩ := hF.cells
                    have f0 := hF.frozen 0
                    have f1 := hF.frozen 1
                    clear hF g2 g3 g4 g5 g6 hsh hL2 hB2 hone hcon hva hs4 hs6 htwo
                    go_wp2_with fail
                    refine (X.out _).mono ?_
                    rintro e w4 ⟨rfl, rfl⟩
                    go_wp2_with fail
                    refine bodyPost_ret (v := .tuple #[.string (S []), .agg #[.int .i64 3, .int .i64 ((i : Int) + 1)]]) (by simp [results, Tryz.results18, go_sem, q0, q1]) rfl ⟨by rw [Hres.out, show (i : Int) + 1 = 2 + ((i - 1 : Nat) : Int) from by omega], (HBx.out.setCell (Nat.le_refl _) _).setCell (Nat.le_refl _) _⟩
end Go.Proofs.YtoponmdfjbhnoaaGreatDoor
