/- ref.IsKey, ref.IsValue. -/
import Derived.Test.YtildnpnpakhnjaaDoorPairKey
import Derived.Test.YtildnpnpakhnjaaDoorRefWithin
import Derived.Test.YtildnpnpakhnjaaDoorShLow
namespace Go.Proofs.YtildnpnpakhnjaaDoor
open Go.RowKit
set_option linter.unusedVariables false
def big26 : List UInt8 := [65, 66, 67, 68, 69, 70, 71, 72, 73, 74, 75, 76, 77, 78, 79, 80, 81, 82, 83, 84, 85, 86, 87, 88, 89, 90]
def low26 : List UInt8 := [97, 98, 99, 100, 101, 102, 103, 104, 105, 106, 107, 108, 109, 110, 111, 112, 113, 114, 115, 116, 117, 118, 119, 120, 121, 122]
def dig15 : List UInt8 := [48, 49, 50, 51, 52, 53, 54, 55, 56, 57, 46, 45, 43, 64, 95]
def keyMore : List UInt8 := big26 ++ (low26 ++ dig15)
def inB (l : List UInt8) (c : UInt8) : Int := Lib.indexByte l c
theorem in_big (c : UInt8) : decide (0 ≤ inB big26 c) = greatB c := by
  have h : ∀ n : Fin 256, decide (0 ≤ inB big26 (UInt8.ofNat n.1)) = greatB (UInt8.ofNat n.1) := by decide +kernel
  have := h ⟨c.toNat, c.toNat_lt⟩
  simpa using this
theorem in_more (c : UInt8) : decide (0 ≤ inB keyMore c) = mayB c := by
  have h : ∀ n : Fin 256, decide (0 ≤ inB keyMore (UInt8.ofNat n.1)) = mayB (UInt8.ofNat n.1) := by decide +kernel
  have := h ⟨c.toNat, c.toNat_lt⟩
  simpa using this
theorem may_great (c : UInt8) (h : greatB c = true) : mayB c = true := by unfold mayB; rw [h]; rfl
theorem inB_any (l : List UInt8) (c : UInt8) (w : World) :
    Calls Tryd.prog 54 #[.string (S l), .int .u8 (c.toNat : Int)] w fun e w' => e = .returned (.int .i64 (inB l c)) ∧ w = w' := by
  refine (Tryd.strings_IndexByte (S l) _ w).mono ?_
  rintro e w' ⟨rfl, hw⟩
  refine ⟨?_, hw.symm⟩
  simp [inB, S]
theorem low_any (w : World) : Calls Tryd.prog 53 #[.string (S big26)] w fun e w' => e = .returned (.string (S low26)) ∧ Below w.heap.size w w' := by
  have h := Tryd.strings_ToLower_ascii (S big26) w (by rw [S_size]; decide) (fun j b hb => by
    have h1 : b ∈ big26 := List.mem_of_getElem? (by simpa [S] using hb)
    have h2 : big26.all (fun c => decide (c.toNat < 128)) = true := by decide
    simpa using List.all_eq_true.1 h2 b h1)
  have e : (ByteArray.mk (Lib.toLowerA (S big26).data.toList).toArray) = S low26 := by kernel_rfl
  rw [e] at h
  exact h
theorem bytes_fresh (w : World) (l : List UInt8) :
    ∃ cap W, (convert 9 82 (.string (S l))).run Tryd.prog w = .ok (.slice (some ⟨w.heap.size, 0, none⟩) l.length cap) W ∧
      (∀ j (hj : j < l.length), W.cell? ⟨w.heap.size, j, none⟩ = some (.int .u8 (l[j].toNat : Int))) ∧ Below w.heap.size w W ∧ w.heap.size < W.heap.size := by
  obtain ⟨cap, hc1, hc2, hrun⟩ := run_bytes_S (P := Tryd.prog) 9 82 5 Tryd.underlying9 Tryd.underlying82 Tryd.underlying5 w l
  refine ⟨cap, _, hrun, fun j hj => ?_, ((Below.refl _ _).alloc (Nat.le_refl _) _).drew, by simp⟩
  show (w.alloc (.cells (cells8 (l ++ List.replicate (cap - l.length) 0)) 5 (cap, cap + 1))).cell? ⟨w.heap.size, j, none⟩ = _
  rw [World.cell?_alloc_mark, cells8_get _ j (by simp; omega)]
  rw [List.getElem_append_left hj]
theorem isKey_good {s : List UInt8} (h : 1 ≤ s.length) (h2 : s.length ≤ 63) (hg : greatB (s.getD 0 0) = true) (ha : s.all mayB = true) : isKey s = true := by
  unfold isKey
  rw [decide_eq_true (⟨h, h2⟩ : 1 ≤ s.length ∧ s.length ≤ 63), hg, ha]
  rfl
theorem isKey_not_all {s : List UInt8} (ha : s.all mayB = false) : isKey s = false := by
  unfold isKey
  rw [ha]
  simp
theorem getD_zero {s : List UInt8} (h : 0 < s.length) : s.getD 0 0 = s[0] := by rw [List.getD_eq_getElem?_getD, List.getElem?_eq_getElem h]; rfl
set_option maxRecDepth 100000 in
theorem refKey_any (s : List UInt8) (w : World) (hl : s.length ≤ 140737488355328) : Calls Tryd.prog 23 #[.string (S s)] w fun e w' => e = .returned (.bool (isKey s)) ∧ Below w.heap.size w w' := by
  obtain ⟨cap, W, hrun, hcell, hbel, hlt0⟩ := bytes_fresh w s
  have Hcell := Lib.hid hcell
  have Hbel := Lib.hid hbel
  have Hlt0 := Lib.hid hlt0
  have L := fun w => Lib.hid (low_any w)
  have I1 := fun c w => Lib.hid (inB_any big26 c w)
  have I2 := fun c w => Lib.hid (inB_any keyMore c w)
  have Ht := fun n w h1 h2 => Lib.hid (within_true n 1 63 w h1 h2)
  have Hf := fun n w h => Lib.hid (within_false n 1 63 w h)
  clear hcell hbel hlt0
  go_enter Tryd.func23, Tryd.ntmps23
  go_wp2_with fail
  clear hrun
  go_loopw [9] (fun i wr => ∃ k : Nat, k ≤ s.length ∧ i = .int .i64 k ∧ (0 < k → greatB (s.getD 0 0) = true) ∧ (s.take k).all mayB = true ∧ Below W.heap.size W wr) (fun i _ => s.length - (intOf i).toNat)
  case atStart => exact ⟨0, by omega, rfl, fun h => absurd h (by decide), by simp, Below.refl _ _⟩
  case round =>
    obtain ⟨k, hk, rfl, h0, ha, hb⟩ := hrel
    have Hb := Lib.hid hb
    have H0 := Lib.hid h0
    have Ha := Lib.hid ha
    clear h0 ha hb
    by_cases hlt : k < s.length
    · have hki : (k : Int) < (s.length : Int) := by omega
      have hcell : wr.cell? ⟨w.heap.size, k, none⟩ = some (.int .u8 (s[k].toNat : Int)) := by rw [(bcell Hb.out).1 _ k Hlt0.out]; exact Hcell.out k hlt
      obtain ⟨c, hc⟩ : ∃ c, s[k] = c := ⟨_, rfl⟩
      rw [hc] at hcell
      have Hc := Lib.hid hc
      clear hc
      by_cases hk0 : k = 0
      · subst hk0
        have I := I1 c wr
        have hg := in_big c
        obtain ⟨d, hd⟩ : ∃ d, inB big26 c = d := ⟨_, rfl⟩
        rw [hd] at I hg
        unfold big26 at I
        clear hd
        by_cases h : 0 ≤ d
        · rw [decide_eq_true h] at hg
          have Hg := Lib.hid hg
          clear hg
          go_wp2_with fail
          refine I.out.mono ?_
          rintro e w' ⟨rfl, rfl⟩
          go_wp2_with fail
          go_roundw
          case rel => exact ⟨1, by omega, by go_num, fun _ => by rw [getD_zero hlt, Hc.out]; exact Hg.out.symm, all_step hlt Ha.out (by rw [Hc.out]; exact may_great c Hg.out.symm), Hb.out⟩
          case measure => simp [intOf]; omega
        · rw [decide_eq_false h] at hg
          have Hg := Lib.hid hg
          have hd2 : d < 0 := by omega
          clear hg
          go_wp2_with fail
          refine I.out.mono ?_
          rintro e w' ⟨rfl, rfl⟩
          go_wp2_with fail
          go_ret
          rw [isKey_head0 (s := s) (by omega) (by rw [Hc.out]; exact Hg.out.symm)]
          exact ⟨rfl, below_then Hbel.out Hb.out⟩
      · have hk0i : (0 : Int) < (k : Int) := by omega
        have I := I2 c
        have hg := in_more c
        obtain ⟨d, hd⟩ : ∃ d, inB keyMore c = d := ⟨_, rfl⟩
        simp only [hd] at I
        rw [hd] at hg
        have LL := L wr
        unfold keyMore dig15 at I
        unfold low26 at I LL
        unfold big26 at I LL
        simp only [List.cons_append, List.nil_append] at I
        have hHk := Lib.hid hk0
        clear hd hk0
        by_cases h : 0 ≤ d
        · rw [decide_eq_true h] at hg
          have Hg := Lib.hid hg
          clear hg
          go_wp2_with fail
          refine LL.out.mono ?_
          rintro e w2 ⟨rfl, hb2⟩
          have Hb2 := Lib.hid (below_then Hb.out hb2)
          clear hb2
          go_wp2_with fail
          refine (I _).out.mono ?_
          rintro e w' ⟨rfl, rfl⟩
          go_wp2_with fail
          go_roundw
          case rel => exact ⟨k + 1, by omega, by go_num, fun _ => H0.out (by omega), all_step hlt Ha.out (by rw [Hc.out]; exact Hg.out.symm), Hb2.out⟩
          case measure => simp [intOf]; omega
        · rw [decide_eq_false h] at hg
          have Hg := Lib.hid hg
          have hd2 : d < 0 := by omega
          clear hg
          go_wp2_with fail
          refine LL.out.mono ?_
          rintro e w2 ⟨rfl, hb2⟩
          have Hb2 := Lib.hid (below_then Hb.out hb2)
          clear hb2
          go_wp2_with fail
          refine (I _).out.mono ?_
          rintro e w' ⟨rfl, rfl⟩
          go_wp2_with fail
          go_ret
          rw [isKey_not_all (all_not hlt (by rw [Hc.out]; exact Hg.out.symm))]
          exact ⟨rfl, below_then Hbel.out Hb2.out⟩
    · obtain rfl : k = s.length := by omega
      have hA := Ha.out
      rw [List.take_length] at hA
      by_cases h1 : 1 ≤ s.length ∧ s.length ≤ 63
      · have E := Lib.hid (isKey_good h1.1 h1.2 (H0.out (by omega)) hA)
        have T := Ht (s.length : Int) wr (by omega) (by omega)
        clear hA h1
        go_wp2_with fail
        refine T.out.mono ?_
        rintro e w' ⟨rfl, rfl⟩
        go_wp2_with fail
        go_ret
        rw [E.out]
        exact ⟨rfl, below_then Hbel.out Hb.out⟩
      · have E := Lib.hid (isKey_len (s := s) (by omega))
        have T := Hf (s.length : Int) wr (by omega)
        clear hA h1
        go_wp2_with fail
        refine T.out.mono ?_
        rintro e w' ⟨rfl, rfl⟩
        go_wp2_with fail
        go_ret
        rw [E.out]
        exact ⟨rfl, below_then Hbel.out Hb.out⟩
theorem isVal_good {s : List UInt8} (ha : s.all signB = true) : isVal s = decide (s.length ≤ 255) := by
  unfold isVal
  rw [ha, Bool.and_true]
theorem isVal_not_all {s : List UInt8} (ha : s.all signB = false) : isVal s = false := by
  unfold isVal
  rw [ha, Bool.and_false]
set_option maxRecDepth 100000 in
theorem refVal_any (s : List UInt8) (w : World) (hl : s.length ≤ 140737488355328) : Calls Tryd.prog 25 #[.string (S s)] w fun e w' => e = .returned (.bool (isVal s)) ∧ Below w.heap.size w w' := by
  obtain ⟨cap, W, hrun, hcell, hbel, hlt0⟩ := bytes_fresh w s
  have Hcell := Lib.hid hcell
  have Hbel := Lib.hid hbel
  have Hlt0 := Lib.hid hlt0
  have Ht := fun n w h1 h2 => Lib.hid (within_true n 32 126 w h1 h2)
  have Hf := fun n w h => Lib.hid (within_false n 32 126 w h)
  clear hcell hbel hlt0
  go_enter Tryd.func25, Tryd.ntmps25
  go_wp2_with fail
  clear hrun
  go_loopw [8] (fun i wr => ∃ k : Nat, k ≤ s.length ∧ i = .int .i64 k ∧ (s.take k).all signB = true ∧ Below W.heap.size W wr) (fun i _ => s.length - (intOf i).toNat)
  case atStart => exact ⟨0, by omega, rfl, by simp, Below.refl _ _⟩
  case round =>
    obtain ⟨k, hk, rfl, ha, hb⟩ := hrel
    have Hb := Lib.hid hb
    have Ha := Lib.hid ha
    clear ha hb
    by_cases hlt : k < s.length
    · have hki : (k : Int) < (s.length : Int) := by omega
      have hcell : wr.cell? ⟨w.heap.size, k, none⟩ = some (.int .u8 (s[k].toNat : Int)) := by rw [(bcell Hb.out).1 _ k Hlt0.out]; exact Hcell.out k hlt
      have hcl := s[k].toNat_lt
      obtain ⟨c, hc⟩ : ∃ c, s[k] = c := ⟨_, rfl⟩
      rw [hc] at hcell hcl
      have Hc := Lib.hid hc
      clear hc
      by_cases h : 32 ≤ c.toNat ∧ c.toNat ≤ 126
      · have E := Lib.hid (show signB c = true from decide_eq_true h)
        have T := Ht (c.toNat : Int) wr (by omega) (by omega)
        clear h
        go_wp2_with fail
        refine T.out.mono ?_
        rintro e w' ⟨rfl, rfl⟩
        go_wp2_with fail
        go_roundw
        case rel => exact ⟨k + 1, by omega, by go_num, all_step hlt Ha.out (by rw [Hc.out]; exact E.out), Hb.out⟩
        case measure => simp [intOf]; omega
      · have E := Lib.hid (show signB c = false from decide_eq_false h)
        have T := Hf (c.toNat : Int) wr (by omega)
        clear h
        go_wp2_with fail
        refine T.out.mono ?_
        rintro e w' ⟨rfl, rfl⟩
        go_wp2_with fail
        go_ret
        rw [isVal_not_all (all_not hlt (by rw [Hc.out]; exact E.out))]
        exact ⟨rfl, below_then Hbel.out Hb.out⟩
    · obtain rfl : k = s.length := by omega
      have hA := Ha.out
      rw [List.take_length] at hA
      have E := Lib.hid (isVal_good hA)
      clear hA
      by_cases h1 : s.length ≤ 255
      all_goals
        go_wp2_with fail
        go_ret
        rw [E.out]
        exact ⟨ret_bool (by rw [Bool.eq_iff_iff]; first | (simp; done) | (simp; omega)), below_then Hbel.out Hb.out⟩
end Go.Proofs.YtildnpnpakhnjaaDoor
