/- FieldSpoilt: what is missing is 0. -/
import Derived.Test.YtpbdbnkedmkllaaDoorFieldBack
import Derived.Test.YtpbdbnkedmkllaaDoorBase2
namespace Go.Proofs.YtpbdbnkedmkllaaDoor
open Go.RowKit
set_option linter.unusedVariables false
theorem wf_u8 {n : Int} (h : (Lit.int .u8 n).wf = true) : ∃ b : UInt8, n = (b.toNat : Int) := by
  have h' : 0 ≤ n ∧ n ≤ 255 := by simpa [Lit.wf, IntKind.min, IntKind.max, IntKind.signed, IntKind.bits] using h
  refine ⟨UInt8.ofNat n.toNat, ?_⟩
  rw [UInt8.toNat_ofNat']
  omega
theorem padded_len (l : List UInt8) : (padded l).length = l.length + pad l.length := by simp [padded, zs]
theorem spoil_eq (l : List UInt8) (k : Nat) (c : UInt8) (hk : k < pad l.length) : ((padded l).set (l.length + k) c).drop l.length = (zs (pad l.length)).set k c := by
  unfold padded
  rw [List.set_append_right _ _ (by omega), show l.length + k - l.length = k from by omega]
  simp
theorem spoil_zero (l : List UInt8) (k : Nat) (hk : k < pad l.length) : (padded l).set (l.length + k) 0 = padded l := by
  unfold padded
  rw [List.set_append_right _ _ (by omega), show l.length + k - l.length = k from by omega]
  congr 1
  apply List.ext_getElem
  · simp
  · intro i h1 h2
    simp [zs]
theorem spoil_bad (l : List UInt8) (k : Nat) (c : UInt8) (hk : k < pad l.length) (hc : c ≠ 0) :
    ((((padded l).set (l.length + k) c).drop l.length).take (pad l.length) == zs (pad l.length)) = false := by
  rw [spoil_eq l k c hk, List.take_of_length_le (by simp [zs])]
  rw [beq_eq_false_iff_ne]
  intro h
  have := congrArg (fun x => x[k]?) h
  simp [zs, hk] at this
  exact hc this
theorem fieldSpoilt_skip (l : List UInt8) (a : Int) (c : UInt8) (w : World) (h : 300 < l.length ∨ l.length % 4 = 0) (hl : l.length ≤ 140737488351232) :
    Calls Tryd.prog 7 #[.string (S l), .int .i64 a, .int .u8 (c.toNat : Int)] w fun e w' => e = .returned (.bool true) ∧ Below w.heap.size w w' := by
  by_cases h3 : 300 < l.length
  · have hd : decide ((300 : Int) < (l.length : Int)) = true := decide_eq_true (by omega)
    go_enter Tryd.func7, Tryd.ntmps7
    go_wp2_with fail
    refine (put_fact _).mono ?_
    rintro e w1 ⟨rfl, hb1⟩
    go_wp2_with fail
    go_ret
    exact ⟨rfl, hb1⟩
  · have hd : decide ((300 : Int) < (l.length : Int)) = false := decide_eq_false (by omega)
    have hm : ((l.length : Int) % 4) = 0 := by omega
    go_enter Tryd.func7, Tryd.ntmps7
    go_wp2_with fail
    refine (put_fact _).mono ?_
    rintro e w1 ⟨rfl, hb1⟩
    go_wp2_with fail
    go_ret
    exact ⟨rfl, hb1⟩
set_option maxRecDepth 100000 in
theorem fieldSpoilt_zero (l : List UInt8) (a : Int) (c : UInt8) (hc0 : c = 0) (w : World) (h : l.length ≤ 300) (h4 : ¬ l.length % 4 = 0) (hg : ErrCell w) :
    Calls Tryd.prog 7 #[.string (S l), .int .i64 a, .int .u8 (c.toNat : Int)] w fun e w' => e = .returned (.bool true) ∧ Below w.heap.size w w' := by
  have Hg := Lib.hid hg
  clear hg
  have hd : decide ((300 : Int) < (l.length : Int)) = false := decide_eq_false (by omega)
  have hm : ((l.length : Int) % 4 == 0) = false := by rw [beq_eq_false_iff_ne]; omega
  have hp0 : 0 < pad l.length := by unfold pad; omega
  have hp3 := pad_le l.length
  have hlen := padded_len l
  obtain ⟨k, hk⟩ : ∃ k, k = pickI a (pad l.length) := ⟨_, rfl⟩
  have hkl := pickI_lt a (pad l.length) hp0
  rw [← hk] at hkl
  have Hk := Lib.hid hk
  clear hk
  have hU : ((((padded l).set (l.length + k) c).drop l.length).take (pad l.length) == zs (pad l.length)) = true := by
    rw [hc0, spoil_zero l k hkl]; simp [padded, zs]
  have HU := Lib.hid hU
  have hci : ((c.toNat : Int) == 0) = true := by rw [hc0]; rfl
  clear hU hc0
  go_enter Tryd.func7, Tryd.ntmps7
  go_wp2_with fail
  refine (put_fact _).mono ?_
  rintro e w1 ⟨rfl, hb1⟩
  go_wp2_with fail
  refine (padded_any _ _ (by omega)).mono ?_
  rintro e w1' ⟨rfl, rfl⟩
  obtain ⟨cap, hc1, hc2, hrun⟩ := run_bytes_S (P := Tryd.prog) 9 48 5 Tryd.underlying9 Tryd.underlying48 Tryd.underlying5 w1 (padded l)
  have hc2' := hc2 (by rw [hlen]; unfold maxLen; omega)
  unfold maxLen at hc2'
  rw [hlen] at hrun hc1
  clear hc2
  obtain ⟨T, hT⟩ : ∃ T, T = padded l ++ List.replicate (cap - (l.length + pad l.length)) 0 := ⟨_, rfl⟩
  have hTl : T.length = cap := by rw [hT]; simp [hlen]; omega
  rw [← hT] at hrun
  obtain ⟨v0, hcell⟩ : ∃ v, (w1.alloc (.cells (cells8 T) 5 (cap, cap + 1))).cell? ⟨w1.heap.size, l.length + k, none⟩ = some v := by
    have hq := cells8_get T (l.length + k) (by omega)
    exact ⟨_, (World.cell?_alloc_mark w1 (cells8 T) 5 (cap, cap + 1) (l.length + k)).trans hq⟩
  have hfro : (w1.alloc (.cells (cells8 T) 5 (cap, cap + 1))).frozen? ⟨w1.heap.size, l.length + k, none⟩ = false := by
    rw [World.frozen?_alloc_mark]; simp; omega
  have hset := setCell_mark w1 (cells8 T) 5 (cap, cap + 1) (l.length + k) (.int .u8 (c.toNat : Int))
  rw [cells8_set] at hset
  have hB : BytesAt (w1.alloc (.cells (cells8 (T.set (l.length + k) c)) 5 (cap, cap + 1))).drew w1.heap.size (T.set (l.length + k) c) := bytesAt_drew (bytesAt_new _ _ _ _)
  have hcv1 := run_string_cells (P := Tryd.prog) 48 9 5 Tryd.underlying48 Tryd.underlying5 Tryd.underlying9 hB (l.length + pad l.length) cap (by simp; omega)
  have hcv2 := fun n => run_string_cells (P := Tryd.prog) 48 9 5 Tryd.underlying48 Tryd.underlying5 Tryd.underlying9 (bytesAt_drewN (bytesAt_new w1 (T.set (l.length + k) c) 5 (cap, cap + 1)) n) (l.length + k) cap (by simp; omega)
  have hk1 : (T.set (l.length + k) c).take (l.length + pad l.length) = (padded l).set (l.length + k) c := by
    rw [hT, List.set_append_left _ _ (by omega), List.take_append_of_le_length (by simp; omega), List.take_of_length_le (by simp; omega)]
  have hlen2 : ((T.set (l.length + k) c).take (l.length + k)).length = l.length + k := by simp; omega
  rw [hk1] at hcv1
  obtain ⟨u, hu⟩ : ∃ u, u = (T.set (l.length + k) c).take (l.length + k) := ⟨_, rfl⟩
  rw [← hu] at hlen2
  simp only [← hu] at hcv2
  have hbel : Below w1.heap.size w1 (w1.alloc (.cells (cells8 (T.set (l.length + k) c)) 5 (cap, cap + 1))) := (Below.refl _ _).alloc (Nat.le_refl _) _
  have HBel := Lib.hid hbel
  have Hlen2 := Lib.hid hlen2
  clear hB hk1 hT hTl hu hbel hlen2
  have hadd : (l.length : Int) + (pad l.length : Int) - (l.length : Int) = (pad l.length : Int) := by omega
  go_wp2_with fail
  refine (pick_any _ _ _ hp0 (by omega)).mono ?_
  rintro e w2 ⟨rfl, rfl⟩
  rw [← Hk.out]
  go_wp2_with fail
  refine (unpad_ok _ l.length _ (by simp; omega) (by simp; omega) HU.out).mono ?_
  rintro e w2 ⟨rfl, n, rfl⟩
  go_wp2_with fail
  refine (unpad_few u l.length _ (by have := Hlen2.out; omega) (by have := Hlen2.out; omega)).mono ?_
  rintro e w2 ⟨rfl, rfl⟩
  go_wp2_with fail
  refine (tell_err 7 _ (((Hg.out.later hb1).later HBel.out).drawn (1 + n))).mono ?_
  rintro e w2 ⟨rfl, hb2⟩
  go_wp2_with fail
  go_ret
  exact ⟨rfl, below_then hb1 (below_then (below_drewN HBel.out (1 + n)) hb2)⟩
set_option maxRecDepth 100000 in
theorem fieldSpoilt_other (l : List UInt8) (a : Int) (c : UInt8) (hc0 : c ≠ 0) (w : World) (h : l.length ≤ 300) (h4 : ¬ l.length % 4 = 0) (hg : ErrCell w) :
    Calls Tryd.prog 7 #[.string (S l), .int .i64 a, .int .u8 (c.toNat : Int)] w fun e w' => e = .returned (.bool true) ∧ Below w.heap.size w w' := by
  have Hg := Lib.hid hg
  clear hg
  have hd : decide ((300 : Int) < (l.length : Int)) = false := decide_eq_false (by omega)
  have hm : ((l.length : Int) % 4 == 0) = false := by rw [beq_eq_false_iff_ne]; omega
  have hp0 : 0 < pad l.length := by unfold pad; omega
  have hp3 := pad_le l.length
  have hlen := padded_len l
  obtain ⟨k, hk⟩ : ∃ k, k = pickI a (pad l.length) := ⟨_, rfl⟩
  have hkl := pickI_lt a (pad l.length) hp0
  rw [← hk] at hkl
  have Hk := Lib.hid hk
  clear hk
  have HU := Lib.hid (spoil_bad l k c hkl hc0)
  have hci : ((c.toNat : Int) == 0) = false := by
    rw [beq_eq_false_iff_ne]; intro h0; apply hc0
    have : c.toNat = 0 := by omega
    exact UInt8.toNat_inj.1 this
  clear hc0
  go_enter Tryd.func7, Tryd.ntmps7
  go_wp2_with fail
  refine (put_fact _).mono ?_
  rintro e w1 ⟨rfl, hb1⟩
  go_wp2_with fail
  refine (padded_any _ _ (by omega)).mono ?_
  rintro e w1' ⟨rfl, rfl⟩
  obtain ⟨cap, hc1, hc2, hrun⟩ := run_bytes_S (P := Tryd.prog) 9 48 5 Tryd.underlying9 Tryd.underlying48 Tryd.underlying5 w1 (padded l)
  have hc2' := hc2 (by rw [hlen]; unfold maxLen; omega)
  unfold maxLen at hc2'
  rw [hlen] at hrun hc1
  clear hc2
  obtain ⟨T, hT⟩ : ∃ T, T = padded l ++ List.replicate (cap - (l.length + pad l.length)) 0 := ⟨_, rfl⟩
  have hTl : T.length = cap := by rw [hT]; simp [hlen]; omega
  rw [← hT] at hrun
  obtain ⟨v0, hcell⟩ : ∃ v, (w1.alloc (.cells (cells8 T) 5 (cap, cap + 1))).cell? ⟨w1.heap.size, l.length + k, none⟩ = some v := by
    have hq := cells8_get T (l.length + k) (by omega)
    exact ⟨_, (World.cell?_alloc_mark w1 (cells8 T) 5 (cap, cap + 1) (l.length + k)).trans hq⟩
  have hfro : (w1.alloc (.cells (cells8 T) 5 (cap, cap + 1))).frozen? ⟨w1.heap.size, l.length + k, none⟩ = false := by
    rw [World.frozen?_alloc_mark]; simp; omega
  have hset := setCell_mark w1 (cells8 T) 5 (cap, cap + 1) (l.length + k) (.int .u8 (c.toNat : Int))
  rw [cells8_set] at hset
  have hB : BytesAt (w1.alloc (.cells (cells8 (T.set (l.length + k) c)) 5 (cap, cap + 1))).drew w1.heap.size (T.set (l.length + k) c) := bytesAt_drew (bytesAt_new _ _ _ _)
  have hcv1 := run_string_cells (P := Tryd.prog) 48 9 5 Tryd.underlying48 Tryd.underlying5 Tryd.underlying9 hB (l.length + pad l.length) cap (by simp; omega)
  have hcv2 := fun n => run_string_cells (P := Tryd.prog) 48 9 5 Tryd.underlying48 Tryd.underlying5 Tryd.underlying9 (bytesAt_drewN (bytesAt_new w1 (T.set (l.length + k) c) 5 (cap, cap + 1)) n) (l.length + k) cap (by simp; omega)
  have hk1 : (T.set (l.length + k) c).take (l.length + pad l.length) = (padded l).set (l.length + k) c := by
    rw [hT, List.set_append_left _ _ (by omega), List.take_append_of_le_length (by simp; omega), List.take_of_length_le (by simp; omega)]
  have hlen2 : ((T.set (l.length + k) c).take (l.length + k)).length = l.length + k := by simp; omega
  rw [hk1] at hcv1
  obtain ⟨u, hu⟩ : ∃ u, u = (T.set (l.length + k) c).take (l.length + k) := ⟨_, rfl⟩
  rw [← hu] at hlen2
  simp only [← hu] at hcv2
  have hbel : Below w1.heap.size w1 (w1.alloc (.cells (cells8 (T.set (l.length + k) c)) 5 (cap, cap + 1))) := (Below.refl _ _).alloc (Nat.le_refl _) _
  have HBel := Lib.hid hbel
  have Hlen2 := Lib.hid hlen2
  clear hB hk1 hT hTl hu hbel hlen2
  have hadd : (l.length : Int) + (pad l.length : Int) - (l.length : Int) = (pad l.length : Int) := by omega
  go_wp2_with fail
  refine (pick_any _ _ _ hp0 (by omega)).mono ?_
  rintro e w2 ⟨rfl, rfl⟩
  rw [← Hk.out]
  go_wp2_with fail
  refine (unpad_bad _ l.length _ (by simp; omega) (by simp; omega) HU.out).mono ?_
  rintro e w2 ⟨rfl, n, rfl⟩
  go_wp2_with fail
  refine (unpad_few u l.length _ (by have := Hlen2.out; omega) (by have := Hlen2.out; omega)).mono ?_
  rintro e w2 ⟨rfl, rfl⟩
  go_wp2_with fail
  refine (tell_err 3 _ (((Hg.out.later hb1).later HBel.out).drawn (1 + n))).mono ?_
  rintro e w3 ⟨rfl, hb3⟩
  go_wp2_with fail
  refine (tell_err 7 _ ((((Hg.out.later hb1).later HBel.out).drawn (1 + n)).later hb3)).mono ?_
  rintro e w4 ⟨rfl, hb4⟩
  go_wp2_with fail
  go_ret
  exact ⟨rfl, below_then hb1 (below_then (below_drewN HBel.out (1 + n)) (below_then hb3 hb4))⟩
theorem fieldSpoilt_any (l : List UInt8) (a : Int) (x : Int) (w : World) (hl : l.length ≤ 140737488351232) (_ha : (Lit.int .i64 a).wf = true) (hx : (Lit.int .u8 x).wf = true) (hg : ErrCell w) :
    Calls Tryd.prog 7 #[.string (S l), .int .i64 a, .int .u8 x] w fun e w' => e = .returned (.bool true) ∧ Below w.heap.size w w' := by
  obtain ⟨c, rfl⟩ := wf_u8 hx
  by_cases h : l.length ≤ 300
  · by_cases h4 : l.length % 4 = 0
    · exact fieldSpoilt_skip l a c w (.inr h4) hl
    · by_cases hc : c = 0
      · exact fieldSpoilt_zero l a c hc w h h4 hg
      · exact fieldSpoilt_other l a c hc w h h4 hg
  · exact fieldSpoilt_skip l a c w (.inl (by omega)) hl
end Go.Proofs.YtpbdbnkedmkllaaDoor
