/- ChapLong: a secret and a challenge are one text, wherever one ends. -/
import Derived.Test.YtoponmdfjbhnoaaDoorChapProved
import Derived.Test.YtoponmdfjbhnoaaDoorPick
namespace Go.Proofs.YtoponmdfjbhnoaaDoor
open Go.RowKit
set_option linter.unusedVariables false
set_option maxRecDepth 100000 in
set_option maxHeartbeats 4000000 in
theorem chapLong_wide (id : Int) (s c : List UInt8) (z : Int) (w : World) (ht : MdTabs w) (hg : ErrCell w) (hs : s.length ≤ 140737488351232) (hc : c.length ≤ 140737488351232) (h : (300 : Int) < (s.length : Int) + (c.length : Int)) :
    Calls Tryd.prog 5 #[.int .i64 id, .string (S s), .string (S c), .int .i64 z] w fun e w' => e = .returned (.bool true) ∧ Below w.heap.size w w' := by
  have F := Lib.hid (proved_fact w ht hg)
  have Ht := Lib.hid ht
  clear ht hg
  go_enter Tryd.func5, Tryd.ntmps5
  go_wp2_with fail
  refine F.out.mono ?_
  rintro e w1 ⟨rfl, hb1⟩
  go_wp2_with fail
  go_ret
  exact ⟨rfl, hb1⟩
set_option maxRecDepth 100000 in
set_option maxHeartbeats 4000000 in
theorem chapLong_low (id : Int) (s c : List UInt8) (z : Int) (w : World) (ht : MdTabs w) (hg : ErrCell w) (h3 : ¬ (300 : Int) < (s.length : Int) + (c.length : Int)) (e : respL id s c = ([], 2)) (i1 : id < 0) :
    Calls Tryd.prog 5 #[.int .i64 id, .string (S s), .string (S c), .int .i64 z] w fun e w' => e = .returned (.bool true) ∧ Below w.heap.size w w' := by
  have F := Lib.hid (proved_fact w ht hg)
  have Ht := Lib.hid ht
  clear ht hg
  have R := Lib.hid (fun W hW => response_any id s c W hW)
  rw [e] at R
  rw [show errV ((([] : List UInt8), (2 : Int)).2) = .iface 40 (.int .i64 2) from rfl] at R
  clear e
  go_enter Tryd.func5, Tryd.ntmps5
  go_wp2_with fail
  refine F.out.mono ?_
  rintro e w1 ⟨rfl, hb1⟩
  go_wp2_with fail
  refine (R.out _ (Ht.out.later hb1)).mono ?_
  rintro e w2 ⟨rfl, hb2⟩
  go_wp2_with fail
  go_ret
  exact ⟨rfl, below_then hb1 hb2⟩
set_option maxRecDepth 100000 in
set_option maxHeartbeats 4000000 in
theorem chapLong_high (id : Int) (s c : List UInt8) (z : Int) (w : World) (ht : MdTabs w) (hg : ErrCell w) (h3 : ¬ (300 : Int) < (s.length : Int) + (c.length : Int)) (e : respL id s c = ([], 2)) (i1 : ¬ id < 0) (i2 : 255 < id) :
    Calls Tryd.prog 5 #[.int .i64 id, .string (S s), .string (S c), .int .i64 z] w fun e w' => e = .returned (.bool true) ∧ Below w.heap.size w w' := by
  have F := Lib.hid (proved_fact w ht hg)
  have Ht := Lib.hid ht
  clear ht hg
  have R := Lib.hid (fun W hW => response_any id s c W hW)
  rw [e] at R
  rw [show errV ((([] : List UInt8), (2 : Int)).2) = .iface 40 (.int .i64 2) from rfl] at R
  clear e
  go_enter Tryd.func5, Tryd.ntmps5
  go_wp2_with fail
  refine F.out.mono ?_
  rintro e w1 ⟨rfl, hb1⟩
  go_wp2_with fail
  refine (R.out _ (Ht.out.later hb1)).mono ?_
  rintro e w2 ⟨rfl, hb2⟩
  go_wp2_with fail
  go_ret
  exact ⟨rfl, below_then hb1 hb2⟩
set_option maxRecDepth 100000 in
set_option maxHeartbeats 4000000 in
theorem chapLong_secret (id : Int) (s c : List UInt8) (z : Int) (w : World) (ht : MdTabs w) (hg : ErrCell w) (h3 : ¬ (300 : Int) < (s.length : Int) + (c.length : Int)) (e : respL id s c = ([], 4)) (i1 : ¬ id < 0) (i2 : ¬ 255 < id) (a1 : (100 : Int) < (s.length : Int)) :
    Calls Tryd.prog 5 #[.int .i64 id, .string (S s), .string (S c), .int .i64 z] w fun e w' => e = .returned (.bool true) ∧ Below w.heap.size w w' := by
  have F := Lib.hid (proved_fact w ht hg)
  have Ht := Lib.hid ht
  clear ht hg
  have R := Lib.hid (fun W hW => response_any id s c W hW)
  rw [e] at R
  rw [show errV ((([] : List UInt8), (4 : Int)).2) = .iface 40 (.int .i64 4) from rfl] at R
  clear e
  go_enter Tryd.func5, Tryd.ntmps5
  go_wp2_with fail
  refine F.out.mono ?_
  rintro e w1 ⟨rfl, hb1⟩
  go_wp2_with fail
  refine (R.out _ (Ht.out.later hb1)).mono ?_
  rintro e w2 ⟨rfl, hb2⟩
  go_wp2_with fail
  go_ret
  exact ⟨rfl, below_then hb1 hb2⟩
set_option maxRecDepth 100000 in
set_option maxHeartbeats 4000000 in
theorem chapLong_none (id : Int) (s c : List UInt8) (z : Int) (w : World) (ht : MdTabs w) (hg : ErrCell w) (h3 : ¬ (300 : Int) < (s.length : Int) + (c.length : Int)) (e : respL id s c = ([], 4)) (i1 : ¬ id < 0) (i2 : ¬ 255 < id) (a1 : ¬ (100 : Int) < (s.length : Int)) (a2 : c.isEmpty = true) :
    Calls Tryd.prog 5 #[.int .i64 id, .string (S s), .string (S c), .int .i64 z] w fun e w' => e = .returned (.bool true) ∧ Below w.heap.size w w' := by
  have F := Lib.hid (proved_fact w ht hg)
  have Ht := Lib.hid ht
  clear ht hg
  have R := Lib.hid (fun W hW => response_any id s c W hW)
  rw [e] at R
  rw [show errV ((([] : List UInt8), (4 : Int)).2) = .iface 40 (.int .i64 4) from rfl] at R
  clear e
  go_enter Tryd.func5, Tryd.ntmps5
  go_wp2_with fail
  refine F.out.mono ?_
  rintro e w1 ⟨rfl, hb1⟩
  go_wp2_with fail
  refine (R.out _ (Ht.out.later hb1)).mono ?_
  rintro e w2 ⟨rfl, hb2⟩
  go_wp2_with fail
  go_ret
  exact ⟨rfl, below_then hb1 hb2⟩
set_option maxRecDepth 100000 in
set_option maxHeartbeats 4000000 in
theorem chapLong_more (id : Int) (s c : List UInt8) (z : Int) (w : World) (ht : MdTabs w) (hg : ErrCell w) (h3 : ¬ (300 : Int) < (s.length : Int) + (c.length : Int)) (e : respL id s c = ([], 4)) (i1 : ¬ id < 0) (i2 : ¬ 255 < id) (a1 : ¬ (100 : Int) < (s.length : Int)) (a2 : c.isEmpty = false) (a3 : (100 : Int) < (c.length : Int)) :
    Calls Tryd.prog 5 #[.int .i64 id, .string (S s), .string (S c), .int .i64 z] w fun e w' => e = .returned (.bool true) ∧ Below w.heap.size w w' := by
  have F := Lib.hid (proved_fact w ht hg)
  have Ht := Lib.hid ht
  clear ht hg
  have R := Lib.hid (fun W hW => response_any id s c W hW)
  rw [e] at R
  rw [show errV ((([] : List UInt8), (4 : Int)).2) = .iface 40 (.int .i64 4) from rfl] at R
  clear e
  go_enter Tryd.func5, Tryd.ntmps5
  go_wp2_with fail
  refine F.out.mono ?_
  rintro e w1 ⟨rfl, hb1⟩
  go_wp2_with fail
  refine (R.out _ (Ht.out.later hb1)).mono ?_
  rintro e w2 ⟨rfl, hb2⟩
  go_wp2_with fail
  go_ret
  exact ⟨rfl, below_then hb1 hb2⟩
set_option maxRecDepth 100000 in
set_option maxHeartbeats 4000000 in
theorem chapLong_good (id : Int) (s c : List UInt8) (z : Int) (w : World) (ht : MdTabs w) (hg : ErrCell w) (h3 : ¬ (300 : Int) < (s.length : Int) + (c.length : Int)) (x y a : List UInt8) (k : Nat) (n : Int) (vn : Value) (e : respL id s c = (x, 0)) (ha : s ++ c = a) (hz : 0 < a.length ∧ a.length ≤ 300) (hkl : k < a.length) (hk : pickI z a.length = k) (hq : respL id (a.take k) (a.drop k) = (y, n)) (hvn : errV n = vn) (hx : (x.length : Int) = 16) (hv : (vn = .nilIface ∧ y = x) ∨ ∃ t u, vn = .iface t u) :
    Calls Tryd.prog 5 #[.int .i64 id, .string (S s), .string (S c), .int .i64 z] w fun e w' => e = .returned (.bool true) ∧ Below w.heap.size w w' := by
  have F := Lib.hid (proved_fact w ht hg)
  have Ht := Lib.hid ht
  clear ht hg
  have R := Lib.hid (fun W hW => response_any id s c W hW)
  rw [e] at R
  rw [show errV ((x, (0 : Int)).2) = .nilIface from rfl] at R
  have P := Lib.hid (fun W => pick_any z a.length W (by omega) (by omega))
  rw [hk] at P
  have Q := Lib.hid (fun W hW => response_any id (a.take k) (a.drop k) W hW)
  rw [hq] at Q
  rw [show errV ((y, n).2) = vn from hvn] at Q
  have hlt : ¬ 9223372036854775807 < s.length + c.length := by omega
  have hk0 : (0 : Int) ≤ (k : Int) := by omega
  have hki : (k : Int) ≤ (a.length : Int) := by omega
  have hki2 : k ≤ a.length := by omega
  have hdr : (a.drop k).take (a.length - k) = a.drop k := List.take_of_length_le (by simp)
  clear e hq hvn hk hz
  have hxx : (x == x) = true := by simp
  rcases hv with ⟨rfl, rfl⟩ | ⟨t, u, rfl⟩
  all_goals
    go_enter Tryd.func5, Tryd.ntmps5
    go_wp2_with fail
    refine F.out.mono ?_
    rintro e w1 ⟨rfl, hb1⟩
    go_wp2_with fail
    refine (R.out _ (Ht.out.later hb1)).mono ?_
    rintro e w2 ⟨rfl, hb2⟩
    have Ht2 := Lib.hid (Ht.out.later (below_then hb1 hb2))
    go_wp2_with fail
    refine (P.out _).mono ?_
    rintro e w' ⟨rfl, rfl⟩
    go_wp2_with fail
    go_region_held3 (fun w' => Below w2.heap.size w2 w') (first | assumption | exact Below.refl _ _ | exact (Below.refl _ _).drew | exact below_then (by assumption) hb') (first | ((with_reducible refine (Q.out _ (Ht2.out.later (by first | assumption | exact Below.refl _ _ | exact (Below.refl _ _).drew))).mono ?_); rintro e w' ⟨rfl, hb'⟩))
    all_goals
      go_wp2_with fail
      go_ret
      exact ⟨rfl, below_then hb1 (below_then hb2 (by assumption))⟩
theorem chapLong_any (id : Int) (s c : List UInt8) (z : Int) (w : World) (hid : (Lit.int .i64 id).wf = true) (hs : s.length ≤ 140737488351232) (hc : c.length ≤ 140737488351232) (hz : (Lit.int .i64 z).wf = true) (ht : MdTabs w) (hg : ErrCell w) :
    Calls Tryd.prog 5 #[.int .i64 id, .string (S s), .string (S c), .int .i64 z] w fun e w' => e = .returned (.bool true) ∧ Below w.heap.size w w' := by
  by_cases h3 : (300 : Int) < (s.length : Int) + (c.length : Int)
  · exact chapLong_wide id s c z w ht hg hs hc h3
  · rcases respL_ways id s c with ⟨e, h⟩ | ⟨e, h⟩ | ⟨x, e, hx, hm, h0, h1, h2, h4, h5⟩
    · by_cases i1 : id < 0
      · exact chapLong_low id s c z w ht hg h3 e i1
      · exact chapLong_high id s c z w ht hg h3 e i1 (by omega)
    · by_cases hi : id < 0 ∨ 255 < id
      · rw [respL_range id s c hi] at e
        simp at e
      · have i1 : ¬ id < 0 := by omega
        have i2 : ¬ 255 < id := by omega
        by_cases a1 : (100 : Int) < (s.length : Int)
        · exact chapLong_secret id s c z w ht hg h3 e i1 i2 a1
        · by_cases a2 : c = []
          · exact chapLong_none id s c z w ht hg h3 e i1 i2 a1 (by rw [a2]; rfl)
          · have a2l : ¬ c.length = 0 := fun h => a2 (List.eq_nil_of_length_eq_zero h)
            exact chapLong_more id s c z w ht hg h3 e i1 i2 a1 (by simpa using a2) (by omega)
    · have hl : (s ++ c).length = s.length + c.length := by simp
      obtain ⟨y, n, hyn, hy⟩ : ∃ y n, respL id ((s ++ c).take (pickI z (s ++ c).length)) ((s ++ c).drop (pickI z (s ++ c).length)) = (y, n) ∧ (n = 0 → y = x) := by
        rcases respL_ways id ((s ++ c).take (pickI z (s ++ c).length)) ((s ++ c).drop (pickI z (s ++ c).length)) with ⟨e, _⟩ | ⟨e, _⟩ | ⟨y, e, _, hy, _⟩
        · exact ⟨_, _, e, fun h => by cases h⟩
        · exact ⟨_, _, e, fun h => by cases h⟩
        · refine ⟨_, _, e, fun _ => ?_⟩
          rw [hy, List.take_append_drop, hm]
      refine chapLong_good id s c z w ht hg h3 x y (s ++ c) _ n _ e rfl (by omega) (pickI_lt z _ (by omega)) rfl hyn rfl (by omega) ?_
      by_cases hn : n = 0
      · exact .inl ⟨by rw [hn]; exact errV_0, hy hn⟩
      · exact .inr ⟨_, _, errV_pos n hn⟩
end Go.Proofs.YtoponmdfjbhnoaaDoor
