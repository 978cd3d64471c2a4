/- quaymasterlaw.bare: an error is this one, without a place. -/
import Derived.Test.YteapbjeapnmloaaGreatDoorGC
import Derived.Test.YteapbjeapnmloaaGreatDoorPlace
import Derived.Test.YteapbjeapnmloaaGreatDoorGE
namespace Go.Proofs.YteapbjeapnmloaaGreatDoor
open Go.RowKit
theorem bare_nil (w : World) : Calls Tryz.prog 53 #[.nilIface, .int .i64 0] w fun e w' => e = .returned (.bool true) ∧ w = w' := by
  go_enter Tryz.func53, Tryz.ntmps53
  go_wp2_with fail
  refine (place_nil _).mono ?_
  rintro e w' ⟨rfl, rfl⟩
  go_wp2_with fail
  go_ret
  exact ⟨rfl, rfl⟩
theorem bare_err (n : Int) (w : World) (hg : ErrCell w) : Calls Tryz.prog 53 #[.iface 38 (.int .i64 n), .int .i64 n] w fun e w' => e = .returned (.bool true) ∧ Below w.heap.size w w' := by
  have Hg := Lib.hid hg
  clear hg
  go_enter Tryz.func53, Tryz.ntmps53
  go_wp2_with fail
  refine (place_err n _ Hg.out).mono ?_
  rintro e w' ⟨rfl, hb⟩
  go_wp2_with fail
  go_ret
  exact ⟨rfl, hb⟩
theorem bare_any (n : Int) (w : World) (hg : ErrCell w) : Calls Tryz.prog 53 #[errV n, .int .i64 n] w fun e w' => e = .returned (.bool true) ∧ Below w.heap.size w w' := by
  by_cases h : n = 0
  · subst h
    rw [errV_0]
    exact (bare_nil w).mono fun e w' ⟨he, hw⟩ => ⟨he, hw ▸ Below.refl _ _⟩
  · rw [errV_pos n h]
    exact bare_err n w hg
end Go.Proofs.YteapbjeapnmloaaGreatDoor
