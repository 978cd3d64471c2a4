/- plain.Place at nil and at a bare Errno. -/
import Derived.Test.YteapbjeapnmloaaGreatDoorGC
namespace Go.Proofs.YteapbjeapnmloaaGreatDoor
open Go.RowKit
theorem place_nil (w : World) : Calls Tryz.prog 44 #[.nilIface] w fun e w' => e = .returned (.tuple #[.int .i64 0, .int .i64 (-1)]) ∧ w = w' := by
  go_enter Tryz.func44, Tryz.ntmps44
  go_wp2_with fail
  refine (tell_nil _).mono ?_
  rintro e w' ⟨rfl, rfl⟩
  go_wp2_with fail
  refine wp_loop_rounds 1 ?_
  rw [rounds_succ]
  go_wp2_with fail
  go_ret2
  exact ⟨rfl, rfl⟩
set_option maxRecDepth 100000 in
theorem place_err (n : Int) (w : World) (hg : ErrCell w) : Calls Tryz.prog 44 #[.iface 38 (.int .i64 n)] w fun e w' => e = .returned (.tuple #[.int .i64 n, .int .i64 (-1)]) ∧ Below w.heap.size w w' := by
  have Hg := Lib.hid hg
  clear hg
  have hnu := noUnwrap
  have hna := noAt
  go_enter Tryz.func44, Tryz.ntmps44
  go_wp2_with fail
  refine (tell_err n _ Hg.out).mono ?_
  rintro e w1 ⟨rfl, hb1⟩
  go_wp2_with fail
  refine wp_loop_rounds 1 ?_
  rw [rounds_succ]
  go_wp2_with fail
  go_ret2
  exact ⟨rfl, hb1⟩
end Go.Proofs.YteapbjeapnmloaaGreatDoor
