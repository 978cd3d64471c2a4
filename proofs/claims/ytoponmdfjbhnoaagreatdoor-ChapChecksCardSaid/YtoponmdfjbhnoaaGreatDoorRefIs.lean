/- Fault.Is. -/
import Derived.Test.YtoponmdfjbhnoaaGreatDoorRefFault
namespace Go.Proofs.YtoponmdfjbhnoaaGreatDoor
open Go.RowKit
theorem isF_good (p : Int) (w : World) : Calls Tryz.prog 19 #[.agg #[.int .i64 0, .int .i64 p]] w fun e w' => e = .returned (.bool true) ∧ Below w.heap.size w w' := by
  go_enter Tryz.func19, Tryz.ntmps19
  go_wp2_with fail
  go_ret
  exact ⟨rfl, (Below.refl _ _).alloc (Nat.le_refl _) _⟩
theorem isF_bad (n p : Int) (w : World) (hn : n ≠ 0) : Calls Tryz.prog 19 #[.agg #[.int .i64 n, .int .i64 p]] w fun e w' => e = .returned (.bool false) ∧ Below w.heap.size w w' := by
  have hb : (n == 0) = false := by simpa using hn
  go_enter Tryz.func19, Tryz.ntmps19
  go_wp2_with fail
  go_ret
  exact ⟨rfl, (Below.refl _ _).alloc (Nat.le_refl _) _⟩
end Go.Proofs.YtoponmdfjbhnoaaGreatDoor
