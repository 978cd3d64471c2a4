/- ref.within. -/
import Derived.Test.YtoponmdfjbhnoaaGreatDoorRows
import Derived.Test.YtoponmdfjbhnoaaGreatDoorGA
namespace Go.Proofs.YtoponmdfjbhnoaaGreatDoor
open Go.RowKit
set_option linter.unusedVariables false
theorem within_true (n a b : Int) (w : World) (h1 : a ≤ n) (h2 : n ≤ b) : Calls Tryz.prog 12 #[.int .i64 n, .int .i64 a, .int .i64 b] w fun e w' => e = .returned (.bool true) ∧ w = w' := by
  have hd1 : decide (a ≤ n) = true := decide_eq_true h1
  have hd2 : decide (n ≤ b) = true := decide_eq_true h2
  go_enter Tryz.func12, Tryz.ntmps12
  go_wp2_with fail
  go_ret
  exact ⟨rfl, rfl⟩
theorem within_false (n a b : Int) (w : World) (h : n < a ∨ b < n) : Calls Tryz.prog 12 #[.int .i64 n, .int .i64 a, .int .i64 b] w fun e w' => e = .returned (.bool false) ∧ w = w' := by
  by_cases h1 : a ≤ n
  · have h2 : b < n := by omega
    have hd1 : decide (a ≤ n) = true := decide_eq_true h1
    have hd2 : decide (n ≤ b) = false := decide_eq_false (by omega)
    clear h
    go_enter Tryz.func12, Tryz.ntmps12
    go_wp2_with fail
    go_ret
    exact ⟨rfl, rfl⟩
  · have h2 : n < a := by omega
    have hd1 : decide (a ≤ n) = false := decide_eq_false h1
    clear h
    go_enter Tryz.func12, Tryz.ntmps12
    go_wp2_with fail
    go_ret
    exact ⟨rfl, rfl⟩
end Go.Proofs.YtoponmdfjbhnoaaGreatDoor
