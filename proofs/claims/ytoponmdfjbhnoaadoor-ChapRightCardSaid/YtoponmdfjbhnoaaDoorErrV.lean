/- An error by its number. -/
import Derived.Test.YtoponmdfjbhnoaaDoorBase
namespace Go.Proofs.YtoponmdfjbhnoaaDoor
open Go.RowKit
set_option linter.unusedVariables false
/-- an error: nil for 0, else that Errno -/
def errV (n : Int) : Value := if n = 0 then .nilIface else .iface 40 (.int .i64 n)
theorem errV_0 : errV 0 = .nilIface := rfl
theorem errV_pos (n : Int) (h : n ≠ 0) : errV n = .iface 40 (.int .i64 n) := by unfold errV; rw [if_neg h]
end Go.Proofs.YtoponmdfjbhnoaaDoor
