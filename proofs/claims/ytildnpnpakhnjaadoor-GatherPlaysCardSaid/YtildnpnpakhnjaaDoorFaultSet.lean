/- A fault's block, stored to. No function of the program is walked here. -/
import Derived.Test.YtildnpnpakhnjaaDoorRefFault
import Derived.Test.YtildnpnpakhnjaaDoorBlk
namespace Go.Proofs.YtildnpnpakhnjaaDoor
open Go.RowKit
set_option linter.unusedVariables false
/-- two stores to the fault's block -/
theorem fault_set {w W : World} {x y : Int} (a b : Int) (h : Cell2 W w.heap.size x y) (hb : Below w.heap.size w W) :
    Cell2 ((W.setCell ⟨w.heap.size, 0, none⟩ (.int .i64 a)).setCell ⟨w.heap.size, 1, none⟩ (.int .i64 b)) w.heap.size a b ∧ Below w.heap.size w ((W.setCell ⟨w.heap.size, 0, none⟩ (.int .i64 a)).setCell ⟨w.heap.size, 1, none⟩ (.int .i64 b)) :=
  ⟨(Blk.set (Blk.set (show Blk W w.heap.size #[.int .i64 x, .int .i64 y] 26 from h) 0 (.int .i64 a)) 1 (.int .i64 b)), (hb.setCell (p := ⟨w.heap.size, 0, none⟩) (Nat.le_refl _) _).setCell (p := ⟨w.heap.size, 1, none⟩) (Nat.le_refl _) _⟩
end Go.Proofs.YtildnpnpakhnjaaDoor
