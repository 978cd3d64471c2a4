/- The cell of internal/bytealg.MaxLen. -/
import Derived.Test.YtikcgnalcchlpaaGreatDoorRows
import Derived.Test.YtikcgnalcchlpaaGreatDoorBase
import Derived.Shelf.Vars
import Derived.ShapedOpen
namespace Go.Proofs.YtikcgnalcchlpaaGreatDoor
open Go.RowKit
/-- the cell of internal/bytealg.MaxLen -/
def MaxCell (w : World) : Prop := ∃ m : Int, w.cell? ⟨1, 0, none⟩ = some (.int .i64 m)
theorem MaxCell.later {w w' : World} (h : MaxCell w) (hb : Below w.heap.size w w') : MaxCell w' := by
  obtain ⟨m, hm⟩ := h
  exact ⟨m, by rw [(bcell hb).1 _ 0 (block_lt_of_cell (w := w) (a := ⟨_, 0, none⟩) hm)]; exact hm⟩
theorem maxCell_of_shaped {W : World} (h : W.ShapedOpen Tryz.prog) : MaxCell W :=
  Go.Proofs.cell_of_shapedOpen_int (zero := #[.int .i64 0]) (t := 3) h (of_decide_eq_true (by kernel_rfl)) (by kernel_rfl) rfl (by kernel_rfl) (by kernel_rfl) Tryz.underlying3
end Go.Proofs.YtikcgnalcchlpaaGreatDoor
