/- The listed variables of a row that also lists unicode/utf8's two tables: what the condition gives, and a world that meets it. -/
import Derived.Test.YtpbdbnkedmkllaaDoorDoor
import GoSem.PinnedTables
namespace Go.Proofs.YtpbdbnkedmkllaaDoor
open Go.RowKit
def laid3 : List (String × DataW Unit) := [("unicode/utf8.acceptRanges", Rows.laid_unicode_utf8_acceptRanges), ("errors.errorType", Rows.laid_errors_errorType), ("unicode/utf8.first", Rows.laid_unicode_utf8_first)]
theorem errCell_of_laid3 {W : World} (h : laidMetH Tryd.prog laid3 W) : ErrCell W := by
  have h' : laidMet Tryd.prog [("unicode/utf8.acceptRanges", Rows.laid_unicode_utf8_acceptRanges), ("unicode/utf8.first", Rows.laid_unicode_utf8_first)] W ∧ handlesMet Tryd.prog [("errors.errorType", Rows.laid_errors_errorType)] W := h
  exact errCell_of_handles h'.2 (List.mem_singleton.2 rfl)
def u8s (l : List Nat) : Array Value := (l.map fun n : Nat => Value.int .u8 (n : Int)).toArray
def acceptL : List Nat := [128, 191, 160, 191, 128, 159, 144, 191, 128, 143] ++ List.replicate 22 0
noncomputable def laidWorld3 (os : Os) : World :=
  let w0 := laidWorld os
  { w0 with heap := (w0.heap.modify 1 fun
      | .cells _ t frozen => .cells (u8s Go.Pinned.utf8FirstZ) t frozen
      | o => o).modify 2 fun
      | .cells _ t frozen => .cells (u8s acceptL) t frozen
      | o => o }
set_option maxRecDepth 100000 in
theorem laidWorld3_met (os : Os) (args : Array Value) : laidMetH Tryd.prog laid3 ((laidWorld3 os).forCall (fun _ _ => 0) ⟨#[], args, []⟩).memory :=
  laidMetH_of_parts (laidMet_of_run' 8 (by kernel_rfl) (by kernel_rfl)) (by kernel_rfl)
end Go.Proofs.YtpbdbnkedmkllaaDoor
