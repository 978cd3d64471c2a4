/- KeysKnow: the listed variables: a world that meets them, and what they give. -/
import Derived.Test.YtikcgnalcchlpaaDoorCards
import Derived.Test.YtikcgnalcchlpaaDoorDoor
import Derived.Test.YtikcgnalcchlpaaDoorLay
import Derived.Lib.LaidU8
import GoSem.PinnedTables
namespace Go.Proofs.YtikcgnalcchlpaaDoor
open Go.RowKit
def laidKeysKnow : List (String × DataW Unit) := [("errors.errorType", Rows.laid_errors_errorType)]
def plainKeysKnow : List (String × DataW Unit) := []
noncomputable def laidWorldKeysKnow (os : Os) : World := (laidWorld os).layVars Tryd.prog plainKeysKnow
set_option maxRecDepth 100000 in
theorem laidWorldKeysKnow_plain (os : Os) (args : Array Value) : laidMet Tryd.prog plainKeysKnow ((laidWorldKeysKnow os).forCall (fun _ _ => 0) ⟨#[], args, []⟩).memory := laidMet_lay (w0 := (laidWorld os)) args (by kernel_rfl) (by kernel_rfl)
set_option maxRecDepth 100000 in
theorem laidWorldKeysKnow_met (os : Os) (args : Array Value) : laidMetH Tryd.prog laidKeysKnow ((laidWorldKeysKnow os).forCall (fun _ _ => 0) ⟨#[], args, []⟩).memory :=
  laidMetH_of_parts (laidWorldKeysKnow_plain os args) (by kernel_rfl)
theorem laidWorldKeysKnow_os (os : Os) : (laidWorldKeysKnow os).os = os := World.layVars_os _ _ _
theorem partsKeysKnow {W : World} (h : laidMetH Tryd.prog laidKeysKnow W) : laidMet Tryd.prog [] W ∧ handlesMet Tryd.prog [("errors.errorType", Rows.laid_errors_errorType)] W := h
theorem errCell_KeysKnow {W : World} (h : laidMetH Tryd.prog laidKeysKnow W) : ErrCell W := errCell_of_handles (partsKeysKnow h).2 (List.mem_singleton.2 rfl)
theorem readsKeysKnow {W : World} (h : laidMetH Tryd.prog laidKeysKnow W) {n : String} {d : DataW Unit} (hm : (n, d) ∈ ([] : List (String × DataW Unit))) : Go.Lib.VarReads Tryd.prog W n d := Go.Lib.laidMet.reads (partsKeysKnow h).1 hm
end Go.Proofs.YtikcgnalcchlpaaDoor
