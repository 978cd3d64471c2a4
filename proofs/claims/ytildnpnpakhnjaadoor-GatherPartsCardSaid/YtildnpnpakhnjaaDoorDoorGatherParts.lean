/- GatherParts: the listed variables: a world that meets them, and what they give. -/
import Derived.Test.YtildnpnpakhnjaaDoorCards
import Derived.Test.YtildnpnpakhnjaaDoorDoor
import Derived.Test.YtildnpnpakhnjaaDoorLay
import Derived.Lib.LaidU8
import GoSem.PinnedTables
namespace Go.Proofs.YtildnpnpakhnjaaDoor
open Go.RowKit
def laidGatherParts : List (String × DataW Unit) := [("errors.errorType", Rows.laid_errors_errorType)]
def plainGatherParts : List (String × DataW Unit) := []
noncomputable def laidWorldGatherParts (os : Os) : World := (laidWorld os).layVars Tryd.prog plainGatherParts
set_option maxRecDepth 100000 in
theorem laidWorldGatherParts_plain (os : Os) (args : Array Value) : laidMet Tryd.prog plainGatherParts ((laidWorldGatherParts os).forCall (fun _ _ => 0) ⟨#[], args, []⟩).memory := laidMet_lay (w0 := (laidWorld os)) args (by kernel_rfl) (by kernel_rfl)
set_option maxRecDepth 100000 in
theorem laidWorldGatherParts_met (os : Os) (args : Array Value) : laidMetH Tryd.prog laidGatherParts ((laidWorldGatherParts os).forCall (fun _ _ => 0) ⟨#[], args, []⟩).memory :=
  laidMetH_of_parts (laidWorldGatherParts_plain os args) (by kernel_rfl)
theorem laidWorldGatherParts_os (os : Os) : (laidWorldGatherParts os).os = os := World.layVars_os _ _ _
theorem partsGatherParts {W : World} (h : laidMetH Tryd.prog laidGatherParts W) : laidMet Tryd.prog [] W ∧ handlesMet Tryd.prog [("errors.errorType", Rows.laid_errors_errorType)] W := h
theorem errCell_GatherParts {W : World} (h : laidMetH Tryd.prog laidGatherParts W) : ErrCell W := errCell_of_handles (partsGatherParts h).2 (List.mem_singleton.2 rfl)
theorem readsGatherParts {W : World} (h : laidMetH Tryd.prog laidGatherParts W) {n : String} {d : DataW Unit} (hm : (n, d) ∈ ([] : List (String × DataW Unit))) : Go.Lib.VarReads Tryd.prog W n d := Go.Lib.laidMet.reads (partsGatherParts h).1 hm
end Go.Proofs.YtildnpnpakhnjaaDoor
