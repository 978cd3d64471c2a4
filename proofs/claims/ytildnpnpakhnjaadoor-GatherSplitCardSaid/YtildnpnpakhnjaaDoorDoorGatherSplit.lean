/- GatherSplit: the listed variables: a world that meets them, and what they give. -/
import Derived.Test.YtildnpnpakhnjaaDoorCards
import Derived.Test.YtildnpnpakhnjaaDoorDoor
import Derived.Test.YtildnpnpakhnjaaDoorLay
import Derived.Lib.LaidU8
import GoSem.PinnedTables
namespace Go.Proofs.YtildnpnpakhnjaaDoor
open Go.RowKit
def laidGatherSplit : List (String × DataW Unit) := [("errors.errorType", Rows.laid_errors_errorType)]
def plainGatherSplit : List (String × DataW Unit) := []
noncomputable def laidWorldGatherSplit (os : Os) : World := (laidWorld os).layVars Tryd.prog plainGatherSplit
set_option maxRecDepth 100000 in
theorem laidWorldGatherSplit_plain (os : Os) (args : Array Value) : laidMet Tryd.prog plainGatherSplit ((laidWorldGatherSplit os).forCall (fun _ _ => 0) ⟨#[], args, []⟩).memory := laidMet_lay (w0 := (laidWorld os)) args (by kernel_rfl) (by kernel_rfl)
set_option maxRecDepth 100000 in
theorem laidWorldGatherSplit_met (os : Os) (args : Array Value) : laidMetH Tryd.prog laidGatherSplit ((laidWorldGatherSplit os).forCall (fun _ _ => 0) ⟨#[], args, []⟩).memory :=
  laidMetH_of_parts (laidWorldGatherSplit_plain os args) (by kernel_rfl)
theorem laidWorldGatherSplit_os (os : Os) : (laidWorldGatherSplit os).os = os := World.layVars_os _ _ _
theorem partsGatherSplit {W : World} (h : laidMetH Tryd.prog laidGatherSplit W) : laidMet Tryd.prog [] W ∧ handlesMet Tryd.prog [("errors.errorType", Rows.laid_errors_errorType)] W := h
theorem errCell_GatherSplit {W : World} (h : laidMetH Tryd.prog laidGatherSplit W) : ErrCell W := errCell_of_handles (partsGatherSplit h).2 (List.mem_singleton.2 rfl)
theorem readsGatherSplit {W : World} (h : laidMetH Tryd.prog laidGatherSplit W) {n : String} {d : DataW Unit} (hm : (n, d) ∈ ([] : List (String × DataW Unit))) : Go.Lib.VarReads Tryd.prog W n d := Go.Lib.laidMet.reads (partsGatherSplit h).1 hm
end Go.Proofs.YtildnpnpakhnjaaDoor
