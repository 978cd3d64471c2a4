/- GatherMany: the listed variables: a world that meets them, and what they give. -/
import Derived.Test.YtildnpnpakhnjaaDoorCards
import Derived.Test.YtildnpnpakhnjaaDoorDoor
import Derived.Test.YtildnpnpakhnjaaDoorLay
import Derived.Lib.LaidU8
import GoSem.PinnedTables
namespace Go.Proofs.YtildnpnpakhnjaaDoor
open Go.RowKit
def laidGatherMany : List (String × DataW Unit) := [("errors.errorType", Rows.laid_errors_errorType)]
def plainGatherMany : List (String × DataW Unit) := []
noncomputable def laidWorldGatherMany (os : Os) : World := (laidWorld os).layVars Tryd.prog plainGatherMany
set_option maxRecDepth 100000 in
theorem laidWorldGatherMany_plain (os : Os) (args : Array Value) : laidMet Tryd.prog plainGatherMany ((laidWorldGatherMany os).forCall (fun _ _ => 0) ⟨#[], args, []⟩).memory := laidMet_lay (w0 := (laidWorld os)) args (by kernel_rfl) (by kernel_rfl)
set_option maxRecDepth 100000 in
theorem laidWorldGatherMany_met (os : Os) (args : Array Value) : laidMetH Tryd.prog laidGatherMany ((laidWorldGatherMany os).forCall (fun _ _ => 0) ⟨#[], args, []⟩).memory :=
  laidMetH_of_parts (laidWorldGatherMany_plain os args) (by kernel_rfl)
theorem laidWorldGatherMany_os (os : Os) : (laidWorldGatherMany os).os = os := World.layVars_os _ _ _
theorem partsGatherMany {W : World} (h : laidMetH Tryd.prog laidGatherMany W) : laidMet Tryd.prog [] W ∧ handlesMet Tryd.prog [("errors.errorType", Rows.laid_errors_errorType)] W := h
theorem errCell_GatherMany {W : World} (h : laidMetH Tryd.prog laidGatherMany W) : ErrCell W := errCell_of_handles (partsGatherMany h).2 (List.mem_singleton.2 rfl)
theorem readsGatherMany {W : World} (h : laidMetH Tryd.prog laidGatherMany W) {n : String} {d : DataW Unit} (hm : (n, d) ∈ ([] : List (String × DataW Unit))) : Go.Lib.VarReads Tryd.prog W n d := Go.Lib.laidMet.reads (partsGatherMany h).1 hm
end Go.Proofs.YtildnpnpakhnjaaDoor
