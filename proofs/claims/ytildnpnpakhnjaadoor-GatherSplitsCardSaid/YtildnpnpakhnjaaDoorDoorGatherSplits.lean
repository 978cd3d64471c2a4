/- GatherSplits: the listed variables: a world that meets them, and what they give. -/
import Derived.Test.YtildnpnpakhnjaaDoorCards
import Derived.Test.YtildnpnpakhnjaaDoorDoor
import Derived.Test.YtildnpnpakhnjaaDoorLay
import Derived.Lib.LaidU8
import GoSem.PinnedTables
namespace Go.Proofs.YtildnpnpakhnjaaDoor
open Go.RowKit
def laidGatherSplits : List (String × DataW Unit) := [("errors.errorType", Rows.laid_errors_errorType)]
def plainGatherSplits : List (String × DataW Unit) := []
noncomputable def laidWorldGatherSplits (os : Os) : World := (laidWorld os).layVars Tryd.prog plainGatherSplits
set_option maxRecDepth 100000 in
theorem laidWorldGatherSplits_plain (os : Os) (args : Array Value) : laidMet Tryd.prog plainGatherSplits ((laidWorldGatherSplits os).forCall (fun _ _ => 0) ⟨#[], args, []⟩).memory := laidMet_lay (w0 := (laidWorld os)) args (by kernel_rfl) (by kernel_rfl)
set_option maxRecDepth 100000 in
theorem laidWorldGatherSplits_met (os : Os) (args : Array Value) : laidMetH Tryd.prog laidGatherSplits ((laidWorldGatherSplits os).forCall (fun _ _ => 0) ⟨#[], args, []⟩).memory :=
  laidMetH_of_parts (laidWorldGatherSplits_plain os args) (by kernel_rfl)
theorem laidWorldGatherSplits_os (os : Os) : (laidWorldGatherSplits os).os = os := World.layVars_os _ _ _
theorem partsGatherSplits {W : World} (h : laidMetH Tryd.prog laidGatherSplits W) : laidMet Tryd.prog [] W ∧ handlesMet Tryd.prog [("errors.errorType", Rows.laid_errors_errorType)] W := h
theorem errCell_GatherSplits {W : World} (h : laidMetH Tryd.prog laidGatherSplits W) : ErrCell W := errCell_of_handles (partsGatherSplits h).2 (List.mem_singleton.2 rfl)
theorem readsGatherSplits {W : World} (h : laidMetH Tryd.prog laidGatherSplits W) {n : String} {d : DataW Unit} (hm : (n, d) ∈ ([] : List (String × DataW Unit))) : Go.Lib.VarReads Tryd.prog W n d := Go.Lib.laidMet.reads (partsGatherSplits h).1 hm
end Go.Proofs.YtildnpnpakhnjaaDoor
