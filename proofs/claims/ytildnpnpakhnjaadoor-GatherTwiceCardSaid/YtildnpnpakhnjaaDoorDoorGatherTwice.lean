/- GatherTwice: the listed variables: a world that meets them, and what they give. -/
import Derived.Test.YtildnpnpakhnjaaDoorCards
import Derived.Test.YtildnpnpakhnjaaDoorDoor
import Derived.Test.YtildnpnpakhnjaaDoorLay
import Derived.Lib.LaidU8
import GoSem.PinnedTables
namespace Go.Proofs.YtildnpnpakhnjaaDoor
open Go.RowKit
def laidGatherTwice : List (String × DataW Unit) := [("errors.errorType", Rows.laid_errors_errorType)]
def plainGatherTwice : List (String × DataW Unit) := []
noncomputable def laidWorldGatherTwice (os : Os) : World := (laidWorld os).layVars Tryd.prog plainGatherTwice
set_option maxRecDepth 100000 in
theorem laidWorldGatherTwice_plain (os : Os) (args : Array Value) : laidMet Tryd.prog plainGatherTwice ((laidWorldGatherTwice os).forCall (fun _ _ => 0) ⟨#[], args, []⟩).memory := laidMet_lay (w0 := (laidWorld os)) args (by kernel_rfl) (by kernel_rfl)
set_option maxRecDepth 100000 in
theorem laidWorldGatherTwice_met (os : Os) (args : Array Value) : laidMetH Tryd.prog laidGatherTwice ((laidWorldGatherTwice os).forCall (fun _ _ => 0) ⟨#[], args, []⟩).memory :=
  laidMetH_of_parts (laidWorldGatherTwice_plain os args) (by kernel_rfl)
theorem laidWorldGatherTwice_os (os : Os) : (laidWorldGatherTwice os).os = os := World.layVars_os _ _ _
theorem partsGatherTwice {W : World} (h : laidMetH Tryd.prog laidGatherTwice W) : laidMet Tryd.prog [] W ∧ handlesMet Tryd.prog [("errors.errorType", Rows.laid_errors_errorType)] W := h
theorem errCell_GatherTwice {W : World} (h : laidMetH Tryd.prog laidGatherTwice W) : ErrCell W := errCell_of_handles (partsGatherTwice h).2 (List.mem_singleton.2 rfl)
theorem readsGatherTwice {W : World} (h : laidMetH Tryd.prog laidGatherTwice W) {n : String} {d : DataW Unit} (hm : (n, d) ∈ ([] : List (String × DataW Unit))) : Go.Lib.VarReads Tryd.prog W n d := Go.Lib.laidMet.reads (partsGatherTwice h).1 hm
end Go.Proofs.YtildnpnpakhnjaaDoor
