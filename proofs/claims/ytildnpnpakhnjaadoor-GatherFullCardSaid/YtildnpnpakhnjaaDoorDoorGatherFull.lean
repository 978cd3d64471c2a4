/- GatherFull: the listed variables: a world that meets them, and what they give. -/
import Derived.Test.YtildnpnpakhnjaaDoorCards
import Derived.Test.YtildnpnpakhnjaaDoorDoor
import Derived.Test.YtildnpnpakhnjaaDoorLay
import Derived.Lib.LaidU8
import GoSem.PinnedTables
namespace Go.Proofs.YtildnpnpakhnjaaDoor
open Go.RowKit
def laidGatherFull : List (String × DataW Unit) := [("errors.errorType", Rows.laid_errors_errorType)]
def plainGatherFull : List (String × DataW Unit) := []
noncomputable def laidWorldGatherFull (os : Os) : World := (laidWorld os).layVars Tryd.prog plainGatherFull
set_option maxRecDepth 100000 in
theorem laidWorldGatherFull_plain (os : Os) (args : Array Value) : laidMet Tryd.prog plainGatherFull ((laidWorldGatherFull os).forCall (fun _ _ => 0) ⟨#[], args, []⟩).memory := laidMet_lay (w0 := (laidWorld os)) args (by kernel_rfl) (by kernel_rfl)
set_option maxRecDepth 100000 in
theorem laidWorldGatherFull_met (os : Os) (args : Array Value) : laidMetH Tryd.prog laidGatherFull ((laidWorldGatherFull os).forCall (fun _ _ => 0) ⟨#[], args, []⟩).memory :=
  laidMetH_of_parts (laidWorldGatherFull_plain os args) (by kernel_rfl)
theorem laidWorldGatherFull_os (os : Os) : (laidWorldGatherFull os).os = os := World.layVars_os _ _ _
theorem partsGatherFull {W : World} (h : laidMetH Tryd.prog laidGatherFull W) : laidMet Tryd.prog [] W ∧ handlesMet Tryd.prog [("errors.errorType", Rows.laid_errors_errorType)] W := h
theorem errCell_GatherFull {W : World} (h : laidMetH Tryd.prog laidGatherFull W) : ErrCell W := errCell_of_handles (partsGatherFull h).2 (List.mem_singleton.2 rfl)
theorem readsGatherFull {W : World} (h : laidMetH Tryd.prog laidGatherFull W) {n : String} {d : DataW Unit} (hm : (n, d) ∈ ([] : List (String × DataW Unit))) : Go.Lib.VarReads Tryd.prog W n d := Go.Lib.laidMet.reads (partsGatherFull h).1 hm
end Go.Proofs.YtildnpnpakhnjaaDoor
