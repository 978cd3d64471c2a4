/- PairsCut: the listed variables: a world that meets them, and what they give. -/
import Derived.Test.YtildnpnpakhnjaaDoorCards
import Derived.Test.YtildnpnpakhnjaaDoorDoor
import Derived.Test.YtildnpnpakhnjaaDoorLay
import Derived.Lib.LaidU8
import GoSem.PinnedTables
namespace Go.Proofs.YtildnpnpakhnjaaDoor
open Go.RowKit
def laidPairsCut : List (String × DataW Unit) := [("errors.errorType", Rows.laid_errors_errorType)]
def plainPairsCut : List (String × DataW Unit) := []
noncomputable def laidWorldPairsCut (os : Os) : World := (laidWorld os).layVars Tryd.prog plainPairsCut
set_option maxRecDepth 100000 in
theorem laidWorldPairsCut_plain (os : Os) (args : Array Value) : laidMet Tryd.prog plainPairsCut ((laidWorldPairsCut os).forCall (fun _ _ => 0) ⟨#[], args, []⟩).memory := laidMet_lay (w0 := (laidWorld os)) args (by kernel_rfl) (by kernel_rfl)
set_option maxRecDepth 100000 in
theorem laidWorldPairsCut_met (os : Os) (args : Array Value) : laidMetH Tryd.prog laidPairsCut ((laidWorldPairsCut os).forCall (fun _ _ => 0) ⟨#[], args, []⟩).memory :=
  laidMetH_of_parts (laidWorldPairsCut_plain os args) (by kernel_rfl)
theorem laidWorldPairsCut_os (os : Os) : (laidWorldPairsCut os).os = os := World.layVars_os _ _ _
theorem partsPairsCut {W : World} (h : laidMetH Tryd.prog laidPairsCut W) : laidMet Tryd.prog [] W ∧ handlesMet Tryd.prog [("errors.errorType", Rows.laid_errors_errorType)] W := h
theorem errCell_PairsCut {W : World} (h : laidMetH Tryd.prog laidPairsCut W) : ErrCell W := errCell_of_handles (partsPairsCut h).2 (List.mem_singleton.2 rfl)
theorem readsPairsCut {W : World} (h : laidMetH Tryd.prog laidPairsCut W) {n : String} {d : DataW Unit} (hm : (n, d) ∈ ([] : List (String × DataW Unit))) : Go.Lib.VarReads Tryd.prog W n d := Go.Lib.laidMet.reads (partsPairsCut h).1 hm
end Go.Proofs.YtildnpnpakhnjaaDoor
