/- PairsJoins: the listed variables: a world that meets them, and what they give. -/
import Derived.Test.YtildnpnpakhnjaaDoorCards
import Derived.Test.YtildnpnpakhnjaaDoorDoor
import Derived.Test.YtildnpnpakhnjaaDoorLay
import Derived.Lib.LaidU8
import GoSem.PinnedTables
namespace Go.Proofs.YtildnpnpakhnjaaDoor
open Go.RowKit
def laidPairsJoins : List (String × DataW Unit) := [("errors.errorType", Rows.laid_errors_errorType)]
def plainPairsJoins : List (String × DataW Unit) := []
noncomputable def laidWorldPairsJoins (os : Os) : World := (laidWorld os).layVars Tryd.prog plainPairsJoins
set_option maxRecDepth 100000 in
theorem laidWorldPairsJoins_plain (os : Os) (args : Array Value) : laidMet Tryd.prog plainPairsJoins ((laidWorldPairsJoins os).forCall (fun _ _ => 0) ⟨#[], args, []⟩).memory := laidMet_lay (w0 := (laidWorld os)) args (by kernel_rfl) (by kernel_rfl)
set_option maxRecDepth 100000 in
theorem laidWorldPairsJoins_met (os : Os) (args : Array Value) : laidMetH Tryd.prog laidPairsJoins ((laidWorldPairsJoins os).forCall (fun _ _ => 0) ⟨#[], args, []⟩).memory :=
  laidMetH_of_parts (laidWorldPairsJoins_plain os args) (by kernel_rfl)
theorem laidWorldPairsJoins_os (os : Os) : (laidWorldPairsJoins os).os = os := World.layVars_os _ _ _
theorem partsPairsJoins {W : World} (h : laidMetH Tryd.prog laidPairsJoins W) : laidMet Tryd.prog [] W ∧ handlesMet Tryd.prog [("errors.errorType", Rows.laid_errors_errorType)] W := h
theorem errCell_PairsJoins {W : World} (h : laidMetH Tryd.prog laidPairsJoins W) : ErrCell W := errCell_of_handles (partsPairsJoins h).2 (List.mem_singleton.2 rfl)
theorem readsPairsJoins {W : World} (h : laidMetH Tryd.prog laidPairsJoins W) {n : String} {d : DataW Unit} (hm : (n, d) ∈ ([] : List (String × DataW Unit))) : Go.Lib.VarReads Tryd.prog W n d := Go.Lib.laidMet.reads (partsPairsJoins h).1 hm
end Go.Proofs.YtildnpnpakhnjaaDoor
