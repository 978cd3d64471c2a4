/- PairsPrints: the listed variables: a world that meets them, and what they give. -/
import Derived.Test.YtildnpnpakhnjaaDoorCards
import Derived.Test.YtildnpnpakhnjaaDoorDoor
import Derived.Test.YtildnpnpakhnjaaDoorLay
import Derived.Lib.LaidU8
import GoSem.PinnedTables
namespace Go.Proofs.YtildnpnpakhnjaaDoor
open Go.RowKit
def laidPairsPrints : List (String × DataW Unit) := [("unicode/utf8.acceptRanges", Rows.laid_unicode_utf8_acceptRanges), ("errors.errorType", Rows.laid_errors_errorType), ("unicode.CaseRanges", Rows.laid_unicode_CaseRanges), ("unicode/utf8.first", Rows.laid_unicode_utf8_first)]
def plainPairsPrints : List (String × DataW Unit) := [("unicode/utf8.acceptRanges", Rows.laid_unicode_utf8_acceptRanges), ("unicode.CaseRanges", Rows.laid_unicode_CaseRanges), ("unicode/utf8.first", Rows.laid_unicode_utf8_first)]
noncomputable def laidWorldPairsPrints (os : Os) : World := (laidWorld os).layVars Tryd.prog plainPairsPrints
set_option maxRecDepth 100000 in
theorem laidWorldPairsPrints_plain (os : Os) (args : Array Value) : laidMet Tryd.prog plainPairsPrints ((laidWorldPairsPrints os).forCall (fun _ _ => 0) ⟨#[], args, []⟩).memory := laidMet_lay (w0 := (laidWorld os)) args (by kernel_rfl) (by kernel_rfl)
set_option maxRecDepth 100000 in
theorem laidWorldPairsPrints_met (os : Os) (args : Array Value) : laidMetH Tryd.prog laidPairsPrints ((laidWorldPairsPrints os).forCall (fun _ _ => 0) ⟨#[], args, []⟩).memory :=
  laidMetH_of_parts (laidWorldPairsPrints_plain os args) (by kernel_rfl)
theorem laidWorldPairsPrints_os (os : Os) : (laidWorldPairsPrints os).os = os := World.layVars_os _ _ _
theorem partsPairsPrints {W : World} (h : laidMetH Tryd.prog laidPairsPrints W) : laidMet Tryd.prog [("unicode/utf8.acceptRanges", Rows.laid_unicode_utf8_acceptRanges), ("unicode.CaseRanges", Rows.laid_unicode_CaseRanges), ("unicode/utf8.first", Rows.laid_unicode_utf8_first)] W ∧ handlesMet Tryd.prog [("errors.errorType", Rows.laid_errors_errorType)] W := h
theorem errCell_PairsPrints {W : World} (h : laidMetH Tryd.prog laidPairsPrints W) : ErrCell W := errCell_of_handles (partsPairsPrints h).2 (List.mem_singleton.2 rfl)
theorem readsPairsPrints {W : World} (h : laidMetH Tryd.prog laidPairsPrints W) {n : String} {d : DataW Unit} (hm : (n, d) ∈ ([("unicode/utf8.acceptRanges", Rows.laid_unicode_utf8_acceptRanges), ("unicode.CaseRanges", Rows.laid_unicode_CaseRanges), ("unicode/utf8.first", Rows.laid_unicode_utf8_first)] : List (String × DataW Unit))) : Go.Lib.VarReads Tryd.prog W n d := Go.Lib.laidMet.reads (partsPairsPrints h).1 hm
end Go.Proofs.YtildnpnpakhnjaaDoor
