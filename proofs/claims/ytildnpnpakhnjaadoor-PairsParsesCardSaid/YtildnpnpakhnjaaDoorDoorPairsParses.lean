/- PairsParses: the listed variables: a world that meets them, and what they give. -/
import Derived.Test.YtildnpnpakhnjaaDoorCards
import Derived.Test.YtildnpnpakhnjaaDoorDoor
import Derived.Test.YtildnpnpakhnjaaDoorLay
import Derived.Lib.LaidU8
import GoSem.PinnedTables
namespace Go.Proofs.YtildnpnpakhnjaaDoor
open Go.RowKit
def laidPairsParses : List (String × DataW Unit) := [("unicode/utf8.acceptRanges", Rows.laid_unicode_utf8_acceptRanges), ("errors.errorType", Rows.laid_errors_errorType), ("unicode.CaseRanges", Rows.laid_unicode_CaseRanges), ("unicode/utf8.first", Rows.laid_unicode_utf8_first)]
def plainPairsParses : List (String × DataW Unit) := [("unicode/utf8.acceptRanges", Rows.laid_unicode_utf8_acceptRanges), ("unicode.CaseRanges", Rows.laid_unicode_CaseRanges), ("unicode/utf8.first", Rows.laid_unicode_utf8_first)]
noncomputable def laidWorldPairsParses (os : Os) : World := (laidWorld os).layVars Tryd.prog plainPairsParses
set_option maxRecDepth 100000 in
theorem laidWorldPairsParses_plain (os : Os) (args : Array Value) : laidMet Tryd.prog plainPairsParses ((laidWorldPairsParses os).forCall (fun _ _ => 0) ⟨#[], args, []⟩).memory := laidMet_lay (w0 := (laidWorld os)) args (by kernel_rfl) (by kernel_rfl)
set_option maxRecDepth 100000 in
theorem laidWorldPairsParses_met (os : Os) (args : Array Value) : laidMetH Tryd.prog laidPairsParses ((laidWorldPairsParses os).forCall (fun _ _ => 0) ⟨#[], args, []⟩).memory :=
  laidMetH_of_parts (laidWorldPairsParses_plain os args) (by kernel_rfl)
theorem laidWorldPairsParses_os (os : Os) : (laidWorldPairsParses os).os = os := World.layVars_os _ _ _
theorem partsPairsParses {W : World} (h : laidMetH Tryd.prog laidPairsParses W) : laidMet Tryd.prog [("unicode/utf8.acceptRanges", Rows.laid_unicode_utf8_acceptRanges), ("unicode.CaseRanges", Rows.laid_unicode_CaseRanges), ("unicode/utf8.first", Rows.laid_unicode_utf8_first)] W ∧ handlesMet Tryd.prog [("errors.errorType", Rows.laid_errors_errorType)] W := h
theorem errCell_PairsParses {W : World} (h : laidMetH Tryd.prog laidPairsParses W) : ErrCell W := errCell_of_handles (partsPairsParses h).2 (List.mem_singleton.2 rfl)
theorem readsPairsParses {W : World} (h : laidMetH Tryd.prog laidPairsParses W) {n : String} {d : DataW Unit} (hm : (n, d) ∈ ([("unicode/utf8.acceptRanges", Rows.laid_unicode_utf8_acceptRanges), ("unicode.CaseRanges", Rows.laid_unicode_CaseRanges), ("unicode/utf8.first", Rows.laid_unicode_utf8_first)] : List (String × DataW Unit))) : Go.Lib.VarReads Tryd.prog W n d := Go.Lib.laidMet.reads (partsPairsParses h).1 hm
end Go.Proofs.YtildnpnpakhnjaaDoor
