/- GatherPlays: the listed variables: a world that meets them, and what they give. -/
import Derived.Test.YtildnpnpakhnjaaDoorCards
import Derived.Test.YtildnpnpakhnjaaDoorDoor
import Derived.Test.YtildnpnpakhnjaaDoorLay
import Derived.Lib.LaidU8
import GoSem.PinnedTables
namespace Go.Proofs.YtildnpnpakhnjaaDoor
open Go.RowKit
def laidGatherPlays : List (String × DataW Unit) := [("unicode/utf8.acceptRanges", Rows.laid_unicode_utf8_acceptRanges), ("errors.errorType", Rows.laid_errors_errorType), ("unicode.CaseRanges", Rows.laid_unicode_CaseRanges), ("unicode/utf8.first", Rows.laid_unicode_utf8_first)]
def plainGatherPlays : List (String × DataW Unit) := [("unicode/utf8.acceptRanges", Rows.laid_unicode_utf8_acceptRanges), ("unicode.CaseRanges", Rows.laid_unicode_CaseRanges), ("unicode/utf8.first", Rows.laid_unicode_utf8_first)]
noncomputable def laidWorldGatherPlays (os : Os) : World := (laidWorld os).layVars Tryd.prog plainGatherPlays
set_option maxRecDepth 100000 in
theorem laidWorldGatherPlays_plain (os : Os) (args : Array Value) : laidMet Tryd.prog plainGatherPlays ((laidWorldGatherPlays os).forCall (fun _ _ => 0) ⟨#[], args, []⟩).memory := laidMet_lay (w0 := (laidWorld os)) args (by kernel_rfl) (by kernel_rfl)
set_option maxRecDepth 100000 in
theorem laidWorldGatherPlays_met (os : Os) (args : Array Value) : laidMetH Tryd.prog laidGatherPlays ((laidWorldGatherPlays os).forCall (fun _ _ => 0) ⟨#[], args, []⟩).memory :=
  laidMetH_of_parts (laidWorldGatherPlays_plain os args) (by kernel_rfl)
theorem laidWorldGatherPlays_os (os : Os) : (laidWorldGatherPlays os).os = os := World.layVars_os _ _ _
theorem partsGatherPlays {W : World} (h : laidMetH Tryd.prog laidGatherPlays W) : laidMet Tryd.prog [("unicode/utf8.acceptRanges", Rows.laid_unicode_utf8_acceptRanges), ("unicode.CaseRanges", Rows.laid_unicode_CaseRanges), ("unicode/utf8.first", Rows.laid_unicode_utf8_first)] W ∧ handlesMet Tryd.prog [("errors.errorType", Rows.laid_errors_errorType)] W := h
theorem errCell_GatherPlays {W : World} (h : laidMetH Tryd.prog laidGatherPlays W) : ErrCell W := errCell_of_handles (partsGatherPlays h).2 (List.mem_singleton.2 rfl)
theorem readsGatherPlays {W : World} (h : laidMetH Tryd.prog laidGatherPlays W) {n : String} {d : DataW Unit} (hm : (n, d) ∈ ([("unicode/utf8.acceptRanges", Rows.laid_unicode_utf8_acceptRanges), ("unicode.CaseRanges", Rows.laid_unicode_CaseRanges), ("unicode/utf8.first", Rows.laid_unicode_utf8_first)] : List (String × DataW Unit))) : Go.Lib.VarReads Tryd.prog W n d := Go.Lib.laidMet.reads (partsGatherPlays h).1 hm
end Go.Proofs.YtildnpnpakhnjaaDoor
