/- BinaryCases: the listed variables: a world that meets them, and what they give. -/
import Derived.Test.YtoheabcohfjknaaDoorCards
import Derived.Test.YtoheabcohfjknaaDoorDoor
import Derived.Test.YtoheabcohfjknaaDoorLay
import Derived.Lib.LaidU8
import GoSem.PinnedTables
namespace Go.Proofs.YtoheabcohfjknaaDoor
open Go.RowKit
def laidBinaryCases : List (String × DataW Unit) := [("unicode/utf8.acceptRanges", Rows.laid_unicode_utf8_acceptRanges), ("errors.errorType", Rows.laid_errors_errorType), ("unicode.CaseRanges", Rows.laid_unicode_CaseRanges), ("unicode/utf8.first", Rows.laid_unicode_utf8_first)]
def plainBinaryCases : List (String × DataW Unit) := [("unicode/utf8.acceptRanges", Rows.laid_unicode_utf8_acceptRanges), ("unicode.CaseRanges", Rows.laid_unicode_CaseRanges), ("unicode/utf8.first", Rows.laid_unicode_utf8_first)]
noncomputable def laidWorldBinaryCases (os : Os) : World := (laidWorld os).layVars Tryd.prog plainBinaryCases
set_option maxRecDepth 100000 in
theorem laidWorldBinaryCases_plain (os : Os) (args : Array Value) : laidMet Tryd.prog plainBinaryCases ((laidWorldBinaryCases os).forCall (fun _ _ => 0) ⟨#[], args, []⟩).memory := laidMet_lay (w0 := (laidWorld os)) args (by kernel_rfl) (by kernel_rfl)
set_option maxRecDepth 100000 in
theorem laidWorldBinaryCases_met (os : Os) (args : Array Value) : laidMetH Tryd.prog laidBinaryCases ((laidWorldBinaryCases os).forCall (fun _ _ => 0) ⟨#[], args, []⟩).memory :=
  laidMetH_of_parts (laidWorldBinaryCases_plain os args) (by kernel_rfl)
theorem laidWorldBinaryCases_os (os : Os) : (laidWorldBinaryCases os).os = os := World.layVars_os _ _ _
theorem partsBinaryCases {W : World} (h : laidMetH Tryd.prog laidBinaryCases W) : laidMet Tryd.prog [("unicode/utf8.acceptRanges", Rows.laid_unicode_utf8_acceptRanges), ("unicode.CaseRanges", Rows.laid_unicode_CaseRanges), ("unicode/utf8.first", Rows.laid_unicode_utf8_first)] W ∧ handlesMet Tryd.prog [("errors.errorType", Rows.laid_errors_errorType)] W := h
theorem errCell_BinaryCases {W : World} (h : laidMetH Tryd.prog laidBinaryCases W) : ErrCell W := errCell_of_handles (partsBinaryCases h).2 (List.mem_singleton.2 rfl)
theorem readsBinaryCases {W : World} (h : laidMetH Tryd.prog laidBinaryCases W) {n : String} {d : DataW Unit} (hm : (n, d) ∈ ([("unicode/utf8.acceptRanges", Rows.laid_unicode_utf8_acceptRanges), ("unicode.CaseRanges", Rows.laid_unicode_CaseRanges), ("unicode/utf8.first", Rows.laid_unicode_utf8_first)] : List (String × DataW Unit))) : Go.Lib.VarReads Tryd.prog W n d := Go.Lib.laidMet.reads (partsBinaryCases h).1 hm
end Go.Proofs.YtoheabcohfjknaaDoor
