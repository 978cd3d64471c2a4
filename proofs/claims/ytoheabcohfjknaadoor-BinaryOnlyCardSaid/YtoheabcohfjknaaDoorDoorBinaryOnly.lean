/- BinaryOnly: the listed variables: a world that meets them, and what they give. -/
import Derived.Test.YtoheabcohfjknaaDoorCards
import Derived.Test.YtoheabcohfjknaaDoorDoor
import Derived.Test.YtoheabcohfjknaaDoorLay
import Derived.Lib.LaidU8
import GoSem.PinnedTables
namespace Go.Proofs.YtoheabcohfjknaaDoor
open Go.RowKit
def laidBinaryOnly : List (String × DataW Unit) := [("unicode/utf8.acceptRanges", Rows.laid_unicode_utf8_acceptRanges), ("errors.errorType", Rows.laid_errors_errorType), ("unicode.asciiFold", Rows.laid_unicode_asciiFold), ("unicode.caseOrbit", Rows.laid_unicode_caseOrbit), ("unicode.CaseRanges", Rows.laid_unicode_CaseRanges), ("unicode/utf8.first", Rows.laid_unicode_utf8_first)]
def plainBinaryOnly : List (String × DataW Unit) := [("unicode/utf8.acceptRanges", Rows.laid_unicode_utf8_acceptRanges), ("unicode.asciiFold", Rows.laid_unicode_asciiFold), ("unicode.caseOrbit", Rows.laid_unicode_caseOrbit), ("unicode.CaseRanges", Rows.laid_unicode_CaseRanges), ("unicode/utf8.first", Rows.laid_unicode_utf8_first)]
noncomputable def laidWorldBinaryOnly (os : Os) : World := (laidWorld os).layVars Tryd.prog plainBinaryOnly
set_option maxRecDepth 100000 in
theorem laidWorldBinaryOnly_plain (os : Os) (args : Array Value) : laidMet Tryd.prog plainBinaryOnly ((laidWorldBinaryOnly os).forCall (fun _ _ => 0) ⟨#[], args, []⟩).memory := laidMet_lay (w0 := (laidWorld os)) args (by kernel_rfl) (by kernel_rfl)
set_option maxRecDepth 100000 in
theorem laidWorldBinaryOnly_met (os : Os) (args : Array Value) : laidMetH Tryd.prog laidBinaryOnly ((laidWorldBinaryOnly os).forCall (fun _ _ => 0) ⟨#[], args, []⟩).memory :=
  laidMetH_of_parts (laidWorldBinaryOnly_plain os args) (by kernel_rfl)
theorem laidWorldBinaryOnly_os (os : Os) : (laidWorldBinaryOnly os).os = os := World.layVars_os _ _ _
theorem partsBinaryOnly {W : World} (h : laidMetH Tryd.prog laidBinaryOnly W) : laidMet Tryd.prog [("unicode/utf8.acceptRanges", Rows.laid_unicode_utf8_acceptRanges), ("unicode.asciiFold", Rows.laid_unicode_asciiFold), ("unicode.caseOrbit", Rows.laid_unicode_caseOrbit), ("unicode.CaseRanges", Rows.laid_unicode_CaseRanges), ("unicode/utf8.first", Rows.laid_unicode_utf8_first)] W ∧ handlesMet Tryd.prog [("errors.errorType", Rows.laid_errors_errorType)] W := h
theorem errCell_BinaryOnly {W : World} (h : laidMetH Tryd.prog laidBinaryOnly W) : ErrCell W := errCell_of_handles (partsBinaryOnly h).2 (List.mem_singleton.2 rfl)
theorem readsBinaryOnly {W : World} (h : laidMetH Tryd.prog laidBinaryOnly W) {n : String} {d : DataW Unit} (hm : (n, d) ∈ ([("unicode/utf8.acceptRanges", Rows.laid_unicode_utf8_acceptRanges), ("unicode.asciiFold", Rows.laid_unicode_asciiFold), ("unicode.caseOrbit", Rows.laid_unicode_caseOrbit), ("unicode.CaseRanges", Rows.laid_unicode_CaseRanges), ("unicode/utf8.first", Rows.laid_unicode_utf8_first)] : List (String × DataW Unit))) : Go.Lib.VarReads Tryd.prog W n d := Go.Lib.laidMet.reads (partsBinaryOnly h).1 hm
end Go.Proofs.YtoheabcohfjknaaDoor
