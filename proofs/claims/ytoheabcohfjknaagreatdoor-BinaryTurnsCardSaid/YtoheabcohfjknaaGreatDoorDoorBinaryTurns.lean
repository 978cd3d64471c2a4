/- BinaryTurns: the listed variables: a world that meets them, and what they give. -/
import Derived.Test.YtoheabcohfjknaaGreatDoorCards
import Derived.Test.YtoheabcohfjknaaGreatDoorDoor
import Derived.Test.YtoheabcohfjknaaGreatDoorLay
import Derived.Test.YtoheabcohfjknaaGreatDoorTurnTabs
import Derived.Lib.LaidU8
import GoSem.PinnedTables
namespace Go.Proofs.YtoheabcohfjknaaGreatDoor
open Go.RowKit
def laidBinaryTurns : List (String × DataW Unit) := [("math/bits.deBruijn32tab", Rows.laid_math_bits_deBruijn32tab), ("math/bits.deBruijn64tab", Rows.laid_math_bits_deBruijn64tab), ("internal/strconv.uint64pow10", Rows.laid_internal_strconv_uint64pow10), ("unicode/utf8.acceptRanges", Rows.laid_unicode_utf8_acceptRanges), ("errors.errorType", Rows.laid_errors_errorType), ("strconv.ErrRange", Rows.laid_strconv_ErrRange), ("strconv.ErrSyntax", Rows.laid_strconv_ErrSyntax), ("unicode.CaseRanges", Rows.laid_unicode_CaseRanges), ("unicode/utf8.first", Rows.laid_unicode_utf8_first)]
def plainBinaryTurns : List (String × DataW Unit) := [("math/bits.deBruijn32tab", Rows.laid_math_bits_deBruijn32tab), ("math/bits.deBruijn64tab", Rows.laid_math_bits_deBruijn64tab), ("internal/strconv.uint64pow10", Rows.laid_internal_strconv_uint64pow10), ("unicode/utf8.acceptRanges", Rows.laid_unicode_utf8_acceptRanges), ("strconv.ErrRange", Rows.laid_strconv_ErrRange), ("strconv.ErrSyntax", Rows.laid_strconv_ErrSyntax), ("unicode.CaseRanges", Rows.laid_unicode_CaseRanges), ("unicode/utf8.first", Rows.laid_unicode_utf8_first)]
noncomputable def laidWorldBinaryTurns (os : Os) : World := (laidWorld os).layVars Tryz.prog plainBinaryTurns
set_option maxRecDepth 100000 in
theorem laidWorldBinaryTurns_plain (os : Os) (args : Array Value) : laidMet Tryz.prog plainBinaryTurns ((laidWorldBinaryTurns os).forCall (fun _ _ => 0) ⟨#[], args, []⟩).memory := laidMet_lay (w0 := (laidWorld os)) args (by kernel_rfl) (by kernel_rfl)
set_option maxRecDepth 100000 in
theorem laidWorldBinaryTurns_met (os : Os) (args : Array Value) : laidMetH Tryz.prog laidBinaryTurns ((laidWorldBinaryTurns os).forCall (fun _ _ => 0) ⟨#[], args, []⟩).memory :=
  laidMetH_of_parts (laidWorldBinaryTurns_plain os args) (by kernel_rfl)
theorem laidWorldBinaryTurns_os (os : Os) : (laidWorldBinaryTurns os).os = os := World.layVars_os _ _ _
theorem partsBinaryTurns {W : World} (h : laidMetH Tryz.prog laidBinaryTurns W) : laidMet Tryz.prog [("math/bits.deBruijn32tab", Rows.laid_math_bits_deBruijn32tab), ("math/bits.deBruijn64tab", Rows.laid_math_bits_deBruijn64tab), ("internal/strconv.uint64pow10", Rows.laid_internal_strconv_uint64pow10), ("unicode/utf8.acceptRanges", Rows.laid_unicode_utf8_acceptRanges), ("strconv.ErrRange", Rows.laid_strconv_ErrRange), ("strconv.ErrSyntax", Rows.laid_strconv_ErrSyntax), ("unicode.CaseRanges", Rows.laid_unicode_CaseRanges), ("unicode/utf8.first", Rows.laid_unicode_utf8_first)] W ∧ handlesMet Tryz.prog [("errors.errorType", Rows.laid_errors_errorType)] W := h
theorem errCell_BinaryTurns {W : World} (h : laidMetH Tryz.prog laidBinaryTurns W) : ErrCell W := errCell_of_handles (partsBinaryTurns h).2 (List.mem_singleton.2 rfl)
theorem readsBinaryTurns {W : World} (h : laidMetH Tryz.prog laidBinaryTurns W) {n : String} {d : DataW Unit} (hm : (n, d) ∈ ([("math/bits.deBruijn32tab", Rows.laid_math_bits_deBruijn32tab), ("math/bits.deBruijn64tab", Rows.laid_math_bits_deBruijn64tab), ("internal/strconv.uint64pow10", Rows.laid_internal_strconv_uint64pow10), ("unicode/utf8.acceptRanges", Rows.laid_unicode_utf8_acceptRanges), ("strconv.ErrRange", Rows.laid_strconv_ErrRange), ("strconv.ErrSyntax", Rows.laid_strconv_ErrSyntax), ("unicode.CaseRanges", Rows.laid_unicode_CaseRanges), ("unicode/utf8.first", Rows.laid_unicode_utf8_first)] : List (String × DataW Unit))) : Go.Lib.VarReads Tryz.prog W n d := Go.Lib.laidMet.reads (partsBinaryTurns h).1 hm
theorem lowBinaryTurns {W : World} (h : laidMetH Tryz.prog laidBinaryTurns W) : LowT W := lowT_of_reads (readsBinaryTurns h (by simp)) (readsBinaryTurns h (by simp)) (readsBinaryTurns h (by simp))
theorem bruijnBinaryTurns {W : World} (h : laidMetH Tryz.prog laidBinaryTurns W) : BruijnT W := bruijn_of_reads (readsBinaryTurns h (by simp))
end Go.Proofs.YtoheabcohfjknaaGreatDoor
