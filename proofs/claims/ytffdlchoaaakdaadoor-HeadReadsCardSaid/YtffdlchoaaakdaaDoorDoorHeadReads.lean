/- HeadReads: the listed variables: a world that meets them, and what they give. -/
import Derived.Test.YtffdlchoaaakdaaDoorCards
import Derived.Test.YtffdlchoaaakdaaDoorDoor
import Derived.Test.YtffdlchoaaakdaaDoorLay
import Derived.Lib.LaidU8
import GoSem.PinnedTables
namespace Go.Proofs.YtffdlchoaaakdaaDoor
open Go.RowKit
def laidHeadReads : List (String × DataW Unit) := [("math/bits.deBruijn32tab", Rows.laid_math_bits_deBruijn32tab), ("math/bits.deBruijn64tab", Rows.laid_math_bits_deBruijn64tab), ("internal/strconv.uint64pow10", Rows.laid_internal_strconv_uint64pow10), ("unicode/utf8.acceptRanges", Rows.laid_unicode_utf8_acceptRanges), ("errors.errorType", Rows.laid_errors_errorType), ("strconv.ErrRange", Rows.laid_strconv_ErrRange), ("strconv.ErrSyntax", Rows.laid_strconv_ErrSyntax), ("unicode/utf8.first", Rows.laid_unicode_utf8_first)]
def plainHeadReads : List (String × DataW Unit) := [("math/bits.deBruijn32tab", Rows.laid_math_bits_deBruijn32tab), ("math/bits.deBruijn64tab", Rows.laid_math_bits_deBruijn64tab), ("internal/strconv.uint64pow10", Rows.laid_internal_strconv_uint64pow10), ("unicode/utf8.acceptRanges", Rows.laid_unicode_utf8_acceptRanges), ("strconv.ErrRange", Rows.laid_strconv_ErrRange), ("strconv.ErrSyntax", Rows.laid_strconv_ErrSyntax), ("unicode/utf8.first", Rows.laid_unicode_utf8_first)]
noncomputable def laidWorldHeadReads (os : Os) : World := (laidWorld os).layVars Tryd.prog plainHeadReads
set_option maxRecDepth 100000 in
theorem laidWorldHeadReads_plain (os : Os) (args : Array Value) : laidMet Tryd.prog plainHeadReads ((laidWorldHeadReads os).forCall (fun _ _ => 0) ⟨#[], args, []⟩).memory := laidMet_lay (w0 := (laidWorld os)) args (by kernel_rfl) (by kernel_rfl)
set_option maxRecDepth 100000 in
theorem laidWorldHeadReads_met (os : Os) (args : Array Value) : laidMetH Tryd.prog laidHeadReads ((laidWorldHeadReads os).forCall (fun _ _ => 0) ⟨#[], args, []⟩).memory :=
  laidMetH_of_parts (laidWorldHeadReads_plain os args) (by kernel_rfl)
theorem laidWorldHeadReads_os (os : Os) : (laidWorldHeadReads os).os = os := World.layVars_os _ _ _
theorem partsHeadReads {W : World} (h : laidMetH Tryd.prog laidHeadReads W) : laidMet Tryd.prog [("math/bits.deBruijn32tab", Rows.laid_math_bits_deBruijn32tab), ("math/bits.deBruijn64tab", Rows.laid_math_bits_deBruijn64tab), ("internal/strconv.uint64pow10", Rows.laid_internal_strconv_uint64pow10), ("unicode/utf8.acceptRanges", Rows.laid_unicode_utf8_acceptRanges), ("strconv.ErrRange", Rows.laid_strconv_ErrRange), ("strconv.ErrSyntax", Rows.laid_strconv_ErrSyntax), ("unicode/utf8.first", Rows.laid_unicode_utf8_first)] W ∧ handlesMet Tryd.prog [("errors.errorType", Rows.laid_errors_errorType)] W := h
theorem errCell_HeadReads {W : World} (h : laidMetH Tryd.prog laidHeadReads W) : ErrCell W := errCell_of_handles (partsHeadReads h).2 (List.mem_singleton.2 rfl)
theorem readsHeadReads {W : World} (h : laidMetH Tryd.prog laidHeadReads W) {n : String} {d : DataW Unit} (hm : (n, d) ∈ ([("math/bits.deBruijn32tab", Rows.laid_math_bits_deBruijn32tab), ("math/bits.deBruijn64tab", Rows.laid_math_bits_deBruijn64tab), ("internal/strconv.uint64pow10", Rows.laid_internal_strconv_uint64pow10), ("unicode/utf8.acceptRanges", Rows.laid_unicode_utf8_acceptRanges), ("strconv.ErrRange", Rows.laid_strconv_ErrRange), ("strconv.ErrSyntax", Rows.laid_strconv_ErrSyntax), ("unicode/utf8.first", Rows.laid_unicode_utf8_first)] : List (String × DataW Unit))) : Go.Lib.VarReads Tryd.prog W n d := Go.Lib.laidMet.reads (partsHeadReads h).1 hm
end Go.Proofs.YtffdlchoaaakdaaDoor
