/- TargetLess: the listed variables: a world that meets them, and what they give. -/
import Derived.Test.YtlcadichpcdgpaaGreatDoorCards
import Derived.Test.YtlcadichpcdgpaaGreatDoorDoor
import Derived.Test.YtlcadichpcdgpaaGreatDoorLay
import Derived.Lib.LaidU8
import GoSem.PinnedTables
namespace Go.Proofs.YtlcadichpcdgpaaGreatDoor
open Go.RowKit
def laidTargetLess : List (String × DataW Unit) := [("math/bits.deBruijn32tab", Rows.laid_math_bits_deBruijn32tab), ("math/bits.deBruijn64tab", Rows.laid_math_bits_deBruijn64tab), ("internal/strconv.uint64pow10", Rows.laid_internal_strconv_uint64pow10), ("unicode/utf8.acceptRanges", Rows.laid_unicode_utf8_acceptRanges), ("errors.errorType", Rows.laid_errors_errorType), ("strconv.ErrRange", Rows.laid_strconv_ErrRange), ("strconv.ErrSyntax", Rows.laid_strconv_ErrSyntax), ("unicode/utf8.first", Rows.laid_unicode_utf8_first)]
def plainTargetLess : List (String × DataW Unit) := [("math/bits.deBruijn32tab", Rows.laid_math_bits_deBruijn32tab), ("math/bits.deBruijn64tab", Rows.laid_math_bits_deBruijn64tab), ("internal/strconv.uint64pow10", Rows.laid_internal_strconv_uint64pow10), ("unicode/utf8.acceptRanges", Rows.laid_unicode_utf8_acceptRanges), ("strconv.ErrRange", Rows.laid_strconv_ErrRange), ("strconv.ErrSyntax", Rows.laid_strconv_ErrSyntax), ("unicode/utf8.first", Rows.laid_unicode_utf8_first)]
noncomputable def laidWorldTargetLess (os : Os) : World := (laidWorld os).layVars Tryz.prog plainTargetLess
set_option maxRecDepth 100000 in
theorem laidWorldTargetLess_plain (os : Os) (args : Array Value) : laidMet Tryz.prog plainTargetLess ((laidWorldTargetLess os).forCall (fun _ _ => 0) ⟨#[], args, []⟩).memory := laidMet_lay (w0 := (laidWorld os)) args (by kernel_rfl) (by kernel_rfl)
set_option maxRecDepth 100000 in
theorem laidWorldTargetLess_met (os : Os) (args : Array Value) : laidMetH Tryz.prog laidTargetLess ((laidWorldTargetLess os).forCall (fun _ _ => 0) ⟨#[], args, []⟩).memory :=
  laidMetH_of_parts (laidWorldTargetLess_plain os args) (by kernel_rfl)
theorem laidWorldTargetLess_os (os : Os) : (laidWorldTargetLess os).os = os := World.layVars_os _ _ _
theorem partsTargetLess {W : World} (h : laidMetH Tryz.prog laidTargetLess W) : laidMet Tryz.prog [("math/bits.deBruijn32tab", Rows.laid_math_bits_deBruijn32tab), ("math/bits.deBruijn64tab", Rows.laid_math_bits_deBruijn64tab), ("internal/strconv.uint64pow10", Rows.laid_internal_strconv_uint64pow10), ("unicode/utf8.acceptRanges", Rows.laid_unicode_utf8_acceptRanges), ("strconv.ErrRange", Rows.laid_strconv_ErrRange), ("strconv.ErrSyntax", Rows.laid_strconv_ErrSyntax), ("unicode/utf8.first", Rows.laid_unicode_utf8_first)] W ∧ handlesMet Tryz.prog [("errors.errorType", Rows.laid_errors_errorType)] W := h
theorem errCell_TargetLess {W : World} (h : laidMetH Tryz.prog laidTargetLess W) : ErrCell W := errCell_of_handles (partsTargetLess h).2 (List.mem_singleton.2 rfl)
theorem readsTargetLess {W : World} (h : laidMetH Tryz.prog laidTargetLess W) {n : String} {d : DataW Unit} (hm : (n, d) ∈ ([("math/bits.deBruijn32tab", Rows.laid_math_bits_deBruijn32tab), ("math/bits.deBruijn64tab", Rows.laid_math_bits_deBruijn64tab), ("internal/strconv.uint64pow10", Rows.laid_internal_strconv_uint64pow10), ("unicode/utf8.acceptRanges", Rows.laid_unicode_utf8_acceptRanges), ("strconv.ErrRange", Rows.laid_strconv_ErrRange), ("strconv.ErrSyntax", Rows.laid_strconv_ErrSyntax), ("unicode/utf8.first", Rows.laid_unicode_utf8_first)] : List (String × DataW Unit))) : Go.Lib.VarReads Tryz.prog W n d := Go.Lib.laidMet.reads (partsTargetLess h).1 hm
end Go.Proofs.YtlcadichpcdgpaaGreatDoor
