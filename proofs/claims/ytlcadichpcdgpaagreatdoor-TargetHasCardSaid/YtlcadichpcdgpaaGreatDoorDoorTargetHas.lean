/- TargetHas: the listed variables: a world that meets them, and what they give. -/
import Derived.Test.YtlcadichpcdgpaaGreatDoorCards
import Derived.Test.YtlcadichpcdgpaaGreatDoorDoor
import Derived.Test.YtlcadichpcdgpaaGreatDoorLay
import Derived.Lib.LaidU8
import GoSem.PinnedTables
namespace Go.Proofs.YtlcadichpcdgpaaGreatDoor
open Go.RowKit
def laidTargetHas : List (String × DataW Unit) := [("math/bits.deBruijn32tab", Rows.laid_math_bits_deBruijn32tab), ("math/bits.deBruijn64tab", Rows.laid_math_bits_deBruijn64tab), ("internal/strconv.uint64pow10", Rows.laid_internal_strconv_uint64pow10), ("unicode/utf8.acceptRanges", Rows.laid_unicode_utf8_acceptRanges), ("errors.errorType", Rows.laid_errors_errorType), ("strconv.ErrRange", Rows.laid_strconv_ErrRange), ("strconv.ErrSyntax", Rows.laid_strconv_ErrSyntax), ("unicode/utf8.first", Rows.laid_unicode_utf8_first)]
def plainTargetHas : List (String × DataW Unit) := [("math/bits.deBruijn32tab", Rows.laid_math_bits_deBruijn32tab), ("math/bits.deBruijn64tab", Rows.laid_math_bits_deBruijn64tab), ("internal/strconv.uint64pow10", Rows.laid_internal_strconv_uint64pow10), ("unicode/utf8.acceptRanges", Rows.laid_unicode_utf8_acceptRanges), ("strconv.ErrRange", Rows.laid_strconv_ErrRange), ("strconv.ErrSyntax", Rows.laid_strconv_ErrSyntax), ("unicode/utf8.first", Rows.laid_unicode_utf8_first)]
noncomputable def laidWorldTargetHas (os : Os) : World := (laidWorld os).layVars Tryz.prog plainTargetHas
set_option maxRecDepth 100000 in
theorem laidWorldTargetHas_plain (os : Os) (args : Array Value) : laidMet Tryz.prog plainTargetHas ((laidWorldTargetHas os).forCall (fun _ _ => 0) ⟨#[], args, []⟩).memory := laidMet_lay (w0 := (laidWorld os)) args (by kernel_rfl) (by kernel_rfl)
set_option maxRecDepth 100000 in
theorem laidWorldTargetHas_met (os : Os) (args : Array Value) : laidMetH Tryz.prog laidTargetHas ((laidWorldTargetHas os).forCall (fun _ _ => 0) ⟨#[], args, []⟩).memory :=
  laidMetH_of_parts (laidWorldTargetHas_plain os args) (by kernel_rfl)
theorem laidWorldTargetHas_os (os : Os) : (laidWorldTargetHas os).os = os := World.layVars_os _ _ _
theorem partsTargetHas {W : World} (h : laidMetH Tryz.prog laidTargetHas W) : laidMet Tryz.prog [("math/bits.deBruijn32tab", Rows.laid_math_bits_deBruijn32tab), ("math/bits.deBruijn64tab", Rows.laid_math_bits_deBruijn64tab), ("internal/strconv.uint64pow10", Rows.laid_internal_strconv_uint64pow10), ("unicode/utf8.acceptRanges", Rows.laid_unicode_utf8_acceptRanges), ("strconv.ErrRange", Rows.laid_strconv_ErrRange), ("strconv.ErrSyntax", Rows.laid_strconv_ErrSyntax), ("unicode/utf8.first", Rows.laid_unicode_utf8_first)] W ∧ handlesMet Tryz.prog [("errors.errorType", Rows.laid_errors_errorType)] W := h
theorem errCell_TargetHas {W : World} (h : laidMetH Tryz.prog laidTargetHas W) : ErrCell W := errCell_of_handles (partsTargetHas h).2 (List.mem_singleton.2 rfl)
theorem readsTargetHas {W : World} (h : laidMetH Tryz.prog laidTargetHas W) {n : String} {d : DataW Unit} (hm : (n, d) ∈ ([("math/bits.deBruijn32tab", Rows.laid_math_bits_deBruijn32tab), ("math/bits.deBruijn64tab", Rows.laid_math_bits_deBruijn64tab), ("internal/strconv.uint64pow10", Rows.laid_internal_strconv_uint64pow10), ("unicode/utf8.acceptRanges", Rows.laid_unicode_utf8_acceptRanges), ("strconv.ErrRange", Rows.laid_strconv_ErrRange), ("strconv.ErrSyntax", Rows.laid_strconv_ErrSyntax), ("unicode/utf8.first", Rows.laid_unicode_utf8_first)] : List (String × DataW Unit))) : Go.Lib.VarReads Tryz.prog W n d := Go.Lib.laidMet.reads (partsTargetHas h).1 hm
end Go.Proofs.YtlcadichpcdgpaaGreatDoor
