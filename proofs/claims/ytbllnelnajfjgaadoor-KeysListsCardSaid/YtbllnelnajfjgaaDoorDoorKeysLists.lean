/- KeysLists: the listed variables: a world that meets them, and what they give. -/
import Derived.Test.YtbllnelnajfjgaaDoorCards
import Derived.Test.YtbllnelnajfjgaaDoorDoor
import Derived.Test.YtbllnelnajfjgaaDoorLay
import Derived.Lib.LaidU8
import GoSem.PinnedTables
namespace Go.Proofs.YtbllnelnajfjgaaDoor
open Go.RowKit
def laidKeysLists : List (String × DataW Unit) := [("math/bits.deBruijn32tab", Rows.laid_math_bits_deBruijn32tab), ("math/bits.deBruijn64tab", Rows.laid_math_bits_deBruijn64tab), ("internal/strconv.uint64pow10", Rows.laid_internal_strconv_uint64pow10), ("unicode/utf8.acceptRanges", Rows.laid_unicode_utf8_acceptRanges), ("errors.errorType", Rows.laid_errors_errorType), ("strconv.ErrRange", Rows.laid_strconv_ErrRange), ("strconv.ErrSyntax", Rows.laid_strconv_ErrSyntax), ("unicode/utf8.first", Rows.laid_unicode_utf8_first)]
def plainKeysLists : List (String × DataW Unit) := [("math/bits.deBruijn32tab", Rows.laid_math_bits_deBruijn32tab), ("math/bits.deBruijn64tab", Rows.laid_math_bits_deBruijn64tab), ("internal/strconv.uint64pow10", Rows.laid_internal_strconv_uint64pow10), ("unicode/utf8.acceptRanges", Rows.laid_unicode_utf8_acceptRanges), ("strconv.ErrRange", Rows.laid_strconv_ErrRange), ("strconv.ErrSyntax", Rows.laid_strconv_ErrSyntax), ("unicode/utf8.first", Rows.laid_unicode_utf8_first)]
noncomputable def laidWorldKeysLists (os : Os) : World := (laidWorld os).layVars Tryd.prog plainKeysLists
set_option maxRecDepth 100000 in
theorem laidWorldKeysLists_plain (os : Os) (args : Array Value) : laidMet Tryd.prog plainKeysLists ((laidWorldKeysLists os).forCall (fun _ _ => 0) ⟨#[], args, []⟩).memory := laidMet_lay (w0 := (laidWorld os)) args (by kernel_rfl) (by kernel_rfl)
set_option maxRecDepth 100000 in
theorem laidWorldKeysLists_met (os : Os) (args : Array Value) : laidMetH Tryd.prog laidKeysLists ((laidWorldKeysLists os).forCall (fun _ _ => 0) ⟨#[], args, []⟩).memory :=
  laidMetH_of_parts (laidWorldKeysLists_plain os args) (by kernel_rfl)
theorem laidWorldKeysLists_os (os : Os) : (laidWorldKeysLists os).os = os := World.layVars_os _ _ _
theorem partsKeysLists {W : World} (h : laidMetH Tryd.prog laidKeysLists W) : laidMet Tryd.prog [("math/bits.deBruijn32tab", Rows.laid_math_bits_deBruijn32tab), ("math/bits.deBruijn64tab", Rows.laid_math_bits_deBruijn64tab), ("internal/strconv.uint64pow10", Rows.laid_internal_strconv_uint64pow10), ("unicode/utf8.acceptRanges", Rows.laid_unicode_utf8_acceptRanges), ("strconv.ErrRange", Rows.laid_strconv_ErrRange), ("strconv.ErrSyntax", Rows.laid_strconv_ErrSyntax), ("unicode/utf8.first", Rows.laid_unicode_utf8_first)] W ∧ handlesMet Tryd.prog [("errors.errorType", Rows.laid_errors_errorType)] W := h
theorem errCell_KeysLists {W : World} (h : laidMetH Tryd.prog laidKeysLists W) : ErrCell W := errCell_of_handles (partsKeysLists h).2 (List.mem_singleton.2 rfl)
theorem readsKeysLists {W : World} (h : laidMetH Tryd.prog laidKeysLists W) {n : String} {d : DataW Unit} (hm : (n, d) ∈ ([("math/bits.deBruijn32tab", Rows.laid_math_bits_deBruijn32tab), ("math/bits.deBruijn64tab", Rows.laid_math_bits_deBruijn64tab), ("internal/strconv.uint64pow10", Rows.laid_internal_strconv_uint64pow10), ("unicode/utf8.acceptRanges", Rows.laid_unicode_utf8_acceptRanges), ("strconv.ErrRange", Rows.laid_strconv_ErrRange), ("strconv.ErrSyntax", Rows.laid_strconv_ErrSyntax), ("unicode/utf8.first", Rows.laid_unicode_utf8_first)] : List (String × DataW Unit))) : Go.Lib.VarReads Tryd.prog W n d := Go.Lib.laidMet.reads (partsKeysLists h).1 hm
end Go.Proofs.YtbllnelnajfjgaaDoor
