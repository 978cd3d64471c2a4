/- LA45: several texts in one. -/
import Derived.Lib.LaidU8
import Derived.Test.YtmkebjdmkkjloaaGreatDoorCards
import GoSem.PinnedTables
import Derived.Test.YtmkebjdmkkjloaaGreatDoorLA42
namespace Go.Proofs.YtmkebjdmkkjloaaGreatDoor
open Go.RowKit
def laidLoginNames : List (String × DataW Unit) := [("math/bits.deBruijn32tab", Rows.laid_math_bits_deBruijn32tab), ("math/bits.deBruijn64tab", Rows.laid_math_bits_deBruijn64tab), ("internal/strconv.uint64pow10", Rows.laid_internal_strconv_uint64pow10), ("unicode/utf8.acceptRanges", Rows.laid_unicode_utf8_acceptRanges), ("errors.errorType", Rows.laid_errors_errorType), ("strconv.ErrRange", Rows.laid_strconv_ErrRange), ("strconv.ErrSyntax", Rows.laid_strconv_ErrSyntax), ("quaymaster/md5.numbers", Rows.laid_quaymaster_md5_numbers), ("quaymaster/md5.turns", Rows.laid_quaymaster_md5_turns), ("unicode/utf8.first", Rows.laid_unicode_utf8_first)]
def plainLoginNames : List (String × DataW Unit) := [("math/bits.deBruijn32tab", Rows.laid_math_bits_deBruijn32tab), ("math/bits.deBruijn64tab", Rows.laid_math_bits_deBruijn64tab), ("internal/strconv.uint64pow10", Rows.laid_internal_strconv_uint64pow10), ("unicode/utf8.acceptRanges", Rows.laid_unicode_utf8_acceptRanges), ("strconv.ErrRange", Rows.laid_strconv_ErrRange), ("strconv.ErrSyntax", Rows.laid_strconv_ErrSyntax), ("quaymaster/md5.numbers", Rows.laid_quaymaster_md5_numbers), ("quaymaster/md5.turns", Rows.laid_quaymaster_md5_turns), ("unicode/utf8.first", Rows.laid_unicode_utf8_first)]
noncomputable def laidWorldLoginNames (os : Os) : World := (laidWorld os).layVars Tryz.prog plainLoginNames
set_option maxRecDepth 100000 in
theorem laidWorldLoginNames_plain (os : Os) (args : Array Value) : laidMet Tryz.prog plainLoginNames ((laidWorldLoginNames os).forCall (fun _ _ => 0) ⟨#[], args, []⟩).memory := laidMet_lay (w0 := (laidWorld os)) args (by kernel_rfl) (by kernel_rfl)
set_option maxRecDepth 100000 in
theorem laidWorldLoginNames_met (os : Os) (args : Array Value) : laidMetH Tryz.prog laidLoginNames ((laidWorldLoginNames os).forCall (fun _ _ => 0) ⟨#[], args, []⟩).memory :=
 laidMetH_of_parts (laidWorldLoginNames_plain os args) (by kernel_rfl)
theorem laidWorldLoginNames_os (os : Os) : (laidWorldLoginNames os).os = os := World.layVars_os _ _ _
theorem partsLoginNames {W : World} (h : laidMetH Tryz.prog laidLoginNames W) : laidMet Tryz.prog [("math/bits.deBruijn32tab", Rows.laid_math_bits_deBruijn32tab), ("math/bits.deBruijn64tab", Rows.laid_math_bits_deBruijn64tab), ("internal/strconv.uint64pow10", Rows.laid_internal_strconv_uint64pow10), ("unicode/utf8.acceptRanges", Rows.laid_unicode_utf8_acceptRanges), ("strconv.ErrRange", Rows.laid_strconv_ErrRange), ("strconv.ErrSyntax", Rows.laid_strconv_ErrSyntax), ("quaymaster/md5.numbers", Rows.laid_quaymaster_md5_numbers), ("quaymaster/md5.turns", Rows.laid_quaymaster_md5_turns), ("unicode/utf8.first", Rows.laid_unicode_utf8_first)] W ∧ handlesMet Tryz.prog [("errors.errorType", Rows.laid_errors_errorType)] W := h
theorem errCell_LoginNames {W : World} (h : laidMetH Tryz.prog laidLoginNames W) : ErrCell W := errCell_of_handles (partsLoginNames h).2 (List.mem_singleton.2 rfl)
theorem readsLoginNames {W : World} (h : laidMetH Tryz.prog laidLoginNames W) {n : String} {d : DataW Unit} (hm : (n, d) ∈ ([("math/bits.deBruijn32tab", Rows.laid_math_bits_deBruijn32tab), ("math/bits.deBruijn64tab", Rows.laid_math_bits_deBruijn64tab), ("internal/strconv.uint64pow10", Rows.laid_internal_strconv_uint64pow10), ("unicode/utf8.acceptRanges", Rows.laid_unicode_utf8_acceptRanges), ("strconv.ErrRange", Rows.laid_strconv_ErrRange), ("strconv.ErrSyntax", Rows.laid_strconv_ErrSyntax), ("quaymaster/md5.numbers", Rows.laid_quaymaster_md5_numbers), ("quaymaster/md5.turns", Rows.laid_quaymaster_md5_turns), ("unicode/utf8.first", Rows.laid_unicode_utf8_first)] : List (String × DataW Unit))) : Go.Lib.VarReads Tryz.prog W n d := Go.Lib.laidMet.reads (partsLoginNames h).1 hm
theorem tabsLoginNames {W : World} (h : laidMetH Tryz.prog laidLoginNames W) : MdTabs W := mdTabs_of_reads (readsLoginNames h (by simp)) (readsLoginNames h (by simp))
end Go.Proofs.YtmkebjdmkkjloaaGreatDoor
