/- ChapChecks: the listed variables: a world that meets them, and what they give. -/
import Derived.Test.YtoponmdfjbhnoaaGreatDoorCards
import Derived.Test.YtoponmdfjbhnoaaGreatDoorDoor
import Derived.Test.YtoponmdfjbhnoaaGreatDoorLay
import Derived.Lib.LaidU8
import GoSem.PinnedTables
import Derived.Test.YtoponmdfjbhnoaaGreatDoorMd5Tabs
import Derived.Test.YtoponmdfjbhnoaaGreatDoorTurnTabs
namespace Go.Proofs.YtoponmdfjbhnoaaGreatDoor
open Go.RowKit
def laidChapChecks : List (String × DataW Unit) := [("math/bits.deBruijn32tab", Rows.laid_math_bits_deBruijn32tab), ("math/bits.deBruijn64tab", Rows.laid_math_bits_deBruijn64tab), ("internal/strconv.uint64pow10", Rows.laid_internal_strconv_uint64pow10), ("unicode/utf8.acceptRanges", Rows.laid_unicode_utf8_acceptRanges), ("errors.errorType", Rows.laid_errors_errorType), ("strconv.ErrRange", Rows.laid_strconv_ErrRange), ("strconv.ErrSyntax", Rows.laid_strconv_ErrSyntax), ("quaymaster/md5.numbers", Rows.laid_quaymaster_md5_numbers), ("quaymaster/md5.turns", Rows.laid_quaymaster_md5_turns), ("unicode.CaseRanges", Rows.laid_unicode_CaseRanges), ("unicode/utf8.first", Rows.laid_unicode_utf8_first)]
def plainChapChecks : List (String × DataW Unit) := [("math/bits.deBruijn32tab", Rows.laid_math_bits_deBruijn32tab), ("math/bits.deBruijn64tab", Rows.laid_math_bits_deBruijn64tab), ("internal/strconv.uint64pow10", Rows.laid_internal_strconv_uint64pow10), ("unicode/utf8.acceptRanges", Rows.laid_unicode_utf8_acceptRanges), ("strconv.ErrRange", Rows.laid_strconv_ErrRange), ("strconv.ErrSyntax", Rows.laid_strconv_ErrSyntax), ("quaymaster/md5.numbers", Rows.laid_quaymaster_md5_numbers), ("quaymaster/md5.turns", Rows.laid_quaymaster_md5_turns), ("unicode.CaseRanges", Rows.laid_unicode_CaseRanges), ("unicode/utf8.first", Rows.laid_unicode_utf8_first)]
noncomputable def laidWorldChapChecks (os : Os) : World := (laidWorld os).layVars Tryz.prog plainChapChecks
set_option maxRecDepth 100000 in
theorem laidWorldChapChecks_plain (os : Os) (args : Array Value) : laidMet Tryz.prog plainChapChecks ((laidWorldChapChecks os).forCall (fun _ _ => 0) ⟨#[], args, []⟩).memory := laidMet_lay (w0 := (laidWorld os)) args (by kernel_rfl) (by kernel_rfl)
set_option maxRecDepth 100000 in
theorem laidWorldChapChecks_met (os : Os) (args : Array Value) : laidMetH Tryz.prog laidChapChecks ((laidWorldChapChecks os).forCall (fun _ _ => 0) ⟨#[], args, []⟩).memory :=
  laidMetH_of_parts (laidWorldChapChecks_plain os args) (by kernel_rfl)
theorem laidWorldChapChecks_os (os : Os) : (laidWorldChapChecks os).os = os := World.layVars_os _ _ _
theorem partsChapChecks {W : World} (h : laidMetH Tryz.prog laidChapChecks W) : laidMet Tryz.prog [("math/bits.deBruijn32tab", Rows.laid_math_bits_deBruijn32tab), ("math/bits.deBruijn64tab", Rows.laid_math_bits_deBruijn64tab), ("internal/strconv.uint64pow10", Rows.laid_internal_strconv_uint64pow10), ("unicode/utf8.acceptRanges", Rows.laid_unicode_utf8_acceptRanges), ("strconv.ErrRange", Rows.laid_strconv_ErrRange), ("strconv.ErrSyntax", Rows.laid_strconv_ErrSyntax), ("quaymaster/md5.numbers", Rows.laid_quaymaster_md5_numbers), ("quaymaster/md5.turns", Rows.laid_quaymaster_md5_turns), ("unicode.CaseRanges", Rows.laid_unicode_CaseRanges), ("unicode/utf8.first", Rows.laid_unicode_utf8_first)] W ∧ handlesMet Tryz.prog [("errors.errorType", Rows.laid_errors_errorType)] W := h
theorem errCell_ChapChecks {W : World} (h : laidMetH Tryz.prog laidChapChecks W) : ErrCell W := errCell_of_handles (partsChapChecks h).2 (List.mem_singleton.2 rfl)
theorem readsChapChecks {W : World} (h : laidMetH Tryz.prog laidChapChecks W) {n : String} {d : DataW Unit} (hm : (n, d) ∈ ([("math/bits.deBruijn32tab", Rows.laid_math_bits_deBruijn32tab), ("math/bits.deBruijn64tab", Rows.laid_math_bits_deBruijn64tab), ("internal/strconv.uint64pow10", Rows.laid_internal_strconv_uint64pow10), ("unicode/utf8.acceptRanges", Rows.laid_unicode_utf8_acceptRanges), ("strconv.ErrRange", Rows.laid_strconv_ErrRange), ("strconv.ErrSyntax", Rows.laid_strconv_ErrSyntax), ("quaymaster/md5.numbers", Rows.laid_quaymaster_md5_numbers), ("quaymaster/md5.turns", Rows.laid_quaymaster_md5_turns), ("unicode.CaseRanges", Rows.laid_unicode_CaseRanges), ("unicode/utf8.first", Rows.laid_unicode_utf8_first)] : List (String × DataW Unit))) : Go.Lib.VarReads Tryz.prog W n d := Go.Lib.laidMet.reads (partsChapChecks h).1 hm
theorem tabsChapChecks {W : World} (h : laidMetH Tryz.prog laidChapChecks W) : MdTabs W := mdTabs_of_reads (readsChapChecks h (by simp)) (readsChapChecks h (by simp))
theorem lowChapChecks {W : World} (h : laidMetH Tryz.prog laidChapChecks W) : LowT W := lowT_of_reads (readsChapChecks h (by simp)) (readsChapChecks h (by simp)) (readsChapChecks h (by simp))
theorem bruijnChapChecks {W : World} (h : laidMetH Tryz.prog laidChapChecks W) : BruijnT W := bruijn_of_reads (readsChapChecks h (by simp))
end Go.Proofs.YtoponmdfjbhnoaaGreatDoor
