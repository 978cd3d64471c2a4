/- Md5Sums: the listed variables: a world that meets them, and what they give. -/
import Derived.Test.YtoheabcohfjknaaDoorCards
import Derived.Test.YtoheabcohfjknaaDoorBase
import Derived.LaidLaws
import Derived.LaidHandle
import Derived.Stop.Joined
import Derived.Test.YtoheabcohfjknaaDoorLay
import Derived.Test.YtoheabcohfjknaaDoorMd5Tabs
import Derived.Lib.LaidU8
import GoSem.PinnedTables
namespace Go.Proofs.YtoheabcohfjknaaDoor
open Go.RowKit
def laidMd5Sums : List (String × DataW Unit) := [("math/bits.deBruijn32tab", Rows.laid_math_bits_deBruijn32tab), ("math/bits.deBruijn64tab", Rows.laid_math_bits_deBruijn64tab), ("internal/strconv.uint64pow10", Rows.laid_internal_strconv_uint64pow10), ("strconv.ErrRange", Rows.laid_strconv_ErrRange), ("strconv.ErrSyntax", Rows.laid_strconv_ErrSyntax), ("quaymaster/md5.numbers", Rows.laid_quaymaster_md5_numbers), ("quaymaster/md5.turns", Rows.laid_quaymaster_md5_turns)]
def plainMd5Sums : List (String × DataW Unit) := [("math/bits.deBruijn32tab", Rows.laid_math_bits_deBruijn32tab), ("math/bits.deBruijn64tab", Rows.laid_math_bits_deBruijn64tab), ("internal/strconv.uint64pow10", Rows.laid_internal_strconv_uint64pow10), ("strconv.ErrRange", Rows.laid_strconv_ErrRange), ("strconv.ErrSyntax", Rows.laid_strconv_ErrSyntax), ("quaymaster/md5.numbers", Rows.laid_quaymaster_md5_numbers), ("quaymaster/md5.turns", Rows.laid_quaymaster_md5_turns)]
noncomputable def laidWorldMd5Sums (os : Os) : World := (World.holding Tryd.prog os ⟨#[], #[], []⟩).layVars Tryd.prog plainMd5Sums
set_option maxRecDepth 100000 in
theorem laidWorldMd5Sums_plain (os : Os) (args : Array Value) : laidMet Tryd.prog plainMd5Sums ((laidWorldMd5Sums os).forCall (fun _ _ => 0) ⟨#[], args, []⟩).memory := laidMet_lay (w0 := (World.holding Tryd.prog os ⟨#[], #[], []⟩)) args (by kernel_rfl) (by kernel_rfl)
set_option maxRecDepth 100000 in
theorem laidWorldMd5Sums_met (os : Os) (args : Array Value) : laidMetH Tryd.prog laidMd5Sums ((laidWorldMd5Sums os).forCall (fun _ _ => 0) ⟨#[], args, []⟩).memory :=
  laidMetH_of_parts (laidWorldMd5Sums_plain os args) (by kernel_rfl)
theorem laidWorldMd5Sums_os (os : Os) : (laidWorldMd5Sums os).os = os := World.layVars_os _ _ _
theorem partsMd5Sums {W : World} (h : laidMetH Tryd.prog laidMd5Sums W) : laidMet Tryd.prog [("math/bits.deBruijn32tab", Rows.laid_math_bits_deBruijn32tab), ("math/bits.deBruijn64tab", Rows.laid_math_bits_deBruijn64tab), ("internal/strconv.uint64pow10", Rows.laid_internal_strconv_uint64pow10), ("strconv.ErrRange", Rows.laid_strconv_ErrRange), ("strconv.ErrSyntax", Rows.laid_strconv_ErrSyntax), ("quaymaster/md5.numbers", Rows.laid_quaymaster_md5_numbers), ("quaymaster/md5.turns", Rows.laid_quaymaster_md5_turns)] W ∧ True := ⟨h, trivial⟩
theorem readsMd5Sums {W : World} (h : laidMetH Tryd.prog laidMd5Sums W) {n : String} {d : DataW Unit} (hm : (n, d) ∈ ([("math/bits.deBruijn32tab", Rows.laid_math_bits_deBruijn32tab), ("math/bits.deBruijn64tab", Rows.laid_math_bits_deBruijn64tab), ("internal/strconv.uint64pow10", Rows.laid_internal_strconv_uint64pow10), ("strconv.ErrRange", Rows.laid_strconv_ErrRange), ("strconv.ErrSyntax", Rows.laid_strconv_ErrSyntax), ("quaymaster/md5.numbers", Rows.laid_quaymaster_md5_numbers), ("quaymaster/md5.turns", Rows.laid_quaymaster_md5_turns)] : List (String × DataW Unit))) : Go.Lib.VarReads Tryd.prog W n d := Go.Lib.laidMet.reads (partsMd5Sums h).1 hm
theorem tabsMd5Sums {W : World} (h : laidMetH Tryd.prog laidMd5Sums W) : MdTabs W := mdTabs_of_reads (readsMd5Sums h (by simp)) (readsMd5Sums h (by simp))
end Go.Proofs.YtoheabcohfjknaaDoor
