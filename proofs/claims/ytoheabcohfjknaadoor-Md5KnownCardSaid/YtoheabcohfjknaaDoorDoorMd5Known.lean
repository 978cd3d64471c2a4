/- Md5Known: the listed variables: a world that meets them, and what they give. -/
import Derived.Test.YtoheabcohfjknaaDoorCards
import Derived.Test.YtoheabcohfjknaaDoorBase
import Derived.LaidLaws
import Derived.LaidHandle
import Derived.Stop.Joined
import Derived.Test.YtoheabcohfjknaaDoorLay
import Derived.Lib.LaidU8
import GoSem.PinnedTables
import Derived.Test.YtoheabcohfjknaaDoorMd5Tabs
namespace Go.Proofs.YtoheabcohfjknaaDoor
open Go.RowKit
def laidMd5Known : List (String × DataW Unit) := [("quaymaster/md5.numbers", Rows.laid_quaymaster_md5_numbers), ("quaymaster/md5.turns", Rows.laid_quaymaster_md5_turns)]
def plainMd5Known : List (String × DataW Unit) := [("quaymaster/md5.numbers", Rows.laid_quaymaster_md5_numbers), ("quaymaster/md5.turns", Rows.laid_quaymaster_md5_turns)]
noncomputable def laidWorldMd5Known (os : Os) : World := (World.holding Tryd.prog os ⟨#[], #[], []⟩).layVars Tryd.prog plainMd5Known
set_option maxRecDepth 100000 in
theorem laidWorldMd5Known_plain (os : Os) (args : Array Value) : laidMet Tryd.prog plainMd5Known ((laidWorldMd5Known os).forCall (fun _ _ => 0) ⟨#[], args, []⟩).memory := laidMet_lay (w0 := (World.holding Tryd.prog os ⟨#[], #[], []⟩)) args (by kernel_rfl) (by kernel_rfl)
set_option maxRecDepth 100000 in
theorem laidWorldMd5Known_met (os : Os) (args : Array Value) : laidMetH Tryd.prog laidMd5Known ((laidWorldMd5Known os).forCall (fun _ _ => 0) ⟨#[], args, []⟩).memory :=
  laidMetH_of_parts (laidWorldMd5Known_plain os args) (by kernel_rfl)
theorem laidWorldMd5Known_os (os : Os) : (laidWorldMd5Known os).os = os := World.layVars_os _ _ _
theorem partsMd5Known {W : World} (h : laidMetH Tryd.prog laidMd5Known W) : laidMet Tryd.prog [("quaymaster/md5.numbers", Rows.laid_quaymaster_md5_numbers), ("quaymaster/md5.turns", Rows.laid_quaymaster_md5_turns)] W ∧ True := ⟨h, trivial⟩
theorem readsMd5Known {W : World} (h : laidMetH Tryd.prog laidMd5Known W) {n : String} {d : DataW Unit} (hm : (n, d) ∈ ([("quaymaster/md5.numbers", Rows.laid_quaymaster_md5_numbers), ("quaymaster/md5.turns", Rows.laid_quaymaster_md5_turns)] : List (String × DataW Unit))) : Go.Lib.VarReads Tryd.prog W n d := Go.Lib.laidMet.reads (partsMd5Known h).1 hm
theorem tabsMd5Known {W : World} (h : laidMetH Tryd.prog laidMd5Known W) : MdTabs W := mdTabs_of_reads (readsMd5Known h (by simp)) (readsMd5Known h (by simp))
end Go.Proofs.YtoheabcohfjknaaDoor
