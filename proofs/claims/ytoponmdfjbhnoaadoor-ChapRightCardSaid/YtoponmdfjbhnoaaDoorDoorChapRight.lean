/- ChapRight: the listed variables: a world that meets them, and what they give. -/
import Derived.Test.YtoponmdfjbhnoaaDoorCards
import Derived.Test.YtoponmdfjbhnoaaDoorDoor
import Derived.Test.YtoponmdfjbhnoaaDoorLay
import Derived.Lib.LaidU8
import GoSem.PinnedTables
import Derived.Test.YtoponmdfjbhnoaaDoorMd5Tabs
namespace Go.Proofs.YtoponmdfjbhnoaaDoor
open Go.RowKit
def laidChapRight : List (String × DataW Unit) := [("errors.errorType", Rows.laid_errors_errorType), ("quaymaster/md5.numbers", Rows.laid_quaymaster_md5_numbers), ("quaymaster/md5.turns", Rows.laid_quaymaster_md5_turns)]
def plainChapRight : List (String × DataW Unit) := [("quaymaster/md5.numbers", Rows.laid_quaymaster_md5_numbers), ("quaymaster/md5.turns", Rows.laid_quaymaster_md5_turns)]
noncomputable def laidWorldChapRight (os : Os) : World := (laidWorld os).layVars Tryd.prog plainChapRight
set_option maxRecDepth 100000 in
theorem laidWorldChapRight_plain (os : Os) (args : Array Value) : laidMet Tryd.prog plainChapRight ((laidWorldChapRight os).forCall (fun _ _ => 0) ⟨#[], args, []⟩).memory := laidMet_lay (w0 := (laidWorld os)) args (by kernel_rfl) (by kernel_rfl)
set_option maxRecDepth 100000 in
theorem laidWorldChapRight_met (os : Os) (args : Array Value) : laidMetH Tryd.prog laidChapRight ((laidWorldChapRight os).forCall (fun _ _ => 0) ⟨#[], args, []⟩).memory :=
  laidMetH_of_parts (laidWorldChapRight_plain os args) (by kernel_rfl)
theorem laidWorldChapRight_os (os : Os) : (laidWorldChapRight os).os = os := World.layVars_os _ _ _
theorem partsChapRight {W : World} (h : laidMetH Tryd.prog laidChapRight W) : laidMet Tryd.prog [("quaymaster/md5.numbers", Rows.laid_quaymaster_md5_numbers), ("quaymaster/md5.turns", Rows.laid_quaymaster_md5_turns)] W ∧ handlesMet Tryd.prog [("errors.errorType", Rows.laid_errors_errorType)] W := h
theorem errCell_ChapRight {W : World} (h : laidMetH Tryd.prog laidChapRight W) : ErrCell W := errCell_of_handles (partsChapRight h).2 (List.mem_singleton.2 rfl)
theorem readsChapRight {W : World} (h : laidMetH Tryd.prog laidChapRight W) {n : String} {d : DataW Unit} (hm : (n, d) ∈ ([("quaymaster/md5.numbers", Rows.laid_quaymaster_md5_numbers), ("quaymaster/md5.turns", Rows.laid_quaymaster_md5_turns)] : List (String × DataW Unit))) : Go.Lib.VarReads Tryd.prog W n d := Go.Lib.laidMet.reads (partsChapRight h).1 hm
theorem tabsChapRight {W : World} (h : laidMetH Tryd.prog laidChapRight W) : MdTabs W := mdTabs_of_reads (readsChapRight h (by simp)) (readsChapRight h (by simp))
end Go.Proofs.YtoponmdfjbhnoaaDoor
