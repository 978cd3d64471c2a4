/- ChapUsers: the listed variables: a world that meets them, and what they give. -/
import Derived.Test.YtoponmdfjbhnoaaDoorCards
import Derived.Test.YtoponmdfjbhnoaaDoorDoor
import Derived.Test.YtoponmdfjbhnoaaDoorLay
import Derived.Lib.LaidU8
import GoSem.PinnedTables
import Derived.Test.YtoponmdfjbhnoaaDoorMd5Tabs
namespace Go.Proofs.YtoponmdfjbhnoaaDoor
open Go.RowKit
def laidChapUsers : List (String × DataW Unit) := [("errors.errorType", Rows.laid_errors_errorType), ("quaymaster/md5.numbers", Rows.laid_quaymaster_md5_numbers), ("quaymaster/md5.turns", Rows.laid_quaymaster_md5_turns)]
def plainChapUsers : List (String × DataW Unit) := [("quaymaster/md5.numbers", Rows.laid_quaymaster_md5_numbers), ("quaymaster/md5.turns", Rows.laid_quaymaster_md5_turns)]
noncomputable def laidWorldChapUsers (os : Os) : World := (laidWorld os).layVars Tryd.prog plainChapUsers
set_option maxRecDepth 100000 in
theorem laidWorldChapUsers_plain (os : Os) (args : Array Value) : laidMet Tryd.prog plainChapUsers ((laidWorldChapUsers os).forCall (fun _ _ => 0) ⟨#[], args, []⟩).memory := laidMet_lay (w0 := (laidWorld os)) args (by kernel_rfl) (by kernel_rfl)
set_option maxRecDepth 100000 in
theorem laidWorldChapUsers_met (os : Os) (args : Array Value) : laidMetH Tryd.prog laidChapUsers ((laidWorldChapUsers os).forCall (fun _ _ => 0) ⟨#[], args, []⟩).memory :=
  laidMetH_of_parts (laidWorldChapUsers_plain os args) (by kernel_rfl)
theorem laidWorldChapUsers_os (os : Os) : (laidWorldChapUsers os).os = os := World.layVars_os _ _ _
theorem partsChapUsers {W : World} (h : laidMetH Tryd.prog laidChapUsers W) : laidMet Tryd.prog [("quaymaster/md5.numbers", Rows.laid_quaymaster_md5_numbers), ("quaymaster/md5.turns", Rows.laid_quaymaster_md5_turns)] W ∧ handlesMet Tryd.prog [("errors.errorType", Rows.laid_errors_errorType)] W := h
theorem errCell_ChapUsers {W : World} (h : laidMetH Tryd.prog laidChapUsers W) : ErrCell W := errCell_of_handles (partsChapUsers h).2 (List.mem_singleton.2 rfl)
theorem readsChapUsers {W : World} (h : laidMetH Tryd.prog laidChapUsers W) {n : String} {d : DataW Unit} (hm : (n, d) ∈ ([("quaymaster/md5.numbers", Rows.laid_quaymaster_md5_numbers), ("quaymaster/md5.turns", Rows.laid_quaymaster_md5_turns)] : List (String × DataW Unit))) : Go.Lib.VarReads Tryd.prog W n d := Go.Lib.laidMet.reads (partsChapUsers h).1 hm
theorem tabsChapUsers {W : World} (h : laidMetH Tryd.prog laidChapUsers W) : MdTabs W := mdTabs_of_reads (readsChapUsers h (by simp)) (readsChapUsers h (by simp))
end Go.Proofs.YtoponmdfjbhnoaaDoor
