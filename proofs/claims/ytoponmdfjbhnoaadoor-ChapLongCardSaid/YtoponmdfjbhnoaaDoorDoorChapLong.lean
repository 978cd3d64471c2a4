/- ChapLong: the listed variables: a world that meets them, and what they give. -/
import Derived.Test.YtoponmdfjbhnoaaDoorCards
import Derived.Test.YtoponmdfjbhnoaaDoorDoor
import Derived.Test.YtoponmdfjbhnoaaDoorLay
import Derived.Lib.LaidU8
import GoSem.PinnedTables
import Derived.Test.YtoponmdfjbhnoaaDoorMd5Tabs
namespace Go.Proofs.YtoponmdfjbhnoaaDoor
open Go.RowKit
def laidChapLong : List (String × DataW Unit) := [("errors.errorType", Rows.laid_errors_errorType), ("quaymaster/md5.numbers", Rows.laid_quaymaster_md5_numbers), ("quaymaster/md5.turns", Rows.laid_quaymaster_md5_turns)]
def plainChapLong : List (String × DataW Unit) := [("quaymaster/md5.numbers", Rows.laid_quaymaster_md5_numbers), ("quaymaster/md5.turns", Rows.laid_quaymaster_md5_turns)]
noncomputable def laidWorldChapLong (os : Os) : World := (laidWorld os).layVars Tryd.prog plainChapLong
set_option maxRecDepth 100000 in
theorem laidWorldChapLong_plain (os : Os) (args : Array Value) : laidMet Tryd.prog plainChapLong ((laidWorldChapLong os).forCall (fun _ _ => 0) ⟨#[], args, []⟩).memory := laidMet_lay (w0 := (laidWorld os)) args (by kernel_rfl) (by kernel_rfl)
set_option maxRecDepth 100000 in
theorem laidWorldChapLong_met (os : Os) (args : Array Value) : laidMetH Tryd.prog laidChapLong ((laidWorldChapLong os).forCall (fun _ _ => 0) ⟨#[], args, []⟩).memory :=
  laidMetH_of_parts (laidWorldChapLong_plain os args) (by kernel_rfl)
theorem laidWorldChapLong_os (os : Os) : (laidWorldChapLong os).os = os := World.layVars_os _ _ _
theorem partsChapLong {W : World} (h : laidMetH Tryd.prog laidChapLong W) : laidMet Tryd.prog [("quaymaster/md5.numbers", Rows.laid_quaymaster_md5_numbers), ("quaymaster/md5.turns", Rows.laid_quaymaster_md5_turns)] W ∧ handlesMet Tryd.prog [("errors.errorType", Rows.laid_errors_errorType)] W := h
theorem errCell_ChapLong {W : World} (h : laidMetH Tryd.prog laidChapLong W) : ErrCell W := errCell_of_handles (partsChapLong h).2 (List.mem_singleton.2 rfl)
theorem readsChapLong {W : World} (h : laidMetH Tryd.prog laidChapLong W) {n : String} {d : DataW Unit} (hm : (n, d) ∈ ([("quaymaster/md5.numbers", Rows.laid_quaymaster_md5_numbers), ("quaymaster/md5.turns", Rows.laid_quaymaster_md5_turns)] : List (String × DataW Unit))) : Go.Lib.VarReads Tryd.prog W n d := Go.Lib.laidMet.reads (partsChapLong h).1 hm
theorem tabsChapLong {W : World} (h : laidMetH Tryd.prog laidChapLong W) : MdTabs W := mdTabs_of_reads (readsChapLong h (by simp)) (readsChapLong h (by simp))
end Go.Proofs.YtoponmdfjbhnoaaDoor
