/- md5's two tables, as a row's condition has them. -/
import Derived.Test.YtoponmdfjbhnoaaGreatDoorMd5Stir
import Derived.Test.YtoponmdfjbhnoaaGreatDoorCards
import Derived.Lib.LaidU8
namespace Go.Proofs.YtoponmdfjbhnoaaGreatDoor
open Go.RowKit
theorem mdNumbers : (Rows.laid_quaymaster_md5_numbers : DataW Unit) = Go.Lib.tabData .u32 (mK.map fun (n : Nat) => (n : Int)) := by kernel_rfl
theorem mdTurns : (Rows.laid_quaymaster_md5_turns : DataW Unit) = .agg ((List.range 4).map fun i => Go.Lib.tabData .i64 (((mSl.drop (i * 4)).take 4).map fun (n : Nat) => (n : Int))) := by kernel_rfl
theorem mK_len : mK.length = 64 := by kernel_rfl
theorem mSl_len : mSl.length = 16 := by kernel_rfl
set_option maxRecDepth 100000 in
theorem mdTabs_of_reads {W : World} (h1 : Go.Lib.VarReads Tryz.prog W "quaymaster/md5.numbers" Rows.laid_quaymaster_md5_numbers) (h2 : Go.Lib.VarReads Tryz.prog W "quaymaster/md5.turns" Rows.laid_quaymaster_md5_turns) : MdTabs W := by
  rw [mdNumbers] at h1
  rw [mdTurns] at h2
  refine ⟨fun i hi => ?_, fun j hj => ?_⟩
  · obtain ⟨g, t, cs, fuel, p, hg, hty, hvar, hd⟩ := h1
    obtain rfl : 1 = g := Option.some.inj ((show Tryz.prog.globalNamed "quaymaster/md5.numbers" = some 1 by kernel_rfl).symm.trans hg)
    obtain rfl : 118 = t := Option.some.inj ((show (Tryz.prog.globals[1]?).map (·.type) = some 118 by kernel_rfl).symm.trans hty)
    have hcs := Go.Lib.cells_of_tab (n := 64) (e := 55) (by kernel_rfl) (by kernel_rfl) (by kernel_rfl) (by kernel_rfl) hd
    have := World.var?_cell hg hvar i
    rw [this, ← Array.getElem?_toList, hcs]
    have hl := mK_len
    rw [List.getElem?_map, List.getElem?_map, List.getElem?_eq_getElem (by omega), List.getD_eq_getElem?_getD, List.getElem?_eq_getElem (by omega)]
    rfl
  · obtain ⟨g, t, cs, fuel, p, hg, hty, hvar, hd⟩ := h2
    obtain rfl : 2 = g := Option.some.inj ((show Tryz.prog.globalNamed "quaymaster/md5.turns" = some 2 by kernel_rfl).symm.trans hg)
    obtain rfl : 120 = t := Option.some.inj ((show (Tryz.prog.globals[2]?).map (·.type) = some 120 by kernel_rfl).symm.trans hty)
    obtain ⟨fuel', d, q, hd1, hd2⟩ := Go.Lib.array_elem (n := 4) (e := 119) (by kernel_rfl) hd (j / 4) (by omega)
    rw [show Tryz.prog.cellsOf 119 = 4 by kernel_rfl] at hd2
    rw [List.getElem?_map, List.getElem?_range (by omega)] at hd1
    obtain rfl := Option.some.inj hd1
    have hcs := Go.Lib.cells_of_tab (n := 4) (e := 3) (by kernel_rfl) (by kernel_rfl) (by kernel_rfl) (by kernel_rfl) hd2
    have := World.var?_cell hg hvar j
    have hl := mSl_len
    have e1 := congrArg (·[j % 4]?) hcs
    simp only [List.getElem?_map, List.getElem?_take, List.getElem?_drop, if_pos (show j % 4 < 4 by omega), show j / 4 * 4 + j % 4 = j by omega] at e1
    rw [this, ← Array.getElem?_toList, e1, List.getD_eq_getElem?_getD, List.getElem?_eq_getElem (by omega)]
    rfl
end Go.Proofs.YtoponmdfjbhnoaaGreatDoor
