/- BinaryTurns: what the row's condition gives of the library's tables. -/
import Derived.Test.YtoponmdfjbhnoaaGreatDoorRefBin
import Derived.Test.YtoponmdfjbhnoaaGreatDoorCards
import Derived.Lib.LaidCase
import Derived.Lib.LaidU8
namespace Go.Proofs.YtoponmdfjbhnoaaGreatDoor
open Go.RowKit
def brL : List Int := [0, 1, 56, 2, 57, 49, 28, 3, 61, 58, 42, 50, 38, 29, 17, 4, 62, 47, 59, 36, 45, 43, 51, 22, 53, 39, 33, 30, 24, 18, 12, 5, 63, 55, 48, 27, 60, 41, 37, 16, 46, 35, 44, 21, 52, 32, 23, 11, 54, 26, 40, 15, 34, 20, 31, 10, 25, 14, 19, 9, 13, 8, 7, 6]
theorem brData : (Rows.laid_math_bits_deBruijn64tab : DataW Unit) = Go.Lib.tabData .u8 brL := by kernel_rfl
theorem laidCase : (Rows.laid_unicode_CaseRanges : DataW Unit) = Go.Lib.caseData := by kernel_rfl
theorem laidFirst : (Rows.laid_unicode_utf8_first : DataW Unit) = Go.Lib.firstData := by kernel_rfl
theorem laidAccept : (Rows.laid_unicode_utf8_acceptRanges : DataW Unit) = Go.Lib.acceptData := by kernel_rfl
theorem caseX : CaseExtra Tryz.prog Tryz.lays159_ren := ⟨by kernel_rfl, by kernel_rfl, by kernel_rfl, by kernel_rfl, by kernel_rfl, by kernel_rfl⟩
theorem u8X : U8Extra Tryz.prog Tryz.lays159_ren := ⟨by kernel_rfl, by kernel_rfl, by kernel_rfl, by kernel_rfl, by kernel_rfl, by kernel_rfl, by kernel_rfl⟩
set_option maxRecDepth 100000 in
theorem bruijn_of_reads {W : World} (h : Go.Lib.VarReads Tryz.prog W "math/bits.deBruijn64tab" Rows.laid_math_bits_deBruijn64tab) : BruijnT W := by
  rw [brData] at h
  obtain ⟨g, t, cs, fuel, p, hg, hty, hvar, hd⟩ := h
  obtain rfl : 11 = g := Option.some.inj ((show Tryz.prog.globalNamed "math/bits.deBruijn64tab" = some 11 by kernel_rfl).symm.trans hg)
  obtain rfl : 190 = t := Option.some.inj ((show (Tryz.prog.globals[11]?).map (·.type) = some 190 by kernel_rfl).symm.trans hty)
  have hcs := Go.Lib.cells_of_tab (n := 64) (e := 5) (by kernel_rfl) (by kernel_rfl) (by kernel_rfl) (by kernel_rfl) hd
  refine ⟨?_, ?_⟩
  · rw [World.var?_cell hg hvar 1, ← Array.getElem?_toList, hcs]; rfl
  · rw [World.var?_cell hg hvar 15, ← Array.getElem?_toList, hcs]; rfl
theorem lowT_of_reads {W : World} (h1 : Go.Lib.VarReads Tryz.prog W "unicode.CaseRanges" Rows.laid_unicode_CaseRanges) (h2 : Go.Lib.VarReads Tryz.prog W "unicode/utf8.first" Rows.laid_unicode_utf8_first) (h3 : Go.Lib.VarReads Tryz.prog W "unicode/utf8.acceptRanges" Rows.laid_unicode_utf8_acceptRanges) : LowT W := by
  rw [laidCase] at h1
  rw [laidFirst] at h2
  rw [laidAccept] at h3
  exact ⟨caseVar_of_reads (ρ := Tryz.lays159_ren) { Tryz.lays159 with } (by kernel_rfl) caseX h1, utf8Tabs_of_reads (ρ := Tryz.lays159_ren) { Tryz.lays159 with } u8X h2 h3⟩
end Go.Proofs.YtoponmdfjbhnoaaGreatDoor
