/- LA43: several texts in one. -/
import Derived.LaidLaws
import Derived.Lib.LaidTab
import Derived.Lib.LaidU8
import Derived.Test.YtmkebjdmkkjloaaGreatDoorRows
import Derived.Test.YtmkebjdmkkjloaaGreatDoorLA07
import Derived.Test.YtmkebjdmkkjloaaGreatDoorLA18
import Derived.Test.YtmkebjdmkkjloaaGreatDoorLA23
namespace Go.Proofs.YtmkebjdmkkjloaaGreatDoor
open Go.RowKit
theorem sy_of_reads {W : World} (h : Go.Lib.VarReads Tryz.prog W "strconv.ErrSyntax" Rows.laid_strconv_ErrSyntax) : ∃ v, W.cell? ⟨7, 0, none⟩ = some v ∧ (v = .nilIface ∨ ∃ t p, v = .iface t p) := by
 obtain ⟨g, t, cs, fuel, p, hg, hty, hvar, hd⟩ := h
 obtain rfl : 7 = g := Option.some.inj ((show Tryz.prog.globalNamed "strconv.ErrSyntax" = some 7 by kernel_rfl).symm.trans hg)
 obtain rfl : 43 = t := Option.some.inj ((show (Tryz.prog.globals[7]?).map (·.type) = some 43 by kernel_rfl).symm.trans hty)
 obtain ⟨f1, u, v, hcs, _, _⟩ := iface_of_trod Tryz.underlying43 hd
 refine ⟨.iface u v, ?_, .inr ⟨u, v, rfl⟩⟩
 have := World.var?_cell hg hvar 0
 rw [this, ← Array.getElem?_toList, hcs]
 rfl
theorem rg_of_reads {W : World} (h : Go.Lib.VarReads Tryz.prog W "strconv.ErrRange" Rows.laid_strconv_ErrRange) : ∃ v, W.cell? ⟨8, 0, none⟩ = some v ∧ (v = .nilIface ∨ ∃ t p, v = .iface t p) := by
 obtain ⟨g, t, cs, fuel, p, hg, hty, hvar, hd⟩ := h
 obtain rfl : 8 = g := Option.some.inj ((show Tryz.prog.globalNamed "strconv.ErrRange" = some 8 by kernel_rfl).symm.trans hg)
 obtain rfl : 43 = t := Option.some.inj ((show (Tryz.prog.globals[8]?).map (·.type) = some 43 by kernel_rfl).symm.trans hty)
 obtain ⟨f1, u, v, hcs, _, _⟩ := iface_of_trod Tryz.underlying43 hd
 refine ⟨.iface u v, ?_, .inr ⟨u, v, rfl⟩⟩
 have := World.var?_cell hg hvar 0
 rw [this, ← Array.getElem?_toList, hcs]
 rfl
theorem powData : (Rows.laid_internal_strconv_uint64pow10 : DataW Unit) = Go.Lib.tabData .u64 Lib.pow10Tab := by kernel_rfl
theorem tab_of_reads {W : World} (h : Go.Lib.VarReads Tryz.prog W "internal/strconv.uint64pow10" Rows.laid_internal_strconv_uint64pow10) : Lib.TabIs Tryz.prog W "internal/strconv.uint64pow10" .u64 Lib.pow10Tab := by
 rw [powData] at h
 obtain ⟨g, t, cs, fuel, p, hg, hty, hvar, hd⟩ := h
 obtain rfl : 6 = g := Option.some.inj ((show Tryz.prog.globalNamed "internal/strconv.uint64pow10" = some 6 by kernel_rfl).symm.trans hg)
 obtain rfl : 299 = t := Option.some.inj ((show (Tryz.prog.globals[6]?).map (·.type) = some 299 by kernel_rfl).symm.trans hty)
 have hcs := Go.Lib.cells_of_tab (n := 20) (e := 49) (by kernel_rfl) (by kernel_rfl) (by kernel_rfl) (by kernel_rfl) hd
 unfold Lib.TabIs
 rw [hvar, ← hcs]
theorem env_of {W : World} (hS : W.ShapedOpen Tryz.prog) (h1 : Go.Lib.VarReads Tryz.prog W "strconv.ErrSyntax" Rows.laid_strconv_ErrSyntax) (h2 : Go.Lib.VarReads Tryz.prog W "strconv.ErrRange" Rows.laid_strconv_ErrRange) (h3 : Go.Lib.VarReads Tryz.prog W "internal/strconv.uint64pow10" Rows.laid_internal_strconv_uint64pow10) : Env W :=
 ⟨maxCell_of_shaped hS, sy_of_reads h1, rg_of_reads h2, tab_of_reads h3⟩
end Go.Proofs.YtmkebjdmkkjloaaGreatDoor
namespace Go.Proofs.YtmkebjdmkkjloaaGreatDoor
open Go Go.RowKit
set_option linter.unusedVariables false
theorem lit_app {w W : World} {v : Value} {l : List Pr} (k d : List UInt8) (hlow : Below w.heap.size w W) (h : PrBuf w.heap.size W v l) (hl : l.length ≤ 1000) :
  ∃ v' W', (Builtin.append_ #[27, 27] 27 #[v, .slice (some ⟨W.heap.size, 0, none⟩) 1 1]).run Tryz.prog (W.alloc (.cells #[.string (S k), .string (S d)] 61)) = .ok v' W' ∧ PrBuf w.heap.size W' v' (l ++ [⟨k, d⟩]) ∧ Below w.heap.size w W' := by
 have hb : Below W.heap.size W (W.alloc (.cells #[.string (S k), .string (S d)] 61)) := (Below.refl _ _).alloc (Nat.le_refl _) _
 have hB := Blk.new W #[.string (S k), .string (S d)] 61
 have h5 := h.later hb
 have hb5 := below_then hlow hb
 obtain ⟨v', W', hr, hp, hg⟩ := run_append_one (k := k) (d := d) (a := ⟨W.heap.size, 0, none⟩) h5 (fun i u hu => by
  have e1 : (⟨W.heap.size, 0, none⟩ : Addr).add i = ⟨W.heap.size, i, none⟩ := by simp only [Addr.add]; split <;> simp_all
  rw [e1, hB.cell i]
  simpa using hu) (by omega) hb5.size
 exact ⟨v', W', hr, hp, hb5.grown hg hb5.size h5.ge⟩
theorem lit_buf {w W : World} (l : List Pr) (C : Array Value) (hC : (prsVs l).toArray = C) (hlow : Below w.heap.size w W) (hl : l.length ≤ 1000) : PrBuf w.heap.size (W.alloc (.cells C 61)) (.slice (some ⟨W.heap.size, 0, none⟩) l.length l.length) l := by
 subst hC
 exact PrBuf.lit (Blk.new W _ _) hlow.size hl
end Go.Proofs.YtmkebjdmkkjloaaGreatDoor
