/- slices.Clone of users. -/
import Derived.Test.YtoponmdfjbhnoaaDoorUsrs
import Derived.BigRegion
import Derived.Deep.QuietTactic
import Derived.BigQuiet
import Derived.Lib.SliceRun
namespace Go.Proofs.YtoponmdfjbhnoaaDoor
open Go Go.RowKit
set_option linter.unusedVariables false
def RetUB (w : World) (l : List Us) (e : Ending) (w' : World) : Prop := ∃ v, e = .returned v ∧ UsBuf w.heap.size w' v l ∧ Below w.heap.size w w'
set_option maxRecDepth 100000 in
theorem cloneU_any (l : List Us) (v : Value) (w : World) (hv : UsV w v l) (hl : l.length * 32 ≤ 140737488351232) :
    Calls Tryd.prog 16 #[v] w (RetUB w l) := by
  obtain ⟨i0, hi, hz0, hz1, hz2⟩ := infoUs
  have EN : ∀ (p : Option Addr) (n c : Nat) (W : World), (binOp .eql 28 (.slice p n c) (.slice none 0 0)).run Tryd.prog W = .ok (.bool p.isNone) W := fun p n c W => by
    exact Lib.run_eql_slice_nil W 28 27 p n c 0 0 Tryd.underlying28
  obtain ⟨p, c, rfl, hlc, hc⟩ := hv
  cases p with
  | none =>
    have h0 : l = [] := by
      rcases Nat.eq_zero_or_pos l.length with h | h
      · exact List.eq_nil_of_length_eq_zero h
      · obtain ⟨b, o, hp, _⟩ := hc h; cases hp
    subst h0
    clear hc
    go_enter Tryd.func16, Tryd.ntmps16
    go_wp2_with fail
    go_ret
    exact ⟨_, rfl, UsBuf.nil _ _, Below.refl _ _⟩
  | some a =>
    have hb0 := (Below.refl w.heap.size w).alloc (Nat.le_refl _) (.cells #[] 27)
    have hbuf : UsBuf w.heap.size (w.alloc (.cells #[] 27)) (.slice (some ⟨w.heap.size, 0, none⟩) 0 0) [] :=
      ⟨rfl, .inr ⟨w.heap.size, 0, #[], rfl, Nat.le_refl _, heap_alloc_new w _, Nat.le_refl _, Nat.zero_le _, rfl, rfl⟩⟩
    have HB := Lib.hid hbuf
    have Hb0 := Lib.hid hb0
    have h1 : ∀ j u, (usVs l)[j]? = some u → (w.alloc (.cells #[] 27)).cell? (a.add j) = some u := fun j u hu => by
      have hlt : j < (usVs l).length := by
        rcases Nat.lt_or_ge j (usVs l).length with h | h
        · exact h
        · rw [List.getElem?_eq_none h] at hu; cases hu
      rw [usVs_len] at hlt
      obtain ⟨b, o, hp, hcell⟩ := hc (by omega)
      cases hp
      obtain ⟨i, q, rfl, hq⟩ : ∃ i q, j = i * 2 + q ∧ q < 2 := ⟨j / 2, j % 2, by omega, by omega⟩
      obtain ⟨g0, g1⟩ := usVs_get l i (by omega)
      obtain ⟨c0, c1⟩ := hcell i (by omega)
      have e0 : (⟨b, o, none⟩ : Addr).add (i * 2 + q) = ⟨b, o + i * 2 + q, none⟩ := by rw [Addr.add_lit, Nat.add_assoc]
      rw [e0]
      have hq' : q = 0 ∨ q = 1 := by omega
      rcases hq' with rfl | rfl
      · rw [Nat.add_zero] at hu ⊢
        rw [g0] at hu
        rw [hb0.cell (p := ⟨b, o + i * 2, none⟩) (block_lt_of_cell c0), c0]; exact hu
      · rw [g1] at hu
        rw [hb0.cell (p := ⟨b, o + i * 2 + 1, none⟩) (block_lt_of_cell c1), c1]; exact hu
    have H1 := Lib.hid h1
    have H2 := Lib.hid (usVs_one l)
    have H3 := Lib.hid (show 0 + l.length ≤ maxLen by unfold maxLen; omega)
    have H4 := Lib.hid (show (0 + l.length) * 32 ≤ 140737488355328 by omega)
    have H5 := Lib.hid (show w.heap.size ≤ (w.alloc (.cells #[] 27)).heap.size by simp)
    have H6 := Lib.hid (usVs_len l)
    clear hb0 hbuf h1 hc hl
    go_enter Tryd.func16, Tryd.ntmps16
    go_wp2_with (at_builtin; refine wpList_append_own _ rfl _ _ 28 rfl w.heap.size 27 i0 (.agg #[.string (S []), .string (S [])]) 2 32 Tryd.underlying28 hi hz0 hz1 hz2 rfl (by decide) (.slice (some ⟨w.heap.size, 0, none⟩) 0 0) 0 [] rfl HB.out a l.length c (usVs l) rfl H6.out H1.out H2.out H3.out H4.out H5.out ?_)
    intro v' wa hown hgrow hnil
    have hown' : UsBuf w.heap.size wa v' l := by
      unfold UsBuf
      exact hown
    have Hlow := Lib.hid (Hb0.out.grown hgrow (by simp) (fun k hk => by simp [Value.ownBlock] at hk; omega))
    have Hown := Lib.hid hown'
    clear hown hown' hgrow hnil
    go_wp2_with fail
    go_ret
    exact ⟨_, rfl, Hown.out, Hlow.out⟩
end Go.Proofs.YtoponmdfjbhnoaaDoor
