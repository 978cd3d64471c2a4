/- Several texts in one: slices.Clone of texts; an append of one text by its run equation.  | Portals that a call collects in a slice of its own. No function of the program is walked here.  | slices.Clone of portals.  | slices.Clone of users.  | A row without some of its elements: what slices.Delete makes of its cells, for elements of any size. No function of the program is walked here.  | slices.Delete of texts.  | slices.Delete of portals.  | slices.Delete of users.  | Rows without one of their elements: slices.Delete of one of texts, portals, users that are the call's own; what such rows are later.  | Three copies of what a target is told, each in a block of its own; a new variable and a store into it, in a region taken by hand.  | Numbers in range; pick.  -/
import Derived.Test.YtlcadichpcdgpaaGreatDoorGE
import Derived.BigRegion
import Derived.Deep.QuietTactic
import Derived.BigQuiet
import Derived.Lib.SliceRun
import Derived.Test.YtlcadichpcdgpaaGreatDoorGO
import Derived.Laws.AppendOwn
import Derived.Laws.OwnMore
import Derived.Deep.RegionHeld3
import Derived.Test.YtlcadichpcdgpaaGreatDoorGB
import Derived.Deep.Upon
import Derived.Deep.RegionLaw
import Derived.Deep.MidRow
import Derived.Test.YtlcadichpcdgpaaGreatDoorRows
import Derived.Test.YtlcadichpcdgpaaGreatDoorGA
namespace Go.Proofs.YtlcadichpcdgpaaGreatDoor
open Go Go.RowKit
set_option linter.unusedVariables false
def RetSB2 (w : World) (l : List (List UInt8)) (e : Ending) (w' : World) : Prop := ∃ v, e = .returned v ∧ StBuf w.heap.size w' v l ∧ Below w.heap.size w w'
set_option maxRecDepth 100000 in
theorem cloneS_any (l : List (List UInt8)) (v : Value) (w : World) (hv : StrV w v l) (hl : l.length * 16 ≤ 140737488351232) :
    Calls Tryz.prog 19 #[v] w (RetSB2 w l) := by
  obtain ⟨i0, hi, hz0, hz1, hz2⟩ := infoSt
  have EN : ∀ (p : Option Addr) (n c : Nat) (W : World), (binOp .eql 22 (.slice p n c) (.slice none 0 0)).run Tryz.prog W = .ok (.bool p.isNone) W := fun p n c W => by
    exact Lib.run_eql_slice_nil W 22 9 p n c 0 0 Tryz.underlying22
  obtain ⟨p, c, rfl, hc⟩ := hv
  cases p with
  | none =>
    have h0 : l = [] := by
      rcases Nat.eq_zero_or_pos l.length with h | h
      · exact List.eq_nil_of_length_eq_zero h
      · obtain ⟨b, o, hp, _⟩ := hc h; cases hp
    subst h0
    clear hc
    go_enter Tryz.func19, Tryz.ntmps19
    go_wp2_with fail
    go_ret
    exact ⟨_, rfl, StBuf.nil _ _, Below.refl _ _⟩
  | some a =>
    have hb0 := (Below.refl w.heap.size w).alloc (Nat.le_refl _) (.cells #[] 9)
    have hbuf : StBuf w.heap.size (w.alloc (.cells #[] 9)) (.slice (some ⟨w.heap.size, 0, none⟩) 0 0) [] :=
      ⟨rfl, .inr ⟨w.heap.size, 0, #[], rfl, Nat.le_refl _, heap_alloc_new w _, Nat.le_refl _, Nat.zero_le _, rfl, rfl⟩⟩
    have HB := Lib.hid hbuf
    have Hb0 := Lib.hid hb0
    have h1 : ∀ j u, (strVs l)[j]? = some u → (w.alloc (.cells #[] 9)).cell? (a.add j) = some u := fun j u hu => by
      have hlt : j < (strVs l).length := by
        rcases Nat.lt_or_ge j (strVs l).length with h | h
        · exact h
        · rw [List.getElem?_eq_none h] at hu; cases hu
      rw [strVs_len] at hlt
      obtain ⟨b, o, hp, hcell⟩ := hc (by omega)
      cases hp
      have c0 := hcell j hlt
      have e0 : (⟨b, o, none⟩ : Addr).add j = ⟨b, o + j, none⟩ := by rw [Addr.add_lit]
      have hg : (strVs l)[j]? = some (.string (S l[j])) := by unfold strVs; rw [List.getElem?_map, List.getElem?_eq_getElem hlt]; rfl
      rw [e0, hb0.cell (p := ⟨b, o + j, none⟩) (block_lt_of_cell c0), c0, ← hg]; exact hu
    have H1 := Lib.hid h1
    have H2 := Lib.hid (strVs_one l)
    have H3 := Lib.hid (show 0 + l.length ≤ maxLen by unfold maxLen; omega)
    have H4 := Lib.hid (show (0 + l.length) * 16 ≤ 140737488355328 by omega)
    have H5 := Lib.hid (show w.heap.size ≤ (w.alloc (.cells #[] 9)).heap.size by simp)
    have H6 := Lib.hid (show (strVs l).length = l.length * 1 by rw [strVs_len, Nat.mul_one])
    clear hb0 hbuf h1 hc hl
    go_enter Tryz.func19, Tryz.ntmps19
    go_wp2_with (at_builtin; refine wpList_append_own _ rfl _ _ 22 rfl w.heap.size 9 i0 (.string (S [])) 1 16 Tryz.underlying22 hi hz0 hz1 hz2 rfl (by decide) (.slice (some ⟨w.heap.size, 0, none⟩) 0 0) 0 [] rfl HB.out a l.length c (strVs l) rfl H6.out H1.out H2.out H3.out H4.out H5.out ?_)
    intro v' wa hown hgrow hnil
    have hown' : StBuf w.heap.size wa v' l := by
      unfold StBuf
      exact hown
    have Hlow := Lib.hid (Hb0.out.grown hgrow (by simp) (fun k hk => by simp [Value.ownBlock] at hk; omega))
    have Hown := Lib.hid hown'
    clear hown hown' hgrow hnil
    go_wp2_with fail
    go_ret
    exact ⟨_, rfl, Hown.out, Hlow.out⟩
theorem run_append_text {W : World} {base : Nat} {v : Value} {l : List (List UInt8)} {s : List UInt8} {a : Addr} (h : StBuf base W v l) (ha : ∀ j u, ([.string (S s)] : List Value)[j]? = some u → W.cell? (a.add j) = some u) (hl : (l.length + 1) * 16 ≤ 140737488355328) (hb : base ≤ W.heap.size) :
    ∃ v' W', (Builtin.append_ #[22, 22] 22 #[v, .slice (some a) 1 1]).run Tryz.prog W = .ok v' W' ∧ StBuf base W' v' (l ++ [s]) ∧ W.grownBy W' v.ownBlock := by
  obtain ⟨i0, hi, hz0, hz1, hz2⟩ := infoSt
  obtain ⟨v5, w5, hrun, hown, hgrow, _⟩ := run_append_own (P := Tryz.prog) (w := W) base 22 22 9 i0 (.string (S [])) 1 16 Tryz.underlying22 hi hz0 hz1 hz2 rfl (by decide) v l.length (strVs l) h a 1 1 [.string (S s)] rfl ha (strVs_one [s]) (by unfold maxLen; omega) hl hb
  refine ⟨v5, w5, hrun, ?_, hgrow⟩
  unfold StBuf
  rw [strVs_app, List.length_append]
  exact hown
end Go.Proofs.YtlcadichpcdgpaaGreatDoor
namespace Go.Proofs.YtlcadichpcdgpaaGreatDoor
open Go.RowKit
set_option linter.unusedVariables false
/-- pairs that a call collects in a slice of its own -/
def poVs (l : List Po) : List Value := l.flatMap fun p => [.string (S p.ad), .int .i64 p.gr]
theorem poVs_len : ∀ l : List Po, (poVs l).length = l.length * 2
  | [] => rfl
  | a :: l => by
    have := poVs_len l
    unfold poVs at *
    simp only [List.flatMap_cons, List.length_append, List.length_cons, List.length_nil] at *
    omega
theorem poVs_app (l m : List Po) : poVs (l ++ m) = poVs l ++ poVs m := by simp [poVs]
theorem poVs_one (l : List Po) : ∀ u ∈ poVs l, u.oneCell' = true := by
  intro u hu
  unfold poVs at hu
  obtain ⟨a, _, h⟩ := List.mem_flatMap.1 hu
  rcases List.mem_cons.1 h with rfl | h
  · rfl
  · rw [List.mem_singleton.1 h]; rfl
theorem poVs_get : ∀ (l : List Po) (j : Nat) (hj : j < l.length), (poVs l)[j * 2]? = some (.string (S l[j].ad)) ∧ (poVs l)[j * 2 + 1]? = some (.int .i64 l[j].gr)
  | [], j, hj => by simp at hj
  | a :: l, 0, _ => ⟨rfl, rfl⟩
  | a :: l, j + 1, hj => by
    obtain ⟨h1, h2⟩ := poVs_get l j (by simpa using hj)
    have e : poVs (a :: l) = .string (S a.ad) :: .int .i64 a.gr :: poVs l := rfl
    rw [e, show (j + 1) * 2 = j * 2 + 1 + 1 by omega, List.getElem?_cons_succ, List.getElem?_cons_succ, h1, show j * 2 + 1 + 1 + 1 = (j * 2 + 1) + 1 + 1 by omega, List.getElem?_cons_succ, List.getElem?_cons_succ, h2]
    exact ⟨rfl, rfl⟩
def PoBuf (base : Nat) (W : World) (v : Value) (l : List Po) : Prop := W.ownsRow base 50 2 v l.length (poVs l)
theorem PoBuf.nil (base : Nat) (W : World) : PoBuf base W (.slice none 0 0) [] := World.ownsRow_nil W base 50 2
theorem PoBuf.alloc {base : Nat} {W : World} {v : Value} {l : List Po} (h : PoBuf base W v l) (o : Obj) : PoBuf base (W.alloc o) v l := World.ownsRow.alloc h o
theorem PoBuf.drew {base : Nat} {W : World} {v : Value} {l : List Po} (h : PoBuf base W v l) : PoBuf base W.drew v l := h
theorem PoBuf.drewN {base : Nat} {W : World} {v : Value} {l : List Po} (h : PoBuf base W v l) (n : Nat) : PoBuf base (W.drewN n) v l := h
theorem PoBuf.later {base : Nat} {W W' : World} {v : Value} {l : List Po} (h : PoBuf base W v l) (hb : Below W.heap.size W W') : PoBuf base W' v l := by
  refine World.ownsRow.kept (row := none) h ⟨hb.os, hb.tape, hb.output, hb.size, fun k hk _ => hb.block k hk⟩ ?_
  cases hv : v.ownBlock with
  | none => exact .inl rfl
  | some k => exact .inr (by simp)
theorem PoBuf.form {base : Nat} {W : World} {v : Value} {l : List Po} (h : PoBuf base W v l) : ∃ p cap, v = .slice p l.length cap := by
  rcases h.2 with ⟨rfl, h0⟩ | ⟨g, cap, cur, hv, _⟩
  · exact ⟨none, 0, by rw [h0]⟩
  · exact ⟨_, _, hv⟩
theorem PoBuf.po {base : Nat} {W : World} {v : Value} {l : List Po} (h : PoBuf base W v l) : PosV W v l := by
  rcases h.2 with ⟨rfl, h0⟩ | ⟨g, cap, cur, rfl, hbg, hg, hnc, hcm, hcs, htake⟩
  · obtain rfl : l = [] := List.eq_nil_of_length_eq_zero h0
    exact PosV.nil W
  · refine ⟨_, _, rfl, hnc, fun _ => ⟨g, 0, rfl, fun j hj => ?_⟩⟩
    obtain ⟨g1, g2⟩ := poVs_get l j hj
    have h1 := World.ownsRow.cells h (g := g) rfl (j * 2) _ g1
    have h2 := World.ownsRow.cells h (g := g) rfl (j * 2 + 1) _ g2
    have e1 : (⟨g, 0, none⟩ : Addr).add (j * 2) = ⟨g, 0 + j * 2, none⟩ := by simp only [Addr.add]; split <;> simp_all
    have e2 : (⟨g, 0, none⟩ : Addr).add (j * 2 + 1) = ⟨g, 0 + j * 2 + 1, none⟩ := by simp only [Addr.add]; split <;> simp_all <;> omega
    rw [e1] at h1
    rw [e2] at h2
    exact ⟨h1, h2⟩
theorem PoBuf.ne {base : Nat} {W : World} {v : Value} {l : List Po} (h : PoBuf base W v l) {b : Nat} (hb : W.heap.size ≤ b) : ∀ k, v.ownBlock = some k → b ≠ k := fun k hk => by
  have := (World.ownsRow.lt h k hk).2
  omega
theorem PoBuf.ge {base : Nat} {W : World} {v : Value} {l : List Po} (h : PoBuf base W v l) : ∀ k, v.ownBlock = some k → base ≤ k := fun k hk => (World.ownsRow.lt h k hk).1
theorem infoPo : ∃ i, Tryz.prog.info? 50 = some i ∧ i.zero = some (.agg #[.string (S []), .int .i64 0]) ∧ i.size = 2 ∧ i.bytes = 24 := info_parts (show (Tryz.prog.info? 50).map (fun i => (i.zero, i.size, i.bytes)) = some (some (.agg #[.string (S []), .int .i64 0]), 2, 24) by kernel_rfl)
end Go.Proofs.YtlcadichpcdgpaaGreatDoor
namespace Go.Proofs.YtlcadichpcdgpaaGreatDoor
open Go Go.RowKit
set_option linter.unusedVariables false
def RetOB (w : World) (l : List Po) (e : Ending) (w' : World) : Prop := ∃ v, e = .returned v ∧ PoBuf w.heap.size w' v l ∧ Below w.heap.size w w'
set_option maxRecDepth 100000 in
theorem cloneO_any (l : List Po) (v : Value) (w : World) (hv : PosV w v l) (hl : l.length * 32 ≤ 140737488351232) :
    Calls Tryz.prog 21 #[v] w (RetOB w l) := by
  obtain ⟨i0, hi, hz0, hz1, hz2⟩ := infoPo
  have EN : ∀ (p : Option Addr) (n c : Nat) (W : World), (binOp .eql 23 (.slice p n c) (.slice none 0 0)).run Tryz.prog W = .ok (.bool p.isNone) W := fun p n c W => by
    exact Lib.run_eql_slice_nil W 23 50 p n c 0 0 Tryz.underlying23
  obtain ⟨p, c, rfl, hlc, hc⟩ := hv
  cases p with
  | none =>
    have h0 : l = [] := by
      rcases Nat.eq_zero_or_pos l.length with h | h
      · exact List.eq_nil_of_length_eq_zero h
      · obtain ⟨b, o, hp, _⟩ := hc h; cases hp
    subst h0
    clear hc
    go_enter Tryz.func21, Tryz.ntmps21
    go_wp2_with fail
    go_ret
    exact ⟨_, rfl, PoBuf.nil _ _, Below.refl _ _⟩
  | some a =>
    have hb0 := (Below.refl w.heap.size w).alloc (Nat.le_refl _) (.cells #[] 50)
    have hbuf : PoBuf w.heap.size (w.alloc (.cells #[] 50)) (.slice (some ⟨w.heap.size, 0, none⟩) 0 0) [] :=
      ⟨rfl, .inr ⟨w.heap.size, 0, #[], rfl, Nat.le_refl _, heap_alloc_new w _, Nat.le_refl _, Nat.zero_le _, rfl, rfl⟩⟩
    have HB := Lib.hid hbuf
    have Hb0 := Lib.hid hb0
    have h1 : ∀ j u, (poVs l)[j]? = some u → (w.alloc (.cells #[] 50)).cell? (a.add j) = some u := fun j u hu => by
      have hlt : j < (poVs l).length := by
        rcases Nat.lt_or_ge j (poVs l).length with h | h
        · exact h
        · rw [List.getElem?_eq_none h] at hu; cases hu
      rw [poVs_len] at hlt
      obtain ⟨b, o, hp, hcell⟩ := hc (by omega)
      cases hp
      obtain ⟨i, q, rfl, hq⟩ : ∃ i q, j = i * 2 + q ∧ q < 2 := ⟨j / 2, j % 2, by omega, by omega⟩
      obtain ⟨g0, g1⟩ := poVs_get l i (by omega)
      obtain ⟨c0, c1⟩ := hcell i (by omega)
      have e0 : (⟨b, o, none⟩ : Addr).add (i * 2 + q) = ⟨b, o + i * 2 + q, none⟩ := by rw [Addr.add_lit, Nat.add_assoc]
      rw [e0]
      have hq' : q = 0 ∨ q = 1 := by omega
      rcases hq' with rfl | rfl
      · rw [Nat.add_zero] at hu ⊢
        rw [g0] at hu
        rw [hb0.cell (p := ⟨b, o + i * 2, none⟩) (block_lt_of_cell c0), c0]; exact hu
      · rw [g1] at hu
        rw [hb0.cell (p := ⟨b, o + i * 2 + 1, none⟩) (block_lt_of_cell c1), c1]; exact hu
    have H1 := Lib.hid h1
    have H2 := Lib.hid (poVs_one l)
    have H3 := Lib.hid (show 0 + l.length ≤ maxLen by unfold maxLen; omega)
    have H4 := Lib.hid (show (0 + l.length) * 24 ≤ 140737488355328 by omega)
    have H5 := Lib.hid (show w.heap.size ≤ (w.alloc (.cells #[] 50)).heap.size by simp)
    have H6 := Lib.hid (poVs_len l)
    clear hb0 hbuf h1 hc hl
    go_enter Tryz.func21, Tryz.ntmps21
    go_wp2_with (at_builtin; refine wpList_append_own _ rfl _ _ 23 rfl w.heap.size 50 i0 (.agg #[.string (S []), .int .i64 0]) 2 24 Tryz.underlying23 hi hz0 hz1 hz2 rfl (by decide) (.slice (some ⟨w.heap.size, 0, none⟩) 0 0) 0 [] rfl HB.out a l.length c (poVs l) rfl H6.out H1.out H2.out H3.out H4.out H5.out ?_)
    intro v' wa hown hgrow hnil
    have hown' : PoBuf w.heap.size wa v' l := by
      unfold PoBuf
      exact hown
    have Hlow := Lib.hid (Hb0.out.grown hgrow (by simp) (fun k hk => by simp [Value.ownBlock] at hk; omega))
    have Hown := Lib.hid hown'
    clear hown hown' hgrow hnil
    go_wp2_with fail
    go_ret
    exact ⟨_, rfl, Hown.out, Hlow.out⟩
end Go.Proofs.YtlcadichpcdgpaaGreatDoor
namespace Go.Proofs.YtlcadichpcdgpaaGreatDoor
open Go Go.RowKit
set_option linter.unusedVariables false
def RetUB (w : World) (l : List Us) (e : Ending) (w' : World) : Prop := ∃ v, e = .returned v ∧ UsBuf w.heap.size w' v l ∧ Below w.heap.size w w'
set_option maxRecDepth 100000 in
theorem cloneU_any (l : List Us) (v : Value) (w : World) (hv : UsV w v l) (hl : l.length * 32 ≤ 140737488351232) :
    Calls Tryz.prog 23 #[v] w (RetUB w l) := by
  obtain ⟨i0, hi, hz0, hz1, hz2⟩ := infoUs
  have EN : ∀ (p : Option Addr) (n c : Nat) (W : World), (binOp .eql 24 (.slice p n c) (.slice none 0 0)).run Tryz.prog W = .ok (.bool p.isNone) W := fun p n c W => by
    exact Lib.run_eql_slice_nil W 24 26 p n c 0 0 Tryz.underlying24
  obtain ⟨p, c, rfl, hlc, hc⟩ := hv
  cases p with
  | none =>
    have h0 : l = [] := by
      rcases Nat.eq_zero_or_pos l.length with h | h
      · exact List.eq_nil_of_length_eq_zero h
      · obtain ⟨b, o, hp, _⟩ := hc h; cases hp
    subst h0
    clear hc
    go_enter Tryz.func23, Tryz.ntmps23
    go_wp2_with fail
    go_ret
    exact ⟨_, rfl, UsBuf.nil _ _, Below.refl _ _⟩
  | some a =>
    have hb0 := (Below.refl w.heap.size w).alloc (Nat.le_refl _) (.cells #[] 26)
    have hbuf : UsBuf w.heap.size (w.alloc (.cells #[] 26)) (.slice (some ⟨w.heap.size, 0, none⟩) 0 0) [] :=
      ⟨rfl, .inr ⟨w.heap.size, 0, #[], rfl, Nat.le_refl _, heap_alloc_new w _, Nat.le_refl _, Nat.zero_le _, rfl, rfl⟩⟩
    have HB := Lib.hid hbuf
    have Hb0 := Lib.hid hb0
    have h1 : ∀ j u, (usVs l)[j]? = some u → (w.alloc (.cells #[] 26)).cell? (a.add j) = some u := fun j u hu => by
      have hlt : j < (usVs l).length := by
        rcases Nat.lt_or_ge j (usVs l).length with h | h
        · exact h
        · rw [List.getElem?_eq_none h] at hu; cases hu
      rw [usVs_len] at hlt
      obtain ⟨b, o, hp, hcell⟩ := hc (by omega)
      cases hp
      obtain ⟨i, q, rfl, hq⟩ : ∃ i q, j = i * 2 + q ∧ q < 2 := ⟨j / 2, j % 2, by omega, by omega⟩
      obtain ⟨g0, g1⟩ := usVs_get l i (by omega)
      obtain ⟨c0, c1⟩ := hcell i (by omega)
      have e0 : (⟨b, o, none⟩ : Addr).add (i * 2 + q) = ⟨b, o + i * 2 + q, none⟩ := by rw [Addr.add_lit, Nat.add_assoc]
      rw [e0]
      have hq' : q = 0 ∨ q = 1 := by omega
      rcases hq' with rfl | rfl
      · rw [Nat.add_zero] at hu ⊢
        rw [g0] at hu
        rw [hb0.cell (p := ⟨b, o + i * 2, none⟩) (block_lt_of_cell c0), c0]; exact hu
      · rw [g1] at hu
        rw [hb0.cell (p := ⟨b, o + i * 2 + 1, none⟩) (block_lt_of_cell c1), c1]; exact hu
    have H1 := Lib.hid h1
    have H2 := Lib.hid (usVs_one l)
    have H3 := Lib.hid (show 0 + l.length ≤ maxLen by unfold maxLen; omega)
    have H4 := Lib.hid (show (0 + l.length) * 32 ≤ 140737488355328 by omega)
    have H5 := Lib.hid (show w.heap.size ≤ (w.alloc (.cells #[] 26)).heap.size by simp)
    have H6 := Lib.hid (usVs_len l)
    clear hb0 hbuf h1 hc hl
    go_enter Tryz.func23, Tryz.ntmps23
    go_wp2_with (at_builtin; refine wpList_append_own _ rfl _ _ 24 rfl w.heap.size 26 i0 (.agg #[.string (S []), .string (S [])]) 2 32 Tryz.underlying24 hi hz0 hz1 hz2 rfl (by decide) (.slice (some ⟨w.heap.size, 0, none⟩) 0 0) 0 [] rfl HB.out a l.length c (usVs l) rfl H6.out H1.out H2.out H3.out H4.out H5.out ?_)
    intro v' wa hown hgrow hnil
    have hown' : UsBuf w.heap.size wa v' l := by
      unfold UsBuf
      exact hown
    have Hlow := Lib.hid (Hb0.out.grown hgrow (by simp) (fun k hk => by simp [Value.ownBlock] at hk; omega))
    have Hown := Lib.hid hown'
    clear hown hown' hgrow hnil
    go_wp2_with fail
    go_ret
    exact ⟨_, rfl, Hown.out, Hlow.out⟩
end Go.Proofs.YtlcadichpcdgpaaGreatDoor
namespace Go.Proofs.YtlcadichpcdgpaaGreatDoor
open Go Go.RowKit
set_option linter.unusedVariables false
/-- cells written into a block, one behind the other -/
theorem setCells_at {b : Nat} {t : TypeId} : ∀ (vs : List Value) (o : Nat) (W : World) (C : Array Value), Blk W b C t → ∃ C', Blk (W.setCells b o vs) b C' t ∧ C'.size = C.size ∧ (∀ j, j < o → C'[j]? = C[j]?) ∧ (∀ j, o ≤ j → j < o + vs.length → j < C.size → C'[j]? = vs[j - o]?) ∧ (∀ j, o + vs.length ≤ j → C'[j]? = C[j]?)
  | [], _, W, C, h => ⟨C, h, rfl, fun _ _ => rfl, fun j h1 h2 _ => absurd h2 (by simp; omega), fun _ _ => rfl⟩
  | v :: vs, o, W, C, h => by
    obtain ⟨C', h1, h2, h3, h4, h5⟩ := setCells_at vs (o + 1) _ _ (h.set o v)
    refine ⟨C', h1, by rw [h2]; simp, fun j hj => by rw [h3 j (by omega), Array.getElem?_setIfInBounds_ne (by omega)], fun j hj hj2 hj3 => ?_, fun j hj => ?_⟩
    · by_cases e : j = o
      · subst e
        rw [h3 j (by omega), Array.getElem?_setIfInBounds_self_of_lt hj3, Nat.sub_self, List.getElem?_cons_zero]
      · rw [h4 j (by omega) (by simp only [List.length_cons] at hj2; omega) (by simpa using hj3), show j - o = (j - (o + 1)) + 1 by omega, List.getElem?_cons_succ]
    · simp only [List.length_cons] at hj
      rw [h5 j (by omega), Array.getElem?_setIfInBounds_ne (by omega)]
theorem setCells_grownB (b : Nat) : ∀ (vs : List Value) (o : Nat) (W : World), W.grownBy (W.setCells b o vs) (some b)
  | [], _, W => ⟨rfl, rfl, rfl, Nat.le_refl _, fun _ _ _ => rfl⟩
  | v :: vs, o, W => by
    have h := setCells_grownB b vs (o + 1) (W.setCell ⟨b, o, none⟩ v)
    have h0 : W.grownBy (W.setCell ⟨b, o, none⟩ v) (some b) := ⟨rfl, rfl, rfl, by simp [World.setCell], fun k _ hne => setCell_heap_other (fun e => hne (by rw [e])) v⟩
    exact ⟨h.os.trans h0.os, h.tape.trans h0.tape, h.output.trans h0.output, Nat.le_trans h0.size h.size, fun k hk hne => (h.block k (Nat.lt_of_lt_of_le hk h0.size) hne).trans (h0.block k hk hne)⟩
theorem Blk.setCells_other {W : World} {b k o : Nat} {C : Array Value} {t : TypeId} {vs : List Value} (h : Blk W k C t) (hne : k ≠ b) : Blk (W.setCells b o vs) k C t :=
  ((setCells_grownB b vs o W).block k h.lt (fun e => hne (by injection e))).trans h
/-- the row behind what slices.Delete does: moved to the left, and cleared -/
theorem row_deleted {W : World} {g N a b : Nat} {C : Array Value} {t : TypeId} {cs zs : List Value} (hC : Blk W g C t) (hcs : C.toList.take N = cs) (hN : N ≤ C.size) (hab : a ≤ b) (hb : b ≤ N) :
    ∃ C', Blk ((W.setCells g a (cs.drop b)).setCells g (a + (N - b)) zs) g C' t ∧ C'.size = C.size ∧ C'.toList.take (a + (N - b)) = cs.take a ++ cs.drop b := by
  have hl : cs.length = N := by rw [← hcs, List.length_take, Array.length_toList]; omega
  have hget : ∀ i, i < N → C[i]? = cs[i]? := fun i hi => by rw [← hcs, List.getElem?_take, if_pos hi, Array.getElem?_toList]
  obtain ⟨C1, b1, s1, l1, m1, _⟩ := setCells_at (cs.drop b) a W C hC
  obtain ⟨C2, b2, s2, l2, _, _⟩ := setCells_at zs (a + (N - b)) _ C1 b1
  refine ⟨C2, b2, s2.trans s1, ?_⟩
  have hdl : (cs.drop b).length = N - b := by rw [List.length_drop, hl]
  apply List.ext_getElem?
  intro i
  by_cases hi : i < a + (N - b)
  · rw [List.getElem?_take, if_pos hi, Array.getElem?_toList, l2 i hi]
    by_cases hia : i < a
    · rw [l1 i hia, hget i (by omega), List.getElem?_append_left (by rw [List.length_take]; omega), List.getElem?_take, if_pos hia]
    · rw [m1 i (by omega) (by rw [hdl]; exact hi) (by omega), List.getElem?_append_right (by rw [List.length_take]; omega), List.length_take, Nat.min_eq_left (by omega)]
  · rw [List.getElem?_take, if_neg hi, List.getElem?_eq_none (by rw [List.length_append, List.length_take, hdl]; omega)]
/-- 'clear(s)' of a row -/
theorem run_clear_row {P : Program} {st t : TypeId} {z : Value} {zc : Array Value} {i : TypeInfo} (hu : P.underlying st = some (.slice t)) (hi : P.info? t = some i) (hz : i.zero = some z) (hzc : z.cells = zc) (h1 : ∀ u ∈ zc, u.oneCell' = true) (hz0 : 0 < zc.size) (W : World) (g o n c : Nat) (hn : 0 < n)
    (hc : ∀ j, j < n * zc.size → (W.cell? ⟨g, o + j, none⟩).isSome = true) (hf : ∀ j, j < n * zc.size → W.frozen? ⟨g, o + j, none⟩ = false) :
    ∃ vs : List Value, ∀ ty, (Builtin.clear_ #[st] ty #[.slice (some ⟨g, o, none⟩) n c]).run P W = .ok (.tuple #[]) (W.setCells g o vs) := by
  have hv : ∀ w, (zeroValue t).run P w = .ok z w := fun w => by simp [zeroValue, typeInfo, hi, hz]
  obtain ⟨m, rfl⟩ : ∃ m, n = m + 1 := ⟨n - 1, by omega⟩
  obtain ⟨vs, hvs⟩ : ∃ vs, (Builtin.zeroCells zc (m + 1)).toList = vs := ⟨_, rfl⟩
  have hlen : vs.length = (m + 1) * zc.size := by rw [← hvs]; simp [Builtin.zeroCells]
  have hall : ∀ v ∈ vs, v.oneCell' = true := by
    intro v hm
    rw [← hvs] at hm
    simp only [Builtin.zeroCells] at hm
    rw [Array.mem_toList_iff] at hm
    obtain ⟨j, hj, e⟩ := Array.mem_iff_getElem.1 hm
    rw [← e]
    have hlt : j % zc.size < zc.size := Nat.mod_lt _ hz0
    simp only [Array.getElem_map, Array.getElem_range]
    rw [getElem!_pos zc (j % zc.size) hlt]
    exact h1 _ (Array.getElem_mem hlt)
  refine ⟨vs, fun ty => ?_⟩
  have hst := run_storeCells_cells (P := P) g o vs 0 W (by rw [hlen]; simpa using hc) (by rw [hlen]; simpa using hf) hall
  simp only [Nat.add_zero] at hst
  simp [Builtin.clear_, run_underlying hu, hv, hzc, hvs, hst]
end Go.Proofs.YtlcadichpcdgpaaGreatDoor
namespace Go.Proofs.YtlcadichpcdgpaaGreatDoor
open Go Go.RowKit
set_option linter.unusedVariables false
set_option maxRecDepth 100000 in
set_option maxHeartbeats 2000000 in
theorem delS_any (n k j m c g B : Nat) (cs : List Value) (w : World) (hv : w.ownsRow B 9 1 (.slice (some ⟨g, 0, none⟩) n c) n cs) (hkj : k < j) (hjn : j ≤ n) (hn : n ≤ 100000) (hmm : k + (n - j) = m) (h1 : ∀ u ∈ cs, u.oneCell' = true) :
    Calls Tryz.prog 18 #[.slice (some ⟨g, 0, none⟩) n c, .int .i64 (k : Int), .int .i64 (j : Int)] w fun e w' => e = .returned (.slice (some ⟨g, 0, none⟩) m c) ∧ w'.ownsRow B 9 1 (.slice (some ⟨g, 0, none⟩) m c) m (cs.take (k * 1) ++ cs.drop (j * 1)) ∧ w.grownBy w' (some g) := by
  obtain ⟨i0, hi, hz0, hz1, hz2⟩ := infoSt
  rcases hv.2 with ⟨h0, _⟩ | ⟨g', cap, cur, hvv, hbg, hg, hnc, hcm, hcs, htake⟩
  · cases h0
  obtain ⟨rfl, rfl⟩ : g = g' ∧ c = cap := by
    simp only [Value.slice.injEq, Option.some.injEq, Addr.mk.injEq] at hvv
    exact ⟨hvv.1.1, hvv.2.2⟩
  have hC : Blk w g cur 9 := hg
  have hlen0 := hv.1
  have hget : ∀ i, i < n * 1 → w.cell? ⟨g, i, none⟩ = cs[i]? := fun i hi => by rw [hC.cell, ← htake, List.getElem?_take, if_pos hi, Array.getElem?_toList]
  have hsome : ∀ i, i < c * 1 → (w.cell? ⟨g, i, none⟩).isSome = true := fun i hi => by rw [hC.cell, Array.getElem?_eq_getElem (by omega)]; rfl
  have hm : maxLen = 9223372036854775807 := by decide
  rw [hm] at hcm
  -- the cells that are moved to the left
  obtain ⟨news, hnews⟩ : ∃ news, news = cs.drop (j * 1) := ⟨_, rfl⟩
  have hlen : news.length = (n - j) * 1 := by rw [hnews, List.length_drop, hlen0]; omega
  obtain ⟨A, hA, hsrc⟩ : ∃ A : Addr, (if c = j then some (⟨g, 0, none⟩ : Addr) else some ⟨g, j * 1, none⟩) = some A ∧ Hid (∀ t u, news[t]? = some u → w.drew.cell? (A.add t) = some u) := by
    by_cases h : c = j
    · refine ⟨⟨g, 0, none⟩, by simp [h], fun t u hu => ?_⟩
      have h0 : news.length = 0 := by rw [hlen]; omega
      rw [List.length_eq_zero_iff.1 h0] at hu
      simp at hu
    · refine ⟨⟨g, j * 1, none⟩, by simp [h], fun t u hu => ?_⟩
      have ht : t < (n - j) * 1 := by
        have := (List.getElem?_eq_some_iff.1 hu).1
        rwa [hlen] at this
      rw [Addr.add_lit]
      rw [hnews, List.getElem?_drop] at hu
      exact (hget _ (by omega)).trans hu
  have s2 : Hid (∀ u ∈ news, u.oneCell' = true) := fun u hu => h1 u (by rw [hnews] at hu; exact List.mem_of_mem_drop hu)
  have s3 : Hid (∀ t, t < news.length → (w.drew.cell? ⟨g, 0 + k * 1 + t, none⟩).isSome = true ∧ w.drew.frozen? ⟨g, 0 + k * 1 + t, none⟩ = false) := by
    intro t ht
    rw [hlen] at ht
    exact ⟨hsome _ (by omega), hC.frozen _⟩
  have s1 : Hid (news.length = (n - j) * 1) := hlen
  obtain ⟨W1, hW1⟩ : ∃ W1, w.drew.setCells g (0 + k * 1) news = W1 := ⟨_, rfl⟩
  have hC1 : ∃ C1, Blk W1 g C1 9 ∧ C1.size = cur.size := by
    obtain ⟨C1, a1, a2, _⟩ := setCells_at news (0 + k * 1) w.drew cur hC
    exact ⟨C1, hW1 ▸ a1, a2⟩
  obtain ⟨C1, hC1, hs1⟩ := hC1
  obtain ⟨vs, hclr⟩ := run_clear_row (P := Tryz.prog) Tryz.underlying22 hi hz0 (show _ = #[.string (S [])] from by simp [Value.cells]) (by decide +kernel) (by decide) W1 g ((k + (n - j)) * 1) (n - (k + (n - j))) (c - (k + (n - j))) (by omega)
    (fun t ht => by rw [hC1.cell, Array.getElem?_eq_getElem (by simp at ht; omega)]; rfl) (fun t _ => hC1.frozen _)
  have hW1' := hW1
  rw [Nat.zero_add, hnews] at hW1'
  obtain ⟨C2, hB2, hs2, hrow⟩ := row_deleted (zs := vs) (a := k * 1) (b := j * 1) (show Blk w.drew g cur 9 from hC) htake (by rw [hcs]; omega) (by omega) (by omega)
  have e1 : k * 1 + (n * 1 - j * 1) = (k + (n - j)) * 1 := by omega
  rw [e1, hW1'] at hB2
  rw [e1] at hrow
  have hgr : w.grownBy (W1.setCells g ((k + (n - j)) * 1) vs) (some g) := by
    have a := setCells_grownB g vs ((k + (n - j)) * 1) W1
    rw [← hW1] at a ⊢
    have b := setCells_grownB g news (0 + k * 1) w.drew
    exact ⟨a.os.trans b.os, a.tape.trans b.tape, a.output.trans b.output, Nat.le_trans b.size a.size, fun k hk hne => (a.block k (Nat.lt_of_lt_of_le hk b.size) hne).trans (b.block k hk hne)⟩
  have hown : (W1.setCells g ((k + (n - j)) * 1) vs).ownsRow B 9 1 (.slice (some ⟨g, 0, none⟩) (k + (n - j)) c) (k + (n - j)) (cs.take (k * 1) ++ cs.drop (j * 1)) := by
    refine ⟨by rw [List.length_append, List.length_take, List.length_drop, hlen0]; omega, .inr ⟨g, c, C2, rfl, hbg, hB2, by omega, by rw [hm]; exact hcm, by rw [hs2]; exact hcs, hrow⟩⟩
  rw [hmm] at hclr hgr hown
  simp only [Nat.mul_one] at hA hclr hown hgr
  have Hgr := Lib.hid hgr
  have Hown := Lib.hid hown
  have HW1 := Lib.hid hW1
  have hne : ¬ k = j := by omega
  have hneI : ((k : Int) == (j : Int)) = false := beq_eq_false_iff_ne.2 (by omega)
  have hkc : k ≤ c := by omega
  have hjc : j ≤ c := by omega
  have hkI : (k : Int) ≤ (j : Int) := by omega
  have hjI : (j : Int) ≤ (n : Int) := by omega
  have hnI : (n : Int) ≤ (c : Int) := by omega
  clear hv hC hlen0 hget hsome hnews hlen hW1 hW1' hC1 hs1 hB2 hs2 hrow e1 hgr hown htake hcs hg hvv h1
  go_enter Tryz.func18, Tryz.ntmps18
  go_wp2_with fail
  go_region_law (refine step_append_room rfl (.tmp 22) (.tmp 25) 22 rfl 9 i0 1 Tryz.underlying22 hi hz1 g 0 k c (by simp [Act.eval, Act.put]) A (n - j) (c - j) news (by simp [Act.eval, Act.put]) s1.out hsrc.out s2.out (by omega) s3.out ?_; rw [HW1.out])
  have hmn : m < n := by omega
  have hmI : (m : Int) < (n : Int) := by omega
  have hmc : m ≤ c := by omega
  have hmc1 : ¬ c = m := by omega
  have hmc2 : ¬ m = c := by omega
  have hmc3 : ¬ c - m = 0 := by omega
  have hmc4 : ¬ c ≤ m := by omega
  have hmcI : (m : Int) ≤ (c : Int) := by omega
  go_wp2_with fail
  go_ret
  exact ⟨rfl, by simpa only [Nat.mul_one] using Hown.out, Hgr.out⟩
end Go.Proofs.YtlcadichpcdgpaaGreatDoor
namespace Go.Proofs.YtlcadichpcdgpaaGreatDoor
open Go Go.RowKit
set_option linter.unusedVariables false
set_option maxRecDepth 100000 in
set_option maxHeartbeats 2000000 in
theorem delO_any (n k j m c g B : Nat) (cs : List Value) (w : World) (hv : w.ownsRow B 50 2 (.slice (some ⟨g, 0, none⟩) n c) n cs) (hkj : k < j) (hjn : j ≤ n) (hn : n ≤ 100000) (hmm : k + (n - j) = m) (h1 : ∀ u ∈ cs, u.oneCell' = true) :
    Calls Tryz.prog 20 #[.slice (some ⟨g, 0, none⟩) n c, .int .i64 (k : Int), .int .i64 (j : Int)] w fun e w' => e = .returned (.slice (some ⟨g, 0, none⟩) m c) ∧ w'.ownsRow B 50 2 (.slice (some ⟨g, 0, none⟩) m c) m (cs.take (k * 2) ++ cs.drop (j * 2)) ∧ w.grownBy w' (some g) := by
  obtain ⟨i0, hi, hz0, hz1, hz2⟩ := infoPo
  rcases hv.2 with ⟨h0, _⟩ | ⟨g', cap, cur, hvv, hbg, hg, hnc, hcm, hcs, htake⟩
  · cases h0
  obtain ⟨rfl, rfl⟩ : g = g' ∧ c = cap := by
    simp only [Value.slice.injEq, Option.some.injEq, Addr.mk.injEq] at hvv
    exact ⟨hvv.1.1, hvv.2.2⟩
  have hC : Blk w g cur 50 := hg
  have hlen0 := hv.1
  have hget : ∀ i, i < n * 2 → w.cell? ⟨g, i, none⟩ = cs[i]? := fun i hi => by rw [hC.cell, ← htake, List.getElem?_take, if_pos hi, Array.getElem?_toList]
  have hsome : ∀ i, i < c * 2 → (w.cell? ⟨g, i, none⟩).isSome = true := fun i hi => by rw [hC.cell, Array.getElem?_eq_getElem (by omega)]; rfl
  have hm : maxLen = 9223372036854775807 := by decide
  rw [hm] at hcm
  -- the cells that are moved to the left
  obtain ⟨news, hnews⟩ : ∃ news, news = cs.drop (j * 2) := ⟨_, rfl⟩
  have hlen : news.length = (n - j) * 2 := by rw [hnews, List.length_drop, hlen0]; omega
  obtain ⟨A, hA, hsrc⟩ : ∃ A : Addr, (if c = j then some (⟨g, 0, none⟩ : Addr) else some ⟨g, j * 2, none⟩) = some A ∧ Hid (∀ t u, news[t]? = some u → w.drew.cell? (A.add t) = some u) := by
    by_cases h : c = j
    · refine ⟨⟨g, 0, none⟩, by simp [h], fun t u hu => ?_⟩
      have h0 : news.length = 0 := by rw [hlen]; omega
      rw [List.length_eq_zero_iff.1 h0] at hu
      simp at hu
    · refine ⟨⟨g, j * 2, none⟩, by simp [h], fun t u hu => ?_⟩
      have ht : t < (n - j) * 2 := by
        have := (List.getElem?_eq_some_iff.1 hu).1
        rwa [hlen] at this
      rw [Addr.add_lit]
      rw [hnews, List.getElem?_drop] at hu
      exact (hget _ (by omega)).trans hu
  have s2 : Hid (∀ u ∈ news, u.oneCell' = true) := fun u hu => h1 u (by rw [hnews] at hu; exact List.mem_of_mem_drop hu)
  have s3 : Hid (∀ t, t < news.length → (w.drew.cell? ⟨g, 0 + k * 2 + t, none⟩).isSome = true ∧ w.drew.frozen? ⟨g, 0 + k * 2 + t, none⟩ = false) := by
    intro t ht
    rw [hlen] at ht
    exact ⟨hsome _ (by omega), hC.frozen _⟩
  have s1 : Hid (news.length = (n - j) * 2) := hlen
  obtain ⟨W1, hW1⟩ : ∃ W1, w.drew.setCells g (0 + k * 2) news = W1 := ⟨_, rfl⟩
  have hC1 : ∃ C1, Blk W1 g C1 50 ∧ C1.size = cur.size := by
    obtain ⟨C1, a1, a2, _⟩ := setCells_at news (0 + k * 2) w.drew cur hC
    exact ⟨C1, hW1 ▸ a1, a2⟩
  obtain ⟨C1, hC1, hs1⟩ := hC1
  obtain ⟨vs, hclr⟩ := run_clear_row (P := Tryz.prog) Tryz.underlying23 hi hz0 (show _ = #[.string (S []), .int .i64 0] from by simp [Value.cells]) (by decide +kernel) (by decide) W1 g ((k + (n - j)) * 2) (n - (k + (n - j))) (c - (k + (n - j))) (by omega)
    (fun t ht => by rw [hC1.cell, Array.getElem?_eq_getElem (by simp at ht; omega)]; rfl) (fun t _ => hC1.frozen _)
  have hW1' := hW1
  rw [Nat.zero_add, hnews] at hW1'
  obtain ⟨C2, hB2, hs2, hrow⟩ := row_deleted (zs := vs) (a := k * 2) (b := j * 2) (show Blk w.drew g cur 50 from hC) htake (by rw [hcs]; omega) (by omega) (by omega)
  have e1 : k * 2 + (n * 2 - j * 2) = (k + (n - j)) * 2 := by omega
  rw [e1, hW1'] at hB2
  rw [e1] at hrow
  have hgr : w.grownBy (W1.setCells g ((k + (n - j)) * 2) vs) (some g) := by
    have a := setCells_grownB g vs ((k + (n - j)) * 2) W1
    rw [← hW1] at a ⊢
    have b := setCells_grownB g news (0 + k * 2) w.drew
    exact ⟨a.os.trans b.os, a.tape.trans b.tape, a.output.trans b.output, Nat.le_trans b.size a.size, fun k hk hne => (a.block k (Nat.lt_of_lt_of_le hk b.size) hne).trans (b.block k hk hne)⟩
  have hown : (W1.setCells g ((k + (n - j)) * 2) vs).ownsRow B 50 2 (.slice (some ⟨g, 0, none⟩) (k + (n - j)) c) (k + (n - j)) (cs.take (k * 2) ++ cs.drop (j * 2)) := by
    refine ⟨by rw [List.length_append, List.length_take, List.length_drop, hlen0]; omega, .inr ⟨g, c, C2, rfl, hbg, hB2, by omega, by rw [hm]; exact hcm, by rw [hs2]; exact hcs, hrow⟩⟩
  rw [hmm] at hclr hgr hown
  have Hgr := Lib.hid hgr
  have Hown := Lib.hid hown
  have HW1 := Lib.hid hW1
  have hne : ¬ k = j := by omega
  have hneI : ((k : Int) == (j : Int)) = false := beq_eq_false_iff_ne.2 (by omega)
  have hkc : k ≤ c := by omega
  have hjc : j ≤ c := by omega
  have hkI : (k : Int) ≤ (j : Int) := by omega
  have hjI : (j : Int) ≤ (n : Int) := by omega
  have hnI : (n : Int) ≤ (c : Int) := by omega
  clear hv hC hlen0 hget hsome hnews hlen hW1 hW1' hC1 hs1 hB2 hs2 hrow e1 hgr hown htake hcs hg hvv h1
  go_enter Tryz.func20, Tryz.ntmps20
  go_wp2_with fail
  go_region_law (refine step_append_room rfl (.tmp 22) (.tmp 25) 23 rfl 50 i0 2 Tryz.underlying23 hi hz1 g 0 k c (by simp [Act.eval, Act.put]) A (n - j) (c - j) news (by simp [Act.eval, Act.put]) s1.out hsrc.out s2.out (by omega) s3.out ?_; rw [HW1.out])
  have hmn : m < n := by omega
  have hmI : (m : Int) < (n : Int) := by omega
  have hmc : m ≤ c := by omega
  have hmc1 : ¬ c = m := by omega
  have hmc2 : ¬ m = c := by omega
  have hmc3 : ¬ c - m = 0 := by omega
  have hmc4 : ¬ c ≤ m := by omega
  have hmcI : (m : Int) ≤ (c : Int) := by omega
  go_wp2_with fail
  go_ret
  exact ⟨rfl, Hown.out, Hgr.out⟩
end Go.Proofs.YtlcadichpcdgpaaGreatDoor
namespace Go.Proofs.YtlcadichpcdgpaaGreatDoor
open Go Go.RowKit
set_option linter.unusedVariables false
set_option maxRecDepth 100000 in
set_option maxHeartbeats 2000000 in
theorem delU_any (n k j m c g B : Nat) (cs : List Value) (w : World) (hv : w.ownsRow B 26 2 (.slice (some ⟨g, 0, none⟩) n c) n cs) (hkj : k < j) (hjn : j ≤ n) (hn : n ≤ 100000) (hmm : k + (n - j) = m) (h1 : ∀ u ∈ cs, u.oneCell' = true) :
    Calls Tryz.prog 22 #[.slice (some ⟨g, 0, none⟩) n c, .int .i64 (k : Int), .int .i64 (j : Int)] w fun e w' => e = .returned (.slice (some ⟨g, 0, none⟩) m c) ∧ w'.ownsRow B 26 2 (.slice (some ⟨g, 0, none⟩) m c) m (cs.take (k * 2) ++ cs.drop (j * 2)) ∧ w.grownBy w' (some g) := by
  obtain ⟨i0, hi, hz0, hz1, hz2⟩ := infoUs
  rcases hv.2 with ⟨h0, _⟩ | ⟨g', cap, cur, hvv, hbg, hg, hnc, hcm, hcs, htake⟩
  · cases h0
  obtain ⟨rfl, rfl⟩ : g = g' ∧ c = cap := by
    simp only [Value.slice.injEq, Option.some.injEq, Addr.mk.injEq] at hvv
    exact ⟨hvv.1.1, hvv.2.2⟩
  have hC : Blk w g cur 26 := hg
  have hlen0 := hv.1
  have hget : ∀ i, i < n * 2 → w.cell? ⟨g, i, none⟩ = cs[i]? := fun i hi => by rw [hC.cell, ← htake, List.getElem?_take, if_pos hi, Array.getElem?_toList]
  have hsome : ∀ i, i < c * 2 → (w.cell? ⟨g, i, none⟩).isSome = true := fun i hi => by rw [hC.cell, Array.getElem?_eq_getElem (by omega)]; rfl
  have hm : maxLen = 9223372036854775807 := by decide
  rw [hm] at hcm
  -- the cells that are moved to the left
  obtain ⟨news, hnews⟩ : ∃ news, news = cs.drop (j * 2) := ⟨_, rfl⟩
  have hlen : news.length = (n - j) * 2 := by rw [hnews, List.length_drop, hlen0]; omega
  obtain ⟨A, hA, hsrc⟩ : ∃ A : Addr, (if c = j then some (⟨g, 0, none⟩ : Addr) else some ⟨g, j * 2, none⟩) = some A ∧ Hid (∀ t u, news[t]? = some u → w.drew.cell? (A.add t) = some u) := by
    by_cases h : c = j
    · refine ⟨⟨g, 0, none⟩, by simp [h], fun t u hu => ?_⟩
      have h0 : news.length = 0 := by rw [hlen]; omega
      rw [List.length_eq_zero_iff.1 h0] at hu
      simp at hu
    · refine ⟨⟨g, j * 2, none⟩, by simp [h], fun t u hu => ?_⟩
      have ht : t < (n - j) * 2 := by
        have := (List.getElem?_eq_some_iff.1 hu).1
        rwa [hlen] at this
      rw [Addr.add_lit]
      rw [hnews, List.getElem?_drop] at hu
      exact (hget _ (by omega)).trans hu
  have s2 : Hid (∀ u ∈ news, u.oneCell' = true) := fun u hu => h1 u (by rw [hnews] at hu; exact List.mem_of_mem_drop hu)
  have s3 : Hid (∀ t, t < news.length → (w.drew.cell? ⟨g, 0 + k * 2 + t, none⟩).isSome = true ∧ w.drew.frozen? ⟨g, 0 + k * 2 + t, none⟩ = false) := by
    intro t ht
    rw [hlen] at ht
    exact ⟨hsome _ (by omega), hC.frozen _⟩
  have s1 : Hid (news.length = (n - j) * 2) := hlen
  obtain ⟨W1, hW1⟩ : ∃ W1, w.drew.setCells g (0 + k * 2) news = W1 := ⟨_, rfl⟩
  have hC1 : ∃ C1, Blk W1 g C1 26 ∧ C1.size = cur.size := by
    obtain ⟨C1, a1, a2, _⟩ := setCells_at news (0 + k * 2) w.drew cur hC
    exact ⟨C1, hW1 ▸ a1, a2⟩
  obtain ⟨C1, hC1, hs1⟩ := hC1
  obtain ⟨vs, hclr⟩ := run_clear_row (P := Tryz.prog) Tryz.underlying24 hi hz0 (show _ = #[.string (S []), .string (S [])] from by simp [Value.cells]) (by decide +kernel) (by decide) W1 g ((k + (n - j)) * 2) (n - (k + (n - j))) (c - (k + (n - j))) (by omega)
    (fun t ht => by rw [hC1.cell, Array.getElem?_eq_getElem (by simp at ht; omega)]; rfl) (fun t _ => hC1.frozen _)
  have hW1' := hW1
  rw [Nat.zero_add, hnews] at hW1'
  obtain ⟨C2, hB2, hs2, hrow⟩ := row_deleted (zs := vs) (a := k * 2) (b := j * 2) (show Blk w.drew g cur 26 from hC) htake (by rw [hcs]; omega) (by omega) (by omega)
  have e1 : k * 2 + (n * 2 - j * 2) = (k + (n - j)) * 2 := by omega
  rw [e1, hW1'] at hB2
  rw [e1] at hrow
  have hgr : w.grownBy (W1.setCells g ((k + (n - j)) * 2) vs) (some g) := by
    have a := setCells_grownB g vs ((k + (n - j)) * 2) W1
    rw [← hW1] at a ⊢
    have b := setCells_grownB g news (0 + k * 2) w.drew
    exact ⟨a.os.trans b.os, a.tape.trans b.tape, a.output.trans b.output, Nat.le_trans b.size a.size, fun k hk hne => (a.block k (Nat.lt_of_lt_of_le hk b.size) hne).trans (b.block k hk hne)⟩
  have hown : (W1.setCells g ((k + (n - j)) * 2) vs).ownsRow B 26 2 (.slice (some ⟨g, 0, none⟩) (k + (n - j)) c) (k + (n - j)) (cs.take (k * 2) ++ cs.drop (j * 2)) := by
    refine ⟨by rw [List.length_append, List.length_take, List.length_drop, hlen0]; omega, .inr ⟨g, c, C2, rfl, hbg, hB2, by omega, by rw [hm]; exact hcm, by rw [hs2]; exact hcs, hrow⟩⟩
  rw [hmm] at hclr hgr hown
  have Hgr := Lib.hid hgr
  have Hown := Lib.hid hown
  have HW1 := Lib.hid hW1
  have hne : ¬ k = j := by omega
  have hneI : ((k : Int) == (j : Int)) = false := beq_eq_false_iff_ne.2 (by omega)
  have hkc : k ≤ c := by omega
  have hjc : j ≤ c := by omega
  have hkI : (k : Int) ≤ (j : Int) := by omega
  have hjI : (j : Int) ≤ (n : Int) := by omega
  have hnI : (n : Int) ≤ (c : Int) := by omega
  clear hv hC hlen0 hget hsome hnews hlen hW1 hW1' hC1 hs1 hB2 hs2 hrow e1 hgr hown htake hcs hg hvv h1
  go_enter Tryz.func22, Tryz.ntmps22
  go_wp2_with fail
  go_region_law (refine step_append_room rfl (.tmp 22) (.tmp 25) 24 rfl 26 i0 2 Tryz.underlying24 hi hz1 g 0 k c (by simp [Act.eval, Act.put]) A (n - j) (c - j) news (by simp [Act.eval, Act.put]) s1.out hsrc.out s2.out (by omega) s3.out ?_; rw [HW1.out])
  have hmn : m < n := by omega
  have hmI : (m : Int) < (n : Int) := by omega
  have hmc : m ≤ c := by omega
  have hmc1 : ¬ c = m := by omega
  have hmc2 : ¬ m = c := by omega
  have hmc3 : ¬ c - m = 0 := by omega
  have hmc4 : ¬ c ≤ m := by omega
  have hmcI : (m : Int) ≤ (c : Int) := by omega
  go_wp2_with fail
  go_ret
  exact ⟨rfl, Hown.out, Hgr.out⟩
end Go.Proofs.YtlcadichpcdgpaaGreatDoor
namespace Go.Proofs.YtlcadichpcdgpaaGreatDoor
open Go.RowKit
set_option linter.unusedVariables false
theorem flat_erase {α : Type} (f : α → List Value) (m : Nat) (hf : ∀ x, (f x).length = m) : ∀ (l : List α) (k : Nat), (l.eraseIdx k).flatMap f = (l.flatMap f).take (k * m) ++ (l.flatMap f).drop ((k + 1) * m)
  | [], k => by simp
  | x :: l, 0 => by
    have h := hf x
    simp only [List.eraseIdx_cons_zero, List.flatMap_cons, Nat.zero_mul, List.take_zero, List.nil_append, Nat.zero_add, Nat.one_mul]
    rw [← h, List.drop_left]
  | x :: l, k + 1 => by
    have h := hf x
    have ih := flat_erase f m hf l k
    simp only [List.eraseIdx_cons_succ, List.flatMap_cons]
    have t1 : (f x ++ l.flatMap f).take ((k + 1) * m) = f x ++ (l.flatMap f).take (k * m) := by
      rw [List.take_append, List.take_of_length_le (l := f x) (by rw [h, Nat.add_mul]; omega), h, show (k + 1) * m - m = k * m by rw [Nat.add_mul]; omega]
    have t2 : (f x ++ l.flatMap f).drop ((k + 1 + 1) * m) = (l.flatMap f).drop ((k + 1) * m) := by
      rw [List.drop_append, show (f x).drop ((k + 1 + 1) * m) = [] from List.drop_eq_nil_of_le (by rw [h, Nat.add_mul (k + 1), Nat.add_mul k]; omega), List.nil_append, h, show (k + 1 + 1) * m - m = (k + 1) * m by rw [Nat.add_mul (k + 1)]; omega]
    rw [ih, t1, t2, List.append_assoc]
theorem strVs_erase (l : List (List UInt8)) (k : Nat) : strVs (l.eraseIdx k) = (strVs l).take (k * 1) ++ (strVs l).drop ((k + 1) * 1) := by
  unfold strVs
  rw [List.eraseIdx_eq_take_drop_succ, List.map_append, List.map_take, List.map_drop, Nat.mul_one, Nat.mul_one]
theorem owns_stored {base : Nat} {W : World} {t : TypeId} {sz n : Nat} {v x : Value} {xs : List Value} {b i : Nat} (h : W.ownsRow base t sz v n xs) (hb : b < base) : (W.setCell ⟨b, i, none⟩ x).ownsRow base t sz v n xs := by
  refine World.ownsRow.kept (row := some b) h ⟨rfl, rfl, rfl, by simp [World.setCell], fun k hk hne => setCell_heap_other (fun e => hne (by rw [e])) x⟩ ?_
  cases hv : v.ownBlock with
  | none => exact .inl rfl
  | some k => exact .inr (fun e => by
      have h1 := (World.ownsRow.lt h k hv).1
      have h2 : k = b := by simpa using e
      omega)
/-- a row of the call's own behind lim, or none -/
def RowB (t : TypeId) (sz lim : Nat) (W : World) (v : Value) (n : Nat) (xs : List Value) : Prop := (∃ B, lim ≤ B ∧ W.ownsRow B t sz v n xs) ∨ (n = 0 ∧ ∃ p c, v = .slice p 0 c)
theorem RowB.later {t : TypeId} {sz lim n : Nat} {W W' : World} {v : Value} {xs : List Value} (h : RowB t sz lim W v n xs) (hb : Below W.heap.size W W') : RowB t sz lim W' v n xs := by
  rcases h with ⟨B, hB, h⟩ | h
  · refine .inl ⟨B, hB, World.ownsRow.kept (row := none) h ⟨hb.os, hb.tape, hb.output, hb.size, fun k hk _ => hb.block k hk⟩ ?_⟩
    cases hv : v.ownBlock with
    | none => exact .inl rfl
    | some k => exact .inr (by simp)
  · exact .inr h
theorem RowB.stored {t : TypeId} {sz lim n b i : Nat} {W : World} {v x : Value} {xs : List Value} (h : RowB t sz lim W v n xs) (hb : b < lim) : RowB t sz lim (W.setCell ⟨b, i, none⟩ x) v n xs := by
  rcases h with ⟨B, hB, h⟩ | h
  · exact .inl ⟨B, hB, owns_stored h (by omega)⟩
  · exact .inr h
theorem RowB.form {t : TypeId} {sz lim n : Nat} {W : World} {v : Value} {xs : List Value} (h : RowB t sz lim W v n xs) : ∃ p c, v = .slice p n c ∧ n ≤ c := by
  rcases h with ⟨B, _, h⟩ | ⟨rfl, p, c, h⟩
  · rcases h.2 with ⟨h1, rfl⟩ | ⟨g, cap, cur, h1, _, _, h2, _⟩
    · exact ⟨none, 0, h1, Nat.le_refl _⟩
    · exact ⟨_, _, h1, h2⟩
  · exact ⟨p, c, h, Nat.zero_le _⟩
theorem RowB.strs {lim : Nat} {W : World} {v : Value} {l : List (List UInt8)} (h : RowB 9 1 lim W v l.length (strVs l)) : StrV W v l := by
  rcases h with ⟨B, _, h⟩ | ⟨h0, p, c, rfl⟩
  · exact StBuf.strs (base := B) h
  · obtain rfl : l = [] := List.eq_nil_of_length_eq_zero h0
    exact ⟨p, c, rfl, fun h => absurd h (by decide)⟩
theorem RowB.pos {lim : Nat} {W : World} {v : Value} {l : List Po} (h : RowB 50 2 lim W v l.length (poVs l)) : PosV W v l := by
  rcases h with ⟨B, _, h⟩ | ⟨h0, p, c, rfl⟩
  · exact PoBuf.po (base := B) h
  · obtain rfl : l = [] := List.eq_nil_of_length_eq_zero h0
    exact ⟨p, c, rfl, Nat.zero_le _, fun h => absurd h (by decide)⟩
theorem RowB.uss {lim : Nat} {W : World} {v : Value} {l : List Us} (h : RowB 26 2 lim W v l.length (usVs l)) : UsV W v l := by
  rcases h with ⟨B, _, h⟩ | ⟨h0, p, c, rfl⟩
  · exact UsBuf.us (base := B) h
  · obtain rfl : l = [] := List.eq_nil_of_length_eq_zero h0
    exact ⟨p, c, rfl, Nat.zero_le _, fun h => absurd h (by decide)⟩
theorem own_form {base : Nat} {W : World} {t : TypeId} {sz n : Nat} {v : Value} {xs : List Value} (h : W.ownsRow base t sz v n xs) (hn : 0 < n) : ∃ g c, v = .slice (some ⟨g, 0, none⟩) n c := by
  rcases h.2 with ⟨_, h0⟩ | ⟨g, cap, cur, hv, _⟩
  · omega
  · exact ⟨g, cap, hv⟩
theorem lessS_any (l : List (List UInt8)) (k B : Nat) (v : Value) (w : World) (hv : StBuf B w v l) (hk : k < l.length) (hn : l.length ≤ 1000) :
    Calls Tryz.prog 18 #[v, .int .i64 (k : Int), .int .i64 ((k : Int) + 1)] w fun e w' => ∃ v', e = .returned v' ∧ w'.ownsRow B 9 1 v' (l.eraseIdx k).length (strVs (l.eraseIdx k)) ∧ w.grownBy w' v.ownBlock := by
  obtain ⟨g, c, rfl⟩ := own_form hv (by omega)
  have hm : (l.eraseIdx k).length = l.length - 1 := by rw [List.length_eraseIdx, if_pos hk]
  have D := delS_any l.length k (k + 1) (l.eraseIdx k).length c g B (strVs l) w hv (by omega) (by omega) (by omega) (by omega) (strVs_one l)
  rw [← strVs_erase, show ((k + 1 : Nat) : Int) = (k : Int) + 1 by omega] at D
  exact D.mono fun e w' h => ⟨_, h.1, h.2.1, h.2.2⟩
theorem lessO_any (l : List Po) (k B : Nat) (v : Value) (w : World) (hv : PoBuf B w v l) (hk : k < l.length) (hn : l.length ≤ 1000) :
    Calls Tryz.prog 20 #[v, .int .i64 (k : Int), .int .i64 ((k : Int) + 1)] w fun e w' => ∃ v', e = .returned v' ∧ w'.ownsRow B 50 2 v' (l.eraseIdx k).length (poVs (l.eraseIdx k)) ∧ w.grownBy w' v.ownBlock := by
  obtain ⟨g, c, rfl⟩ := own_form hv (by omega)
  have hm : (l.eraseIdx k).length = l.length - 1 := by rw [List.length_eraseIdx, if_pos hk]
  have D := delO_any l.length k (k + 1) (l.eraseIdx k).length c g B (poVs l) w hv (by omega) (by omega) (by omega) (by omega) (poVs_one l)
  have e : poVs (l.eraseIdx k) = (poVs l).take (k * 2) ++ (poVs l).drop ((k + 1) * 2) := flat_erase _ 2 (fun _ => rfl) l k
  rw [← e, show ((k + 1 : Nat) : Int) = (k : Int) + 1 by omega] at D
  exact D.mono fun e w' h => ⟨_, h.1, h.2.1, h.2.2⟩
theorem lessU_any (l : List Us) (k B : Nat) (v : Value) (w : World) (hv : UsBuf B w v l) (hk : k < l.length) (hn : l.length ≤ 1000) :
    Calls Tryz.prog 22 #[v, .int .i64 (k : Int), .int .i64 ((k : Int) + 1)] w fun e w' => ∃ v', e = .returned v' ∧ w'.ownsRow B 26 2 v' (l.eraseIdx k).length (usVs (l.eraseIdx k)) ∧ w.grownBy w' v.ownBlock := by
  obtain ⟨g, c, rfl⟩ := own_form hv (by omega)
  have hm : (l.eraseIdx k).length = l.length - 1 := by rw [List.length_eraseIdx, if_pos hk]
  have D := delU_any l.length k (k + 1) (l.eraseIdx k).length c g B (usVs l) w hv (by omega) (by omega) (by omega) (by omega) (usVs_one l)
  have e : usVs (l.eraseIdx k) = (usVs l).take (k * 2) ++ (usVs l).drop ((k + 1) * 2) := flat_erase _ 2 (fun _ => rfl) l k
  rw [← e, show ((k + 1 : Nat) : Int) = (k : Int) + 1 by omega] at D
  exact D.mono fun e w' h => ⟨_, h.1, h.2.1, h.2.2⟩
end Go.Proofs.YtlcadichpcdgpaaGreatDoor
namespace Go.Proofs.YtlcadichpcdgpaaGreatDoor
open Go Go.RowKit
set_option linter.unusedVariables false
def zConf : Array Value := #[.slice none 0 0, .slice none 0 0, .slice none 0 0, .string (S []), .string (S []), .int .i64 0, .slice none 0 0]
theorem allocN {o : Oper} {a : Act} {w : World} {K : Act → World → Prop} {Q : Exit → Act → World → Prop} (dst : Option Tmp) (hd : o.dst = dst) (ho : o.op = .alloc 29)
    (h : K (a.put dst (.pointer (some ⟨w.heap.size, 0, none⟩))) (w.alloc (.cells zConf 29))) : o.wp Tryz.prog a w K Q := by
  subst hd
  have hrun : (execOp a.eval o).run Tryz.prog w = .ok (.value (.pointer (some ⟨w.heap.size, 0, none⟩))) (w.alloc (.cells zConf 29)) := by
    obtain ⟨i0, hi, hz, hs⟩ : ∃ i, Tryz.prog.info? 29 = some i ∧ i.zero = some (.agg zConf) ∧ i.size = 7 := by
      have h : (Tryz.prog.info? 29).map (fun i => (i.zero, i.size)) = some (some (.agg zConf), 7) := by kernel_rfl
      cases hi : Tryz.prog.info? 29 with
      | none => rw [hi] at h; cases h
      | some i =>
        rw [hi] at h
        simp only [Option.map_some, Option.some.injEq, Prod.mk.injEq] at h
        exact ⟨i, rfl, h.1, h.2⟩
    have hcl : (Value.agg zConf).cells = zConf := by simp [Value.cells, zConf]
    unfold execOp
    simp [ho, Instr.alloc, zeroValue, typeInfo, hi, hz, newVar, newRow, hcl]
  unfold Oper.wp
  simp only [hrun]
  exact h
theorem storeN {P : Program} {op : Oper} {a : Act} {w : World} {K : Act → World → Prop} {Q : Exit → Act → World → Prop} (dst : Option Tmp) (hd : op.dst = dst) (ty : TypeId) (x y : Operand) (ho : op.op = .store ty x y)
    (b o : Nat) (cells : Array Value) (hx : a.eval x = .pointer (some ⟨b, o, none⟩)) (hy : a.eval y = .agg cells)
    (ht : w.there b o cells.size) (hi : (P.info? ty).map (·.size) = some cells.size) (h1 : cells.all (·.oneCell') = true)
    (h : K (a.put dst undef) (w.setCells b o cells.toList)) : op.wp P a w K Q := by
  subst hd
  exact wp_store_mid ty x y ho b o cells hx hy ht hi h1 h
theorem Blk.there {W : World} {b : Nat} {C : Array Value} {t : TypeId} (h : Blk W b C t) : W.there b 0 C.size := fun j hj => by
  rw [Nat.zero_add]
  exact ⟨by rw [h.cell, Array.getElem?_eq_getElem hj]; rfl, h.frozen j⟩
/-- a whole block, written anew -/
theorem Blk.whole {W : World} {b : Nat} {C D : Array Value} {t : TypeId} (h : Blk W b C t) (hs : C.size = D.size) : Blk (W.setCells b 0 D.toList) b D t := by
  obtain ⟨C', h1, h2, _, h4, _⟩ := setCells_at D.toList 0 W C h
  have e : C' = D := by
    apply Array.ext_getElem?
    intro i
    by_cases hi : i < D.size
    · rw [h4 i (by omega) (by simpa using hi) (by omega), Nat.sub_zero, Array.getElem?_toList]
    · rw [Array.getElem?_eq_none (by omega), Array.getElem?_eq_none (by omega)]
  rw [e] at h1
  exact h1
theorem below_cells {B b o : Nat} {W W' : World} {vs : List Value} (h : Below B W W') (hb : B ≤ b) (hB : B ≤ W'.heap.size) : Below B W (W'.setCells b o vs) :=
  h.grown (setCells_grownB b vs o W') hB (fun k hk => by cases hk; exact hb)
/-- three blocks of their own -/
structure Tri (W0 W : World) (lim b5 b6 b7 : Nat) (C5 C6 C7 : Array Value) : Prop where
  k5 : Blk W b5 C5 29
  k6 : Blk W b6 C6 29
  k7 : Blk W b7 C7 29
  l5 : W0.heap.size ≤ b5 ∧ b5 < lim
  l6 : W0.heap.size ≤ b6 ∧ b6 < lim
  l7 : W0.heap.size ≤ b7 ∧ b7 < lim
  n56 : b5 ≠ b6
  n57 : b5 ≠ b7
  n67 : b6 ≠ b7
  top : lim ≤ W.heap.size
  low : Below W0.heap.size W0 W
variable {W0 W W' : World} {lim b5 b6 b7 : Nat} {C5 C6 C7 : Array Value}
theorem Tri.rot (h : Tri W0 W lim b5 b6 b7 C5 C6 C7) : Tri W0 W lim b6 b7 b5 C6 C7 C5 := ⟨h.k6, h.k7, h.k5, h.l6, h.l7, h.l5, h.n67, h.n56.symm, h.n57.symm, h.top, h.low⟩
theorem Tri.swap (h : Tri W0 W lim b5 b6 b7 C5 C6 C7) : Tri W0 W lim b6 b5 b7 C6 C5 C7 := ⟨h.k6, h.k5, h.k7, h.l6, h.l5, h.l7, h.n56.symm, h.n67, h.n57, h.top, h.low⟩
theorem Tri.later (h : Tri W0 W lim b5 b6 b7 C5 C6 C7) (hb : Below W.heap.size W W') : Tri W0 W' lim b5 b6 b7 C5 C6 C7 :=
  ⟨h.k5.later hb, h.k6.later hb, h.k7.later hb, h.l5, h.l6, h.l7, h.n56, h.n57, h.n67, Nat.le_trans h.top hb.size, below_then h.low hb⟩
theorem Tri.whole (h : Tri W0 W lim b5 b6 b7 C5 C6 C7) (D : Array Value) (hs : C5.size = D.size) : Tri W0 (W.setCells b5 0 D.toList) lim b5 b6 b7 D C6 C7 := by
  have hB := below_cells (o := 0) (vs := D.toList) h.low h.l5.1 h.low.size
  have hsz := (setCells_grownB b5 D.toList 0 W).size
  exact ⟨h.k5.whole hs, h.k6.setCells_other h.n56.symm, h.k7.setCells_other h.n57.symm, h.l5, h.l6, h.l7, h.n56, h.n57, h.n67, Nat.le_trans h.top hsz, hB⟩
theorem Tri.set (h : Tri W0 W lim b5 b6 b7 C5 C6 C7) (i : Nat) (v : Value) : Tri W0 (W.setCell ⟨b5, i, none⟩ v) lim b5 b6 b7 (C5.setIfInBounds i v) C6 C7 :=
  ⟨h.k5.set i v, h.k6.other h.n56.symm v, h.k7.other h.n57.symm v, h.l5, h.l6, h.l7, h.n56, h.n57, h.n67, Nat.le_trans h.top (by simp [World.setCell]), h.low.setCell (p := ⟨b5, i, none⟩) h.l5.1 _⟩
theorem Tri.top_of (h : Tri W0 W lim b5 b6 b7 C5 C6 C7) : Tri W0 W W.heap.size b5 b6 b7 C5 C6 C7 := ⟨h.k5, h.k6, h.k7, ⟨h.l5.1, h.k5.lt⟩, ⟨h.l6.1, h.k6.lt⟩, ⟨h.l7.1, h.k7.lt⟩, h.n56, h.n57, h.n67, Nat.le_refl _, h.low⟩
/-- three new blocks -/
theorem tri_new {W0 wx : World} (h : Below W0.heap.size W0 wx) : ∃ p1 p2 p3 A1 A2 A3, wx.heap.size = p1 ∧ A1.heap.size = p2 ∧ A2.heap.size = p3 ∧ wx.alloc (.cells zConf 29) = A1 ∧ A1.alloc (.cells zConf 29) = A2 ∧ A2.alloc (.cells zConf 29) = A3 ∧
    Below W0.heap.size W0 A1 ∧ Below W0.heap.size W0 A2 ∧ Tri W0 A3 A3.heap.size p1 p2 p3 zConf zConf zConf := by
  have hsz : ∀ (u : World) (o : Obj), (u.alloc o).heap.size = u.heap.size + 1 := fun u o => by simp
  have b1 := Blk.new wx zConf 29
  have h1 := h.alloc h.size (.cells zConf 29)
  have s1 := hsz wx (.cells zConf 29)
  generalize wx.alloc (.cells zConf 29) = A1 at b1 h1 s1
  have b2 := Blk.new A1 zConf 29
  have b12 := b1.alloc (.cells zConf 29)
  have h2 := h1.alloc h1.size (.cells zConf 29)
  have s2 := hsz A1 (.cells zConf 29)
  generalize hA2 : A1.alloc (.cells zConf 29) = A2 at b2 b12 h2 s2
  have b3 := Blk.new A2 zConf 29
  have b13 := b12.alloc (.cells zConf 29)
  have b23 := b2.alloc (.cells zConf 29)
  have h3 := h2.alloc h2.size (.cells zConf 29)
  have s3 := hsz A2 (.cells zConf 29)
  have := h.size
  refine ⟨_, _, _, A1, A2, _, rfl, rfl, rfl, rfl, hA2, rfl, h1, h2, ⟨b13, b23, b3, ⟨by omega, by omega⟩, ⟨by omega, by omega⟩, ⟨by omega, by omega⟩, by omega, by omega, by omega, Nat.le_refl _, h3⟩⟩
end Go.Proofs.YtlcadichpcdgpaaGreatDoor
namespace Go.Proofs.YtlcadichpcdgpaaGreatDoor
open Go.RowKit
theorem wf_u64 {n : Int} (h : (Lit.int .u64 n).wf = true) : ∃ k : Nat, n = k ∧ k < 2 ^ 64 := by
  have h' : 0 ≤ n ∧ n ≤ 18446744073709551615 := by simpa [Lit.wf, IntKind.min, IntKind.max, IntKind.signed, IntKind.bits] using h
  exact ⟨n.toNat, by omega, by omega⟩
theorem wf_i64 {n : Int} (h : (Lit.int .i64 n).wf = true) : -9223372036854775808 ≤ n ∧ n ≤ 9223372036854775807 := by
  simpa [Lit.wf, IntKind.min, IntKind.max, IntKind.signed, IntKind.bits] using h
theorem wf_u32 {n : Int} (h : (Lit.int .u32 n).wf = true) : ∃ k : Nat, n = k ∧ k < 2 ^ 32 := by
  have h' : 0 ≤ n ∧ n ≤ 4294967295 := by simpa [Lit.wf, IntKind.min, IntKind.max, IntKind.signed, IntKind.bits] using h
  exact ⟨n.toNat, by omega, by omega⟩
theorem u64_wrap (a : Int) : IntKind.u64.wrap a = a % 2 ^ 64 := by
  have s : IntKind.u64.signed = false := rfl
  unfold IntKind.wrap
  simp only [s, Bool.false_and, Bool.false_eq_true, if_false]
  rfl
/-- int(uint(a) % uint(n)) -/
def pickI (a : Int) (n : Nat) : Nat := (a % 2 ^ 64).toNat % n
theorem pickI_lt (a : Int) (n : Nat) (hn : 0 < n) : pickI a n < n := Nat.mod_lt _ hn
theorem pick_walk (a : Int) (n : Nat) (hn : 0 < n) (h : n ≤ 4611686018427387904) : wrap64 ((IntKind.u64.wrap a).tmod (n : Int)) = ((pickI a n : Nat) : Int) := by
  have h0 : 0 ≤ a % 2 ^ 64 := Int.emod_nonneg _ (by decide)
  have e : (IntKind.u64.wrap a).tmod (n : Int) = ((pickI a n : Nat) : Int) := by
    rw [u64_wrap, Int.tmod_eq_emod_of_nonneg h0]
    unfold pickI
    generalize a % 2 ^ 64 = m at h0
    obtain ⟨k, rfl⟩ := Int.eq_ofNat_of_zero_le h0
    rw [Int.toNat_natCast, Int.natCast_emod]
  have hlt := pickI_lt a n hn
  rw [e]
  exact IntWalk.wrap64_in _ ⟨by omega, by omega⟩
theorem pick_any (a : Int) (n : Nat) (w : World) (hn : 0 < n) (h : n ≤ 4611686018427387904) :
    Calls Tryz.prog 17 #[.int .i64 a, .int .i64 n] w fun e w' => e = .returned (.int .i64 (pickI a n : Nat)) ∧ w = w' := by
  have hp := pick_walk a n hn h
  have hn2 : (n : Int) ≠ 0 := by omega
  go_enter Tryz.func17, Tryz.ntmps17
  go_wp2_with fail
  go_ret
  exact ⟨ret_int hp, rfl⟩

end Go.Proofs.YtlcadichpcdgpaaGreatDoor
