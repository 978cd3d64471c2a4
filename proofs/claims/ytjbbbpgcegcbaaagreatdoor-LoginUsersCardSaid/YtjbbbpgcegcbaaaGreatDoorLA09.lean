/- LA09: several texts in one. -/
import Derived.Deep.RegionHeld3
import Derived.Laws.AppendOwn
import Derived.Laws.OwnMore
import Derived.Lib.AppendZeros
import Derived.Test.YtjbbbpgcegcbaaaGreatDoorRows
import Derived.Test.YtjbbbpgcegcbaaaGreatDoorLA02
import Derived.Test.YtjbbbpgcegcbaaaGreatDoorLA03
import Derived.Test.YtjbbbpgcegcbaaaGreatDoorLA04
import Derived.Test.YtjbbbpgcegcbaaaGreatDoorLA06
import Derived.Test.YtjbbbpgcegcbaaaGreatDoorLA07
import Derived.Test.YtjbbbpgcegcbaaaGreatDoorLA08
namespace Go.Proofs.YtjbbbpgcegcbaaaGreatDoor
open Go.RowKit
def PrsV (W : World) (v : Value) (l : List Pr) : Prop := ∃ p c, v = .slice p l.length c ∧ l.length ≤ c ∧ (0 < l.length → ∃ b o, p = some ⟨b, o, none⟩ ∧ ∀ j (hj : j < l.length), W.cell? ⟨b, o + j * 2, none⟩ = some (.string (S l[j].k)) ∧ W.cell? ⟨b, o + j * 2 + 1, none⟩ = some (.string (S l[j].v)))
theorem PrsV.later {W W' : World} {v : Value} {l : List Pr} (h : PrsV W v l) (hb : Below W.heap.size W W') : PrsV W' v l := by
 obtain ⟨p, c, hv, hlc, hc⟩ := h
 refine ⟨p, c, hv, hlc, fun hl => ?_⟩
 obtain ⟨b, o, hp, hcell⟩ := hc hl
 refine ⟨b, o, hp, fun j hj => ?_⟩
 obtain ⟨h1, h2⟩ := hcell j hj
 rw [(bcell hb).1 b (o + j * 2) (block_lt_of_cell (w := W) (a := ⟨b, o + j * 2, none⟩) h1), (bcell hb).1 b (o + j * 2 + 1) (block_lt_of_cell (w := W) (a := ⟨b, o + j * 2 + 1, none⟩) h2)]
 exact ⟨h1, h2⟩
theorem PrsV.nil (W : World) : PrsV W (.slice none 0 0) [] := ⟨none, 0, rfl, Nat.le_refl _, fun h => absurd h (by decide)⟩
theorem PrsV.form {W : World} {v : Value} {l : List Pr} (h : PrsV W v l) : ∃ p c, v = .slice p l.length c := by obtain ⟨p, c, h, _⟩ := h; exact ⟨p, c, h⟩
theorem PrsV.cell {W : World} {p : Option Addr} {c : Nat} {l : List Pr} (h : PrsV W (.slice p l.length c) l) {j : Nat} (hj : j < l.length) : ∃ b o, p = some ⟨b, o, none⟩ ∧ W.cell? ⟨b, o + j * 2, none⟩ = some (.string (S l[j].k)) ∧ W.cell? ⟨b, o + j * 2 + 1, none⟩ = some (.string (S l[j].v)) := by
 obtain ⟨p0, c0, hv, _, hc⟩ := h
 obtain ⟨rfl, rfl⟩ : p = p0 ∧ c = c0 := by simpa using hv
 obtain ⟨b, o, rfl, hcell⟩ := hc (by omega)
 exact ⟨b, o, rfl, hcell j hj⟩
def fitPs (l : List Pr) : Prop := l.length ≤ 140737488355328 ∧ ∀ p ∈ l, p.k.length ≤ 140737488355328 ∧ p.v.length ≤ 140737488355328
def prsVs (l : List Pr) : List Value := l.flatMap fun p => [.string (S p.k), .string (S p.v)]
theorem prsVs_len : ∀ l : List Pr, (prsVs l).length = l.length * 2
 | [] => rfl
 | a :: l => by
  have := prsVs_len l
  unfold prsVs at *
  simp only [List.flatMap_cons, List.length_append, List.length_cons, List.length_nil] at *
  omega
theorem prsVs_app (l m : List Pr) : prsVs (l ++ m) = prsVs l ++ prsVs m := by simp [prsVs]
theorem prsVs_one (l : List Pr) : ∀ u ∈ prsVs l, u.oneCell' = true := by
 intro u hu
 unfold prsVs at hu
 obtain ⟨a, _, h⟩ := List.mem_flatMap.1 hu
 rcases List.mem_cons.1 h with rfl | h
 ·rfl
 ·rw [List.mem_singleton.1 h]; rfl
theorem prsVs_get : ∀ (l : List Pr) (j : Nat) (hj : j < l.length), (prsVs l)[j * 2]? = some (.string (S l[j].k)) ∧ (prsVs l)[j * 2 + 1]? = some (.string (S l[j].v))
 | [], j, hj => by simp at hj
 | a :: l, 0, _ => ⟨rfl, rfl⟩
 | a :: l, j + 1, hj => by
  obtain ⟨h1, h2⟩ := prsVs_get l j (by simpa using hj)
  have e : prsVs (a :: l) = .string (S a.k) :: .string (S a.v) :: prsVs l := rfl
  rw [e, show (j + 1) * 2 = j * 2 + 1 + 1 by omega, List.getElem?_cons_succ, List.getElem?_cons_succ, h1, show j * 2 + 1 + 1 + 1 = (j * 2 + 1) + 1 + 1 by omega, List.getElem?_cons_succ, List.getElem?_cons_succ, h2]
  exact ⟨rfl, rfl⟩
def PrBuf (base : Nat) (W : World) (v : Value) (l : List Pr) : Prop := W.ownsRow base 60 2 v l.length (prsVs l)
theorem PrBuf.nil (base : Nat) (W : World) : PrBuf base W (.slice none 0 0) [] := World.ownsRow_nil W base 60 2
theorem PrBuf.alloc {base : Nat} {W : World} {v : Value} {l : List Pr} (h : PrBuf base W v l) (o : Obj) : PrBuf base (W.alloc o) v l := World.ownsRow.alloc h o
theorem PrBuf.later {base : Nat} {W W' : World} {v : Value} {l : List Pr} (h : PrBuf base W v l) (hb : Below W.heap.size W W') : PrBuf base W' v l := by
 refine World.ownsRow.kept (row := none) h ⟨hb.os, hb.tape, hb.output, hb.size, fun k hk _ => hb.block k hk⟩ ?_
 cases hv : v.ownBlock with
 | none => exact .inl rfl
 | some k => exact .inr (by simp)
theorem PrBuf.form {base : Nat} {W : World} {v : Value} {l : List Pr} (h : PrBuf base W v l) : ∃ p cap, v = .slice p l.length cap := by
 rcases h.2 with ⟨rfl, h0⟩ | ⟨g, cap, cur, hv, _⟩
 ·exact ⟨none, 0, by rw [h0]⟩
 ·exact ⟨_, _, hv⟩
theorem PrBuf.prs {base : Nat} {W : World} {v : Value} {l : List Pr} (h : PrBuf base W v l) : PrsV W v l := by
 rcases h.2 with ⟨rfl, h0⟩ | ⟨g, cap, cur, rfl, hbg, hg, hnc, hcm, hcs, htake⟩
 ·obtain rfl : l = [] := List.eq_nil_of_length_eq_zero h0
  exact PrsV.nil W
 ·refine ⟨_, _, rfl, hnc, fun _ => ⟨g, 0, rfl, fun j hj => ?_⟩⟩
  obtain ⟨g1, g2⟩ := prsVs_get l j hj
  have h1 := World.ownsRow.cells h (g := g) rfl (j * 2) _ g1
  have h2 := World.ownsRow.cells h (g := g) rfl (j * 2 + 1) _ g2
  have e1 : (⟨g, 0, none⟩ : Addr).add (j * 2) = ⟨g, 0 + j * 2, none⟩ := by simp only [Addr.add]; split <;> simp_all
  have e2 : (⟨g, 0, none⟩ : Addr).add (j * 2 + 1) = ⟨g, 0 + j * 2 + 1, none⟩ := by simp only [Addr.add]; split <;> simp_all <;> omega
  rw [e1] at h1
  rw [e2] at h2
  exact ⟨h1, h2⟩
theorem PrBuf.ne {base : Nat} {W : World} {v : Value} {l : List Pr} (h : PrBuf base W v l) {b : Nat} (hb : W.heap.size ≤ b) : ∀ k, v.ownBlock = some k → b ≠ k := fun k hk => by
 have := (World.ownsRow.lt h k hk).2
 omega
theorem PrBuf.ge {base : Nat} {W : World} {v : Value} {l : List Pr} (h : PrBuf base W v l) : ∀ k, v.ownBlock = some k → base ≤ k := fun k hk => (World.ownsRow.lt h k hk).1
theorem Blk.grownP {W W' : World} {b : Nat} {C : Array Value} {t : TypeId} {row : Option Nat} (h : Blk W b C t) (hg : W.grownBy W' row) (hne : ∀ k, row = some k → b ≠ k) : Blk W' b C t :=
 (hg.block b h.lt (fun e => hne b e.symm rfl)).trans h
theorem infoPr : ∃ i, Tryz.prog.info? 60 = some i ∧ i.zero = some (.agg #[.string (S []), .string (S [])]) ∧ i.size = 2 ∧ i.bytes = 32 := info_parts (show (Tryz.prog.info? 60).map (fun i => (i.zero, i.size, i.bytes)) = some (some (.agg #[.string (S []), .string (S [])]), 2, 32) by kernel_rfl)
theorem appP_sides (k v : List UInt8) (wu : World) (N n base : Nat) (hN : wu.heap.size = N) (hn : n ≤ 5000) (hb : base ≤ N) :
  Hid (∀ j u, ([.string (S k), .string (S v)] : List Value)[j]? = some u → (wu.alloc (.cells #[.string (S k), .string (S v)] 60)).cell? ((⟨N, 0, none⟩ : Addr).add j) = some u) ∧ Hid (∀ u ∈ ([.string (S k), .string (S v)] : List Value), u.oneCell' = true) ∧ Hid (n + 1 ≤ maxLen) ∧ Hid ((n + 1) * 32 ≤ 140737488355328) ∧ Hid (base ≤ (wu.alloc (.cells #[.string (S k), .string (S v)] 60)).heap.size) := by
 subst hN
 refine ⟨Lib.hid ?_, Lib.hid ?_, Lib.hid (by unfold maxLen; omega), Lib.hid (by omega), Lib.hid (by simp; omega)⟩
 ·intro j u h
  have hb := (Blk.new wu #[.string (S k), .string (S v)] 60).cell j
  have e1 : (⟨wu.heap.size, 0, none⟩ : Addr).add j = ⟨wu.heap.size, j, none⟩ := by simp only [Addr.add]; split <;> simp_all
  rw [e1, hb]
  simpa using h
 ·exact prsVs_one [⟨k, v⟩]
theorem prs_new (w : World) (l : List Pr) (t : TypeId) : PrsV (w.alloc (.cells (prsVs l).toArray t)) (.slice (some ⟨w.heap.size, 0, none⟩) l.length l.length) l :=
 ⟨_, _, rfl, Nat.le_refl _, fun _ => ⟨w.heap.size, 0, rfl, fun j hj => by
  obtain ⟨g1, g2⟩ := prsVs_get l j hj
  have hb := Blk.new w (prsVs l).toArray t
  rw [hb.cell, hb.cell]
  simp only [Nat.zero_add, List.getElem?_toArray]
  exact ⟨g1, g2⟩⟩⟩
def RetPE (w : World) (r : List Pr × Int × Int) (e : Ending) (w' : World) : Prop := ∃ v ev, e = .returned (.tuple #[v, ev]) ∧ PrsV w' v r.1 ∧ ErrIs w' ev r.2.1 r.2.2 ∧ Below w.heap.size w w'
end Go.Proofs.YtjbbbpgcegcbaaaGreatDoor
namespace Go.Proofs.YtjbbbpgcegcbaaaGreatDoor
open Go.RowKit
set_option linter.unusedVariables false
open Classical in
noncomputable def offW (H : Nat → Prop) (W : World) : World := { W with heap := W.heap.mapIdx fun i o => if H i then .cells #[] 0 (1, 1) else o }
theorem off_size (H : Nat → Prop) (W : World) : (offW H W).heap.size = W.heap.size := by simp [offW]
theorem off_in {H : Nat → Prop} {W : World} {k : Nat} (h : H k) (hk : k < W.heap.size) : (offW H W).heap[k]? = some (.cells #[] 0 (1, 1)) := by
 unfold offW
 simp only [Array.getElem?_mapIdx]
 rw [Array.getElem?_eq_getElem hk]
 simp [h]
theorem off_out {H : Nat → Prop} {W : World} {k : Nat} (h : ¬ H k) : (offW H W).heap[k]? = W.heap[k]? := by
 unfold offW
 simp only [Array.getElem?_mapIdx]
 cases hk : W.heap[k]? with
 | none => rfl
 | some o => simp [h]
theorem off_cell {H : Nat → Prop} {W : World} {a : Addr} {v : Value} (h : (offW H W).cell? a = some v) : W.cell? a = some v := by
 have hlt : a.block < W.heap.size := by have := block_lt_of_cell h; rwa [off_size] at this
 by_cases hH : H a.block
 ·unfold World.cell? at h
  rw [off_in hH hlt] at h
  simp at h
 ·rw [← h]
  exact (World.cell?_of_block (w := W) (off_out hH)).symm
theorem off_cellout {H : Nat → Prop} {W : World} {a : Addr} {v : Value} (h : (offW H W).cell? a = some v) : ¬ H a.block := by
 have hlt : a.block < W.heap.size := by have := block_lt_of_cell h; rwa [off_size] at this
 intro hH
 unfold World.cell? at h
 rw [off_in hH hlt] at h
 simp at h
theorem off_to {H : Nat → Prop} {W : World} {a : Addr} (hH : ¬ H a.block) : (offW H W).cell? a = W.cell? a := World.cell?_of_block (w := W) (off_out hH)
theorem off_two (H K : Nat → Prop) (W : World) : offW H (offW K W) = offW (fun k => H k ∨ K k) W := by
 unfold offW
 congr 1
 apply Array.ext
 ·simp
 ·intro i h1 h2
  simp only [Array.getElem_mapIdx]
  by_cases hh : H i
  ·simp [hh]
  ·by_cases hk : K i <;> simp [hh, hk]
theorem off_row {H : Nat → Prop} {W : World} {base : Nat} {e : TypeId} {size : Nat} {v : Value} {n : Nat} {xs : List Value} (h : (offW H W).ownsRow base e size v n xs) : W.ownsRow base e size v n xs ∧ ∀ k, v.ownBlock = some k → ¬ H k := by
 rcases h.2 with ⟨rfl, h0⟩ | ⟨g, cap, cur, rfl, hb, hg, rest⟩
 ·exact ⟨⟨h.1, .inl ⟨rfl, h0⟩⟩, fun k hk => by simp [Value.ownBlock] at hk⟩
 ·have hlt : g < W.heap.size := by have := (Array.getElem?_eq_some_iff.1 hg).1; rwa [off_size] at this
  have hH : ¬ H g := fun hH => by rw [off_in hH hlt] at hg; simp at hg
  rw [off_out hH] at hg
  exact ⟨⟨h.1, .inr ⟨g, cap, cur, rfl, hb, hg, rest⟩⟩, fun k hk => by simp [Value.ownBlock] at hk; subst hk; exact hH⟩
theorem row_off {H : Nat → Prop} {W : World} {base : Nat} {e : TypeId} {size : Nat} {v : Value} {n : Nat} {xs : List Value} (h : W.ownsRow base e size v n xs) (hH : ∀ k, v.ownBlock = some k → ¬ H k) : (offW H W).ownsRow base e size v n xs := by
 rcases h.2 with ⟨rfl, h0⟩ | ⟨g, cap, cur, rfl, hb, hg, rest⟩
 ·exact ⟨h.1, .inl ⟨rfl, h0⟩⟩
 ·exact ⟨h.1, .inr ⟨g, cap, cur, rfl, hb, by rw [off_out (hH g rfl)]; exact hg, rest⟩⟩
structure Keeps (N : Nat) (w w' : World) (H H' : Nat → Prop) : Prop where
 os : w'.os = w.os
 tape : w'.tape = w.tape
 output : w'.output = w.output
 size : w.heap.size ≤ w'.heap.size
 block : ∀ k, k < N → ¬ H k → w'.heap[k]? = w.heap[k]?
 more : ∀ k, H k → H' k
 old : ∀ k, H' k → H k ∨ N ≤ k
theorem Keeps.of {N : Nat} {w w' : World} (h : Below N w w') (H : Nat → Prop) : Keeps N w w' H H := ⟨h.os, h.tape, h.output, h.size, fun k hk _ => h.block k hk, fun _ h => h, fun _ h => .inl h⟩
theorem Keeps.refl (N : Nat) (w : World) (H : Nat → Prop) : Keeps N w w H H := .of (Below.refl _ _) H
theorem Keeps.trans {N N' : Nat} {w w1 w2 : World} {H H1 H2 : Nat → Prop} (h : Keeps N w w1 H H1) (k : Keeps N' w1 w2 H1 H2) (hN : N ≤ N') : Keeps N w w2 H H2 :=
 ⟨k.os.trans h.os, k.tape.trans h.tape, k.output.trans h.output, Nat.le_trans h.size k.size, fun i hi hH => by
  have h1 : ¬ H1 i := fun hc => by rcases h.old i hc with hc | hc <;> first | exact hH hc | omega
  exact (k.block i (by omega) h1).trans (h.block i hi hH),
  fun i hi => k.more i (h.more i hi), fun i hi => by
  rcases k.old i hi with hc | hc
  ·exact h.old i hc
  ·exact .inr (by omega)⟩
theorem Keeps.then {w0 w w2 : World} {H0 H H2 : Nat → Prop} (h : Keeps w0.heap.size w0 w H0 H) (k : Keeps w.heap.size w w2 H H2) : Keeps w0.heap.size w0 w2 H0 H2 := h.trans k h.size
theorem Keeps.off {N : Nat} {w w' : World} {H H' : Nat → Prop} (h : Keeps N w w' H H') (hN : N ≤ w.heap.size) : Below N (offW H w) (offW H' w') :=
 ⟨h.os, h.tape, h.output, by rw [off_size, off_size]; exact h.size, fun k hk => by
  have hs := h.size
  by_cases hH : H k
  ·rw [off_in hH (by omega), off_in (h.more k hH) (by omega)]
  ·have hH' : ¬ H' k := fun hc => by rcases h.old k hc with hc | hc <;> first | exact hH hc | omega
   rw [off_out hH, off_out hH']
   exact h.block k hk hH⟩
theorem Keeps.off' {w w' : World} {H H' : Nat → Prop} (h : Keeps w.heap.size w w' H H') : Below (offW H w).heap.size (offW H w) (offW H' w') := by
 rw [off_size]; exact h.off (Nat.le_refl _)
theorem Keeps.below {N B : Nat} {w w' : World} {H H' : Nat → Prop} (h : Keeps N w w' H H') (hB : B ≤ N) (hH : ∀ k, H k → B ≤ k) : Below B w w' :=
 ⟨h.os, h.tape, h.output, h.size, fun k hk => h.block k (by omega) (fun hc => by have := hH k hc; omega)⟩
end Go.Proofs.YtjbbbpgcegcbaaaGreatDoor
namespace Go.Proofs.YtjbbbpgcegcbaaaGreatDoor
open Go.RowKit
set_option linter.unusedVariables false
theorem two_cell {W : World} {gb j : Nat} {x y : Value} {t : TypeId} (h : Blk W gb #[x, y] t) {v : Value} (hc : W.cell? ⟨gb, j, none⟩ = some v) : (j = 0 ∧ v = x) ∨ (j = 1 ∧ v = y) := by
 rw [h.cell j] at hc
 obtain rfl | rfl | ho : j = 0 ∨ j = 1 ∨ 2 ≤ j := by omega
 ·simp at hc; exact .inl ⟨rfl, hc.symm⟩
 ·simp at hc; exact .inr ⟨rfl, hc.symm⟩
 ·rw [Array.getElem?_eq_none (by simpa using ho)] at hc
  cases hc
theorem Keeps.put1 {N : Nat} {w : World} {H : Nat → Prop} {b : Nat} (hf : H b) (i : Nat) (v : Value) : Keeps N w (w.setCell ⟨b, i, none⟩ v) H H :=
 ⟨rfl, rfl, rfl, by simp [World.setCell], fun k _ hH => setCell_heap_other (fun e => hH (by rw [e]; exact hf)) v, fun _ h => h, fun _ h => .inl h⟩
theorem grownBy_cell (W : World) (b i : Nat) (v : Value) : W.grownBy (W.setCell ⟨b, i, none⟩ v) (some b) :=
 ⟨rfl, rfl, rfl, by simp [World.setCell], fun k _ hne => setCell_heap_other (fun e => hne (by rw [e])) v⟩
theorem PrsV.off {H : Nat → Prop} {W : World} {v : Value} {l : List Pr} (h : PrsV (offW H W) v l) : PrsV W v l := by
 obtain ⟨p, c, hv, hlc, hc⟩ := h
 exact ⟨p, c, hv, hlc, fun hl => by obtain ⟨b, o, hp, hcell⟩ := hc hl; exact ⟨b, o, hp, fun j hj => ⟨off_cell (hcell j hj).1, off_cell (hcell j hj).2⟩⟩⟩
theorem ErrCell.off {H : Nat → Prop} {W : World} (h : ErrCell (offW H W)) : ErrCell W := off_cell h
theorem MaxCell.off {H : Nat → Prop} {W : World} (h : MaxCell (offW H W)) : MaxCell W := by obtain ⟨m, hm⟩ := h; exact ⟨m, off_cell hm⟩
structure GL (H : Nat → Prop) (W : World) : Prop where
 c : MaxCell (offW H W)
 g : ErrCell (offW H W)
theorem GL.keeps {w w' : World} {H H' : Nat → Prop} (h : GL H w) (hk : Keeps w.heap.size w w' H H') : GL H' w' := ⟨h.c.later hk.off', h.g.later hk.off'⟩
theorem Keeps.from {w w1 w2 : World} {H H2 : Nat → Prop} (hb : Below w.heap.size w w1) (hk : Keeps w1.heap.size w1 w2 H H2) (hH : ∀ k, H k → w.heap.size ≤ k) : Below w.heap.size w w2 := hb.trans (hk.below hb.size hH)
theorem tabIs_off {H : Nat → Prop} {W : World} (h : Lib.TabIs Tryz.prog (offW H W) "internal/strconv.uint64pow10" .u64 Lib.pow10Tab) : Lib.TabIs Tryz.prog W "internal/strconv.uint64pow10" .u64 Lib.pow10Tab := by
 unfold Lib.TabIs World.var? at *
 cases hg : Tryz.prog.globalNamed "internal/strconv.uint64pow10" with
 | none => simp [hg] at h
 | some g =>
  simp only [hg, Option.bind_some] at h ⊢
  by_cases hH : H g
  ·have hlt : g < W.heap.size := by
    rcases Nat.lt_or_ge g W.heap.size with h' | h'
    ·exact h'
    ·rw [Array.getElem?_eq_none (by rw [off_size]; exact h')] at h; simp at h
   rw [off_in hH hlt] at h
   have h2 := congrArg (fun x : Option (Array Value) => x.map Array.size) h
   simp [Lib.pow10Tab] at h2
  ·rw [off_out hH] at h
   exact h
theorem Env.off {H : Nat → Prop} {W : World} (h : Env (offW H W)) : Env W := by
 refine ⟨h.mc.off, ?_, ?_, tabIs_off h.tb⟩
 ·obtain ⟨v, hc, hv⟩ := h.sy
  exact ⟨v, off_cell hc, hv⟩
 ·obtain ⟨v, hc, hv⟩ := h.rg
  exact ⟨v, off_cell hc, hv⟩
theorem Env.keeps {w W : World} {H H' : Nat → Prop} (h : Env (offW H w)) (hk : Keeps w.heap.size w W H H') : Env (offW H' W) := h.later hk.off'
theorem PrsV.sub {H K : Nat → Prop} {W : World} {v : Value} {l : List Pr} (h : PrsV (offW K W) v l) (hs : ∀ k, H k → K k) : PrsV (offW H W) v l := by
 obtain ⟨p, c, hv, hlc, hc⟩ := h
 refine ⟨p, c, hv, hlc, fun hl => ?_⟩
 obtain ⟨b, o, hp, hcell⟩ := hc hl
 have hn : ¬ H b := fun hh => off_cellout (hcell 0 hl).1 (hs b hh)
 exact ⟨b, o, hp, fun j hj => ⟨by rw [off_to (a := ⟨b, o + j * 2, none⟩) hn]; exact off_cell (hcell j hj).1, by rw [off_to (a := ⟨b, o + j * 2 + 1, none⟩) hn]; exact off_cell (hcell j hj).2⟩⟩
theorem below_mask {w0 W : World} {H : Nat → Prop} (h : Below w0.heap.size w0 W) (hH : ∀ k, H k → w0.heap.size ≤ k) : Below w0.heap.size w0 (offW H W) :=
 ⟨h.os, h.tape, h.output, by rw [off_size]; exact h.size, fun k hk => by rw [off_out (fun hh => by have := hH k hh; omega)]; exact h.block k hk⟩
theorem Keeps.wide {N : Nat} {w w' : World} {K K' : Nat → Prop} (h : Keeps N w w' K K') (H : Nat → Prop) : Keeps N w w' (fun k => H k ∨ K k) (fun k => H k ∨ K' k) :=
 ⟨h.os, h.tape, h.output, h.size, fun k hk hn => h.block k hk (fun hh => hn (.inr hh)), fun k hk => hk.imp_right (h.more k), fun k hk => by
  rcases hk with hk | hk
  ·exact .inl (.inl hk)
  ·rcases h.old k hk with h | h
   ·exact .inl (.inr h)
   ·exact .inr h⟩
theorem Keeps.wide' {N : Nat} {w w' : World} {K K' : Nat → Prop} (h : Keeps N w w' K K') (H : Nat → Prop) : Keeps N w w' (fun k => K k ∨ H k) (fun k => K' k ∨ H k) :=
 ⟨h.os, h.tape, h.output, h.size, fun k hk hn => h.block k hk (fun hh => hn (.inl hh)), fun k hk => hk.imp_left (h.more k), fun k hk => by
  rcases hk with hk | hk
  ·rcases h.old k hk with h | h
   ·exact .inl (.inl h)
   ·exact .inr h
  ·exact .inl (.inr hk)⟩
structure NegAt (W : World) (B : Nat) (H : Nat → Prop) (nb : Nat) (mv : Value) (mine recd : List Pr) : Prop where
 at_ : ∃ rv, Blk W nb #[mv, rv] 140 ∧ PrBuf B W rv recd ∧ ∀ k, rv.ownBlock = some k → H k ∧ k ≠ nb
 mine : PrsV (offW H W) mv mine
 own : H nb
 base : ∀ k, H k → B ≤ k ∧ k < W.heap.size
 str : ∀ k, H k → k ≠ nb → ∃ s, W.cell? ⟨k, 0, none⟩ = some (.string s)
theorem NegAt.kept {W W' : World} {B : Nat} {H : Nat → Prop} {nb : Nat} {mv : Value} {mine recd : List Pr} (h : NegAt W B H nb mv mine recd) (hs : W.heap.size ≤ W'.heap.size) (hb : ∀ k, H k → W'.heap[k]? = W.heap[k]?) (hm : PrsV (offW H W') mv mine) : NegAt W' B H nb mv mine recd := by
 obtain ⟨rv, h1, h2, h3⟩ := h.at_
 refine ⟨⟨rv, (hb nb h.own).trans h1, ?_, h3⟩, hm, h.own, fun k hk => ⟨(h.base k hk).1, Nat.lt_of_lt_of_le (h.base k hk).2 hs⟩, fun k hk hne => ?_⟩
 ·rcases h2.2 with ⟨e, h0⟩ | ⟨g, cap, cur, e, hbg, hg, r⟩
  ·exact ⟨h2.1, .inl ⟨e, h0⟩⟩
  ·exact ⟨h2.1, .inr ⟨g, cap, cur, e, hbg, (hb g (h3 g (by rw [e]; rfl)).1).trans hg, r⟩⟩
 ·obtain ⟨s, h4⟩ := h.str k hk hne
  exact ⟨s, (World.cell?_of_block (w := W) (a := ⟨k, 0, none⟩) (hb k hk)).trans h4⟩
theorem NegAt.later {W W' : World} {B : Nat} {H : Nat → Prop} {nb : Nat} {mv : Value} {mine recd : List Pr} (h : NegAt W B H nb mv mine recd) (hb : Below W.heap.size W W') : NegAt W' B H nb mv mine recd :=
 h.kept hb.size (fun k hk => hb.block k (h.base k hk).2) (h.mine.later (Keeps.of hb H).off')
theorem NegAt.mono {W : World} {B B' : Nat} {H : Nat → Prop} {nb : Nat} {mv : Value} {mine recd : List Pr} (h : NegAt W B H nb mv mine recd) (hB : B' ≤ B) : NegAt W B' H nb mv mine recd := by
 obtain ⟨rv, h1, h2, h3⟩ := h.at_
 refine ⟨⟨rv, h1, ?_, h3⟩, h.mine, h.own, fun k hk => ⟨Nat.le_trans hB (h.base k hk).1, (h.base k hk).2⟩, h.str⟩
 rcases h2.2 with ⟨e, h0⟩ | ⟨g, cap, cur, e, hbg, r⟩
 ·exact ⟨h2.1, .inl ⟨e, h0⟩⟩
 ·exact ⟨h2.1, .inr ⟨g, cap, cur, e, by omega, r⟩⟩
theorem ErrIs.offN {W : World} {B : Nat} {H : Nat → Prop} {nb : Nat} {mv : Value} {mine recd : List Pr} (hN : NegAt W B H nb mv mine recd) {v : Value} {n p : Int} (h : ErrIs W v n p) : ErrIs (offW H W) v n p := by
 cases h with
 | good => exact .good
 | bare _ hn => exact .bare _ hn
 | placed b _ _ hn h0 h1 =>
  have hH : ¬ H b := fun hH => by
   by_cases hb : b = nb
   ·subst hb
    obtain ⟨rv, hk, h2, _⟩ := hN.at_
    obtain ⟨pm, cm, hm⟩ := hN.mine.form
    rw [hk.cell 0, hm] at h0
    simp at h0
   ·obtain ⟨s, h⟩ := hN.str b hH hb
    rw [h0] at h
    simp at h
  exact .placed b _ _ hn (by rw [off_to (a := ⟨b, 0, none⟩) hH]; exact h0) (by rw [off_to (a := ⟨b, 1, none⟩) hH]; exact h1)
def KeptAt (W : World) (H : Nat → Prop) (fb : Nat) (v : Value) (l : List UInt8) : Prop :=
 (v = .slice none 0 0 ∧ l = []) ∨
 ∃ g o c cur, v = .slice (some ⟨g, o, none⟩) l.length c ∧ H g ∧ g ≠ fb ∧ W.heap[g]? = some (.cells cur 5 (0, 0)) ∧ l.length ≤ c ∧ c ≤ maxLen ∧ o + c ≤ cur.size ∧ (cur.toList.drop o).take l.length = bytesV l
theorem KeptAt.form {W : World} {H : Nat → Prop} {fb : Nat} {v : Value} {l : List UInt8} (h : KeptAt W H fb v l) : ∃ p c, v = .slice p l.length c ∧ l.length ≤ c := by
 rcases h with ⟨rfl, rfl⟩ | ⟨g, o, c, cur, rfl, _, _, _, hc, _⟩
 ·exact ⟨none, 0, rfl, Nat.le_refl _⟩
 ·exact ⟨_, c, rfl, hc⟩
theorem KeptAt.kept {W W' : World} {H H' : Nat → Prop} {fb : Nat} {v : Value} {l : List UInt8} (h : KeptAt W H fb v l) (hb : ∀ k, H k → k < W.heap.size → k ≠ fb → W'.heap[k]? = W.heap[k]?) (hm : ∀ k, H k → H' k) : KeptAt W' H' fb v l := by
 rcases h with h0 | ⟨g, o, c, cur, rfl, hH, hne, hg, rest⟩
 ·exact .inl h0
 ·exact .inr ⟨g, o, c, cur, rfl, hm g hH, hne, by rw [hb g hH (Array.getElem?_eq_some_iff.1 hg).1 hne]; exact hg, rest⟩
theorem KeptAt.cell {W : World} {H : Nat → Prop} {fb g o c : Nat} {l : List UInt8} (h : KeptAt W H fb (.slice (some ⟨g, o, none⟩) l.length c) l) (j : Nat) (hj : j < l.length) : W.cell? ⟨g, o + j, none⟩ = some (.int .u8 (l[j].toNat : Int)) := by
 rcases h with ⟨h0, _⟩ | ⟨g', o', c', cur, hv, _, _, hg, hlc, _, hcs, ht⟩
 ·cases h0
 ·obtain ⟨rfl, rfl, rfl⟩ : g' = g ∧ o' = o ∧ c' = c := by cases hv; exact ⟨rfl, rfl, rfl⟩
  rw [cell_of_row W g' (o' + j) cur 5 (0, 0) hg]
  have h1 : ((cur.toList.drop o').take l.length)[j]? = (bytesV l)[j]? := by rw [ht]
  rw [List.getElem?_take, if_pos hj, List.getElem?_drop] at h1
  rw [← Array.getElem?_toList, h1]
  simp [bytesV, byteV, List.getElem?_eq_getElem hj]
theorem kept_string {P : Program} (src dst e : TypeId) (hs : P.underlying src = some (.slice e)) (he : P.underlying e = some (.int .u8)) (hd : P.underlying dst = some .string)
  {W : World} {H : Nat → Prop} {fb : Nat} {p : Option Addr} {c : Nat} {l : List UInt8} (h : KeptAt W H fb (.slice p l.length c) l) (n c' : Nat) (hn : n ≤ l.length) (h0 : 0 < n) :
  (convert src dst (.slice p n c')).run P W = .ok (.string (S (l.take n))) W := by
 rcases id h with ⟨h1, rfl⟩ | ⟨g, o, c1, cur, hv, _⟩
 ·simp at hn; omega
 ·obtain ⟨rfl, rfl⟩ : p = some ⟨g, o, none⟩ ∧ c = c1 := by cases hv; exact ⟨rfl, rfl⟩
  have hl : (l.take n).length = n := by rw [List.length_take]; omega
  have hr := run_string_at (P := P) src dst e hs he hd W g o (l.take n) c' (fun j hj => by
   rw [h.cell j (by omega), List.getElem_take])
  rw [hl] at hr
  exact hr
def U8Blk (W : World) (k : Nat) : Prop := ∃ cur t fr, W.heap[k]? = some (.cells cur t fr) ∧ ∀ v ∈ cur.toList, ∃ n, v = Value.int .u8 n
theorem U8Blk.kept {W W' : World} {k : Nat} (h : U8Blk W k) (e : W'.heap[k]? = W.heap[k]?) : U8Blk W' k := by
 obtain ⟨cur, t, fr, hb, hv⟩ := h
 exact ⟨cur, t, fr, e.trans hb, hv⟩
theorem U8Blk.cell {W : World} {k j : Nat} (h : U8Blk W k) {v : Value} (hc : W.cell? ⟨k, j, none⟩ = some v) : ∃ n, v = .int .u8 n := by
 obtain ⟨cur, t, fr, hb, hv⟩ := h
 unfold World.cell? at hc
 rw [hb] at hc
 simp only at hc
 have h1 : cur[j]? = some v := by simpa using hc
 exact hv v (by rw [Array.mem_toList_iff]; exact Array.mem_of_getElem? h1)
theorem info8k : (Tryz.prog.info? 5).map (fun i => (i.zero, i.size, i.bytes)) = some (some (.int .u8 0), 1, 1) := by kernel_rfl
theorem run_append_kept {W : World} {H : Nat → Prop} {fb B : Nat} {v : Value} {l : List UInt8} (ty : TypeId) (h : KeptAt W H fb v l) (hH : ∀ k, H k → B ≤ k ∧ k < W.heap.size) (hu : ∀ k, H k → k ≠ fb → U8Blk W k) (hfb : fb < W.heap.size) (hB : B ≤ W.heap.size) (news : List UInt8) (hlen : l.length + news.length ≤ 140737488355328) :
  ∃ v' W' H', (Builtin.append_ #[116, 9] ty #[v, .string (S news)]).run Tryz.prog W = .ok v' W' ∧ KeptAt W' H' fb v' (l ++ news) ∧ Keeps W.heap.size W W' H H' ∧ W'.heap[fb]? = W.heap[fb]? ∧ (∀ k, H' k → B ≤ k ∧ k < W'.heap.size) ∧ (∀ k, H' k → k ≠ fb → U8Blk W' k) := by
 obtain ⟨i, hi, hz, hs, hb⟩ := info_parts info8k
 have ht : Tryz.prog.underlying 116 = some (.slice 5) := Tryz.underlying116
 have hsrc := src_string (P := Tryz.prog) Tryz.underlying9 news W
 have hm : maxLen = 9223372036854775807 := rfl
 have grow : ∀ (p : Option Addr) (c : Nat), v = .slice p l.length c → c < l.length + news.length →
   (Builtin.firstCells 1 l.length (.slice p l.length c)).run Tryz.prog W.drew = .ok (bytesV l).toArray W.drew →
   ∃ v' W' H', (Builtin.append_ #[116, 9] ty #[v, .string (S news)]).run Tryz.prog W = .ok v' W' ∧ KeptAt W' H' fb v' (l ++ news) ∧ Keeps W.heap.size W W' H H' ∧ W'.heap[fb]? = W.heap[fb]? ∧ (∀ k, H' k → B ≤ k ∧ k < W'.heap.size) ∧ (∀ k, H' k → k ≠ fb → U8Blk W' k) := by
  intro p c hv hc hfirst
  have hr := run_append_grow_src (P := Tryz.prog) W 116 9 ty 5 i (.int .u8 0) ht hi hz p l.length c (bytesV l) (by rw [hs]; exact hfirst) (.string (S news)) news.length (bytesV news) (by rw [hs]; exact hsrc) hc (by omega)
   (by rw [hb]; exact growslice_fits (by omega) (by omega))
  have hge := grownCap_ge W (l.length + news.length) c 5
  have hle := grownCap_le_maxLen W (l.length + news.length) c 5 (by omega)
  rw [← hv] at hr
  refine ⟨_, _, fun k => H k ∨ k = W.heap.size, hr, .inr ⟨W.heap.size, 0, _, _, by rw [List.length_append], .inr rfl, by omega, heap_alloc_new W.drew _, by rw [List.length_append]; exact hge, hle, ?_, ?_⟩, ?_, ?_, ?_, ?_⟩
  ·simp only [Array.size_append, List.size_toArray, size_zeroCells, List.length_append, bytesV_len]
   have : (Value.int .u8 0).cells.size = 1 := rfl
   rw [this]; omega
  ·rw [List.drop_zero, Array.toList_append, ← bytesV_app, ← bytesV_len]
   exact List.take_left
  ·exact ⟨rfl, rfl, rfl, by simp, fun k hk _ => heap_alloc_old W.drew _ hk, fun k hk => .inl hk, fun k hk => by rcases hk with hk | rfl <;> first | exact .inl hk | exact .inr (Nat.le_refl _)⟩
  ·exact heap_alloc_old W.drew _ hfb
  ·rintro k (hk | rfl)
   ·exact ⟨(hH k hk).1, by have := (hH k hk).2; simp; omega⟩
   ·exact ⟨hB, by simp⟩
  ·rintro k (hk | rfl) hne
   ·exact (hu k hk hne).kept (heap_alloc_old W.drew _ (hH k hk).2)
   ·refine ⟨_, _, _, heap_alloc_new W.drew _, fun v hv => ?_⟩
    simp only [Array.toList_append, List.mem_append, bytesV, List.mem_map] at hv
    rcases hv with ((⟨b, _, rfl⟩ | ⟨b, _, rfl⟩)) | hv
    ·exact ⟨_, rfl⟩
    ·exact ⟨_, rfl⟩
    ·refine ⟨0, ?_⟩
     simp [Builtin.zeroCells, Value.cells] at hv
     obtain ⟨x, _, hx⟩ := hv
     rw [Nat.mod_one] at hx
     exact hx.symm
 rcases id h with ⟨rfl, rfl⟩ | ⟨g, o, c, cur, rfl, hHg, hne, hg, hlc, hcm, hcs, htk⟩
 ·by_cases hm0 : news.length = 0
  ·obtain rfl : news = [] := List.eq_nil_of_length_eq_zero hm0
   refine ⟨.slice none 0 0, W, H, ?_, .inl ⟨rfl, rfl⟩, Keeps.refl _ _ _, rfl, hH, hu⟩
   have hc : (Builtin.firstCells 1 0 (.string (S []))).run Tryz.prog W = .ok #[] W := hsrc.cells
   have hl : ∀ w' : World, (Builtin.lenOf (.string (S []))).run Tryz.prog w' = .ok 0 w' := hsrc.len
   simp [Builtin.append_, run_underlying ht, run_underlying Tryz.underlying9, sizeOf, typeInfo, hi, hs, hl, hc]
  ·exact grow none 0 rfl (by simp; omega) (run_firstCells_none W.drew 1 0 0 0)
 ·by_cases hroom : l.length + news.length ≤ c
  ·have hcell : ∀ j, W.cell? ⟨g, j, none⟩ = cur[j]? := fun j => cell_of_row W g j cur 5 (0, 0) hg
   have hfro : ∀ j, W.frozen? ⟨g, j, none⟩ = false := fun j => by unfold World.frozen?; simp [hg]
   have hr := run_append_room_src (P := Tryz.prog) W 116 9 ty 5 i ht hi g o l.length c (.string (S news)) news.length (bytesV news) (by rw [hs]; exact hsrc) hroom
    (fun j hj => by
     rw [bytesV_len] at hj
     rw [hs, hcell, Array.getElem?_eq_getElem (by omega)]
     rfl) (fun j _ => hfro _)
   have hset : W.setCells g (o + l.length * i.size) (bytesV news) = W.setRow g ((cur.toList.take (o + l.length) ++ bytesV news ++ cur.toList.drop (o + l.length + news.length)).toArray) := by
    have hst := run_storeCells_at Tryz.prog g (o + l.length) 5 (bytesV news) 0 cur W hg (by rw [bytesV_len]; omega) (bytesV_one news)
    have hst2 := run_storeCells_cells (P := Tryz.prog) g (o + l.length) (bytesV news) 0 W
     (fun j hj => by
      rw [bytesV_len] at hj
      rw [hcell, Array.getElem?_eq_getElem (by omega)]
      rfl) (fun j _ => hfro _) (bytesV_one news)
    simp only [Nat.add_zero, bytesV_len] at hst hst2
    rw [hst] at hst2
    have := Result.ok.inj hst2
    rw [hs, Nat.mul_one]
    simpa using this.2.symm
   rw [hset] at hr
   refine ⟨_, _, H, hr, .inr ⟨g, o, c, _, by rw [List.length_append], hHg, hne, setRow_heap W g cur _ _ _ hg, by rw [List.length_append]; exact hroom, hcm, ?_, ?_⟩,
    ⟨rfl, rfl, rfl, by simp [World.setRow], fun k _ hk => setRow_other W g k _ (fun e => hk (by rw [e]; exact hHg)), fun _ hk => hk, fun _ hk => .inl hk⟩, setRow_other W g fb _ (Ne.symm hne), fun k hk => ⟨(hH k hk).1, by simp [World.setRow]; exact (hH k hk).2⟩, fun k hk hne2 => ?_⟩
   ·simp only [List.size_toArray, List.length_append, List.length_take, List.length_drop, Array.length_toList, bytesV_len]
    omega
   ·have h1 : (cur.toList.take (o + l.length)).drop o = bytesV l := by rw [List.drop_take, Nat.add_sub_cancel_left]; exact htk
    simp only
    rw [List.append_assoc, List.drop_append_of_le_length (by rw [List.length_take]; have := Array.length_toList (xs := cur); omega), h1, ← List.append_assoc, ← bytesV_app, ← bytesV_len]
    exact List.take_left
   ·by_cases hkg : k = g
    ·subst hkg
     obtain ⟨cur2, t2, fr2, hc2, hall⟩ := hu k hk hne2
     rw [hg] at hc2
     simp only [Option.some.injEq, Obj.cells.injEq] at hc2
     obtain ⟨rfl, _, _⟩ := hc2
     refine ⟨_, _, _, setRow_heap W k cur _ _ _ hg, fun v hv => ?_⟩
     simp only [List.mem_append, bytesV, List.mem_map] at hv
     rcases hv with (hv | ⟨b, _, rfl⟩) | hv
     ·exact hall v (List.mem_of_mem_take hv)
     ·exact ⟨_, rfl⟩
     ·exact hall v (List.mem_of_mem_drop hv)
    ·exact (hu k hk hne2).kept (setRow_other W g k _ hkg)
  ·exact grow (some ⟨g, o, none⟩) c rfl (by omega) (run_firstCells_some W.drew 1 l.length ⟨g, o, none⟩ l.length c (bytesV l) (by rw [bytesV_len]; omega) (fun j u hu => by
    have hj : j < l.length := by
     rcases Nat.lt_or_ge j l.length with h | h
     ·exact h
     ·rw [List.getElem?_eq_none (by rw [bytesV_len]; exact h)] at hu; cases hu
    rw [Addr.add_lit]
    have hc := h.cell j hj
    simp only [bytesV, List.getElem?_map, List.getElem?_eq_getElem hj, Option.map_some] at hu
    rw [← Option.some.inj hu]
    exact hc))
theorem Keeps.cell {N : Nat} {w : World} {H : Nat → Prop} {fb : Nat} (hf : H fb) (i : Nat) (v : Value) : Keeps N w (w.setCell ⟨fb, i, none⟩ v) H H :=
 ⟨rfl, rfl, rfl, by simp [World.setCell], fun k _ hH => setCell_heap_other (fun e => hH (by rw [e]; exact hf)) v, fun _ h => h, fun _ h => .inl h⟩
structure GatAt (W : World) (B : Nat) (H : Nat → Prop) (gb : Nat) (G : Ga) : Prop where
 most : G.most ≤ 20000
 fit : G.came.length ≤ G.most
 at_ : ∃ kv t, Blk W gb #[.int .i64 G.most, kv] t ∧ KeptAt W H gb kv G.came
 own : H gb
 base : ∀ k, H k → B ≤ k ∧ k < W.heap.size
 u8 : ∀ k, H k → k ≠ gb → U8Blk W k
theorem GatAt.kept {W W' : World} {B : Nat} {H : Nat → Prop} {gb : Nat} {G : Ga} (h : GatAt W B H gb G) (hb : ∀ k, H k → W'.heap[k]? = W.heap[k]?) (hs : W.heap.size ≤ W'.heap.size) : GatAt W' B H gb G := by
 obtain ⟨kv, t, hk, hv⟩ := h.at_
 exact ⟨h.most, h.fit, ⟨kv, t, (hb gb h.own).trans hk, hv.kept (fun k hk _ _ => hb k hk) (fun _ h => h)⟩, h.own, fun k hk => ⟨(h.base k hk).1, Nat.lt_of_lt_of_le (h.base k hk).2 hs⟩, fun k hk hne => (h.u8 k hk hne).kept (hb k hk)⟩
theorem GatAt.mono {W : World} {B B' : Nat} {H : Nat → Prop} {gb : Nat} {G : Ga} (h : GatAt W B H gb G) (hB : B' ≤ B) : GatAt W B' H gb G := ⟨h.most, h.fit, h.at_, h.own, fun k hk => ⟨Nat.le_trans hB (h.base k hk).1, (h.base k hk).2⟩, h.u8⟩
theorem GatAt.later {W W' : World} {B : Nat} {H : Nat → Prop} {gb : Nat} {G : Ga} (h : GatAt W B H gb G) (hb : Below W.heap.size W W') : GatAt W' B H gb G := h.kept (fun k hk => hb.block k (h.base k hk).2) hb.size
theorem GatAt.drewN {W : World} {B : Nat} {H : Nat → Prop} {gb : Nat} {G : Ga} (h : GatAt W B H gb G) (n : Nat) : GatAt (W.drewN n) B H gb G := h.kept (fun _ _ => rfl) (Nat.le_refl _)
theorem GatAt.set {W : World} {B : Nat} {H : Nat → Prop} {gb : Nat} {G : Ga} (h : GatAt W B H gb G) {t : TypeId} (G' : Ga) (h1 : G'.most ≤ 20000) (h2 : G'.came.length ≤ G'.most) (kv' : Value)
  (hv : KeptAt W H gb kv' G'.came) (W' : World) (hb : Blk W' gb #[.int .i64 G'.most, kv'] t) (hs : W'.heap.size = W.heap.size) (ho : ∀ k, k ≠ gb → W'.heap[k]? = W.heap[k]?) : GatAt W' B H gb G' :=
 ⟨h1, h2, ⟨kv', t, hb, hv.kept (fun k _ _ hne => ho k hne) (fun _ h => h)⟩, h.own, fun k hk => by rw [hs]; exact h.base k hk, fun k hk hne => (h.u8 k hk hne).kept (ho k hne)⟩
theorem PrsV.offG {W : World} {B : Nat} {H : Nat → Prop} {gb : Nat} {G : Ga} (hG : GatAt W B H gb G) {v : Value} {l : List Pr} (h : PrsV W v l) : PrsV (offW H W) v l := by
 obtain ⟨kv, t, hk, hv⟩ := hG.at_
 obtain ⟨pk, ck, rfl, _⟩ := hv.form
 obtain ⟨p, c, hvv, hlc, hc⟩ := h
 refine ⟨p, c, hvv, hlc, fun hl => ?_⟩
 obtain ⟨b, o, hp, hcell⟩ := hc hl
 have hH : ¬ H b := fun hH => by
  have h0 := (hcell 0 hl).1
  by_cases hb : b = gb
  ·subst hb
   rcases two_cell hk h0 with ⟨_, h⟩ | ⟨_, h⟩ <;> simp at h
  ·obtain ⟨n, h⟩ := (hG.u8 b hH hb).cell h0
   simp at h
 exact ⟨b, o, hp, fun j hj => by rw [off_to (a := ⟨b, o + j * 2, none⟩) hH, off_to (a := ⟨b, o + j * 2 + 1, none⟩) hH]; exact hcell j hj⟩
end Go.Proofs.YtjbbbpgcegcbaaaGreatDoor
