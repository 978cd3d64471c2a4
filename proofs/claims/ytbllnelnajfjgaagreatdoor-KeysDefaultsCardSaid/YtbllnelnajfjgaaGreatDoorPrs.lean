/- Slices of pairs: how they read, and those of the call's own. No function of the program is walked here. -/
import Derived.Test.YtbllnelnajfjgaaGreatDoorPairMath
import Derived.Test.YtbllnelnajfjgaaGreatDoorErrIs
import Derived.Test.YtbllnelnajfjgaaGreatDoorBlk
import Derived.Laws.AppendOwn
import Derived.Laws.OwnMore
import Derived.Deep.RegionHeld3
namespace Go.Proofs.YtbllnelnajfjgaaGreatDoor
open Go.RowKit
/-- the slice value v reads as these pairs in W -/
def PrsV (W : World) (v : Value) (l : List Pr) : Prop := ∃ p c, v = .slice p l.length c ∧ l.length ≤ c ∧ (0 < l.length → ∃ b o, p = some ⟨b, o, none⟩ ∧ ∀ j (hj : j < l.length), W.cell? ⟨b, o + j * 2, none⟩ = some (.string (S l[j].k)) ∧ W.cell? ⟨b, o + j * 2 + 1, none⟩ = some (.string (S l[j].v)))
theorem PrsV.later {W W' : World} {v : Value} {l : List Pr} (h : PrsV W v l) (hb : Below W.heap.size W W') : PrsV W' v l := by
  obtain ⟨p, c, hv, hlc, hc⟩ := h
  refine ⟨p, c, hv, hlc, fun hl => ?_⟩
  obtain ⟨b, o, hp, hcell⟩ := hc hl
  refine ⟨b, o, hp, fun j hj => ?_⟩
  obtain ⟨h1, h2⟩ := hcell j hj
  rw [(bcell hb).1 b (o + j * 2) (block_lt_of_cell (w := W) (a := ⟨b, o + j * 2, none⟩) h1), (bcell hb).1 b (o + j * 2 + 1) (block_lt_of_cell (w := W) (a := ⟨b, o + j * 2 + 1, none⟩) h2)]
  exact ⟨h1, h2⟩
theorem PrsV.drewN {W : World} {v : Value} {l : List Pr} (h : PrsV W v l) (n : Nat) : PrsV (W.drewN n) v l := h
theorem PrsV.nil (W : World) : PrsV W (.slice none 0 0) [] := ⟨none, 0, rfl, Nat.le_refl _, fun h => absurd h (by decide)⟩
theorem PrsV.form {W : World} {v : Value} {l : List Pr} (h : PrsV W v l) : ∃ p c, v = .slice p l.length c := by obtain ⟨p, c, h, _⟩ := h; exact ⟨p, c, h⟩
theorem PrsV.cell {W : World} {p : Option Addr} {c : Nat} {l : List Pr} (h : PrsV W (.slice p l.length c) l) {j : Nat} (hj : j < l.length) : ∃ b o, p = some ⟨b, o, none⟩ ∧ W.cell? ⟨b, o + j * 2, none⟩ = some (.string (S l[j].k)) ∧ W.cell? ⟨b, o + j * 2 + 1, none⟩ = some (.string (S l[j].v)) := by
  obtain ⟨p0, c0, hv, _, hc⟩ := h
  obtain ⟨rfl, rfl⟩ : p = p0 ∧ c = c0 := by simpa using hv
  obtain ⟨b, o, rfl, hcell⟩ := hc (by omega)
  exact ⟨b, o, rfl, hcell j hj⟩
/-- all that they have is no more than memory has -/
def fitPs (l : List Pr) : Prop := l.length ≤ 140737488355328 ∧ ∀ p ∈ l, p.k.length ≤ 140737488355328 ∧ p.v.length ≤ 140737488355328
/-- pairs that a call collects in a slice of its own -/
def prsVs (l : List Pr) : List Value := l.flatMap fun p => [.string (S p.k), .string (S p.v)]
theorem prsVs_len : ∀ l : List Pr, (prsVs l).length = l.length * 2
  | [] => rfl
  | a :: l => by
    have := prsVs_len l
    unfold prsVs at *
    simp only [List.flatMap_cons, List.length_append, List.length_cons, List.length_nil] at *
    omega
theorem prsVs_app (l m : List Pr) : prsVs (l ++ m) = prsVs l ++ prsVs m := by simp [prsVs]
theorem prsVs_one (l : List Pr) : ∀ u ∈ prsVs l, u.oneCell' = true := by
  intro u hu
  unfold prsVs at hu
  obtain ⟨a, _, h⟩ := List.mem_flatMap.1 hu
  rcases List.mem_cons.1 h with rfl | h
  · rfl
  · rw [List.mem_singleton.1 h]; rfl
theorem prsVs_get : ∀ (l : List Pr) (j : Nat) (hj : j < l.length), (prsVs l)[j * 2]? = some (.string (S l[j].k)) ∧ (prsVs l)[j * 2 + 1]? = some (.string (S l[j].v))
  | [], j, hj => by simp at hj
  | a :: l, 0, _ => ⟨rfl, rfl⟩
  | a :: l, j + 1, hj => by
    obtain ⟨h1, h2⟩ := prsVs_get l j (by simpa using hj)
    have e : prsVs (a :: l) = .string (S a.k) :: .string (S a.v) :: prsVs l := rfl
    rw [e, show (j + 1) * 2 = j * 2 + 1 + 1 by omega, List.getElem?_cons_succ, List.getElem?_cons_succ, h1, show j * 2 + 1 + 1 + 1 = (j * 2 + 1) + 1 + 1 by omega, List.getElem?_cons_succ, List.getElem?_cons_succ, h2]
    exact ⟨rfl, rfl⟩
def PrBuf (base : Nat) (W : World) (v : Value) (l : List Pr) : Prop := W.ownsRow base 90 2 v l.length (prsVs l)
theorem PrBuf.nil (base : Nat) (W : World) : PrBuf base W (.slice none 0 0) [] := World.ownsRow_nil W base 90 2
theorem PrBuf.alloc {base : Nat} {W : World} {v : Value} {l : List Pr} (h : PrBuf base W v l) (o : Obj) : PrBuf base (W.alloc o) v l := World.ownsRow.alloc h o
theorem PrBuf.drew {base : Nat} {W : World} {v : Value} {l : List Pr} (h : PrBuf base W v l) : PrBuf base W.drew v l := h
theorem PrBuf.drewN {base : Nat} {W : World} {v : Value} {l : List Pr} (h : PrBuf base W v l) (n : Nat) : PrBuf base (W.drewN n) v l := h
theorem PrBuf.later {base : Nat} {W W' : World} {v : Value} {l : List Pr} (h : PrBuf base W v l) (hb : Below W.heap.size W W') : PrBuf base W' v l := by
  refine World.ownsRow.kept (row := none) h ⟨hb.os, hb.tape, hb.output, hb.size, fun k hk _ => hb.block k hk⟩ ?_
  cases hv : v.ownBlock with
  | none => exact .inl rfl
  | some k => exact .inr (by simp)
theorem PrBuf.form {base : Nat} {W : World} {v : Value} {l : List Pr} (h : PrBuf base W v l) : ∃ p cap, v = .slice p l.length cap := by
  rcases h.2 with ⟨rfl, h0⟩ | ⟨g, cap, cur, hv, _⟩
  · exact ⟨none, 0, by rw [h0]⟩
  · exact ⟨_, _, hv⟩
theorem PrBuf.prs {base : Nat} {W : World} {v : Value} {l : List Pr} (h : PrBuf base W v l) : PrsV W v l := by
  rcases h.2 with ⟨rfl, h0⟩ | ⟨g, cap, cur, rfl, hbg, hg, hnc, hcm, hcs, htake⟩
  · obtain rfl : l = [] := List.eq_nil_of_length_eq_zero h0
    exact PrsV.nil W
  · refine ⟨_, _, rfl, hnc, fun _ => ⟨g, 0, rfl, fun j hj => ?_⟩⟩
    obtain ⟨g1, g2⟩ := prsVs_get l j hj
    have h1 := World.ownsRow.cells h (g := g) rfl (j * 2) _ g1
    have h2 := World.ownsRow.cells h (g := g) rfl (j * 2 + 1) _ g2
    have e1 : (⟨g, 0, none⟩ : Addr).add (j * 2) = ⟨g, 0 + j * 2, none⟩ := by simp only [Addr.add]; split <;> simp_all
    have e2 : (⟨g, 0, none⟩ : Addr).add (j * 2 + 1) = ⟨g, 0 + j * 2 + 1, none⟩ := by simp only [Addr.add]; split <;> simp_all <;> omega
    rw [e1] at h1
    rw [e2] at h2
    exact ⟨h1, h2⟩
theorem PrBuf.ne {base : Nat} {W : World} {v : Value} {l : List Pr} (h : PrBuf base W v l) {b : Nat} (hb : W.heap.size ≤ b) : ∀ k, v.ownBlock = some k → b ≠ k := fun k hk => by
  have := (World.ownsRow.lt h k hk).2
  omega
theorem PrBuf.ge {base : Nat} {W : World} {v : Value} {l : List Pr} (h : PrBuf base W v l) : ∀ k, v.ownBlock = some k → base ≤ k := fun k hk => (World.ownsRow.lt h k hk).1
theorem Blk.grownP {W W' : World} {b : Nat} {C : Array Value} {t : TypeId} {row : Option Nat} (h : Blk W b C t) (hg : W.grownBy W' row) (hne : ∀ k, row = some k → b ≠ k) : Blk W' b C t :=
  (hg.block b h.lt (fun e => hne b e.symm rfl)).trans h
theorem infoPr : ∃ i, Tryz.prog.info? 90 = some i ∧ i.zero = some (.agg #[.string (S []), .string (S [])]) ∧ i.size = 2 ∧ i.bytes = 32 := info_parts (show (Tryz.prog.info? 90).map (fun i => (i.zero, i.size, i.bytes)) = some (some (.agg #[.string (S []), .string (S [])]), 2, 32) by kernel_rfl)
/-- what an append of one pair asks -/
theorem appP_sides (k v : List UInt8) (wu : World) (N n base : Nat) (hN : wu.heap.size = N) (hn : n ≤ 5000) (hb : base ≤ N) :
    Hid (∀ j u, ([.string (S k), .string (S v)] : List Value)[j]? = some u → (wu.alloc (.cells #[.string (S k), .string (S v)] 90)).cell? ((⟨N, 0, none⟩ : Addr).add j) = some u) ∧ Hid (∀ u ∈ ([.string (S k), .string (S v)] : List Value), u.oneCell' = true) ∧ Hid (n + 1 ≤ maxLen) ∧ Hid ((n + 1) * 32 ≤ 140737488355328) ∧ Hid (base ≤ (wu.alloc (.cells #[.string (S k), .string (S v)] 90)).heap.size) := by
  subst hN
  refine ⟨Lib.hid ?_, Lib.hid ?_, Lib.hid (by unfold maxLen; omega), Lib.hid (by omega), Lib.hid (by simp; omega)⟩
  · intro j u h
    have hb := (Blk.new wu #[.string (S k), .string (S v)] 90).cell j
    have e1 : (⟨wu.heap.size, 0, none⟩ : Addr).add j = ⟨wu.heap.size, j, none⟩ := by simp only [Addr.add]; split <;> simp_all
    rw [e1, hb]
    simpa using h
  · exact prsVs_one [⟨k, v⟩]
/-- a literal of pairs in a new block -/
theorem prs_new (w : World) (l : List Pr) (t : TypeId) : PrsV (w.alloc (.cells (prsVs l).toArray t)) (.slice (some ⟨w.heap.size, 0, none⟩) l.length l.length) l :=
  ⟨_, _, rfl, Nat.le_refl _, fun _ => ⟨w.heap.size, 0, rfl, fun j hj => by
    obtain ⟨g1, g2⟩ := prsVs_get l j hj
    have hb := Blk.new w (prsVs l).toArray t
    rw [hb.cell, hb.cell]
    simp only [Nat.zero_add, List.getElem?_toArray]
    exact ⟨g1, g2⟩⟩⟩
/-- pairs and an error are returned; memory grows -/
def RetPE (w : World) (r : List Pr × Int × Int) (e : Ending) (w' : World) : Prop := ∃ v ev, e = .returned (.tuple #[v, ev]) ∧ PrsV w' v r.1 ∧ ErrIs w' ev r.2.1 r.2.2 ∧ Below w.heap.size w w'
/-- pairs and a fault are returned -/
def RetPF (w : World) (r : List Pr × Int × Int) (e : Ending) (w' : World) : Prop := ∃ v, e = .returned (.tuple #[v, .agg #[.int .i64 r.2.1, .int .i64 r.2.2]]) ∧ PrsV w' v r.1 ∧ Below w.heap.size w w'
end Go.Proofs.YtbllnelnajfjgaaGreatDoor
