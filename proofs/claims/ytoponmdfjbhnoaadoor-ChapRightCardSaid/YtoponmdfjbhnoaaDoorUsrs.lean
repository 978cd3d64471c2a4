/- Slices of users: how they read, and those of the call's own. No function of the program is walked here. -/
import Derived.Test.YtoponmdfjbhnoaaDoorChapMath
import Derived.Test.YtoponmdfjbhnoaaDoorErrIs
import Derived.Test.YtoponmdfjbhnoaaDoorBlk
import Derived.Laws.AppendOwn
import Derived.Laws.OwnMore
import Derived.Deep.RegionHeld3
namespace Go.Proofs.YtoponmdfjbhnoaaDoor
open Go.RowKit
set_option linter.unusedVariables false
/-- the slice value v reads as these users in W -/
def UsV (W : World) (v : Value) (l : List Us) : Prop := ∃ p c, v = .slice p l.length c ∧ l.length ≤ c ∧ (0 < l.length → ∃ b o, p = some ⟨b, o, none⟩ ∧ ∀ j (hj : j < l.length), W.cell? ⟨b, o + j * 2, none⟩ = some (.string (S l[j].nm)) ∧ W.cell? ⟨b, o + j * 2 + 1, none⟩ = some (.string (S l[j].sc)))
theorem UsV.later {W W' : World} {v : Value} {l : List Us} (h : UsV W v l) (hb : Below W.heap.size W W') : UsV W' v l := by
  obtain ⟨p, c, hv, hlc, hc⟩ := h
  refine ⟨p, c, hv, hlc, fun hl => ?_⟩
  obtain ⟨b, o, hp, hcell⟩ := hc hl
  refine ⟨b, o, hp, fun j hj => ?_⟩
  obtain ⟨h1, h2⟩ := hcell j hj
  rw [(bcell hb).1 b (o + j * 2) (block_lt_of_cell (w := W) (a := ⟨b, o + j * 2, none⟩) h1), (bcell hb).1 b (o + j * 2 + 1) (block_lt_of_cell (w := W) (a := ⟨b, o + j * 2 + 1, none⟩) h2)]
  exact ⟨h1, h2⟩
theorem UsV.drewN {W : World} {v : Value} {l : List Us} (h : UsV W v l) (n : Nat) : UsV (W.drewN n) v l := h
theorem UsV.nil (W : World) : UsV W (.slice none 0 0) [] := ⟨none, 0, rfl, Nat.le_refl _, fun h => absurd h (by decide)⟩
theorem UsV.form {W : World} {v : Value} {l : List Us} (h : UsV W v l) : ∃ p c, v = .slice p l.length c := by obtain ⟨p, c, h, _⟩ := h; exact ⟨p, c, h⟩
theorem UsV.cell {W : World} {p : Option Addr} {c : Nat} {l : List Us} (h : UsV W (.slice p l.length c) l) {j : Nat} (hj : j < l.length) : ∃ b o, p = some ⟨b, o, none⟩ ∧ W.cell? ⟨b, o + j * 2, none⟩ = some (.string (S l[j].nm)) ∧ W.cell? ⟨b, o + j * 2 + 1, none⟩ = some (.string (S l[j].sc)) := by
  obtain ⟨p0, c0, hv, _, hc⟩ := h
  obtain ⟨rfl, rfl⟩ : p = p0 ∧ c = c0 := by simpa using hv
  obtain ⟨b, o, rfl, hcell⟩ := hc (by omega)
  exact ⟨b, o, rfl, hcell j hj⟩
/-- all that they have is no more than memory has -/
def fitUs (l : List Us) : Prop := l.length ≤ 140737488355328 ∧ ∀ p ∈ l, p.nm.length ≤ 140737488355328 ∧ p.sc.length ≤ 140737488355328
/-- pairs that a call collects in a slice of its own -/
def usVs (l : List Us) : List Value := l.flatMap fun p => [.string (S p.nm), .string (S p.sc)]
theorem usVs_len : ∀ l : List Us, (usVs l).length = l.length * 2
  | [] => rfl
  | a :: l => by
    have := usVs_len l
    unfold usVs at *
    simp only [List.flatMap_cons, List.length_append, List.length_cons, List.length_nil] at *
    omega
theorem usVs_app (l m : List Us) : usVs (l ++ m) = usVs l ++ usVs m := by simp [usVs]
theorem usVs_one (l : List Us) : ∀ u ∈ usVs l, u.oneCell' = true := by
  intro u hu
  unfold usVs at hu
  obtain ⟨a, _, h⟩ := List.mem_flatMap.1 hu
  rcases List.mem_cons.1 h with rfl | h
  · rfl
  · rw [List.mem_singleton.1 h]; rfl
theorem usVs_get : ∀ (l : List Us) (j : Nat) (hj : j < l.length), (usVs l)[j * 2]? = some (.string (S l[j].nm)) ∧ (usVs l)[j * 2 + 1]? = some (.string (S l[j].sc))
  | [], j, hj => by simp at hj
  | a :: l, 0, _ => ⟨rfl, rfl⟩
  | a :: l, j + 1, hj => by
    obtain ⟨h1, h2⟩ := usVs_get l j (by simpa using hj)
    have e : usVs (a :: l) = .string (S a.nm) :: .string (S a.sc) :: usVs l := rfl
    rw [e, show (j + 1) * 2 = j * 2 + 1 + 1 by omega, List.getElem?_cons_succ, List.getElem?_cons_succ, h1, show j * 2 + 1 + 1 + 1 = (j * 2 + 1) + 1 + 1 by omega, List.getElem?_cons_succ, List.getElem?_cons_succ, h2]
    exact ⟨rfl, rfl⟩
def UsBuf (base : Nat) (W : World) (v : Value) (l : List Us) : Prop := W.ownsRow base 27 2 v l.length (usVs l)
theorem UsBuf.nil (base : Nat) (W : World) : UsBuf base W (.slice none 0 0) [] := World.ownsRow_nil W base 27 2
theorem UsBuf.alloc {base : Nat} {W : World} {v : Value} {l : List Us} (h : UsBuf base W v l) (o : Obj) : UsBuf base (W.alloc o) v l := World.ownsRow.alloc h o
theorem UsBuf.drew {base : Nat} {W : World} {v : Value} {l : List Us} (h : UsBuf base W v l) : UsBuf base W.drew v l := h
theorem UsBuf.drewN {base : Nat} {W : World} {v : Value} {l : List Us} (h : UsBuf base W v l) (n : Nat) : UsBuf base (W.drewN n) v l := h
theorem UsBuf.later {base : Nat} {W W' : World} {v : Value} {l : List Us} (h : UsBuf base W v l) (hb : Below W.heap.size W W') : UsBuf base W' v l := by
  refine World.ownsRow.kept (row := none) h ⟨hb.os, hb.tape, hb.output, hb.size, fun k hk _ => hb.block k hk⟩ ?_
  cases hv : v.ownBlock with
  | none => exact .inl rfl
  | some k => exact .inr (by simp)
theorem UsBuf.form {base : Nat} {W : World} {v : Value} {l : List Us} (h : UsBuf base W v l) : ∃ p cap, v = .slice p l.length cap := by
  rcases h.2 with ⟨rfl, h0⟩ | ⟨g, cap, cur, hv, _⟩
  · exact ⟨none, 0, by rw [h0]⟩
  · exact ⟨_, _, hv⟩
theorem UsBuf.us {base : Nat} {W : World} {v : Value} {l : List Us} (h : UsBuf base W v l) : UsV W v l := by
  rcases h.2 with ⟨rfl, h0⟩ | ⟨g, cap, cur, rfl, hbg, hg, hnc, hcm, hcs, htake⟩
  · obtain rfl : l = [] := List.eq_nil_of_length_eq_zero h0
    exact UsV.nil W
  · refine ⟨_, _, rfl, hnc, fun _ => ⟨g, 0, rfl, fun j hj => ?_⟩⟩
    obtain ⟨g1, g2⟩ := usVs_get l j hj
    have h1 := World.ownsRow.cells h (g := g) rfl (j * 2) _ g1
    have h2 := World.ownsRow.cells h (g := g) rfl (j * 2 + 1) _ g2
    have e1 : (⟨g, 0, none⟩ : Addr).add (j * 2) = ⟨g, 0 + j * 2, none⟩ := by simp only [Addr.add]; split <;> simp_all
    have e2 : (⟨g, 0, none⟩ : Addr).add (j * 2 + 1) = ⟨g, 0 + j * 2 + 1, none⟩ := by simp only [Addr.add]; split <;> simp_all <;> omega
    rw [e1] at h1
    rw [e2] at h2
    exact ⟨h1, h2⟩
theorem UsBuf.ne {base : Nat} {W : World} {v : Value} {l : List Us} (h : UsBuf base W v l) {b : Nat} (hb : W.heap.size ≤ b) : ∀ k, v.ownBlock = some k → b ≠ k := fun k hk => by
  have := (World.ownsRow.lt h k hk).2
  omega
theorem UsBuf.ge {base : Nat} {W : World} {v : Value} {l : List Us} (h : UsBuf base W v l) : ∀ k, v.ownBlock = some k → base ≤ k := fun k hk => (World.ownsRow.lt h k hk).1
theorem Blk.grownU {W W' : World} {b : Nat} {C : Array Value} {t : TypeId} {row : Option Nat} (h : Blk W b C t) (hg : W.grownBy W' row) (hne : ∀ k, row = some k → b ≠ k) : Blk W' b C t :=
  (hg.block b h.lt (fun e => hne b e.symm rfl)).trans h
theorem infoUs : ∃ i, Tryd.prog.info? 27 = some i ∧ i.zero = some (.agg #[.string (S []), .string (S [])]) ∧ i.size = 2 ∧ i.bytes = 32 := info_parts (show (Tryd.prog.info? 27).map (fun i => (i.zero, i.size, i.bytes)) = some (some (.agg #[.string (S []), .string (S [])]), 2, 32) by kernel_rfl)
/-- what an append of one user asks -/
theorem appU_sides (k v : List UInt8) (wu : World) (N n base : Nat) (hN : wu.heap.size = N) (hn : n ≤ 5000) (hb : base ≤ N) :
    Hid (∀ j u, ([.string (S k), .string (S v)] : List Value)[j]? = some u → (wu.alloc (.cells #[.string (S k), .string (S v)] 27)).cell? ((⟨N, 0, none⟩ : Addr).add j) = some u) ∧ Hid (∀ u ∈ ([.string (S k), .string (S v)] : List Value), u.oneCell' = true) ∧ Hid (n + 1 ≤ maxLen) ∧ Hid ((n + 1) * 32 ≤ 140737488355328) ∧ Hid (base ≤ (wu.alloc (.cells #[.string (S k), .string (S v)] 27)).heap.size) := by
  subst hN
  refine ⟨Lib.hid ?_, Lib.hid ?_, Lib.hid (by unfold maxLen; omega), Lib.hid (by omega), Lib.hid (by simp; omega)⟩
  · intro j u h
    have hb := (Blk.new wu #[.string (S k), .string (S v)] 27).cell j
    have e1 : (⟨wu.heap.size, 0, none⟩ : Addr).add j = ⟨wu.heap.size, j, none⟩ := by simp only [Addr.add]; split <;> simp_all
    rw [e1, hb]
    simpa using h
  · exact usVs_one [⟨k, v⟩]
/-- a literal of users in a new block -/
theorem us_new (w : World) (l : List Us) (t : TypeId) : UsV (w.alloc (.cells (usVs l).toArray t)) (.slice (some ⟨w.heap.size, 0, none⟩) l.length l.length) l :=
  ⟨_, _, rfl, Nat.le_refl _, fun _ => ⟨w.heap.size, 0, rfl, fun j hj => by
    obtain ⟨g1, g2⟩ := usVs_get l j hj
    have hb := Blk.new w (usVs l).toArray t
    rw [hb.cell, hb.cell]
    simp only [Nat.zero_add, List.getElem?_toArray]
    exact ⟨g1, g2⟩⟩⟩
end Go.Proofs.YtoponmdfjbhnoaaDoor
