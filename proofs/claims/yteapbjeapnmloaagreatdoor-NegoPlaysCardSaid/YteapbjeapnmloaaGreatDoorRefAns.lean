/- The reference's Nego: Answer. -/
import Derived.Test.YteapbjeapnmloaaGreatDoorGN
import Derived.Test.YteapbjeapnmloaaGreatDoorGA
import Derived.Test.YteapbjeapnmloaaGreatDoorGB
import Derived.Test.YteapbjeapnmloaaGreatDoorGD
import Derived.Deep.Cut
import Derived.Deep.CutBlock
import Derived.Deep.CutRange
namespace Go.Proofs.YteapbjeapnmloaaGreatDoor
open Go Go.RowKit Go.Maps
set_option linter.unusedVariables false
/-- a row that lies nowhere below N -/
def NewAt (N : Nat) (v : Value) : Prop := ∀ b o n c, v = .slice (some ⟨b, o, none⟩) n c → N ≤ b
theorem NewAt.nil (N n c : Nat) : NewAt N (.slice none n c) := fun b o n' c' h => by simp at h
theorem NewAt.buf {base N : Nat} {W : World} {v : Value} {l : List Pr} (h : PrBuf base W v l) (hN : N ≤ base) : NewAt N v := by
  rcases h.2 with ⟨rfl, _⟩ | ⟨g, cap, cur, rfl, hbg, _⟩
  · exact NewAt.nil _ _ _
  · intro b o n c h
    simp only [Value.slice.injEq, Option.some.injEq, Addr.mk.injEq] at h
    obtain ⟨⟨rfl, _⟩, _⟩ := h
    omega
/-- what an answer comes to -/
def RetAN (w : World) (rb : Nat) (mv rv : Value) (mine : List Pr) (r : (List Pr × Int × Int) × List Pr) (e : Ending) (w' : World) : Prop :=
  ∃ v' rv', e = .returned (.tuple #[v', .agg #[.int .i64 r.1.2.1, .int .i64 r.1.2.2]]) ∧ PrsV w' v' r.1.1 ∧ RN w' rb mv rv' mine r.2 ∧ Keeps w.heap.size w w' (fun k => k = rb) (fun k => k = rb) ∧ NewAt w.heap.size v' ∧ (rv' = rv ∨ NewAt w.heap.size rv')
/-- the keys of the record that a login has seen -/
def seenR (lg : Bool) (l : List Pr) : List (List UInt8) := if lg = true then keysP l else []
theorem seenR_step (lg : Bool) {l : List Pr} {j : Nat} (hj : j < l.length) (x : Lit) : ((x = .string l[j].k ∧ lg = true) ∨ (x ≠ .string l[j].k ∧ keyIn (seenR lg (l.take j)) x)) ↔ keyIn (seenR lg (l.take (j + 1))) x := by
  cases lg with
  | false =>
    unfold seenR
    simp [keyIn]
  | true =>
    unfold seenR
    rw [if_pos rfl, if_pos rfl, keys_take hj, ← keyIn_snoc]
    constructor
    · rintro (⟨h, _⟩ | ⟨_, h⟩)
      · exact .inl h
      · exact .inr h
    · intro h
      by_cases e : x = .string l[j].k
      · exact .inl ⟨e, rfl⟩
      · exact .inr ⟨e, h.resolve_left e⟩
theorem filter_take {l : List Pr} {j : Nat} (hj : j < l.length) (f : Pr → Bool) : (l.take (j + 1)).filter f = (l.take j).filter f ++ (if f l[j] = true then [l[j]] else []) := by
  rw [← List.take_append_getElem hj, List.filter_append]
  congr 1
  by_cases h : f l[j] = true <;> simp [h]
theorem env_now {w W : World} {rb : Nat} (hE : Env (offW (fun k => k = rb) w)) (hk : Keeps w.heap.size w W (fun k => k = rb) (fun k => k = rb)) : Env W := (hE.keeps hk).off
theorem keyT_ways (s : List UInt8) : ∃ (nm df : List UInt8) (kd lo hi : Int) (no kg : Bool) (n : Int), keyT s = .tuple #[.agg #[.string (S nm), .int .i64 kd, .int .i64 lo, .int .i64 hi, .string (S df), .bool no, .bool kg], .int .i64 n] ∧ ((rowOf s = none ∧ n = 5) ∨ ∃ k, rowOf s = some k ∧ n = 0 ∧ kd = (k.kd : Int) ∧ no = k.no ∧ kg = k.lg) := by
  unfold keyT
  cases rowOf s with
  | none => exact ⟨[], [], 0, 0, 0, false, false, 5, rfl, .inl ⟨rfl, rfl⟩⟩
  | some k => exact ⟨k.nm, k.df, k.kd, k.lo, k.hi, k.no, k.lg, 0, rfl, .inr ⟨k, rfl, rfl, rfl, rfl, rfl⟩⟩
/-- pairs of the call's own lie apart from what was there -/
theorem ApartP.old {base : Nat} {W w : World} {o v : Value} {out l : List Pr} (h : PrBuf base W o out) (hv : PrsV w v l) (hb : w.heap.size ≤ base) : ApartP o v := by
  intro g hg p n c e hn he
  have h1 := h.ge g hg
  obtain ⟨p0, c0, hv0, _, hc⟩ := hv
  rw [hv0] at e
  simp only [Value.slice.injEq] at e
  obtain ⟨e1, e2, _⟩ := e
  obtain ⟨b, q, hp, hcell⟩ := hc (by omega)
  have hlt : b < w.heap.size := block_lt_of_cell (w := w) (a := ⟨b, q + 0 * 2, none⟩) (hcell 0 (by omega)).1
  rw [hp] at e1
  simp only [Option.some.injEq] at e1
  rw [← e1] at he
  simp only at he
  omega
/-- pairs of the call's own, made later, lie apart -/
theorem ApartP.new {base base2 : Nat} {W W2 : World} {o v : Value} {out l : List Pr} (h : PrBuf base W o out) (hv : PrBuf base2 W2 v l) (hb : W.heap.size ≤ base2) : ApartP o v := by
  intro g hg p n c e hn he
  have h1 := (World.ownsRow.lt h g hg).2
  rcases hv.2 with ⟨rfl, h0⟩ | ⟨g2, cap, cur, rfl, hbg, _⟩
  · cases e
  · simp only [Value.slice.injEq, Option.some.injEq] at e
    rw [← e.1] at he
    simp only at he
    omega
theorem ApartP.step {o o' v : Value} {W : World} {l : List Pr} (h : ApartP o v) (hv : PrsV W v l) (hs : ∀ k, o'.ownBlock = some k → o.ownBlock = some k ∨ W.heap.size ≤ k) : ApartP o' v := by
  intro g hg p n c e hn he
  rcases hs g hg with h1 | h1
  · exact h g h1 p n c e hn he
  · obtain ⟨p0, c0, hv0, _, hc⟩ := hv
    rw [hv0] at e
    simp only [Value.slice.injEq] at e
    obtain ⟨e1, e2, _⟩ := e
    obtain ⟨b, q, hp, hcell⟩ := hc (by omega)
    have hlt : b < W.heap.size := block_lt_of_cell (w := W) (a := ⟨b, q + 0 * 2, none⟩) (hcell 0 (by omega)).1
    rw [hp] at e1
    simp only [Option.some.injEq] at e1
    rw [← e1] at he
    simp only at he
    omega
theorem Keeps.grown {N : Nat} {w w1 w2 : World} {H : Nat → Prop} {row : Option Nat} (h : Keeps N w w1 H H) (hg : w1.grownBy w2 row) (hr : ∀ k, row = some k → N ≤ k) (hN : N ≤ w1.heap.size) : Keeps N w w2 H H :=
  ⟨hg.os.trans h.os, hg.tape.trans h.tape, hg.output.trans h.output, Nat.le_trans h.size hg.size, fun k hk hH => (hg.block k (by omega) (fun e => by have := hr k e.symm; omega)).trans (h.block k hk hH), h.more, h.old⟩
end Go.Proofs.YteapbjeapnmloaaGreatDoor
