/- A world without some blocks: what is said there is said of all others; what keeps all others. No function of the program is walked here. -/
import Derived.Test.YtildnpnpakhnjaaDoorBuf
namespace Go.Proofs.YtildnpnpakhnjaaDoor
open Go.RowKit
set_option linter.unusedVariables false
/-! a world without some blocks: what is said there is said of all others -/
open Classical in
noncomputable def offW (H : Nat → Prop) (W : World) : World := { W with heap := W.heap.mapIdx fun i o => if H i then .cells #[] 0 (1, 1) else o }
theorem off_size (H : Nat → Prop) (W : World) : (offW H W).heap.size = W.heap.size := by simp [offW]
theorem off_in {H : Nat → Prop} {W : World} {k : Nat} (h : H k) (hk : k < W.heap.size) : (offW H W).heap[k]? = some (.cells #[] 0 (1, 1)) := by
  unfold offW
  simp only [Array.getElem?_mapIdx]
  rw [Array.getElem?_eq_getElem hk]
  simp [h]
theorem off_out {H : Nat → Prop} {W : World} {k : Nat} (h : ¬ H k) : (offW H W).heap[k]? = W.heap[k]? := by
  unfold offW
  simp only [Array.getElem?_mapIdx]
  cases hk : W.heap[k]? with
  | none => rfl
  | some o => simp [h]
theorem off_cell {H : Nat → Prop} {W : World} {a : Addr} {v : Value} (h : (offW H W).cell? a = some v) : W.cell? a = some v := by
  have hlt : a.block < W.heap.size := by have := block_lt_of_cell h; rwa [off_size] at this
  by_cases hH : H a.block
  · unfold World.cell? at h
    rw [off_in hH hlt] at h
    simp at h
  · rw [← h]
    exact (World.cell?_of_block (w := W) (off_out hH)).symm
theorem off_cellout {H : Nat → Prop} {W : World} {a : Addr} {v : Value} (h : (offW H W).cell? a = some v) : ¬ H a.block := by
  have hlt : a.block < W.heap.size := by have := block_lt_of_cell h; rwa [off_size] at this
  intro hH
  unfold World.cell? at h
  rw [off_in hH hlt] at h
  simp at h
theorem off_to {H : Nat → Prop} {W : World} {a : Addr} (hH : ¬ H a.block) : (offW H W).cell? a = W.cell? a := World.cell?_of_block (w := W) (off_out hH)
theorem off_below {H : Nat → Prop} {B : Nat} {W W' : World} (h : Below B W W') : Below B (offW H W) (offW H W') :=
  ⟨h.os, h.tape, h.output, by rw [off_size, off_size]; exact h.size, fun k hk => by
    by_cases hH : H k
    · have e := h.block k hk
      cases hw : W.heap[k]? with
      | none =>
        rw [hw] at e
        have h1 : W.heap.size ≤ k := by simpa using hw
        have h2 : W'.heap.size ≤ k := by simpa using e
        rw [Array.getElem?_eq_none (by rw [off_size]; exact h2), Array.getElem?_eq_none (by rw [off_size]; exact h1)]
      | some o =>
        rw [hw] at e
        rw [off_in hH (Array.getElem?_eq_some_iff.1 hw).1, off_in hH (Array.getElem?_eq_some_iff.1 e).1]
    · rw [off_out hH, off_out hH]; exact h.block k hk⟩
theorem off_drewN (H : Nat → Prop) (W : World) (n : Nat) : offW H (W.drewN n) = (offW H W).drewN n := rfl
theorem off_drew (H : Nat → Prop) (W : World) : offW H W.drew = (offW H W).drew := rfl
theorem off_two (H K : Nat → Prop) (W : World) : offW H (offW K W) = offW (fun k => H k ∨ K k) W := by
  unfold offW
  congr 1
  apply Array.ext
  · simp
  · intro i h1 h2
    simp only [Array.getElem_mapIdx]
    by_cases hh : H i
    · simp [hh]
    · by_cases hk : K i <;> simp [hh, hk]
theorem off_row {H : Nat → Prop} {W : World} {base : Nat} {e : TypeId} {size : Nat} {v : Value} {n : Nat} {xs : List Value} (h : (offW H W).ownsRow base e size v n xs) : W.ownsRow base e size v n xs ∧ ∀ k, v.ownBlock = some k → ¬ H k := by
  rcases h.2 with ⟨rfl, h0⟩ | ⟨g, cap, cur, rfl, hb, hg, rest⟩
  · exact ⟨⟨h.1, .inl ⟨rfl, h0⟩⟩, fun k hk => by simp [Value.ownBlock] at hk⟩
  · have hlt : g < W.heap.size := by have := (Array.getElem?_eq_some_iff.1 hg).1; rwa [off_size] at this
    have hH : ¬ H g := fun hH => by rw [off_in hH hlt] at hg; simp at hg
    rw [off_out hH] at hg
    exact ⟨⟨h.1, .inr ⟨g, cap, cur, rfl, hb, hg, rest⟩⟩, fun k hk => by simp [Value.ownBlock] at hk; subst hk; exact hH⟩
theorem row_off {H : Nat → Prop} {W : World} {base : Nat} {e : TypeId} {size : Nat} {v : Value} {n : Nat} {xs : List Value} (h : W.ownsRow base e size v n xs) (hH : ∀ k, v.ownBlock = some k → ¬ H k) : (offW H W).ownsRow base e size v n xs := by
  rcases h.2 with ⟨rfl, h0⟩ | ⟨g, cap, cur, rfl, hb, hg, rest⟩
  · exact ⟨h.1, .inl ⟨rfl, h0⟩⟩
  · exact ⟨h.1, .inr ⟨g, cap, cur, rfl, hb, by rw [off_out (hH g rfl)]; exact hg, rest⟩⟩
/-- all but the blocks H below N are as they were; H may have grown by what is new -/
structure Keeps (N : Nat) (w w' : World) (H H' : Nat → Prop) : Prop where
  os : w'.os = w.os
  tape : w'.tape = w.tape
  output : w'.output = w.output
  size : w.heap.size ≤ w'.heap.size
  block : ∀ k, k < N → ¬ H k → w'.heap[k]? = w.heap[k]?
  more : ∀ k, H k → H' k
  old : ∀ k, H' k → H k ∨ N ≤ k
theorem Keeps.of {N : Nat} {w w' : World} (h : Below N w w') (H : Nat → Prop) : Keeps N w w' H H := ⟨h.os, h.tape, h.output, h.size, fun k hk _ => h.block k hk, fun _ h => h, fun _ h => .inl h⟩
theorem Keeps.refl (N : Nat) (w : World) (H : Nat → Prop) : Keeps N w w H H := .of (Below.refl _ _) H
theorem Keeps.trans {N N' : Nat} {w w1 w2 : World} {H H1 H2 : Nat → Prop} (h : Keeps N w w1 H H1) (k : Keeps N' w1 w2 H1 H2) (hN : N ≤ N') : Keeps N w w2 H H2 :=
  ⟨k.os.trans h.os, k.tape.trans h.tape, k.output.trans h.output, Nat.le_trans h.size k.size, fun i hi hH => by
    have h1 : ¬ H1 i := fun hc => by rcases h.old i hc with hc | hc <;> first | exact hH hc | omega
    exact (k.block i (by omega) h1).trans (h.block i hi hH),
   fun i hi => k.more i (h.more i hi), fun i hi => by
    rcases k.old i hi with hc | hc
    · exact h.old i hc
    · exact .inr (by omega)⟩
theorem Keeps.then {w0 w w2 : World} {H0 H H2 : Nat → Prop} (h : Keeps w0.heap.size w0 w H0 H) (k : Keeps w.heap.size w w2 H H2) : Keeps w0.heap.size w0 w2 H0 H2 := h.trans k h.size
theorem Keeps.off {N : Nat} {w w' : World} {H H' : Nat → Prop} (h : Keeps N w w' H H') (hN : N ≤ w.heap.size) : Below N (offW H w) (offW H' w') :=
  ⟨h.os, h.tape, h.output, by rw [off_size, off_size]; exact h.size, fun k hk => by
    have hs := h.size
    by_cases hH : H k
    · rw [off_in hH (by omega), off_in (h.more k hH) (by omega)]
    · have hH' : ¬ H' k := fun hc => by rcases h.old k hc with hc | hc <;> first | exact hH hc | omega
      rw [off_out hH, off_out hH']
      exact h.block k hk hH⟩
theorem Keeps.off' {w w' : World} {H H' : Nat → Prop} (h : Keeps w.heap.size w w' H H') : Below (offW H w).heap.size (offW H w) (offW H' w') := by
  rw [off_size]; exact h.off (Nat.le_refl _)
theorem Keeps.below {N B : Nat} {w w' : World} {H H' : Nat → Prop} (h : Keeps N w w' H H') (hB : B ≤ N) (hH : ∀ k, H k → B ≤ k) : Below B w w' :=
  ⟨h.os, h.tape, h.output, h.size, fun k hk => h.block k (by omega) (fun hc => by have := hH k hc; omega)⟩
end Go.Proofs.YtildnpnpakhnjaaDoor
