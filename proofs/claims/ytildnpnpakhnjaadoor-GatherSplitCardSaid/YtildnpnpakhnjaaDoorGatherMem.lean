/- A gatherer in memory: its own blocks, and all others. No function of the program is walked here. -/
import Derived.Test.YtildnpnpakhnjaaDoorPairMath2
import Derived.Test.YtildnpnpakhnjaaDoorKept
import Derived.Test.YtildnpnpakhnjaaDoorPrs
namespace Go.Proofs.YtildnpnpakhnjaaDoor
open Go.RowKit
set_option linter.unusedVariables false
theorem PrsV.off {H : Nat → Prop} {W : World} {v : Value} {l : List Pr} (h : PrsV (offW H W) v l) : PrsV W v l := by
  obtain ⟨p, c, hv, hlc, hc⟩ := h
  exact ⟨p, c, hv, hlc, fun hl => by obtain ⟨b, o, hp, hcell⟩ := hc hl; exact ⟨b, o, hp, fun j hj => ⟨off_cell (hcell j hj).1, off_cell (hcell j hj).2⟩⟩⟩
theorem ErrIs.off {H : Nat → Prop} {W : World} {v : Value} {n p : Int} (h : ErrIs (offW H W) v n p) : ErrIs W v n p := by
  cases h with
  | good => exact .good
  | bare _ hn => exact .bare _ hn
  | placed b _ _ hn h0 h1 => exact .placed b _ _ hn (off_cell h0) (off_cell h1)
/-- a gatherer lies at gb; H: its own blocks -/
structure GatAt (W : World) (B : Nat) (H : Nat → Prop) (gb : Nat) (G : Ga) : Prop where
  most : G.most ≤ 20000
  fit : G.came.length ≤ G.most
  at_ : ∃ kv t, Blk W gb #[.int .i64 G.most, kv] t ∧ KeptAt W H gb kv G.came
  own : H gb
  base : ∀ k, H k → B ≤ k ∧ k < W.heap.size
  u8 : ∀ k, H k → k ≠ gb → U8Blk W k
theorem GatAt.kept {W W' : World} {B : Nat} {H : Nat → Prop} {gb : Nat} {G : Ga} (h : GatAt W B H gb G) (hb : ∀ k, H k → W'.heap[k]? = W.heap[k]?) (hs : W.heap.size ≤ W'.heap.size) : GatAt W' B H gb G := by
  obtain ⟨kv, t, hk, hv⟩ := h.at_
  exact ⟨h.most, h.fit, ⟨kv, t, (hb gb h.own).trans hk, hv.kept (fun k hk _ _ => hb k hk) (fun _ h => h)⟩, h.own, fun k hk => ⟨(h.base k hk).1, Nat.lt_of_lt_of_le (h.base k hk).2 hs⟩, fun k hk hne => (h.u8 k hk hne).kept (hb k hk)⟩
theorem GatAt.mono {W : World} {B B' : Nat} {H : Nat → Prop} {gb : Nat} {G : Ga} (h : GatAt W B H gb G) (hB : B' ≤ B) : GatAt W B' H gb G := ⟨h.most, h.fit, h.at_, h.own, fun k hk => ⟨Nat.le_trans hB (h.base k hk).1, (h.base k hk).2⟩, h.u8⟩
theorem GatAt.later {W W' : World} {B : Nat} {H : Nat → Prop} {gb : Nat} {G : Ga} (h : GatAt W B H gb G) (hb : Below W.heap.size W W') : GatAt W' B H gb G := h.kept (fun k hk => hb.block k (h.base k hk).2) hb.size
theorem GatAt.drewN {W : World} {B : Nat} {H : Nat → Prop} {gb : Nat} {G : Ga} (h : GatAt W B H gb G) (n : Nat) : GatAt (W.drewN n) B H gb G := h.kept (fun _ _ => rfl) (Nat.le_refl _)
theorem GatAt.set {W : World} {B : Nat} {H : Nat → Prop} {gb : Nat} {G : Ga} (h : GatAt W B H gb G) {t : TypeId} (G' : Ga) (h1 : G'.most ≤ 20000) (h2 : G'.came.length ≤ G'.most) (kv' : Value)
    (hv : KeptAt W H gb kv' G'.came) (W' : World) (hb : Blk W' gb #[.int .i64 G'.most, kv'] t) (hs : W'.heap.size = W.heap.size) (ho : ∀ k, k ≠ gb → W'.heap[k]? = W.heap[k]?) : GatAt W' B H gb G' :=
  ⟨h1, h2, ⟨kv', t, hb, hv.kept (fun k _ _ hne => ho k hne) (fun _ h => h)⟩, h.own, fun k hk => by rw [hs]; exact h.base k hk, fun k hk hne => (h.u8 k hk hne).kept (ho k hne)⟩
theorem two_cell {W : World} {gb j : Nat} {x y : Value} {t : TypeId} (h : Blk W gb #[x, y] t) {v : Value} (hc : W.cell? ⟨gb, j, none⟩ = some v) : (j = 0 ∧ v = x) ∨ (j = 1 ∧ v = y) := by
  rw [h.cell j] at hc
  obtain rfl | rfl | ho : j = 0 ∨ j = 1 ∨ 2 ≤ j := by omega
  · simp at hc; exact .inl ⟨rfl, hc.symm⟩
  · simp at hc; exact .inr ⟨rfl, hc.symm⟩
  · rw [Array.getElem?_eq_none (by simpa using ho)] at hc
    cases hc
/-- no pairs lie in a gatherer's own blocks, nor does an error -/
theorem PrsV.offG {W : World} {B : Nat} {H : Nat → Prop} {gb : Nat} {G : Ga} (hG : GatAt W B H gb G) {v : Value} {l : List Pr} (h : PrsV W v l) : PrsV (offW H W) v l := by
  obtain ⟨kv, t, hk, hv⟩ := hG.at_
  obtain ⟨pk, ck, rfl, _⟩ := hv.form
  obtain ⟨p, c, hvv, hlc, hc⟩ := h
  refine ⟨p, c, hvv, hlc, fun hl => ?_⟩
  obtain ⟨b, o, hp, hcell⟩ := hc hl
  have hH : ¬ H b := fun hH => by
    have h0 := (hcell 0 hl).1
    by_cases hb : b = gb
    · subst hb
      rcases two_cell hk h0 with ⟨_, h⟩ | ⟨_, h⟩ <;> simp at h
    · obtain ⟨n, h⟩ := (hG.u8 b hH hb).cell h0
      simp at h
  exact ⟨b, o, hp, fun j hj => by rw [off_to (a := ⟨b, o + j * 2, none⟩) hH, off_to (a := ⟨b, o + j * 2 + 1, none⟩) hH]; exact hcell j hj⟩
theorem ErrIs.offG {W : World} {B : Nat} {H : Nat → Prop} {gb : Nat} {G : Ga} (hG : GatAt W B H gb G) {v : Value} {n p : Int} (h : ErrIs W v n p) : ErrIs (offW H W) v n p := by
  cases h with
  | good => exact .good
  | bare _ hn => exact .bare _ hn
  | placed b _ _ hn h0 h1 =>
    obtain ⟨kv, t, hk, hv⟩ := hG.at_
    obtain ⟨pk, ck, rfl, _⟩ := hv.form
    have hH : ¬ H b := fun hH => by
      by_cases hb : b = gb
      · subst hb
        rcases two_cell hk h1 with ⟨h, _⟩ | ⟨_, h⟩
        · simp at h
        · simp at h
      · obtain ⟨n, h⟩ := (hG.u8 b hH hb).cell h0
        simp at h
    exact .placed b _ _ hn (by rw [off_to (a := ⟨b, 0, none⟩) hH]; exact h0) (by rw [off_to (a := ⟨b, 1, none⟩) hH]; exact h1)
end Go.Proofs.YtildnpnpakhnjaaDoor
