/- The two listed cells, outside of what an object has of its own. No function of the program is walked here. -/
import Derived.Test.YtildnpnpakhnjaaDoorMask
import Derived.Test.YtildnpnpakhnjaaDoorMaxCell
import Derived.Test.YtildnpnpakhnjaaDoorTell
namespace Go.Proofs.YtildnpnpakhnjaaDoor
open Go.RowKit
set_option linter.unusedVariables false
theorem ErrCell.off {H : Nat → Prop} {W : World} (h : ErrCell (offW H W)) : ErrCell W := off_cell h
theorem MaxCell.off {H : Nat → Prop} {W : World} (h : MaxCell (offW H W)) : MaxCell W := by obtain ⟨m, hm⟩ := h; exact ⟨m, off_cell hm⟩
/-- the listed cells lie in no feed's blocks -/
structure GL (H : Nat → Prop) (W : World) : Prop where
  c : MaxCell (offW H W)
  g : ErrCell (offW H W)
theorem GL.keeps {w w' : World} {H H' : Nat → Prop} (h : GL H w) (hk : Keeps w.heap.size w w' H H') : GL H' w' := ⟨h.c.later hk.off', h.g.later hk.off'⟩
theorem GL.later {w w' : World} {H : Nat → Prop} (h : GL H w) (hb : Below w.heap.size w w') : GL H w' := h.keeps (Keeps.of hb H)
theorem GL.mk' {w w' : World} {H : Nat → Prop} (hc : MaxCell w) (hg : ErrCell w) (hb : Below w.heap.size w w') (hH : ∀ k, H k → w.heap.size ≤ k) : GL H w' := by
  obtain ⟨m, hm⟩ := hc
  have h1 := block_lt_of_cell (w := w) hm
  have h2 := block_lt_of_cell (w := w) hg
  simp only at h1 h2
  refine ⟨⟨m, ?_⟩, ?_⟩
  · rw [off_to (a := ⟨2, 0, none⟩) (fun hh => by have := hH _ hh; simp only at this; omega), (bcell hb).1 _ _ h1]; exact hm
  · unfold ErrCell
    rw [off_to (a := ⟨0, 0, none⟩) (fun hh => by have := hH _ hh; simp only at this; omega), (bcell hb).1 _ _ h2]; exact hg
/-- what a world was when a feed was made, is so -/
theorem Keeps.from {w w1 w2 : World} {H H2 : Nat → Prop} (hb : Below w.heap.size w w1) (hk : Keeps w1.heap.size w1 w2 H H2) (hH : ∀ k, H k → w.heap.size ≤ k) : Below w.heap.size w w2 := hb.trans (hk.below hb.size hH)
end Go.Proofs.YtildnpnpakhnjaaDoor
