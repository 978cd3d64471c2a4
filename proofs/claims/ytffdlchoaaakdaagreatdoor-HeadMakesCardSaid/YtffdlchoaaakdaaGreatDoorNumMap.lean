/- A map from names to numbers of the call's own: what it has for each name. -/
import Derived.Test.YtffdlchoaaakdaaGreatDoorRows
import Derived.Test.YtffdlchoaaakdaaGreatDoorBase
import Derived.Maps.Own
import Derived.Maps.OwnOps
import Derived.Maps.OwnSet
import Derived.Maps.Views
import Derived.StringKeys
namespace Go.Proofs.YtffdlchoaaakdaaGreatDoor
open Go.RowKit Go.Maps
theorem keyedN : Keyed Tryz.prog 9 := string_keyed Tryz.underlying9
theorem keyN (l : List UInt8) (h : l.length < 1000) : keyOf Tryz.prog 9 (.string (S l)) = some (.string l) := by
  have := Go.WideMaps.keyOf_string_mk (P := Tryz.prog) (k := 9) Tryz.underlying9 (s := S l) (by rw [S_size]; unfold maxLen; omega)
  rw [this]; rfl
theorem zeroU (w : World) : (zeroValue 37).run Tryz.prog w = .ok (.int .u64 0) w := by kernel_rfl
def UMap (W : World) (b n : Nat) (f : List UInt8 → Nat) : Prop :=
  ∃ D : DataW Unit, W.ownsMap Tryz.prog 9 (plainElem Tryz.prog 37) b n D ∧ (∀ l, f l < 2 ^ 64) ∧ ∀ l, D.atKey (.string l) (.lit (.int .u64 0)) = .lit (.int .u64 (f l : Int))
theorem UMap.made (w : World) : UMap (w.alloc (.map #[] 0)) w.heap.size 0 (fun _ => 0) :=
  ⟨.map [], World.ownsMap_made _ _ _ _, fun _ => (show 0 < 2 ^ 64 by decide), fun _ => rfl⟩
theorem UMap.lt {W : World} {b n : Nat} {f : List UInt8 → Nat} (h : UMap W b n f) : b < W.heap.size := by
  obtain ⟨D, ⟨es, clock, h1, _⟩, _⟩ := h
  exact (Array.getElem?_eq_some_iff.1 h1).1
theorem UMap.same {W W' : World} {b n : Nat} {f : List UInt8 → Nat} (h : UMap W b n f) (hb : W'.heap[b]? = W.heap[b]?) : UMap W' b n f := by
  obtain ⟨D, ⟨es, clock, h1, h2, h3, h4⟩, hf⟩ := h
  exact ⟨D, ⟨es, clock, by rw [hb]; exact h1, h2, h3, h4⟩, hf⟩
theorem UMap.later {W W' : World} {b n : Nat} {f : List UInt8 → Nat} (h : UMap W b n f) (hb : Below W.heap.size W W') : UMap W' b n f := h.same (hb.block b h.lt)
theorem UMap.alloc {W : World} {b n : Nat} {f : List UInt8 → Nat} (h : UMap W b n f) (o : Obj) : UMap (W.alloc o) b n f := h.later ((Below.refl _ _).alloc (Nat.le_refl _) _)
theorem UMap.set {W : World} {b n : Nat} {f : List UInt8 → Nat} (h : UMap W b n f) {a : Addr} (hne : b ≠ a.block) (u : Value) : UMap (W.setCell a u) b n f := h.same (Below.heap_setCell W a u b hne)
theorem UMap.look {t : TypeId} {W : World} {b n : Nat} {f : List UInt8 → Nat} (h : UMap W b n f) (ht : Tryz.prog.underlying t = some (.map 9 37)) (l : List UInt8) (hl : l.length < 1000) :
    (Instr.lookup t (.map (some b)) (.string (S l)) false).run Tryz.prog W = .ok (.int .u64 (f l : Int)) W := by
  obtain ⟨D, hown, _, hf⟩ := h
  obtain ⟨c, hrun, hat, _⟩ := hown.lookup_int keyedN ht Tryz.underlying37 (zeroU W) (keyN l hl)
  have hc : (f l : Int) = c := by
    have := (hf l).symm.trans hat
    exact (Lit.int.inj (DataW.lit.inj this)).2
  rw [hc]
  exact hrun
theorem UMap.put {t : TypeId} {W : World} {b n : Nat} {f : List UInt8 → Nat} (h : UMap W b n f) (ht : Tryz.prog.underlying t = some (.map 9 37)) (hn : n < 1000000) (l : List UInt8) (hl : l.length < 1000) (x : Nat) (hx : x < 2 ^ 64) :
    ∃ w', (Instr.mapUpdate t (.map (some b)) (.string (S l)) (.int .u64 (x : Int))).run Tryz.prog W = .ok () w' ∧ UMap w' b (n + 1) (fun k => if k = l then x else f k) ∧ W.grownBy w' (some b) := by
  obtain ⟨D, hown, hlt, hf⟩ := h
  have hM := hown.isMap
  have hwf : (Lit.int .u64 (x : Int)).wf = true := by simp [Lit.wf, IntKind.min, IntKind.max, IntKind.signed, IntKind.bits]; omega
  obtain ⟨w', hrun, r1, r2⟩ := hown.update keyedN ht (by unfold maxLen; omega) (keyN l hl) (plainElem_int Tryz.underlying37 hwf)
  refine ⟨w', hrun, ⟨_, r1, fun k => ?_, fun k => ?_⟩, r2⟩
  · simp only; split
    · exact hx
    · exact hlt k
  · by_cases e : k = l
    · subst e
      simp only [↓reduceIte]
      exact atKey_put_same (k := .string k) hM trivial _ _
    · simp only [if_neg e]
      rw [atKey_put_other (fun h => e (Lit.string.inj h))]
      exact hf k
end Go.Proofs.YtffdlchoaaakdaaGreatDoor
