/- The last pairs of a slice of pairs. No function of the program is walked here. -/
import Derived.Test.YteapbjeapnmloaaGreatDoorGB
namespace Go.Proofs.YteapbjeapnmloaaGreatDoor
open Go.RowKit
set_option linter.unusedVariables false
theorem PrsV.dropS {W : World} {b o c n : Nat} {l : List Pr} (h : PrsV W (.slice (some ⟨b, o, none⟩) l.length c) l) (hn : n ≤ l.length) : PrsV W (.slice (some ⟨b, o + n * 2, none⟩) (l.length - n) (c - n)) (l.drop n) := by
  obtain ⟨p0, c0, hv, hlc, hc⟩ := h
  simp only [Value.slice.injEq] at hv
  obtain ⟨rfl, _, rfl⟩ := hv
  refine ⟨_, _, by rw [List.length_drop], by rw [List.length_drop]; omega, fun hl => ?_⟩
  rw [List.length_drop] at hl
  obtain ⟨b', o', hp, hcell⟩ := hc (by omega)
  obtain ⟨rfl, rfl⟩ : b = b' ∧ o = o' := by simpa using hp
  refine ⟨b, o + n * 2, rfl, fun j hj => ?_⟩
  rw [List.length_drop] at hj
  rw [List.getElem_drop]
  have := hcell (n + j) (by omega)
  rw [show o + (n + j) * 2 = o + n * 2 + j * 2 by omega] at this
  exact this
theorem PrsV.none_ {W : World} (p : Option Addr) (c : Nat) : PrsV W (.slice p 0 c) [] := ⟨p, c, rfl, Nat.zero_le _, fun h => absurd h (by decide)⟩
end Go.Proofs.YteapbjeapnmloaaGreatDoor
