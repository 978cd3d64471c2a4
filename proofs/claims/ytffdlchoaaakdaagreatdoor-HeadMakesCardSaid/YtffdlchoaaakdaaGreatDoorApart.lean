/- Fields that lie apart, of names of their own. No function of the program is walked here. -/
import Derived.Test.YtffdlchoaaakdaaGreatDoorHeadMath2
namespace Go.Proofs.YtffdlchoaaakdaaGreatDoor
open Go.RowKit
theorem apartF_names {fs : List Fd} (ha : apartF fs = true) : ∀ i j (hi : i < fs.length) (hj : j < fs.length), i < j → fs[i].nm ≠ fs[j].nm := by
  induction fs with
  | nil => intro i j hi; simp at hi
  | cons f fs ih =>
    intro i j hi hj hij
    obtain ⟨h1, h2⟩ := apartF_cons ha
    cases j with
    | zero => omega
    | succ j =>
      cases i with
      | zero => exact (h1 _ (List.getElem_mem (by simpa using hj))).2
      | succ i => exact ih h2 i j (by simpa using hi) (by simpa using hj) (by omega)
theorem idxName_own {fs : List Fd} (ha : apartF fs = true) (i : Nat) (hi : i < fs.length) : idxName fs fs[i].nm = some i :=
  idxName_first hi (fun j hj => apartF_names ha j i (by omega) hi hj) rfl
theorem names_ne {fs : List Fd} (ha : apartF fs = true) {i j : Nat} (hi : i < fs.length) (hj : j < fs.length) (h : i ≠ j) : fs[i].nm ≠ fs[j].nm := by
  rcases Nat.lt_or_gt_of_ne h with h | h
  · exact apartF_names ha i j hi hj h
  · exact Ne.symm (apartF_names ha j i hj hi h)
end Go.Proofs.YtffdlchoaaakdaaGreatDoor
