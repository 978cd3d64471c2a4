/- What is said is no more than was offered. No program stands in it. -/
import Derived.Test.YteapbjeapnmloaaGreatDoorGA
namespace Go.Proofs.YteapbjeapnmloaaGreatDoor
open Go.RowKit
set_option linter.unusedVariables false
theorem goN_len2 (f : Pr → Option (List UInt8) × Option (List UInt8)) : ∀ l rec : List Pr, (goN f l rec).1.length ≤ l.length
  | [], _ => Nat.le_refl _
  | p :: l, rec => by
    rw [goN_cons]
    have h1 := goN_len2 f l (recN rec p.k (f p).2)
    have h2 : (asP p.k (f p).1).length ≤ 1 := by cases (f p).1 <;> simp [asP]
    simp only [List.length_append, List.length_cons]
    omega
theorem said_len2 {mine rec l s r : List Pr} {n q : Int} {lg dc : Bool} (h : ansN mine rec l lg dc = ((s, n, q), r)) : s.length ≤ 60 := by
  by_cases hn : n = 0
  · obtain ⟨_, h2, _, _, he⟩ := ansN_good (mine := mine) (rec := rec) (l := l) (lg := lg) (dc := dc) (by rw [h]; exact hn)
    rw [h] at he
    have hs : s = (goN (oneN mine lg dc) l rec).1 := congrArg (fun x => x.1.1) he
    rw [hs]
    exact Nat.le_trans (goN_len2 _ _ _) h2
  · have he := (ansN_err (mine := mine) (rec := rec) (l := l) (lg := lg) (dc := dc) (by rw [h]; exact hn)).1
    rw [h] at he
    simp only at he
    rw [he]
    simp
end Go.Proofs.YteapbjeapnmloaaGreatDoor
