/- Who is let in, as a number. -/
import Derived.Test.YtoponmdfjbhnoaaGreatDoorGA
import Derived.Test.YtoponmdfjbhnoaaGreatDoorRead
namespace Go.Proofs.YtoponmdfjbhnoaaGreatDoor
open Go.RowKit
set_option linter.unusedVariables false
/-- an answer's error, once the value is read (text, error) -/
def chkR (rv : List UInt8 × Int) (rs : List UInt8 × Int) : Int := if rv.2 ≠ 0 then rv.2 else if rs.2 ≠ 0 then rs.2 else if rv.1 = rs.1 then 0 else 13
def chkU (o : Option Us) (value : List UInt8) (id : Int) (c : List UInt8) : Int :=
  match o with
  | none => 8
  | some u => chkR ((readV value).1, (readV value).2.1) (respL id u.sc c)
def chkL (l : List Us) (name value : List UInt8) (id : Int) (c : List UInt8) : Int := chkU (usFind l name) value id c
theorem chkR_bad (t : List UInt8) (e : Int) (rs : List UInt8 × Int) (h : e ≠ 0) : chkR (t, e) rs = e := by unfold chkR; rw [if_pos h]
theorem chkR_resp (t x : List UInt8) (e : Int) (h : e ≠ 0) : chkR (t, 0) (x, e) = e := by unfold chkR; rw [if_neg (by simp), if_pos h]
theorem chkR_same (t : List UInt8) : chkR (t, 0) (t, 0) = 0 := by unfold chkR; rw [if_neg (by simp), if_neg (by simp), if_pos rfl]
theorem chkR_other (t x : List UInt8) (h : t ≠ x) : chkR (t, 0) (x, 0) = 13 := by unfold chkR; rw [if_neg (by simp), if_neg (by simp), if_neg h]
theorem chkL_of (l : List Us) (name value t : List UInt8) (id : Int) (c : List UInt8) (u : Us) (e p : Int) (h : usFind l name = some u) (hv : readV value = (t, e, p)) : chkL l name value id c = chkR (t, e) (respL id u.sc c) := by
  unfold chkL; rw [h]; show chkR ((readV value).1, (readV value).2.1) _ = _; rw [hv]
theorem chkL_none (l : List Us) (name value : List UInt8) (id : Int) (c : List UInt8) (h : usFind l name = none) : chkL l name value id c = 8 := by
  unfold chkL; rw [h]; rfl
/-- others are no matter -/
theorem chkL_app (l : List Us) (name value : List UInt8) (id : Int) (c : List UInt8) (u : Us) (h : usFind l name ≠ none ∨ u.nm ≠ name) : chkL (l ++ [u]) name value id c = chkL l name value id c := by
  unfold chkL
  rw [usFind_app]
  cases hf : usFind l name with
  | some x => rfl
  | none =>
    have hu : u.nm ≠ name := by
      rcases h with h | h
      · exact absurd hf h
      · exact h
    have : usFind [u] name = none := by simp only [usFind]; rw [if_neg hu]
    rw [this]; rfl
theorem snoc_ne (l : List UInt8) (x : UInt8) : l ++ [x] ≠ l := fun h => by
  have := congrArg List.length h
  simp at this
theorem find_two (n s : List UInt8) (x y : UInt8) : usFind [⟨n ++ [x], s ++ [y]⟩, ⟨n, s⟩] n = some ⟨n, s⟩ := by
  simp only [usFind]
  rw [if_neg (snoc_ne n x)]
  simp
end Go.Proofs.YtoponmdfjbhnoaaGreatDoor
