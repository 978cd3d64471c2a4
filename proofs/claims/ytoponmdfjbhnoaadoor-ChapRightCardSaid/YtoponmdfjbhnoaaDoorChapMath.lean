/- Users; responses; who is let in. -/
import Derived.Test.YtoponmdfjbhnoaaDoorMd5Plain
import Derived.Test.YtoponmdfjbhnoaaDoorErrV
namespace Go.Proofs.YtoponmdfjbhnoaaDoor
open Go.RowKit
set_option linter.unusedVariables false
structure Us where
  nm : List UInt8
  sc : List UInt8
theorem Us.eta (u : Us) : u = ⟨u.nm, u.sc⟩ := rfl
def usFind : List Us → List UInt8 → Option Us
  | [], _ => none
  | u :: l, n => if u.nm = n then some u else usFind l n
theorem usFind_app : ∀ (l m : List Us) (n : List UInt8), usFind (l ++ m) n = (usFind l n).or (usFind m n)
  | [], m, n => by simp [usFind]
  | u :: l, m, n => by
    simp only [List.cons_append, usFind]
    by_cases h : u.nm = n
    · rw [if_pos h, if_pos h]; rfl
    · rw [if_neg h, if_neg h]; exact usFind_app l m n
theorem usFind_name : ∀ (l : List Us) (n : List UInt8) (u : Us), usFind l n = some u → u.nm = n ∧ u ∈ l
  | [], _, _, h => by cases h
  | x :: l, n, u, h => by
    simp only [usFind] at h
    by_cases e : x.nm = n
    · rw [if_pos e] at h
      obtain rfl := Option.some.inj h
      exact ⟨e, List.mem_cons_self⟩
    · rw [if_neg e] at h
      obtain ⟨h1, h2⟩ := usFind_name l n u h
      exact ⟨h1, List.mem_cons_of_mem _ h2⟩
/-- a response, and its error's number -/
def respL (id : Int) (s c : List UInt8) : List UInt8 × Int :=
  if id < 0 ∨ 255 < id then ([], 2) else if 100 < s.length ∨ c.length = 0 ∨ 100 < c.length then ([], 4) else (md5L (UInt8.ofNat id.toNat :: (s ++ c)), 0)
theorem respL_range (id : Int) (s c : List UInt8) (h : id < 0 ∨ 255 < id) : respL id s c = ([], 2) := by unfold respL; rw [if_pos h]
theorem respL_limit (id : Int) (s c : List UInt8) (h : ¬ (id < 0 ∨ 255 < id)) (h2 : 100 < s.length ∨ c.length = 0 ∨ 100 < c.length) : respL id s c = ([], 4) := by unfold respL; rw [if_neg h, if_pos h2]
theorem respL_good (id : Int) (s c : List UInt8) (h : ¬ (id < 0 ∨ 255 < id)) (h2 : ¬ (100 < s.length ∨ c.length = 0 ∨ 100 < c.length)) : respL id s c = (md5L (UInt8.ofNat id.toNat :: (s ++ c)), 0) := by unfold respL; rw [if_neg h, if_neg h2]
theorem md5L_len16 (l : List UInt8) : (md5L l).length = 16 := by unfold md5L outM; simp [le4]
theorem respL_ways (id : Int) (s c : List UInt8) : (respL id s c = ([], 2) ∧ (id < 0 ∨ 255 < id)) ∨ (respL id s c = ([], 4) ∧ (100 < s.length ∨ c.length = 0 ∨ 100 < c.length)) ∨ (∃ x, respL id s c = (x, 0) ∧ x.length = 16 ∧ x = md5L (UInt8.ofNat id.toNat :: (s ++ c)) ∧ 0 ≤ id ∧ id ≤ 255 ∧ s.length ≤ 100 ∧ 0 < c.length ∧ c.length ≤ 100) := by
  by_cases h : id < 0 ∨ 255 < id
  · exact .inl ⟨respL_range id s c h, h⟩
  · by_cases h2 : 100 < s.length ∨ c.length = 0 ∨ 100 < c.length
    · exact .inr (.inl ⟨respL_limit id s c h h2, h2⟩)
    · exact .inr (.inr ⟨_, respL_good id s c h h2, md5L_len16 _, rfl, by omega, by omega, by omega, by omega, by omega⟩)
end Go.Proofs.YtoponmdfjbhnoaaDoor
