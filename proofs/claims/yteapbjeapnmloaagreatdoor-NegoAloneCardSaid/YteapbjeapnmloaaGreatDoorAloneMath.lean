/- An offer alone: what is said of it, what is recorded. No program stands in it. -/
import Derived.Test.YteapbjeapnmloaaGreatDoorGA
namespace Go.Proofs.YteapbjeapnmloaaGreatDoor
set_option linter.unusedVariables false
theorem alone_no {l : List Pr} {k d : List UInt8} (h : rowOf k = none) : asP k (oneN l true false ⟨k, d⟩).1 = [⟨k, notL⟩] ∧ asP k (oneN l true false ⟨k, d⟩).2 = [] := by
  rw [oneN_no h]; exact ⟨rfl, rfl⟩
theorem alone_67 {l : List Pr} {k d : List UInt8} {ke : Ke} (h : rowOf k = some ke) (h67 : ke.kd = 6 ∨ ke.kd = 7) :
    (keyFits k d = 0 ∧ asP k (oneN l true false ⟨k, d⟩).1 = [] ∧ asP k (oneN l true false ⟨k, d⟩).2 = [⟨k, d⟩]) ∨
    (keyFits k d ≠ 0 ∧ asP k (oneN l true false ⟨k, d⟩).1 = [⟨k, rejL⟩] ∧ asP k (oneN l true false ⟨k, d⟩).2 = []) := by
  rw [oneN_row h, keyFits_of h]
  simp only
  by_cases hf : fitK ke d = 0
  · rw [oneK_told (by simp) (by simp) hf h67]
    exact .inl ⟨hf, rfl, rfl⟩
  · rw [oneK_rej (by simp) (by simp) hf]
    exact .inr ⟨hf, rfl, rfl⟩
theorem alone_rest {l : List Pr} {k d : List UInt8} {ke : Ke} (h : rowOf k = some ke) (h67 : ¬ (ke.kd = 6 ∨ ke.kd = 7)) :
    (∃ z n, n ≠ 0 ∧ keyRes k d (ownV l ke) = (z, n) ∧ asP k (oneN l true false ⟨k, d⟩).1 = [⟨k, rejL⟩] ∧ asP k (oneN l true false ⟨k, d⟩).2 = []) ∨
    (∃ z, keyRes k d (ownV l ke) = (z, 0) ∧ asP k (oneN l true false ⟨k, d⟩).1 = [⟨k, z⟩] ∧ asP k (oneN l true false ⟨k, d⟩).2 = [⟨k, z⟩]) := by
  rw [oneN_row h, keyRes_of h]
  simp only
  by_cases hf : fitK ke d = 0
  · by_cases h5 : (resK ke d (ownV l ke)).2 = 0
    · rw [oneK_res (by simp) (by simp) hf h67 h5]
      exact .inr ⟨_, by rw [← h5], rfl, rfl⟩
    · rw [oneK_none (by simp) (by simp) hf h67 h5]
      exact .inl ⟨_, _, h5, rfl, rfl, rfl⟩
  · rw [oneK_rej (by simp) (by simp) hf, resK_off hf]
    exact .inl ⟨_, _, hf, rfl, rfl, rfl⟩
end Go.Proofs.YteapbjeapnmloaaGreatDoor
