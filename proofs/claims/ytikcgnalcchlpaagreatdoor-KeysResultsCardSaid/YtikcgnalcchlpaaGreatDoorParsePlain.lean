/- Digits of a base as numbers. No program stands in it. -/
import Derived.Test.YtikcgnalcchlpaaGreatDoorBase
namespace Go.Proofs.YtikcgnalcchlpaaGreatDoor
def lowB (c : UInt8) : Nat := (c ||| 32).toNat
def digV (c : UInt8) : Nat := if 48 ≤ c.toNat ∧ c.toNat ≤ 57 then c.toNat - 48 else lowB c - 87
def isDig (b : Nat) (c : UInt8) : Bool := ((decide (48 ≤ c.toNat) && decide (c.toNat ≤ 57)) || (decide (97 ≤ lowB c) && decide (lowB c ≤ 122))) && decide (digV c < b)
def valB (b : Nat) (l : List UInt8) : Nat := l.foldl (fun n c => n * b + digV c) 0
theorem valB_snoc (b : Nat) (l : List UInt8) (c : UInt8) : valB b (l ++ [c]) = valB b l * b + digV c := by simp [valB]
theorem isDig_lt {b : Nat} {c : UInt8} (h : isDig b c = true) : digV c < b := by
  unfold isDig at h
  simp only [Bool.and_eq_true, decide_eq_true_eq] at h
  exact h.2
theorem isDig_or {b : Nat} {c : UInt8} (h : isDig b c = true) : (48 ≤ c.toNat ∧ c.toNat ≤ 57) ∨ ((97 ≤ lowB c ∧ lowB c ≤ 122) ∧ ¬ (48 ≤ c.toNat ∧ c.toNat ≤ 57)) := by
  unfold isDig at h
  simp only [Bool.and_eq_true, Bool.or_eq_true, decide_eq_true_eq] at h
  rcases Classical.em (48 ≤ c.toNat ∧ c.toNat ≤ 57) with g | g
  · exact .inl g
  · rcases h.1 with h1 | h1
    · exact absurd h1 g
    · exact .inr ⟨h1, g⟩
theorem valB_take_lt (b : Nat) (hb : 1 ≤ b) (l : List UInt8) (hd : ∀ c ∈ l, isDig b c = true) : ∀ k, k ≤ l.length → valB b (l.take k) < b ^ k
  | 0, _ => by simp [valB]
  | k + 1, hk => by
    have hlt : k < l.length := by omega
    rw [List.take_succ_eq_append_getElem hlt, valB_snoc]
    have ih := valB_take_lt b hb l hd k (by omega)
    have hc := isDig_lt (hd _ (List.getElem_mem hlt))
    have : valB b (l.take k) + 1 ≤ b ^ k := ih
    have h2 : (valB b (l.take k) + 1) * b ≤ b ^ k * b := Nat.mul_le_mul_right _ this
    rw [Nat.add_mul] at h2
    rw [Nat.pow_succ]
    omega
theorem lowB_or (c : UInt8) : bits .or .u8 (c.toNat : Int) 32 = ((lowB c : Nat) : Int) := by
  have h : ∀ n : Fin 256, bits .or .u8 (((UInt8.ofNat n.1).toNat : Nat) : Int) 32 = ((lowB (UInt8.ofNat n.1) : Nat) : Int) := by decide +kernel
  have := h ⟨c.toNat, c.toNat_lt⟩
  rwa [show UInt8.ofNat c.toNat = c from by simp] at this
theorem isDig_ne {b : Nat} {c : UInt8} (h : isDig b c = true) (g : c.toNat < 48 ∨ 57 < c.toNat) : c.toNat ≠ 95 := fun e => by
  have hc : c = 95 := UInt8.toNat_inj.1 e
  subst hc
  rcases isDig_or h with h1 | h1
  · revert h1; decide
  · revert h1; decide
theorem lowB_lt (c : UInt8) : lowB c < 256 := (c ||| 32).toNat_lt
end Go.Proofs.YtikcgnalcchlpaaGreatDoor
