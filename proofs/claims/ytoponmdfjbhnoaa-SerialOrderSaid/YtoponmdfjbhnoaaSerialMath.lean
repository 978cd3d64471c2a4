/- Numbers that go round, as whole numbers. No program stands in it. -/
import Derived.Test.YtoponmdfjbhnoaaBase
namespace Go.Proofs.Ytoponmdfjbhnoaa
open Go.RowKit
set_option linter.unusedVariables false
def beforeB (a b : Int) : Bool := decide (1 ≤ (b - a) % 4294967296) && decide ((b - a) % 4294967296 ≤ 2147483647)
def afterI (a n : Int) : Int := (a + n) % 4294967296
def withinB (n a b : Int) : Bool := decide ((n - a) % 4294967296 < (b - a + 1) % 4294967296)
theorem afterI_range (a n : Int) : 0 ≤ afterI a n ∧ afterI a n < 4294967296 := by unfold afterI; omega
theorem after_after (a n m k : Int) (h : k % 4294967296 = (n + m) % 4294967296) : afterI (afterI a n) m = afterI a k := by unfold afterI; omega
theorem after_back (a n k : Int) (ha : 0 ≤ a ∧ a < 4294967296) (h : k % 4294967296 = (-n) % 4294967296) : afterI (afterI a n) k = a := by unfold afterI; omega
theorem before_after (a : Int) (k : Int) (hk : 0 ≤ k ∧ k < 2147483648) : beforeB a (afterI a k) = decide (0 < k) := by
  have e : (afterI a k - a) % 4294967296 = k := by unfold afterI; omega
  unfold beforeB
  rw [e]
  by_cases h : 0 < k
  · rw [decide_eq_true h, decide_eq_true (show 1 ≤ k by omega), decide_eq_true (show k ≤ 2147483647 by omega)]; rfl
  · rw [decide_eq_false h, decide_eq_false (show ¬ 1 ≤ k by omega)]; rfl
theorem within_after (a n k : Int) (hn : 0 ≤ n ∧ n < 4294967295) (hk : 0 ≤ k ∧ k < 4294967296) : withinB (afterI a k) a (afterI a n) = decide (k ≤ n) := by
  have e1 : (afterI a k - a) % 4294967296 = k := by unfold afterI; omega
  have e2 : (afterI a n - a + 1) % 4294967296 = n + 1 := by unfold afterI; omega
  unfold withinB
  rw [e1, e2]
  by_cases h : k ≤ n
  · rw [decide_eq_true h, decide_eq_true (by omega)]
  · rw [decide_eq_false h, decide_eq_false (by omega)]
theorem within_none (a k : Int) : withinB (afterI a k) a (afterI a (-1)) = false := by
  have e2 : (afterI a (-1) - a + 1) % 4294967296 = 0 := by unfold afterI; omega
  unfold withinB
  rw [e2]
  exact decide_eq_false (by omega)
theorem xor_high (a : Nat) (h : a < 2 ^ 31) : 2 ^ 31 ^^^ a = 2 ^ 31 + a := by
  refine Nat.eq_of_testBit_eq fun j => ?_
  rw [Nat.testBit_xor, Nat.testBit_two_pow]
  rcases Nat.lt_trichotomy j 31 with hj | rfl | hj
  · rw [Nat.testBit_two_pow_add_gt hj, decide_eq_false (by omega), Bool.false_xor]
  · rw [Nat.testBit_two_pow_add_eq, decide_eq_true rfl, Bool.true_xor]
  · rw [Nat.testBit_lt_two_pow (show 2 ^ 31 + a < 2 ^ j from Nat.lt_of_lt_of_le (by omega) (Nat.pow_le_pow_right (by decide) (show 32 ≤ j by omega))), Nat.testBit_lt_two_pow (show a < 2 ^ j from Nat.lt_of_lt_of_le h (Nat.pow_le_pow_right (by decide) (by omega))), decide_eq_false (by omega)]; rfl
theorem xor_high' (a : Nat) (h : a < 2 ^ 32) : 2 ^ 31 ^^^ a = (2 ^ 31 + a) % 2 ^ 32 := by
  by_cases h1 : a < 2 ^ 31
  · rw [xor_high a h1]; omega
  · obtain ⟨c, rfl⟩ : ∃ c, a = 2 ^ 31 + c := ⟨a - 2 ^ 31, by omega⟩
    rw [← xor_high c (by omega), ← Nat.xor_assoc, Nat.xor_self, Nat.zero_xor, xor_high c (by omega)]; omega
/-- farthest apart, by bits and by numbers -/
theorem xor_far (a b : Nat) (ha : a < 2 ^ 32) (hb : b < 2 ^ 32) : a ^^^ b = 2147483648 ↔ ((b : Int) - a) % 4294967296 = 2147483648 := by
  have e : a ^^^ b = 2147483648 ↔ b = 2 ^ 31 ^^^ a := by
    constructor
    · intro h
      have : a ^^^ (a ^^^ b) = a ^^^ 2 ^ 31 := by rw [h]
      rw [← Nat.xor_assoc, Nat.xor_self, Nat.zero_xor] at this
      rw [this, Nat.xor_comm]
    · intro h
      rw [h, Nat.xor_comm (2 ^ 31) a, ← Nat.xor_assoc, Nat.xor_self, Nat.zero_xor]
  rw [e, xor_high' a ha]
  constructor <;> intro h <;> omega
theorem order_sides (a b : Nat) (ha : a < 2 ^ 32) (hb : b < 2 ^ 32) : (beforeB a b = true ↔ 1 ≤ ((b : Int) - a) % 4294967296 ∧ ((b : Int) - a) % 4294967296 ≤ 2147483647) ∧ (beforeB b a = true ↔ 2147483649 ≤ ((b : Int) - a) % 4294967296) := by
  unfold beforeB
  simp only [Bool.and_eq_true, decide_eq_true_eq]
  exact ⟨trivial, ⟨fun h => by omega, fun h => by omega⟩⟩
end Go.Proofs.Ytoponmdfjbhnoaa
