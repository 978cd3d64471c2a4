/- FieldOrder: bytes tell which number is less. -/
import Derived.Test.YtpbdbnkedmkllaaField
namespace Go.Proofs.Ytpbdbnkedmkllaa
open Go.RowKit
theorem wf_u64 {n : Int} (h : (Lit.int .u64 n).wf = true) : ∃ k : Nat, n = k ∧ k < 2 ^ 64 := by
  have h' : 0 ≤ n ∧ n ≤ 18446744073709551615 := by simpa [Lit.wf, IntKind.min, IntKind.max, IntKind.signed, IntKind.bits] using h
  exact ⟨n.toNat, by omega, by omega⟩
theorem u8_lt (x y : Nat) (hx : x < 256) (hy : y < 256) : (UInt8.ofNat x < UInt8.ofNat y) ↔ x < y := by
  rw [UInt8.lt_iff_toNat_lt, UInt8.toNat_ofNat', UInt8.toNat_ofNat']
  rw [Nat.mod_eq_of_lt (by simpa using hx), Nat.mod_eq_of_lt (by simpa using hy)]
theorem u8_eq (x y : Nat) (hx : x < 256) (hy : y < 256) : (UInt8.ofNat x = UInt8.ofNat y) ↔ x = y := by
  rw [← UInt8.toNat_inj, UInt8.toNat_ofNat', UInt8.toNat_ofNat']
  rw [Nat.mod_eq_of_lt (by simpa using hx), Nat.mod_eq_of_lt (by simpa using hy)]
theorem top (a k : Nat) : a % 2 ^ (8 * (k + 1)) = a / 2 ^ (8 * k) % 256 * 2 ^ (8 * k) + a % 2 ^ (8 * k) := by
  have e : (2 : Nat) ^ (8 * (k + 1)) = 2 ^ (8 * k) * 256 := by rw [show 8 * (k + 1) = 8 * k + 8 from by omega, Nat.pow_add]
  rw [e, Nat.mod_mul, Nat.add_comm, Nat.mul_comm (2 ^ (8 * k))]
theorem be_less (a b : Nat) : ∀ k, Op.bytesLess (be a k) (be b k) = decide (a % 2 ^ (8 * k) < b % 2 ^ (8 * k)) ∧ ((be a k = be b k) ↔ a % 2 ^ (8 * k) = b % 2 ^ (8 * k))
  | 0 => by simp [be, Op.bytesLess, Nat.mod_one]
  | k + 1 => by
    obtain ⟨i1, i2⟩ := be_less a b k
    have ha := top a k
    have hb := top b k
    have h1 : a % 2 ^ (8 * k) < 2 ^ (8 * k) := Nat.mod_lt _ (Nat.two_pow_pos _)
    have h2 : b % 2 ^ (8 * k) < 2 ^ (8 * k) := Nat.mod_lt _ (Nat.two_pow_pos _)
    have h3 : a / 2 ^ (8 * k) % 256 < 256 := Nat.mod_lt _ (by decide)
    have h4 : b / 2 ^ (8 * k) % 256 < 256 := Nat.mod_lt _ (by decide)
    rw [ha, hb]
    simp only [be, Op.bytesLess, List.cons.injEq]
    rw [i1, i2]
    generalize a / 2 ^ (8 * k) % 256 = x at *
    generalize b / 2 ^ (8 * k) % 256 = y at *
    generalize a % 2 ^ (8 * k) = u at *
    generalize b % 2 ^ (8 * k) = v at *
    generalize 2 ^ (8 * k) = m at *
    clear ha hb i1 i2
    rw [u8_eq x y h3 h4]
    rcases Nat.lt_trichotomy x y with h | h | h
    · have hm : x * m + m ≤ y * m := by
        have := Nat.mul_le_mul_right m h
        rw [Nat.succ_mul] at this; exact this
      have e1 : (decide (UInt8.ofNat x < UInt8.ofNat y)) = true := by simpa using (u8_lt x y h3 h4).2 h
      constructor
      · rw [e1, Bool.true_or]; symm; simp; omega
      · constructor
        · rintro ⟨e, _⟩; omega
        · intro e; omega
    · subst h
      have e1 : (decide (UInt8.ofNat x < UInt8.ofNat x)) = false := by simp
      constructor
      · rw [e1]; simp
      · simp
    · have hm : y * m + m ≤ x * m := by
        have := Nat.mul_le_mul_right m h
        rw [Nat.succ_mul] at this; exact this
      have e1 : (decide (UInt8.ofNat x < UInt8.ofNat y)) = false := by
        rw [decide_eq_false_iff_not, u8_lt x y h3 h4]; omega
      have e2 : (UInt8.ofNat x == UInt8.ofNat y) = false := by
        rw [beq_eq_false_iff_ne]; intro h'; have := (u8_eq x y h3 h4).1 h'; omega
      constructor
      · rw [e1, e2]; symm; simp; omega
      · constructor
        · rintro ⟨e, _⟩; omega
        · intro e; omega
theorem be8_less (a b : Nat) (ha : a < 2 ^ 64) (hb : b < 2 ^ 64) : Op.bytesLess (be a 8) (be b 8) = decide ((a : Int) < b) := by
  rw [(be_less a b 8).1, Nat.mod_eq_of_lt ha, Nat.mod_eq_of_lt hb]
  simp
theorem be8_eq (a b : Nat) (ha : a < 2 ^ 64) (hb : b < 2 ^ 64) : (be a 8 == be b 8) = ((a : Int) == b) := by
  have := (be_less a b 8).2
  rw [Nat.mod_eq_of_lt ha, Nat.mod_eq_of_lt hb] at this
  rw [Bool.eq_iff_iff, beq_iff_eq, beq_iff_eq, this]; omega
theorem fieldOrder_any (x y : Int) (w : World) (hx : (Lit.int .u64 x).wf = true) (hy : (Lit.int .u64 y).wf = true) :
    Calls Try.prog 3 #[.int .u64 x, .int .u64 y] w fun e w' => e = .returned (.bool true) ∧ Below w.heap.size w w' := by
  obtain ⟨a, rfl, ha⟩ := wf_u64 hx
  obtain ⟨b, rfl, hb⟩ := wf_u64 hy
  clear hx hy
  have hl := be8_less a b ha hb
  have he := be8_eq a b ha hb
  have Ha := Lib.hid ha
  have Hb := Lib.hid hb
  clear ha hb
  go_enter Try.func3, Try.ntmps3
  go_wp2_with fail
  refine (put_fact _).mono ?_
  rintro e w1 ⟨rfl, hb1⟩
  go_wp2_with fail
  refine (put_ok a 8 _ (by decide) (Nat.div_eq_of_lt Ha.out)).mono ?_
  rintro e w2 ⟨rfl, hb2⟩
  go_wp2_with fail
  refine (put_ok b 8 _ (by decide) (Nat.div_eq_of_lt Hb.out)).mono ?_
  rintro e w3 ⟨rfl, hb3⟩
  go_wp2_with fail
  go_ret
  exact ⟨rfl, below_then hb1 (below_then hb2 hb3)⟩
end Go.Proofs.Ytpbdbnkedmkllaa
