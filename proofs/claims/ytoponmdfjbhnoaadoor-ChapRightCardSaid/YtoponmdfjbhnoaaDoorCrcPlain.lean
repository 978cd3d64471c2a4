/- CRC-32C as plain numbers: bit by bit, byte by byte; that both come to the same. No program stands in it. -/
import Derived.Test.YtoponmdfjbhnoaaDoorBase
namespace Go.Proofs.YtoponmdfjbhnoaaDoor
def poly : Nat := 2197175160
/-- one bit -/
def cbit (n : Nat) : Nat := n / 2 ^^^ (if n % 2 = 1 then poly else 0)
def cbits : Nat → Nat → Nat
  | 0, n => n
  | k + 1, n => cbit (cbits k n)
def eff (b : Nat) : Nat := cbits 8 b
def cstep (n : Nat) (b : UInt8) : Nat := n / 256 ^^^ eff (n % 256 ^^^ b.toNat)
def crcRaw (l : List UInt8) : Nat := l.foldl cstep 4294967295
def crcSum (l : List UInt8) : Nat := 4294967295 ^^^ crcRaw l
theorem crcRaw_snoc (l : List UInt8) (b : UInt8) : crcRaw (l ++ [b]) = cstep (crcRaw l) b := by simp [crcRaw]
theorem cbit_lt (n : Nat) (h : n < 2 ^ 32) : cbit n < 2 ^ 32 := by
  unfold cbit
  apply Nat.xor_lt_two_pow
  · omega
  · split <;> decide
theorem cbits_lt (n : Nat) (h : n < 2 ^ 32) : ∀ k, cbits k n < 2 ^ 32
  | 0 => h
  | k + 1 => cbit_lt _ (cbits_lt n h k)
theorem xor_ite (p q : Bool) (c : Nat) : (if (p ^^ q) = true then c else 0) = (if p = true then c else 0) ^^^ (if q = true then c else 0) := by
  cases p <;> cases q <;> simp
theorem odd_xor (a b : Nat) : ((a ^^^ b) % 2 = 1) = ((decide (a % 2 = 1) ^^ decide (b % 2 = 1)) = true) := by
  have h := Nat.xor_mod_two_eq_one (a := a) (b := b)
  by_cases h1 : a % 2 = 1 <;> by_cases h2 : b % 2 = 1 <;> simp [h1, h2] at h ⊢ <;> omega
theorem cbit_xor (a b : Nat) : cbit (a ^^^ b) = cbit a ^^^ cbit b := by
  unfold cbit
  rw [Nat.xor_div_two]
  have e : (if (a ^^^ b) % 2 = 1 then poly else 0) = (if a % 2 = 1 then poly else 0) ^^^ (if b % 2 = 1 then poly else 0) := by
    have := xor_ite (decide (a % 2 = 1)) (decide (b % 2 = 1)) poly
    simp only [odd_xor]
    simpa using this
  rw [e]
  ac_rfl
theorem cbits_xor (a b : Nat) : ∀ k, cbits k (a ^^^ b) = cbits k a ^^^ cbits k b
  | 0 => rfl
  | k + 1 => by simp only [cbits, cbits_xor a b k, cbit_xor]
theorem cbit_even (a : Nat) : cbit (a * 2) = a := by
  unfold cbit
  rw [if_neg (by omega)]
  simp
theorem cbits_shift (a : Nat) : ∀ k j, cbits k (a * 2 ^ (k + j)) = a * 2 ^ j
  | 0, j => by simp [cbits]
  | k + 1, j => by
    show cbit (cbits k _) = _
    rw [show k + 1 + j = k + (j + 1) from by omega, cbits_shift a k (j + 1), Nat.pow_succ, ← Nat.mul_assoc, cbit_even]
theorem split256 (n : Nat) : n = (n / 256 * 256) ^^^ (n % 256) := by
  have h := Nat.shiftLeft_add_eq_or_of_lt (b := n % 256) (i := 8) (Nat.mod_lt _ (by decide)) (n / 256)
  have h2 : (n / 256 * 256) ^^^ (n % 256) = (n / 256 * 256) ||| (n % 256) := by
    apply Nat.eq_of_testBit_eq
    intro i
    rw [Nat.testBit_xor, Nat.testBit_or]
    by_cases hi : i < 8
    · have : (n / 256 * 256).testBit i = false := by
        show (n / 256 * 2 ^ 8).testBit i = false
        rw [Nat.testBit_mul_two_pow]; simp; omega
      rw [this]; simp
    · have : (n % 256).testBit i = false := by
        apply Nat.testBit_lt_two_pow
        exact Nat.lt_of_lt_of_le (Nat.mod_lt _ (by decide)) (Nat.pow_le_pow_right (n := 2) (by decide) (show 8 ≤ i by omega))
      rw [this]; simp
  rw [Nat.shiftLeft_eq] at h
  rw [h2, show (n / 256 * 256) = n / 256 * 2 ^ 8 from rfl, ← h]
  omega
/-- a byte at once is its eight bits -/
theorem cbits_byte (n b : Nat) : cbits 8 (n ^^^ b) = n / 256 ^^^ eff (n % 256 ^^^ b) := by
  have h : n ^^^ b = (n / 256 * 256) ^^^ (n % 256 ^^^ b) := by
    conv => lhs; rw [split256 n]
    ac_rfl
  rw [h, cbits_xor]
  congr 1
  have := cbits_shift (n / 256) 8 0
  simpa using this
/-- one bit, asked together with a text's bit -/
def rbit (n t : Nat) : Nat := n / 2 ^^^ (if (n % 2 ^^^ t) = 1 then poly else 0)
def rbits : Nat → Nat → Nat → Nat
  | 0, n, _ => n
  | k + 1, n, b => rbit (rbits k n b) (b / 2 ^ k % 2)
theorem rbit_eq (n b : Nat) : rbit n (b % 2) ^^^ (b / 2) = cbit (n ^^^ b) := by
  unfold rbit cbit
  rw [Nat.xor_div_two]
  have e : (n % 2 ^^^ b % 2) = (n ^^^ b) % 2 := by
    rw [show (2 : Nat) = 2 ^ 1 from rfl, Nat.xor_mod_two_pow]
  rw [e]
  ac_rfl
theorem rbits_eq (n b : Nat) : ∀ k, rbits k n b ^^^ (b / 2 ^ k) = cbits k (n ^^^ b)
  | 0 => by simp [rbits, cbits]
  | k + 1 => by
    show rbit (rbits k n b) (b / 2 ^ k % 2) ^^^ _ = cbit _
    rw [← rbits_eq n b k, ← rbit_eq, Nat.pow_succ, Nat.div_div_eq_div_mul]
theorem rbits_byte (n : Nat) (b : UInt8) : rbits 8 n b.toNat = cstep n b := by
  have h := rbits_eq n b.toNat 8
  rw [show b.toNat / 2 ^ 8 = 0 from Nat.div_eq_of_lt b.toNat_lt, Nat.xor_zero] at h
  rw [h, cbits_byte]; rfl
theorem rbit_lt (n t : Nat) (h : n < 2 ^ 32) : rbit n t < 2 ^ 32 := by
  unfold rbit
  apply Nat.xor_lt_two_pow
  · omega
  · split <;> decide
theorem rbits_lt (n b : Nat) (h : n < 2 ^ 32) : ∀ k, rbits k n b < 2 ^ 32
  | 0 => h
  | k + 1 => rbit_lt _ _ (rbits_lt n b h k)
theorem eff_lt (b : Nat) (h : b < 2 ^ 32) : eff b < 2 ^ 32 := cbits_lt b h 8
theorem cstep_lt (n : Nat) (b : UInt8) (h : n < 2 ^ 32) : cstep n b < 2 ^ 32 := by rw [← rbits_byte]; exact rbits_lt _ _ h 8
theorem crcRaw_lt (l : List UInt8) : crcRaw l < 2 ^ 32 := by
  unfold crcRaw
  have : ∀ (l : List UInt8) (n : Nat), n < 2 ^ 32 → l.foldl cstep n < 2 ^ 32 := by
    intro l
    induction l with
    | nil => intro n h; exact h
    | cons b l ih => intro n h; exact ih _ (cstep_lt n b h)
  exact this l _ (by decide)
theorem crcSum_lt (l : List UInt8) : crcSum l < 2 ^ 32 := Nat.xor_lt_two_pow (by decide) (crcRaw_lt l)
/-- four bytes, the lowest first -/
def le (n : Nat) : Nat → List UInt8
  | 0 => []
  | k + 1 => le n k ++ [UInt8.ofNat (n / 2 ^ (8 * k) % 256)]
theorem le_len (n k : Nat) : (le n k).length = k := by induction k <;> simp [le, *]
def digest (l : List UInt8) : List UInt8 := le (crcSum l) 4
end Go.Proofs.YtoponmdfjbhnoaaDoor
