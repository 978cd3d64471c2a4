/- MD5 as the reference has it: plain numbers. No program stands in it. -/
import Derived.Test.YtoponmdfjbhnoaaGreatDoorGA
import Derived.KernelRfl
namespace Go.Proofs.YtoponmdfjbhnoaaGreatDoor
theorem not32 (b : Nat) (hb : b < 4294967296) : 4294967295 - b = b ^^^ 4294967295 := by
  symm
  have : b ^^^ (2 ^ 32 - 1) = 2 ^ 32 - 1 - b := by
    apply Nat.eq_of_testBit_eq
    intro i
    rw [Nat.testBit_xor, Nat.testBit_two_pow_sub_one, show 2 ^ 32 - 1 - b = 2 ^ 32 - (b + 1) from by omega, Nat.testBit_two_pow_sub_succ hb]
    by_cases hi : i < 32
    · simp [hi]
    · have : b.testBit i = false := Nat.testBit_lt_two_pow (Nat.lt_of_lt_of_le hb (Nat.pow_le_pow_right (n := 2) (by decide) (show 32 ≤ i by omega)))
      simp [hi, this]
  exact this
theorem bit_hi (b i : Nat) (hb : b < 4294967296) (hi : ¬ i < 32) : b.testBit i = false :=
  Nat.testBit_lt_two_pow (Nat.lt_of_lt_of_le hb (Nat.pow_le_pow_right (n := 2) (by decide) (show 32 ≤ i by omega)))
theorem ones_bit (i : Nat) : Nat.testBit 4294967295 i = decide (i < 32) := by
  rw [show (4294967295 : Nat) = 2 ^ 32 - 1 from rfl, Nat.testBit_two_pow_sub_one]
theorem mux1 (b c d : Nat) (hb : b < 4294967296) (hc : c < 4294967296) (hd : d < 4294967296) : d ^^^ (b &&& (c ^^^ d)) = (b &&& c) ||| ((4294967295 - b) &&& d) := by
  rw [not32 b hb]
  apply Nat.eq_of_testBit_eq
  intro i
  simp only [Nat.testBit_xor, Nat.testBit_and, Nat.testBit_or, ones_bit]
  by_cases hi : i < 32
  · cases b.testBit i <;> cases c.testBit i <;> cases d.testBit i <;> simp [hi]
  · rw [bit_hi b i hb hi, bit_hi c i hc hi, bit_hi d i hd hi]; simp
theorem mux2 (b c d : Nat) (hb : b < 4294967296) (hc : c < 4294967296) (hd : d < 4294967296) : c ^^^ (d &&& (b ^^^ c)) = (b &&& d) ||| (c &&& (4294967295 - d)) := by
  rw [not32 d hd]
  apply Nat.eq_of_testBit_eq
  intro i
  simp only [Nat.testBit_xor, Nat.testBit_and, Nat.testBit_or, ones_bit]
  by_cases hi : i < 32
  · cases b.testBit i <;> cases c.testBit i <;> cases d.testBit i <;> simp [hi]
  · rw [bit_hi b i hb hi, bit_hi c i hc hi, bit_hi d i hd hi]; simp
theorem mux4 (b c d : Nat) (hd : d < 4294967296) : c ^^^ (b ||| (4294967295 ^^^ d)) = c ^^^ (b ||| (4294967295 - d)) := by
  rw [not32 d hd, Nat.xor_comm 4294967295 d]
theorem mF_0 (i b c d : Nat) (h : i / 16 = 0) : mF i b c d = (b &&& c) ||| ((4294967295 - b) &&& d) := by unfold mF; rw [if_pos h]
theorem mF_1 (i b c d : Nat) (h : i / 16 = 1) : mF i b c d = (b &&& d) ||| (c &&& (4294967295 - d)) := by unfold mF; rw [if_neg (by omega), if_pos h]
theorem mF_2 (i b c d : Nat) (h : i / 16 = 2) : mF i b c d = b ^^^ c ^^^ d := by unfold mF; rw [if_neg (by omega), if_neg (by omega), if_pos h]
theorem mF_3 (i b c d : Nat) (h : i / 16 = 3) : mF i b c d = c ^^^ (b ||| (4294967295 - d)) := by unfold mF; rw [if_neg (by omega), if_neg (by omega), if_neg (by omega)]
theorem mG_0 (i : Nat) (h : i / 16 = 0) : mG i = i := by unfold mG; rw [if_pos h]
theorem mG_1 (i : Nat) (h : i / 16 = 1) : mG i = (5 * i + 1) % 16 := by unfold mG; rw [if_neg (by omega), if_pos h]
theorem mG_2 (i : Nat) (h : i / 16 = 2) : mG i = (3 * i + 5) % 16 := by unfold mG; rw [if_neg (by omega), if_neg (by omega), if_pos h]
theorem mG_3 (i : Nat) (h : i / 16 = 3) : mG i = 7 * i % 16 := by unfold mG; rw [if_neg (by omega), if_neg (by omega), if_neg (by omega)]
theorem and_lt32 (a b : Nat) (h : b < 4294967296) : a &&& b < 4294967296 := Nat.and_lt_two_pow (n := 32) _ h
theorem or_lt32 (a b : Nat) (ha : a < 4294967296) (hb : b < 4294967296) : a ||| b < 4294967296 := Nat.or_lt_two_pow (n := 32) ha hb
theorem xor_lt32 (a b : Nat) (ha : a < 4294967296) (hb : b < 4294967296) : a ^^^ b < 4294967296 := Nat.xor_lt_two_pow (n := 32) ha hb
theorem mF_lt (i b c d : Nat) (hb : b < 4294967296) (hc : c < 4294967296) (hd : d < 4294967296) : mF i b c d < 4294967296 := by
  unfold mF
  split
  · exact or_lt32 _ _ (and_lt32 _ _ hc) (and_lt32 _ _ hd)
  · split
    · exact or_lt32 _ _ (and_lt32 _ _ hd) (and_lt32 _ _ (by omega))
    · split
      · exact xor_lt32 _ _ (xor_lt32 _ _ hb hc) hd
      · exact xor_lt32 _ _ hc (or_lt32 _ _ hb (by omega))
/-- a word of a block, byte by byte -/
theorem wordsL_at (l : List UInt8) (g : Nat) (hg : g < 16) (hl : l.length = 64) :
    (wordsL l).getD g 0 = (l[4 * g]'(by omega)).toNat + (l[4 * g + 1]'(by omega)).toNat * 256 + (l[4 * g + 2]'(by omega)).toNat * 65536 + (l[4 * g + 3]'(by omega)).toNat * 16777216 := by
  unfold wordsL wRow
  rw [List.getD_eq_getElem?_getD, List.getElem?_map, List.getElem?_range hg]
  simp only [Option.map_some, Option.getD_some, wAt]
  rw [if_pos (by omega), if_pos (by omega), if_pos (by omega), if_pos (by omega)]
  simp only [List.getD_eq_getElem?_getD]
  rw [List.getElem?_eq_getElem (by omega), List.getElem?_eq_getElem (by omega), List.getElem?_eq_getElem (by omega), List.getElem?_eq_getElem (by omega)]
  rfl
/-- what stands behind a text, as the reference lays it: one byte of 128, bytes of 0 up to 56 of 64, eight bytes of how many bits -/
def zerosTo (n : Nat) : Nat := (119 - n % 64) % 64
def le8 (n : Nat) (k : Nat) : List UInt8 := (List.range k).map fun i => UInt8.ofNat (n / 256 ^ i % 256)
theorem le8_succ (n k : Nat) : le8 n (k + 1) = le8 n k ++ [UInt8.ofNat (n / 256 ^ k % 256)] := by simp [le8, List.range_succ]
theorem le8_le4 (n : Nat) (h : n < 18446744073709551616) : le8 n 8 = le4 (n % 4294967296) ++ le4 (n / 4294967296 % 4294967296) := by
  have e : ∀ k, k < 8 → True := fun _ _ => trivial
  unfold le8 le4
  simp only [List.range, List.range.loop, List.map_cons, List.map_nil, List.cons_append, List.nil_append, Nat.pow_zero, Nat.div_one, Nat.reducePow]
  have a0 : n % 4294967296 % 256 = n % 256 := by omega
  have a1 : n % 4294967296 / 256 % 256 = n / 256 % 256 := by omega
  have a2 : n % 4294967296 / 65536 % 256 = n / 65536 % 256 := by omega
  have a3 : n % 4294967296 / 16777216 % 256 = n / 16777216 % 256 := by omega
  have a4 : n / 4294967296 % 4294967296 % 256 = n / 4294967296 % 256 := by omega
  have a5 : n / 4294967296 % 4294967296 / 256 % 256 = n / 1099511627776 % 256 := by omega
  have a6 : n / 4294967296 % 4294967296 / 65536 % 256 = n / 281474976710656 % 256 := by omega
  have a7 : n / 4294967296 % 4294967296 / 16777216 % 256 = n / 72057594037927936 % 256 := by omega
  rw [a0, a1, a2, a3, a4, a5, a6, a7]
theorem mTail_le8 (n : Nat) (h : n * 8 < 18446744073709551616) : mTail n = 128 :: (List.replicate (zerosTo n) 0 ++ le8 (n * 8) 8) := by
  unfold mTail zerosTo
  rw [le8_le4 _ h, List.append_assoc]
theorem stir_sum (a f w k : Nat) : (a + f + w + k) % 4294967296 = (a + f + k + w) % 4294967296 := by omega
/-- the output, word by word -/
theorem outM_flat (s : St) : outM s = [s.1, s.2.1, s.2.2.1, s.2.2.2].flatMap le4 := by unfold outM; simp
end Go.Proofs.YtoponmdfjbhnoaaGreatDoor
