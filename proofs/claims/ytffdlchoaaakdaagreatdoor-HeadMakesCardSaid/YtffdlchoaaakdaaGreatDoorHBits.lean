/- Flags as bits of an int. No function of the program is walked here. -/
import Derived.Test.YtffdlchoaaakdaaGreatDoorHeadMath2
namespace Go.Proofs.YtffdlchoaaakdaaGreatDoor
open Go.RowKit
theorem wrap_i64_zero (n : Nat) (hn : n < 2 ^ 64) : IntKind.i64.wrap (n : Int) = 0 ↔ n = 0 := by
  have e : (2 : Int) ^ IntKind.i64.bits = 18446744073709551616 := by decide
  have s : IntKind.i64.signed = true := rfl
  have h2 : (2 : Nat) ^ 64 = 18446744073709551616 := by decide
  rw [h2] at hn
  have e2 : (2 : Int) ^ (IntKind.i64.bits - 1) = 9223372036854775808 := by decide
  unfold IntKind.wrap
  simp only [e, e2, s, Bool.true_and]
  split <;> simp only [decide_eq_true_eq] at * <;> omega
theorem wrap_i64_small (n m : Nat) (hn : n < 2 ^ 64) (hm : m < 256) : IntKind.i64.wrap (n : Int) = m ↔ n = m := by
  have e : (2 : Int) ^ IntKind.i64.bits = 18446744073709551616 := by decide
  have s : IntKind.i64.signed = true := rfl
  have h2 : (2 : Nat) ^ 64 = 18446744073709551616 := by decide
  rw [h2] at hn
  have e2 : (2 : Int) ^ (IntKind.i64.bits - 1) = 9223372036854775808 := by decide
  unfold IntKind.wrap
  simp only [e, e2, s, Bool.true_and]
  split <;> simp only [decide_eq_true_eq] at * <;> omega
theorem ofInt_small (m : Nat) (hm : m < 256) : (BitVec.ofInt 64 (m : Int)).toNat = m := by
  rw [BitVec.ofInt_natCast, BitVec.toNat_ofNat]; exact Nat.mod_eq_of_lt (by omega)
theorem ofInt_pos (fl : Int) (h0 : 0 ≤ fl) (h1 : fl ≤ 9223372036854775807) : (BitVec.ofInt 64 fl).toNat = fl.toNat := by
  obtain ⟨a, rfl⟩ := Int.eq_ofNat_of_zero_le h0
  have h2 : (2 : Nat) ^ 64 = 18446744073709551616 := by decide
  show (BitVec.ofInt 64 ((a : Nat) : Int)).toNat = a
  rw [BitVec.ofInt_natCast, BitVec.toNat_ofNat]; exact Nat.mod_eq_of_lt (by omega)
theorem ofInt_neg (fl : Int) (h0 : fl < 0) (h1 : -9223372036854775808 ≤ fl) : 256 ≤ (BitVec.ofInt 64 fl).toNat := by
  rw [BitVec.toNat_ofInt]
  omega
theorem bv_and_le (x y : BitVec 64) : (x &&& ~~~y) = 0 ↔ x &&& y = x := by
  constructor
  · intro h
    ext i hi
    have := congrArg (fun z : BitVec 64 => z[i]) h
    simp only [BitVec.getElem_and, BitVec.getElem_not] at this
    simp only [BitVec.getElem_and]
    cases hx : x[i] <;> cases hy : y[i] <;> simp_all
  · intro h
    ext i hi
    have := congrArg (fun z : BitVec 64 => z[i]) h
    simp only [BitVec.getElem_and] at this
    simp only [BitVec.getElem_and, BitVec.getElem_not]
    cases hx : x[i] <;> cases hy : y[i] <;> simp_all
theorem flOk_bv (fl : Int) (m : Nat) (hm : m < 256) (h0 : -9223372036854775808 ≤ fl) (h1 : fl ≤ 9223372036854775807) :
    flOk fl m = true ↔ BitVec.ofInt 64 fl &&& BitVec.ofInt 64 (m : Int) = BitVec.ofInt 64 fl := by
  have hb : (BitVec.ofInt 64 fl &&& BitVec.ofInt 64 (m : Int) = BitVec.ofInt 64 fl) ↔ (BitVec.ofInt 64 fl).toNat &&& m = (BitVec.ofInt 64 fl).toNat := by
    rw [← BitVec.toNat_inj, BitVec.toNat_and, ofInt_small m hm]
  rw [hb]
  unfold flOk
  simp only [Bool.and_eq_true, decide_eq_true_eq, beq_iff_eq]
  by_cases hn : 0 ≤ fl
  · rw [ofInt_pos fl hn h1]
    exact ⟨fun h => h.2, fun h => ⟨hn, h⟩⟩
  · have := ofInt_neg fl (by omega) h0
    constructor
    · intro h; exact absurd h.1 hn
    · intro h
      have hle : (BitVec.ofInt 64 fl).toNat &&& m ≤ m := Nat.and_le_right
      omega
theorem andNot_fl (fl : Int) (m : Nat) (hm : m < 256) (h0 : -9223372036854775808 ≤ fl) (h1 : fl ≤ 9223372036854775807) :
    bits .andNot .i64 fl (m : Int) = 0 ↔ flOk fl m = true := by
  rw [flOk_bv fl m hm h0 h1, ← bv_and_le]
  show IntKind.i64.wrap ((BitVec.ofInt 64 fl &&& ~~~BitVec.ofInt 64 (m : Int)).toNat : Int) = 0 ↔ _
  rw [wrap_i64_zero _ (BitVec.isLt _)]
  constructor
  · intro h; apply BitVec.eq_of_toNat_eq; simpa using h
  · intro h; rw [h]; rfl
theorem andNot_no (fl : Int) (m : Nat) (hm : m < 256) (h0 : -9223372036854775808 ≤ fl) (h1 : fl ≤ 9223372036854775807) (h : flOk fl m = false) : (bits .andNot .i64 fl (m : Int) != 0) = true := by
  have := andNot_fl fl m hm h0 h1
  rw [h] at this
  simp only [bne_iff_ne, ne_eq]
  intro e; exact absurd (this.1 e) (by simp)
theorem andNot_yes (fl : Int) (m : Nat) (hm : m < 256) (h0 : -9223372036854775808 ≤ fl) (h1 : fl ≤ 9223372036854775807) (h : flOk fl m = true) : bits .andNot .i64 fl (m : Int) = 0 := (andNot_fl fl m hm h0 h1).2 h
/-- fl | m == m, for fl that isn't below 0 -/
theorem or_fl (fl : Int) (m : Nat) (hm : m < 256) (h0 : 0 ≤ fl) (h1 : fl ≤ 9223372036854775807) : bits .or .i64 fl (m : Int) = m ↔ flOk fl m = true := by
  have hx := ofInt_pos fl h0 h1
  have hy := ofInt_small m hm
  show IntKind.i64.wrap ((BitVec.ofInt 64 fl ||| BitVec.ofInt 64 (m : Int)).toNat : Int) = m ↔ _
  rw [wrap_i64_small _ m (BitVec.isLt _) hm, BitVec.toNat_or, hx, hy, nat_or_eq]
  unfold flOk
  simp only [Bool.and_eq_true, decide_eq_true_eq, beq_iff_eq]
  exact ⟨fun h => ⟨h0, h⟩, fun h => h.2⟩
theorem or_yes (fl : Int) (m : Nat) (hm : m < 256) (h0 : 0 ≤ fl) (h1 : fl ≤ 9223372036854775807) (h : flOk fl m = true) : bits .or .i64 fl (m : Int) = m := (or_fl fl m hm h0 h1).2 h
theorem or_no (fl : Int) (m : Nat) (hm : m < 256) (h0 : 0 ≤ fl) (h1 : fl ≤ 9223372036854775807) (h : flOk fl m = false) : (bits .or .i64 fl (m : Int) != m) = true := by
  have := or_fl fl m hm h0 h1
  rw [h] at this
  simp only [bne_iff_ne, ne_eq]
  intro e; exact absurd (this.1 e) (by simp)
end Go.Proofs.YtffdlchoaaakdaaGreatDoor
