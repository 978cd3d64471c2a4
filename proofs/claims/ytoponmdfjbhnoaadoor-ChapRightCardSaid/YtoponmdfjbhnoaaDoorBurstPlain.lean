/- CRC-32C sees bits that are turned within thirty-two. No program stands in it. -/
import Derived.Test.YtoponmdfjbhnoaaDoorCrcPlain
namespace Go.Proofs.YtoponmdfjbhnoaaDoor
/-- bit i of a text -/
def tbit (l : List UInt8) (i : Nat) : Nat := (l.getD (i / 8) 0).toNat / 2 ^ (i % 8) % 2
theorem tbit_lt (l : List UInt8) (i : Nat) : tbit l i < 2 := Nat.mod_lt _ (by decide)
/-- bits fed into a state, one by one -/
def stB (n : Nat) (f : Nat → Nat) : Nat → Nat
  | 0 => n
  | k + 1 => rbit (stB n f k) (f k)
theorem rbit_lin (a b s t : Nat) (hs : s < 2) (ht : t < 2) : rbit a s ^^^ rbit b t = rbit (a ^^^ b) (s ^^^ t) := by
  unfold rbit
  have e : ((a ^^^ b) % 2 ^^^ (s ^^^ t)) = (a % 2 ^^^ s) ^^^ (b % 2 ^^^ t) := by
    rw [show (a ^^^ b) % 2 = a % 2 ^^^ b % 2 from by rw [show (2 : Nat) = 2 ^ 1 from rfl, Nat.xor_mod_two_pow]]
    ac_rfl
  rw [e, Nat.xor_div_two]
  have h1 : (a % 2 ^^^ s) < 2 := Nat.xor_lt_two_pow (n := 1) (Nat.mod_lt _ (by decide)) hs
  have h2 : (b % 2 ^^^ t) < 2 := Nat.xor_lt_two_pow (n := 1) (Nat.mod_lt _ (by decide)) ht
  have h3 : ∀ x y : Nat, x < 2 → y < 2 → (if x ^^^ y = 1 then poly else 0) = (if x = 1 then poly else 0) ^^^ (if y = 1 then poly else 0) := by
    intro x y hx hy
    rcases (show x = 0 ∨ x = 1 by omega) with rfl | rfl <;> rcases (show y = 0 ∨ y = 1 by omega) with rfl | rfl <;> simp
  rw [h3 _ _ h1 h2]
  ac_rfl
theorem stB_lin (n m : Nat) (f g : Nat → Nat) (hf : ∀ i, f i < 2) (hg : ∀ i, g i < 2) : ∀ k, stB n f k ^^^ stB m g k = stB (n ^^^ m) (fun i => f i ^^^ g i) k
  | 0 => rfl
  | k + 1 => by
    show rbit _ _ ^^^ rbit _ _ = rbit _ _
    rw [rbit_lin _ _ _ _ (hf k) (hg k), stB_lin n m f g hf hg k]
theorem stB_congr (n : Nat) (f g : Nat → Nat) : ∀ k, (∀ i, i < k → f i = g i) → stB n f k = stB n g k
  | 0, _ => rfl
  | k + 1, h => by
    show rbit _ _ = rbit _ _
    rw [stB_congr n f g k (fun i hi => h i (by omega)), h k (by omega)]
theorem stB_add (n : Nat) (f : Nat → Nat) (j : Nat) : ∀ k, stB n f (j + k) = stB (stB n f j) (fun i => f (j + i)) k
  | 0 => rfl
  | k + 1 => by
    show rbit (stB n f (j + k)) (f (j + k)) = rbit _ _
    rw [stB_add n f j k]
theorem rbit_0 (n : Nat) : rbit n 0 = cbit n := by unfold rbit cbit; rw [Nat.xor_zero]
theorem stB_zero (n : Nat) : ∀ k, stB n (fun _ => 0) k = cbits k n
  | 0 => rfl
  | k + 1 => by
    show rbit _ 0 = cbit _
    rw [rbit_0, stB_zero n k]
theorem stB_value (n v : Nat) : ∀ k, stB n (fun i => v / 2 ^ i % 2) k = rbits k n v
  | 0 => rfl
  | k + 1 => by
    show rbit _ _ = rbit _ _
    rw [stB_value n v k]
theorem xor_zero_eq (a b : Nat) (h : a ^^^ b = 0) : a = b := by
  have h2 := congrArg (fun x => x ^^^ b) h
  simp only [Nat.xor_assoc, Nat.xor_self, Nat.xor_zero, Nat.zero_xor] at h2
  exact h2
theorem cbit_zero (n : Nat) (h : n < 2 ^ 32) (h0 : cbit n = 0) : n = 0 := by
  unfold cbit at h0
  have h1 := xor_zero_eq _ _ h0
  by_cases h2 : n % 2 = 1
  · rw [if_pos h2] at h1
    unfold poly at h1
    omega
  · rw [if_neg h2] at h1; omega
theorem cbits_zero (n : Nat) (h : n < 2 ^ 32) : ∀ k, cbits k n = 0 → n = 0
  | 0, h0 => h0
  | k + 1, h0 => cbits_zero n h k (cbit_zero _ (cbits_lt n h k) h0)
theorem rbits_low (n v k : Nat) : ∀ j, j ≤ k → rbits j n v = rbits j n (v % 2 ^ k)
  | 0, _ => rfl
  | j + 1, h => by
    show rbit _ _ = rbit _ _
    rw [rbits_low n v k j (by omega)]
    congr 1
    obtain ⟨d, rfl⟩ : ∃ d, k = j + 1 + d := ⟨k - (j + 1), by omega⟩
    rw [show 2 ^ (j + 1 + d) = 2 ^ j * (2 * 2 ^ d) from by rw [Nat.pow_add, Nat.pow_succ]; ac_rfl, Nat.mod_mul_right_div_self, Nat.mod_mul_right_mod]
/-- bits of a value v, from bit p on, in N bits in all: what they come to is nothing only if those of v that are within are nothing -/
theorem burst (v p N j : Nat) (e : Nat → Nat) (hj : j ≤ 32) (hN : p + j ≤ N) (h0 : ∀ i, i < p → e i = 0) (h1 : ∀ i, i < j → e (p + i) = v / 2 ^ i % 2) (h2 : ∀ i, p + j ≤ i → e i = 0)
    (hz : stB 0 e N = 0) : v % 2 ^ j = 0 := by
  obtain ⟨d, rfl⟩ : ∃ d, N = p + j + d := ⟨N - (p + j), by omega⟩
  rw [stB_add 0 e (p + j) d] at hz
  rw [stB_congr _ _ (fun _ => 0) d (fun i _ => h2 _ (by omega)), stB_zero, stB_add 0 e p j] at hz
  rw [stB_congr 0 e (fun _ => 0) p (fun i hi => h0 i hi), stB_zero] at hz
  rw [stB_congr _ _ (fun i => v / 2 ^ i % 2) j (fun i hi => h1 i hi), stB_value] at hz
  have hc0 : cbits p 0 = 0 := by
    have := cbits_shift 0 p 0
    simpa using this
  rw [hc0, rbits_low 0 v j j (Nat.le_refl _)] at hz
  have hlt : v % 2 ^ j < 2 ^ j := Nat.mod_lt _ (Nat.two_pow_pos _)
  have hlt32 : v % 2 ^ j < 2 ^ 32 := Nat.lt_of_lt_of_le hlt (Nat.pow_le_pow_right (by decide) hj)
  have hq := rbits_eq 0 (v % 2 ^ j) j
  rw [Nat.div_eq_of_lt hlt, Nat.xor_zero, Nat.zero_xor] at hq
  rw [hq] at hz
  exact cbits_zero _ hlt32 j (cbits_zero _ (cbits_lt _ hlt32 j) d hz)
/-- four bytes as a number, the lowest first -/
def leV (l : List UInt8) : Nat := (l.getD 0 0).toNat ^^^ (l.getD 1 0).toNat * 2 ^ 8 ^^^ (l.getD 2 0).toNat * 2 ^ 16 ^^^ (l.getD 3 0).toNat * 2 ^ 24
theorem cbits_add (n : Nat) (j : Nat) : ∀ k, cbits (j + k) n = cbits k (cbits j n)
  | 0 => rfl
  | k + 1 => by show cbit (cbits (j + k) n) = cbit _; rw [cbits_add n j k]
theorem raw_four (x : List UInt8) (b0 b1 b2 b3 : UInt8) : crcRaw (x ++ [b0, b1, b2, b3]) = cbits 32 (crcRaw x ^^^ leV [b0, b1, b2, b3]) := by
  have hs : ∀ (b : UInt8) k, cbits k (b.toNat * 2 ^ k) = b.toNat := fun b k => by have := cbits_shift b.toNat k 0; simpa using this
  have hc : ∀ n (b : UInt8), cstep n b = cbits 8 (n ^^^ b.toNat) := fun n b => (cbits_byte n b.toNat).symm
  have e : crcRaw (x ++ [b0, b1, b2, b3]) = cstep (cstep (cstep (cstep (crcRaw x) b0) b1) b2) b3 := by simp [crcRaw]
  rw [e]
  simp only [hc]
  have e1 : cbits 8 (crcRaw x ^^^ b0.toNat) ^^^ b1.toNat = cbits 8 (crcRaw x ^^^ b0.toNat ^^^ b1.toNat * 2 ^ 8) := by rw [cbits_xor _ (b1.toNat * 2 ^ 8), hs b1 8]
  rw [e1, ← cbits_add]
  have e2 : cbits (8 + 8) (crcRaw x ^^^ b0.toNat ^^^ b1.toNat * 2 ^ 8) ^^^ b2.toNat = cbits (8 + 8) (crcRaw x ^^^ b0.toNat ^^^ b1.toNat * 2 ^ 8 ^^^ b2.toNat * 2 ^ 16) := by rw [cbits_xor _ (b2.toNat * 2 ^ 16)]; congr 1; exact (hs b2 16).symm
  rw [e2, ← cbits_add]
  have e3 : cbits (8 + 8 + 8) (crcRaw x ^^^ b0.toNat ^^^ b1.toNat * 2 ^ 8 ^^^ b2.toNat * 2 ^ 16) ^^^ b3.toNat = cbits (8 + 8 + 8) (crcRaw x ^^^ b0.toNat ^^^ b1.toNat * 2 ^ 8 ^^^ b2.toNat * 2 ^ 16 ^^^ b3.toNat * 2 ^ 24) := by rw [cbits_xor _ (b3.toNat * 2 ^ 24)]; congr 1; exact (hs b3 24).symm
  rw [e3, ← cbits_add]
  show cbits 32 _ = cbits 32 _
  congr 1
  unfold leV
  simp only [List.getD_cons_zero, List.getD_cons_succ]
  ac_rfl
theorem leV_le (v : Nat) (h : v < 2 ^ 32) : leV (le v 4) = v := by
  have h0 : ∀ x, (UInt8.ofNat (x % 256)).toNat = x % 256 := u8_mod
  have e : le v 4 = [UInt8.ofNat (v / 2 ^ (8 * 0) % 256), UInt8.ofNat (v / 2 ^ (8 * 1) % 256), UInt8.ofNat (v / 2 ^ (8 * 2) % 256), UInt8.ofNat (v / 2 ^ (8 * 3) % 256)] := rfl
  rw [e]
  unfold leV
  simp only [List.getD_cons_zero, List.getD_cons_succ, h0]
  apply Nat.eq_of_testBit_eq
  intro i
  simp only [Nat.testBit_xor, Nat.testBit_mul_two_pow, show (256 : Nat) = 2 ^ 8 from rfl, Nat.testBit_mod_two_pow, Nat.testBit_div_two_pow]
  rcases (show i < 8 ∨ (8 ≤ i ∧ i < 16) ∨ (16 ≤ i ∧ i < 24) ∨ (24 ≤ i ∧ i < 32) ∨ 32 ≤ i by omega) with h1 | ⟨h1, h2⟩ | ⟨h1, h2⟩ | ⟨h1, h2⟩ | h1
  · simp [h1, show ¬ 8 ≤ i by omega, show ¬ 16 ≤ i by omega, show ¬ 24 ≤ i by omega]
  · simp [h1, show ¬ i < 8 by omega, show i - 8 < 8 by omega, show ¬ 16 ≤ i by omega, show ¬ 24 ≤ i by omega]
  · simp [h1, show ¬ i < 8 by omega, show 8 ≤ i by omega, show ¬ i - 8 < 8 by omega, show i - 16 < 8 by omega, show ¬ 24 ≤ i by omega]
  · simp [h1, show ¬ i < 8 by omega, show 8 ≤ i by omega, show ¬ i - 8 < 8 by omega, show 16 ≤ i by omega, show ¬ i - 16 < 8 by omega, show i - 24 < 8 by omega]
  · have hv : v.testBit i = false := Nat.testBit_lt_two_pow (Nat.lt_of_lt_of_le h (Nat.pow_le_pow_right (by decide) h1))
    simp [hv, show ¬ i < 8 by omega, show ¬ i - 8 < 8 by omega, show ¬ i - 16 < 8 by omega, show ¬ i - 24 < 8 by omega]
theorem rv_st (l : List UInt8) : ∀ i, i ≤ 8 * l.length → crcRaw (l.take (i / 8)) = stB 4294967295 (tbit l) (8 * (i / 8)) := by
  have key : ∀ k, k ≤ l.length → crcRaw (l.take k) = stB 4294967295 (tbit l) (8 * k) := by
    intro k
    induction k with
    | zero => intro _; simp [crcRaw, stB]
    | succ k ih =>
      intro hk
      have hlt : k < l.length := by omega
      rw [← List.take_append_getElem hlt, crcRaw_snoc, ih (by omega), ← rbits_byte, show 8 * (k + 1) = 8 * k + 8 from by omega, stB_add]
      have hc : ∀ i, i < 8 → tbit l (8 * k + i) = l[k].toNat / 2 ^ i % 2 := by
        intro i hi
        unfold tbit
        rw [show (8 * k + i) / 8 = k from by omega, show (8 * k + i) % 8 = i from by omega]
        simp [List.getD_eq_getElem?_getD, List.getElem?_eq_getElem hlt]
      rw [stB_congr _ _ (fun i => l[k].toNat / 2 ^ i % 2) 8 hc, stB_value]
  intro i hi
  exact key (i / 8) (by omega)
theorem raw_st (l : List UInt8) : crcRaw l = stB 4294967295 (tbit l) (8 * l.length) := by
  have h := rv_st l (8 * l.length) (Nat.le_refl _)
  rw [show 8 * l.length / 8 = l.length from by omega, List.take_length] at h
  exact h
theorem fourB (l : List UInt8) (h : l.length = 4) : ∃ a b c d, l = [a, b, c, d] := by
  match l, h with
  | [a, b, c, d], _ => exact ⟨a, b, c, d, rfl⟩
/-- a text with its digest behind it: always the same residue -/
theorem residue (x d : List UInt8) (h : d = digest x) : crcRaw (x ++ d) = cbits 32 4294967295 := by
  obtain ⟨a, b, c, e, he⟩ := fourB d (by rw [h]; exact le_len _ _)
  rw [he, raw_four, ← he, h]
  unfold digest
  rw [leV_le _ (crcSum_lt x)]
  unfold crcSum
  rw [show crcRaw x ^^^ (4294967295 ^^^ crcRaw x) = (crcRaw x ^^^ crcRaw x) ^^^ 4294967295 from by ac_rfl, Nat.xor_self, Nat.zero_xor]
/-! bits turned, one by one -/
def turnAt (l : List UInt8) (i : Nat) : List UInt8 := l.set (i / 8) (l.getD (i / 8) 0 ^^^ UInt8.ofNat (2 ^ (i % 8)))
theorem turnAt_len (l : List UInt8) (i : Nat) : (turnAt l i).length = l.length := by simp [turnAt]
theorem bit_xor_pow (x : UInt8) (j m : Nat) (hj : j < 8) : (x ^^^ UInt8.ofNat (2 ^ j)).toNat / 2 ^ m % 2 = x.toNat / 2 ^ m % 2 ^^^ (if m = j then 1 else 0) := by
  have hp : (UInt8.ofNat (2 ^ j)).toNat = 2 ^ j := by
    rw [UInt8.toNat_ofNat']
    exact Nat.mod_eq_of_lt (Nat.pow_lt_pow_right (by decide) hj)
  have hb : ∀ y : Nat, y / 2 ^ m % 2 = (y.testBit m).toNat := fun y => by rw [Nat.testBit_eq_decide_div_mod_eq]; rcases Nat.mod_two_eq_zero_or_one (y / 2 ^ m) with h | h <;> simp [h]
  rw [UInt8.toNat_xor, hp, hb, hb, Nat.testBit_xor, Nat.testBit_two_pow]
  by_cases h : m = j
  · subst h; cases x.toNat.testBit m <;> simp
  · have h' : ¬ j = m := fun e => h e.symm
    simp [h, h']
theorem tbit_turn (l : List UInt8) (i k : Nat) (hi : i / 8 < l.length) : tbit (turnAt l i) k = tbit l k ^^^ (if k = i then 1 else 0) := by
  unfold tbit turnAt
  by_cases h : k / 8 = i / 8
  · rw [h]
    have e : (l.set (i / 8) (l.getD (i / 8) 0 ^^^ UInt8.ofNat (2 ^ (i % 8)))).getD (i / 8) 0 = l.getD (i / 8) 0 ^^^ UInt8.ofNat (2 ^ (i % 8)) := by
      simp [List.getD_eq_getElem?_getD, hi]
    rw [e, bit_xor_pow _ _ _ (Nat.mod_lt _ (by decide))]
    congr 1
    by_cases hk : k = i
    · subst hk; simp
    · rw [if_neg hk, if_neg (by omega)]
  · have e : (l.set (i / 8) (l.getD (i / 8) 0 ^^^ UInt8.ofNat (2 ^ (i % 8)))).getD (k / 8) 0 = l.getD (k / 8) 0 := by
      have h' : ¬ i / 8 = k / 8 := fun e => h e.symm
      simp [List.getD_eq_getElem?_getD, h']
    rw [e, if_neg (by intro h2; exact h (by rw [h2])), Nat.xor_zero]
/-- bits turned from one on, as a number has them -/
def tn (l : List UInt8) (first v : Nat) : Nat → List UInt8
  | 0 => l
  | k + 1 => if v / 2 ^ k % 2 = 1 ∧ (first + k) / 8 < l.length then turnAt (tn l first v k) (first + k) else tn l first v k
theorem tn_len (l : List UInt8) (first v : Nat) : ∀ k, (tn l first v k).length = l.length
  | 0 => rfl
  | k + 1 => by
    unfold tn
    split
    · rw [turnAt_len, tn_len l first v k]
    · exact tn_len l first v k
theorem tn_bit (l : List UInt8) (first v i : Nat) : ∀ k, tbit (tn l first v k) i = tbit l i ^^^ (if first ≤ i ∧ i < first + k ∧ i / 8 < l.length ∧ v / 2 ^ (i - first) % 2 = 1 then 1 else 0)
  | 0 => by
    show tbit l i = _
    rw [if_neg (by omega), Nat.xor_zero]
  | k + 1 => by
    unfold tn
    by_cases hc : v / 2 ^ k % 2 = 1 ∧ (first + k) / 8 < l.length
    · rw [if_pos hc, tbit_turn _ _ _ (by rw [tn_len]; exact hc.2), tn_bit l first v i k, Nat.xor_assoc]
      congr 1
      by_cases hi : i = first + k
      · subst hi
        rw [if_pos rfl, if_neg (by omega), if_pos ⟨by omega, by omega, hc.2, by rw [show first + k - first = k from by omega]; exact hc.1⟩]
        rfl
      · rw [if_neg hi, Nat.xor_zero]
        by_cases h2 : first ≤ i ∧ i < first + k ∧ i / 8 < l.length ∧ v / 2 ^ (i - first) % 2 = 1
        · rw [if_pos h2, if_pos ⟨h2.1, by omega, h2.2.2⟩]
        · rw [if_neg h2, if_neg (by intro h3; exact h2 ⟨h3.1, by omega, h3.2.2⟩)]
    · rw [if_neg hc, tn_bit l first v i k]
      congr 1
      by_cases hi : i = first + k
      · subst hi
        rw [if_neg (by omega), if_neg (by intro h3; exact hc ⟨by have := h3.2.2.2; rwa [show first + k - first = k from by omega] at this, h3.2.2.1⟩)]
      · by_cases h2 : first ≤ i ∧ i < first + k ∧ i / 8 < l.length ∧ v / 2 ^ (i - first) % 2 = 1
        · rw [if_pos h2, if_pos ⟨h2.1, by omega, h2.2.2⟩]
        · rw [if_neg h2, if_neg (by intro h3; exact h2 ⟨h3.1, by omega, h3.2.2⟩)]
theorem low_bit (v j k : Nat) (h : v % 2 ^ j = 0) (hk : k < j) : v / 2 ^ k % 2 = 0 := by
  obtain ⟨d, rfl⟩ : ∃ d, j = k + 1 + d := ⟨j - (k + 1), by omega⟩
  have e : (v % 2 ^ (k + 1 + d)) / 2 ^ k % 2 = v / 2 ^ k % 2 := by
    rw [show 2 ^ (k + 1 + d) = 2 ^ k * (2 * 2 ^ d) from by rw [Nat.pow_add, Nat.pow_succ]; ac_rfl, Nat.mod_mul_right_div_self, Nat.mod_mul_right_mod]
  rw [h, Nat.zero_div] at e
  exact e.symm
theorem tn_same (l : List UInt8) (first v j : Nat) (h : v % 2 ^ j = 0) (hj : ∀ k, j ≤ k → k < 32 → ¬ (first + k) / 8 < l.length) : ∀ k, k ≤ 32 → tn l first v k = l
  | 0, _ => rfl
  | k + 1, hk => by
    unfold tn
    rw [tn_same l first v j h hj k (by omega)]
    by_cases hkj : k < j
    · rw [if_neg (by rw [low_bit v j k h hkj]; rintro ⟨h0, _⟩; cases h0)]
    · rw [if_neg (by rintro ⟨_, h1⟩; exact hj k (by omega) (by omega) h1)]
/-- BITS THAT ARE TURNED CLOSE TOGETHER ARE SEEN: a text with its digest, with bits turned within thirty-two: the digest fits just if nothing is turned -/
theorem burst_seen (s : List UInt8) (first v : Nat) (hf : first < 8 * (s ++ digest s).length) :
    (digest ((tn (s ++ digest s) first v 32).take s.length) == (tn (s ++ digest s) first v 32).drop s.length) = (tn (s ++ digest s) first v 32 == s ++ digest s) := by
  rw [Bool.eq_iff_iff, beq_iff_eq, beq_iff_eq]
  constructor
  · intro h
    have hu : crcRaw (tn (s ++ digest s) first v 32) = cbits 32 4294967295 := by
      have := residue _ _ h.symm
      rwa [List.take_append_drop] at this
    have ht : crcRaw (s ++ digest s) = cbits 32 4294967295 := residue s _ rfl
    rw [raw_st, tn_len] at hu
    rw [raw_st] at ht
    have hlin := stB_lin 4294967295 4294967295 (tbit (tn (s ++ digest s) first v 32)) (tbit (s ++ digest s)) (tbit_lt _) (tbit_lt _) (8 * (s ++ digest s).length)
    rw [hu, ht, Nat.xor_self, Nat.xor_self] at hlin
    generalize hT : s ++ digest s = t at *
    have he : ∀ i, tbit (tn t first v 32) i ^^^ tbit t i = if first ≤ i ∧ i < first + 32 ∧ i / 8 < t.length ∧ v / 2 ^ (i - first) % 2 = 1 then 1 else 0 := by
      intro i
      rw [tn_bit]
      generalize tbit t i = x
      rw [show x ^^^ (if first ≤ i ∧ i < first + 32 ∧ i / 8 < t.length ∧ v / 2 ^ (i - first) % 2 = 1 then 1 else 0) ^^^ x = (x ^^^ x) ^^^ (if first ≤ i ∧ i < first + 32 ∧ i / 8 < t.length ∧ v / 2 ^ (i - first) % 2 = 1 then 1 else 0) from by ac_rfl, Nat.xor_self, Nat.zero_xor]
    obtain ⟨j, hj⟩ : ∃ j, j = min 32 (8 * t.length - first) := ⟨_, rfl⟩
    have hz := burst v first (8 * t.length) j (fun i => tbit (tn t first v 32) i ^^^ tbit t i) (by omega) (by omega)
      (fun i hi => by show _ ^^^ _ = _; rw [he, if_neg (by omega)])
      (fun i hi => by
        show _ ^^^ _ = _
        rw [he, show first + i - first = i from by omega]
        rcases Nat.mod_two_eq_zero_or_one (v / 2 ^ i) with h0 | h0
        · rw [if_neg (by rw [h0]; omega), h0]
        · rw [if_pos ⟨by omega, by omega, by omega, h0⟩, h0])
      (fun i hi => by show _ ^^^ _ = _; rw [he, if_neg (by omega)])
      hlin.symm
    exact tn_same t first v j hz (fun k h1 h2 => by omega) 32 (Nat.le_refl _)
  · intro h
    rw [h, List.take_left', List.drop_left'] <;> rfl
end Go.Proofs.YtoponmdfjbhnoaaDoor
