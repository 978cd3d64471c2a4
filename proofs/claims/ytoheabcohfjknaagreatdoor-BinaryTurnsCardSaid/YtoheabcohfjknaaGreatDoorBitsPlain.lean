/- Bits as text, in sixes and in eights. No program stands in it. -/
import Derived.Test.YtoheabcohfjknaaGreatDoorFmtPlain
import Derived.Test.YtoheabcohfjknaaGreatDoorParsePlain
import Derived.Test.YtoheabcohfjknaaGreatDoorB64
namespace Go.Proofs.YtoheabcohfjknaaGreatDoor
/-- the bits of bytes, as text -/
def bitsOf : List UInt8 → List UInt8
  | [] => []
  | b :: l => lowD 2 b.toNat 8 ++ bitsOf l
theorem bitsOf_app (a b : List UInt8) : bitsOf (a ++ b) = bitsOf a ++ bitsOf b := by
  induction a with
  | nil => rfl
  | cons x a ih => simp [bitsOf, ih]
theorem bitsOf_snoc (l : List UInt8) (b : UInt8) : bitsOf (l ++ [b]) = bitsOf l ++ lowD 2 b.toNat 8 := by rw [bitsOf_app]; simp [bitsOf]
theorem bitsOf_len (l : List UInt8) : (bitsOf l).length = 8 * l.length := by
  induction l with
  | nil => rfl
  | cons x a ih => simp [bitsOf, ih, lowD_len]; omega
theorem digC_two (n : Nat) (h : n < 2) : isDig 2 (digC n) = true ∧ digV (digC n) = n := by
  have : ∀ k : Fin 2, isDig 2 (digC k.1) = true ∧ digV (digC k.1) = k.1 := by decide
  exact this ⟨n, h⟩
theorem lowD_two (n : Nat) : ∀ (k : Nat) (c : UInt8), c ∈ lowD 2 n k → isDig 2 c = true
  | 0, c, h => by simp [lowD] at h
  | k + 1, c, h => by
    simp only [lowD, List.mem_cons] at h
    rcases h with rfl | h
    · exact (digC_two _ (Nat.mod_lt _ (by decide))).1
    · exact lowD_two n k c h
theorem bitsOf_two (l : List UInt8) : ∀ c ∈ bitsOf l, isDig 2 c = true := by
  induction l with
  | nil => intro c h; simp [bitsOf] at h
  | cons x a ih =>
    intro c h
    rcases List.mem_append.1 h with h | h
    · exact lowD_two _ _ _ h
    · exact ih c h
theorem low8 (n : Nat) : lowD 2 n 8 = [digC (n / 128 % 2), digC (n / 64 % 2), digC (n / 32 % 2), digC (n / 16 % 2), digC (n / 8 % 2), digC (n / 4 % 2), digC (n / 2 % 2), digC (n % 2)] := by
  simp only [lowD, Nat.pow_zero, Nat.div_one, Nat.reducePow]
theorem low6 (n : Nat) : lowD 2 n 6 = [digC (n / 32 % 2), digC (n / 16 % 2), digC (n / 8 % 2), digC (n / 4 % 2), digC (n / 2 % 2), digC (n % 2)] := by
  simp only [lowD, Nat.pow_zero, Nat.div_one, Nat.reducePow]
theorem val6 (a b c d e f : Nat) (ha : a < 2) (hb : b < 2) (hc : c < 2) (hd : d < 2) (he : e < 2) (hf : f < 2) :
    valB 2 [digC a, digC b, digC c, digC d, digC e, digC f] = 32 * a + 16 * b + 8 * c + 4 * d + 2 * e + f := by
  simp only [valB, List.foldl_cons, List.foldl_nil, (digC_two a ha).2, (digC_two b hb).2, (digC_two c hc).2, (digC_two d hd).2, (digC_two e he).2, (digC_two f hf).2]
  omega
/-- letters of bits, by sixes -/
def sixes : List UInt8 → List UInt8
  | a :: b :: c :: d :: e :: f :: r => lett (valB 2 [a, b, c, d, e, f]) :: sixes r
  | _ => []
theorem sixes_step (r : List UInt8) (h : 6 ≤ r.length) : sixes r = lett (valB 2 (r.take 6)) :: sixes (r.drop 6) := by
  match r, h with
  | a :: b :: c :: d :: e :: f :: r, _ => simp [sixes]
theorem sixes_len : ∀ (r : List UInt8), (sixes r).length = r.length / 6
  | [] => rfl
  | [_] => by simp [sixes]
  | [_, _] => by simp [sixes]
  | [_, _, _] => by simp [sixes]
  | [_, _, _, _] => by simp [sixes]
  | [_, _, _, _, _] => by simp [sixes]
  | a :: b :: c :: d :: e :: f :: r => by simp only [sixes, List.length_cons, sixes_len r]; omega
def padBits (l : List UInt8) : List UInt8 := bitsOf l ++ List.replicate ((6 - 8 * l.length % 6) % 6) 48
theorem padBits_two (l : List UInt8) : ∀ c ∈ padBits l, isDig 2 c = true := by
  intro c h
  rcases List.mem_append.1 h with h | h
  · exact bitsOf_two l c h
  · rw [(List.mem_replicate.1 h).2]; decide
theorem padBits_len (l : List UInt8) : (padBits l).length = 8 * l.length + (6 - 8 * l.length % 6) % 6 := by simp [padBits, bitsOf_len]
theorem sixes_three (x y z : UInt8) (r : List UInt8) : sixes (lowD 2 x.toNat 8 ++ (lowD 2 y.toNat 8 ++ (lowD 2 z.toNat 8 ++ r))) = four [x, y, z] ++ sixes r := by
  have hx := x.toNat_lt
  have hy := y.toNat_lt
  have hz := z.toNat_lt
  simp only [low8, List.cons_append, List.nil_append, sixes, four]
  rw [val6 _ _ _ _ _ _ (by omega) (by omega) (by omega) (by omega) (by omega) (by omega), val6 _ _ _ _ _ _ (by omega) (by omega) (by omega) (by omega) (by omega) (by omega), val6 _ _ _ _ _ _ (by omega) (by omega) (by omega) (by omega) (by omega) (by omega), val6 _ _ _ _ _ _ (by omega) (by omega) (by omega) (by omega) (by omega) (by omega)]
  have e1 : 32 * (x.toNat / 128 % 2) + 16 * (x.toNat / 64 % 2) + 8 * (x.toNat / 32 % 2) + 4 * (x.toNat / 16 % 2) + 2 * (x.toNat / 8 % 2) + x.toNat / 4 % 2 = x.toNat / 4 := by omega
  have e2 : 32 * (x.toNat / 2 % 2) + 16 * (x.toNat % 2) + 8 * (y.toNat / 128 % 2) + 4 * (y.toNat / 64 % 2) + 2 * (y.toNat / 32 % 2) + y.toNat / 16 % 2 = x.toNat % 4 * 16 + y.toNat / 16 := by omega
  have e3 : 32 * (y.toNat / 8 % 2) + 16 * (y.toNat / 4 % 2) + 8 * (y.toNat / 2 % 2) + 4 * (y.toNat % 2) + 2 * (z.toNat / 128 % 2) + z.toNat / 64 % 2 = y.toNat % 16 * 4 + z.toNat / 64 := by omega
  have e4 : 32 * (z.toNat / 32 % 2) + 16 * (z.toNat / 16 % 2) + 8 * (z.toNat / 8 % 2) + 4 * (z.toNat / 4 % 2) + 2 * (z.toNat / 2 % 2) + z.toNat % 2 = z.toNat % 64 := by omega
  rw [e1, e2, e3, e4]
theorem sixes_letters (l : List UInt8) : sixes (padBits l) ++ List.replicate ((4 - (sixes (padBits l)).length % 4) % 4) 61 = lettersOf l := by
  match l with
  | [] => simp [padBits, bitsOf, sixes, lettersOf]
  | [x] =>
    have hx := x.toNat_lt
    have e1 : 32 * (x.toNat / 128 % 2) + 16 * (x.toNat / 64 % 2) + 8 * (x.toNat / 32 % 2) + 4 * (x.toNat / 16 % 2) + 2 * (x.toNat / 8 % 2) + x.toNat / 4 % 2 = x.toNat / 4 := by omega
    have e2 : 32 * (x.toNat / 2 % 2) + 16 * (x.toNat % 2) + 8 * 0 + 4 * 0 + 2 * 0 + 0 = x.toNat % 4 * 16 := by omega
    have h : sixes (padBits [x]) = [lett (x.toNat / 4), lett (x.toNat % 4 * 16)] := by
      have hp : padBits [x] = lowD 2 x.toNat 8 ++ [digC 0, digC 0, digC 0, digC 0] := by
        have hz : ([digC 0, digC 0, digC 0, digC 0] : List UInt8) = List.replicate 4 48 := by decide
        rw [hz]; simp [padBits, bitsOf]
      rw [hp]
      simp only [low8, List.cons_append, List.nil_append, sixes]
      rw [val6 _ _ _ _ _ _ (by omega) (by omega) (by omega) (by omega) (by omega) (by omega), val6 _ _ _ _ _ _ (by omega) (by omega) (by omega) (by omega) (by omega) (by omega), e1, e2]
    rw [h]; rfl
  | [x, y] =>
    have hx := x.toNat_lt
    have hy := y.toNat_lt
    have e1 : 32 * (x.toNat / 128 % 2) + 16 * (x.toNat / 64 % 2) + 8 * (x.toNat / 32 % 2) + 4 * (x.toNat / 16 % 2) + 2 * (x.toNat / 8 % 2) + x.toNat / 4 % 2 = x.toNat / 4 := by omega
    have e2 : 32 * (x.toNat / 2 % 2) + 16 * (x.toNat % 2) + 8 * (y.toNat / 128 % 2) + 4 * (y.toNat / 64 % 2) + 2 * (y.toNat / 32 % 2) + y.toNat / 16 % 2 = x.toNat % 4 * 16 + y.toNat / 16 := by omega
    have e3 : 32 * (y.toNat / 8 % 2) + 16 * (y.toNat / 4 % 2) + 8 * (y.toNat / 2 % 2) + 4 * (y.toNat % 2) + 2 * 0 + 0 = y.toNat % 16 * 4 := by omega
    have h : sixes (padBits [x, y]) = [lett (x.toNat / 4), lett (x.toNat % 4 * 16 + y.toNat / 16), lett (y.toNat % 16 * 4)] := by
      have hp : padBits [x, y] = lowD 2 x.toNat 8 ++ (lowD 2 y.toNat 8 ++ [digC 0, digC 0]) := by
        have hz : ([digC 0, digC 0] : List UInt8) = List.replicate 2 48 := by decide
        rw [hz]; simp [padBits, bitsOf]
      rw [hp]
      simp only [low8, List.cons_append, List.nil_append, sixes]
      rw [val6 _ _ _ _ _ _ (by omega) (by omega) (by omega) (by omega) (by omega) (by omega), val6 _ _ _ _ _ _ (by omega) (by omega) (by omega) (by omega) (by omega) (by omega), val6 _ _ _ _ _ _ (by omega) (by omega) (by omega) (by omega) (by omega) (by omega), e1, e2, e3]
    rw [h]; rfl
  | x :: y :: z :: r =>
    have hp : padBits (x :: y :: z :: r) = lowD 2 x.toNat 8 ++ (lowD 2 y.toNat 8 ++ (lowD 2 z.toNat 8 ++ padBits r)) := by
      unfold padBits
      have : 8 * (x :: y :: z :: r).length % 6 = 8 * r.length % 6 := by simp only [List.length_cons]; omega
      rw [this]
      simp [bitsOf]
    have ih := sixes_letters r
    have hl : (four [x, y, z]).length = 4 := rfl
    rw [hp, sixes_three, List.length_append, hl, Nat.add_mod_left, List.append_assoc, ih]
    rfl
end Go.Proofs.YtoheabcohfjknaaGreatDoor
