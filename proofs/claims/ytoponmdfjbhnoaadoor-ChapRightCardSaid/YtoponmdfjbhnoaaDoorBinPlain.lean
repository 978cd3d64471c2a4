/- Bytes as values: hexadecimal digits, Base64, as lists of bytes. No program stands in it. -/
import Derived.Test.YtoponmdfjbhnoaaDoorBase
namespace Go.Proofs.YtoponmdfjbhnoaaDoor
def digC (n : Nat) : UInt8 := UInt8.ofNat (if n < 10 then 48 + n else 87 + n)
def hexOf : List UInt8 → List UInt8
  | [] => []
  | b :: l => digC (b.toNat / 16) :: digC (b.toNat % 16) :: hexOf l
theorem hexOf_app (a b : List UInt8) : hexOf (a ++ b) = hexOf a ++ hexOf b := by
  induction a with
  | nil => rfl
  | cons x a ih => simp [hexOf, ih]
theorem hexOf_len (l : List UInt8) : (hexOf l).length = 2 * l.length := by
  induction l with
  | nil => rfl
  | cons x a ih => simp [hexOf, ih]; omega
theorem hexOf_snoc (l : List UInt8) (b : UInt8) : hexOf (l ++ [b]) = hexOf l ++ [digC (b.toNat / 16), digC (b.toNat % 16)] := by rw [hexOf_app]; rfl
def hexL (l : List UInt8) : List UInt8 := 48 :: 120 :: hexOf l
theorem hexL_len (l : List UInt8) : (hexL l).length = 2 + 2 * l.length := by simp [hexL, hexOf_len]; omega
def hexDigits : List UInt8 := [48, 49, 50, 51, 52, 53, 54, 55, 56, 57, 97, 98, 99, 100, 101, 102]
theorem hexDigits_get (n : Nat) (h : n < 16) : hexDigits[n]'h = digC n := by
  have : ∀ n : Fin 16, hexDigits[n.1]'n.2 = digC n.1 := by decide
  exact this ⟨n, h⟩
theorem and15 (n : Nat) (h : n < 256) : bits .and .u8 (n : Int) 15 = (n : Int) % 16 := by
  rw [show (15 : Int) = ((15 : Nat) : Int) from rfl, u8_and_nat n 15 h (by decide), show (15 : Nat) = 2 ^ 4 - 1 from rfl, Nat.and_two_pow_sub_one_eq_mod]
  rfl
theorem hexDigits_at (n : Int) (m : Nat) (hn : n = m) (h : n.toNat < ([48, 49, 50, 51, 52, 53, 54, 55, 56, 57, 97, 98, 99, 100, 101, 102] : List UInt8).length) :
    ([48, 49, 50, 51, 52, 53, 54, 55, 56, 57, 97, 98, 99, 100, 101, 102] : List UInt8)[n.toNat]'h = digC m := by
  subst hn
  exact hexDigits_get m h
def letterTab : List UInt8 := [65, 66, 67, 68, 69, 70, 71, 72, 73, 74, 75, 76, 77, 78, 79, 80, 81, 82, 83, 84, 85, 86, 87, 88, 89, 90, 97, 98, 99, 100, 101, 102, 103, 104, 105, 106, 107, 108, 109, 110, 111, 112, 113, 114, 115, 116, 117, 118, 119, 120, 121, 122, 48, 49, 50, 51, 52, 53, 54, 55, 56, 57, 43, 47]
def lett (n : Nat) : UInt8 := letterTab.getD n 61
theorem lett_at (n : Int) (m : Nat) (hn : n = m) (h : n.toNat < ([65, 66, 67, 68, 69, 70, 71, 72, 73, 74, 75, 76, 77, 78, 79, 80, 81, 82, 83, 84, 85, 86, 87, 88, 89, 90, 97, 98, 99, 100, 101, 102, 103, 104, 105, 106, 107, 108, 109, 110, 111, 112, 113, 114, 115, 116, 117, 118, 119, 120, 121, 122, 48, 49, 50, 51, 52, 53, 54, 55, 56, 57, 43, 47] : List UInt8).length) :
    ([65, 66, 67, 68, 69, 70, 71, 72, 73, 74, 75, 76, 77, 78, 79, 80, 81, 82, 83, 84, 85, 86, 87, 88, 89, 90, 97, 98, 99, 100, 101, 102, 103, 104, 105, 106, 107, 108, 109, 110, 111, 112, 113, 114, 115, 116, 117, 118, 119, 120, 121, 122, 48, 49, 50, 51, 52, 53, 54, 55, 56, 57, 43, 47] : List UInt8)[n.toNat]'h = lett m := by
  subst hn
  have h' : m < letterTab.length := h
  unfold lett
  rw [List.getD_eq_getElem?_getD, List.getElem?_eq_getElem h']
  rfl
/-- four letters of three bytes, two, or one -/
def four : List UInt8 → List UInt8
  | [a] => [lett (a.toNat / 4), lett (a.toNat % 4 * 16), 61, 61]
  | [a, b] => [lett (a.toNat / 4), lett (a.toNat % 4 * 16 + b.toNat / 16), lett (b.toNat % 16 * 4), 61]
  | [a, b, c] => [lett (a.toNat / 4), lett (a.toNat % 4 * 16 + b.toNat / 16), lett (b.toNat % 16 * 4 + c.toNat / 64), lett (c.toNat % 64)]
  | _ => []
def lettersOf : List UInt8 → List UInt8
  | [] => []
  | [a] => four [a]
  | [a, b] => four [a, b]
  | a :: b :: c :: l => four [a, b, c] ++ lettersOf l
def b64L (l : List UInt8) : List UInt8 := 48 :: 98 :: lettersOf l
theorem lettersOf_three (c l : List UInt8) (h : c.length % 3 = 0) : lettersOf (c ++ l) = lettersOf c ++ lettersOf l := by
  match c with
  | [] => rfl
  | [_] => simp at h
  | [_, _] => simp at h
  | x :: y :: z :: r =>
    have hr : r.length % 3 = 0 := by simp at h; omega
    show four [x, y, z] ++ lettersOf (r ++ l) = (four [x, y, z] ++ lettersOf r) ++ lettersOf l
    rw [lettersOf_three r l hr, List.append_assoc]
theorem lettersOf_len (l : List UInt8) : (lettersOf l).length = (l.length + 2) / 3 * 4 := by
  match l with
  | [] => rfl
  | [_] => simp [lettersOf, four]
  | [_, _] => simp [lettersOf, four]
  | x :: y :: z :: r =>
    show (four [x, y, z] ++ lettersOf r).length = _
    rw [List.length_append, lettersOf_len r]
    simp [four]; omega
theorem lettersOf_end (l : List UInt8) (h0 : 0 < l.length) (h3 : l.length ≤ 3) : lettersOf l = four l := by
  match l with
  | [] => simp at h0
  | [_] => rfl
  | [_, _] => rfl
  | [x, y, z] => simp [lettersOf]
  | _ :: _ :: _ :: _ :: _ => simp at h3
theorem take_three (l : List UInt8) (k : Nat) (h : 3 * k < l.length) : b64L (l.take (3 * k)) ++ four ((l.drop (3 * k)).take 3) = b64L (l.take (3 * (k + 1))) := by
  have e : l.take (3 * (k + 1)) = l.take (3 * k) ++ (l.drop (3 * k)).take 3 := by
    rw [show 3 * (k + 1) = 3 * k + 3 from by omega, List.take_add]
  have hl : ((l.drop (3 * k)).take 3).length = min 3 (l.length - 3 * k) := by simp
  unfold b64L
  rw [e, lettersOf_three _ _ (by rw [List.length_take]; omega), lettersOf_end ((l.drop (3 * k)).take 3) (by omega) (by omega)]
  rfl
theorem chunk_short (l : List UInt8) (k : Nat) (h : l.length < 3 * k + 3) : (l.drop (3 * k)).take (l.length - 3 * k) = (l.drop (3 * k)).take 3 := by
  rw [List.take_of_length_le (by simp), List.take_of_length_le (by simp; omega)]
/-- the number that a hexadecimal digit is -/
def hexV (c : UInt8) : Option Nat :=
  if 48 ≤ c.toNat ∧ c.toNat ≤ 57 then some (c.toNat - 48) else if 97 ≤ c.toNat ∧ c.toNat ≤ 102 then some (c.toNat - 87) else if 65 ≤ c.toNat ∧ c.toNat ≤ 70 then some (c.toNat - 55) else none
theorem hexV_lt (c : UInt8) (n : Nat) (h : hexV c = some n) : n < 16 := by
  unfold hexV at h
  split at h
  · have := Option.some.inj h; omega
  · split at h
    · have := Option.some.inj h; omega
    · split at h
      · have := Option.some.inj h; omega
      · cases h
def hexN (c : UInt8) : Nat := (hexV c).getD 0
theorem hexN_lt (c : UInt8) : hexN c < 16 := by
  unfold hexN
  cases h : hexV c with
  | none => decide
  | some n => exact hexV_lt c n h
/-- what stands in the row behind i digits -/
def hexRow : List UInt8 → Nat → List UInt8
  | a :: b :: r, i => UInt8.ofNat (if i = 0 then 0 else if i = 1 then hexN a else hexN a * 16 + hexN b) :: hexRow r (i - 2)
  | _, _ => []
def unhex (l : List UInt8) : List UInt8 := hexRow l l.length
theorem hexRow_len : ∀ (l : List UInt8) (i : Nat), (hexRow l i).length = l.length / 2
  | [], _ => rfl
  | [_], _ => by simp [hexRow]
  | a :: b :: r, i => by simp only [hexRow, List.length_cons, hexRow_len r]; omega
theorem hexRow_0 : ∀ (l : List UInt8), hexRow l 0 = List.replicate (l.length / 2) 0
  | [] => rfl
  | [_] => by simp [hexRow]
  | a :: b :: r => by
    have e : (a :: b :: r).length / 2 = r.length / 2 + 1 := by simp only [List.length_cons]; omega
    rw [e, List.replicate_succ, ← hexRow_0 r]
    rfl
theorem hexRow_step : ∀ (l : List UInt8) (i : Nat) (h : i < l.length) (_ : l.length % 2 = 0) (h2 : i / 2 < (hexRow l i).length),
    (hexRow l i).set (i / 2) (UInt8.ofNat (((hexRow l i)[i / 2]'h2).toNat % 16 * 16 + hexN l[i])) = hexRow l (i + 1)
  | [], i, h, _, _ => absurd h (by simp)
  | [_], _, _, he, _ => absurd he (by simp)
  | a :: b :: r, 0, _, _, _ => by
    simp only [hexRow, Nat.zero_div, List.set_cons_zero, List.getElem_cons_zero, if_true]
    simp
  | a :: b :: r, 1, _, _, _ => by
    have ha := hexN_lt a
    have hb := hexN_lt b
    simp only [hexRow, show 1 / 2 = 0 from rfl, List.set_cons_zero, List.getElem_cons_zero, if_true]
    simp [Nat.mod_eq_of_lt (show hexN a < 256 by omega), Nat.mod_eq_of_lt ha]
  | a :: b :: r, i + 2, h, he, h2 => by
    have hr : i < r.length := by simp at h; omega
    have hre : r.length % 2 = 0 := by simp at he; omega
    have e : (i + 2) / 2 = i / 2 + 1 := by omega
    have hl := hexRow_len r i
    have ih := hexRow_step r i hr hre (by rw [hl]; omega)
    simp only [hexRow, e, List.set_cons_succ, List.getElem_cons_succ, Nat.add_sub_cancel, if_neg (show ¬ i + 2 = 0 by omega), if_neg (show ¬ i + 2 = 1 by omega), if_neg (show ¬ i + 2 + 1 = 0 by omega), if_neg (show ¬ i + 2 + 1 = 1 by omega)]
    rw [ih, show i + 2 + 1 - 2 = i + 1 from by omega]
/-- the bytes that digits are; which error; where -/
def readHex (l : List UInt8) : List UInt8 × Int × Int :=
  if l.length % 2 ≠ 0 then ([], 7, -1) else match l.findIdx? (fun c => (hexV c).isNone) with
    | some i => ([], 3, 2 + (i : Int))
    | none => (unhex l, 0, -1)
end Go.Proofs.YtoponmdfjbhnoaaDoor
