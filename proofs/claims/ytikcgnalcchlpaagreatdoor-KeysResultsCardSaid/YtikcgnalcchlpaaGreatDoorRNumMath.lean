/- What ref.numeral reads, as plain data. -/
import Derived.Test.YtikcgnalcchlpaaGreatDoorRAll
import Derived.Test.YtikcgnalcchlpaaGreatDoorKeyMath2
import Derived.Lib.Case
namespace Go.Proofs.YtikcgnalcchlpaaGreatDoor
open Go Go.RowKit
set_option linter.unusedVariables false
def d10 : List UInt8 := [48, 49, 50, 51, 52, 53, 54, 55, 56, 57]
def d16 : List UInt8 := [48, 49, 50, 51, 52, 53, 54, 55, 56, 57, 97, 98, 99, 100, 101, 102]
def d22 : List UInt8 := [48, 49, 50, 51, 52, 53, 54, 55, 56, 57, 97, 98, 99, 100, 101, 102, 65, 66, 67, 68, 69, 70]
theorem one10 (c : UInt8) : oneOf d10 c = isDig 10 c := by
  have h : ∀ n : Fin 256, oneOf d10 (UInt8.ofNat n.1) = isDig 10 (UInt8.ofNat n.1) := by decide +kernel
  have := h ⟨c.toNat, c.toNat_lt⟩
  simpa using this
theorem one22 (c : UInt8) : oneOf d22 c = isDig 16 c := by
  have h : ∀ n : Fin 256, oneOf d22 (UInt8.ofNat n.1) = isDig 16 (UInt8.ofNat n.1) := by decide +kernel
  have := h ⟨c.toNat, c.toNat_lt⟩
  simpa using this
theorem low_dig (c : UInt8) (h : isDig 16 c = true) : inA d16 (Lib.lowerB c) = (digV c : Int) ∧ c.toNat < 128 := by
  have h0 : ∀ n : Fin 256, isDig 16 (UInt8.ofNat n.1) = true → inA d16 (Lib.lowerB (UInt8.ofNat n.1)) = (digV (UInt8.ofNat n.1) : Int) ∧ (UInt8.ofNat n.1).toNat < 128 := by decide +kernel
  have := h0 ⟨c.toNat, c.toNat_lt⟩
  simp only [UInt8.ofNat_toNat] at this
  exact this h
theorem dig_wide (c : UInt8) (h : isDig 10 c = true) : isDig 16 c = true := by
  have h0 : ∀ n : Fin 256, isDig 10 (UInt8.ofNat n.1) = true → isDig 16 (UInt8.ofNat n.1) = true := by decide +kernel
  have := h0 ⟨c.toNat, c.toNat_lt⟩
  simp only [UInt8.ofNat_toNat] at this
  exact this h
theorem numF_all {b : Nat} : ∀ (l : List UInt8) (n : Nat), l.all (isDig b) = false → numF b n l = none
  | [], n, h => by cases h
  | c :: l, n, h => by
    cases hc : isDig b c with
    | false => exact numF_bad hc
    | true =>
      rw [List.all_cons, hc, Bool.true_and] at h
      unfold numF
      rw [if_pos hc]
      split
      · exact numF_all l _ h
      · rfl
def optI : Option Nat → Int
  | some n => n
  | none => -1
theorem all10 (l : List UInt8) : allOf d10 l = (l.all (isDig 10) && !l.isEmpty) := by
  unfold allOf
  rw [show oneOf d10 = isDig 10 from funext one10]
theorem all22 (l : List UInt8) : allOf d22 l = (l.all (isDig 16) && !l.isEmpty) := by
  unfold allOf
  rw [show oneOf d22 = isDig 16 from funext one22]
theorem numU_not {b : Nat} {l : List UInt8} (h : (l.all (isDig b) && !l.isEmpty) = false) : numU b l = none := by
  unfold numU
  by_cases hl : l = []
  · rw [if_pos hl]
  · rw [if_neg hl]
    have he : l.isEmpty = false := by cases l with | nil => exact absurd rfl hl | cons _ _ => rfl
    rw [he] at h
    simp at h
    exact numF_all l 0 (by simpa using h)
theorem numU_yes {b : Nat} {l : List UInt8} (h : (l.all (isDig b) && !l.isEmpty) = true) : l ≠ [] ∧ l.all (isDig b) = true ∧ numU b l = numF b 0 l := by
  rw [Bool.and_eq_true] at h
  have hl : l ≠ [] := by rintro rfl; cases h.2
  refine ⟨hl, h.1, ?_⟩
  unfold numU
  rw [if_neg hl]
theorem numF_next {b k n : Nat} {l : List UInt8} (hk : k < l.length) (h : numF b 0 (l.take k) = some n) (hd : isDig b l[k] = true) :
    (1099511627776 ≤ n * b + digV l[k] → numF b 0 l = none) ∧ (n * b + digV l[k] < 1099511627776 → numF b 0 (l.take (k + 1)) = some (n * b + digV l[k])) := by
  refine ⟨fun hb => ?_, fun hb => ?_⟩
  · have e : l = l.take k ++ (l[k] :: l.drop (k + 1)) := by
      rw [List.getElem_cons_drop, List.take_append_drop]
    rw [e, numF_app, h]
    exact numF_big hd hb
  · rw [← List.take_append_getElem hk, numF_app, h]
    show numF b n [l[k]] = _
    rw [numF_go hd hb, numF_nil]
end Go.Proofs.YtikcgnalcchlpaaGreatDoor
