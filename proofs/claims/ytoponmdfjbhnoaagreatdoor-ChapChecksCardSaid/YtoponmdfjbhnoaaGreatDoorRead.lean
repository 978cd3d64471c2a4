/- binary.Read. -/
import Derived.Test.YtoponmdfjbhnoaaGreatDoorReadB64
namespace Go.Proofs.YtoponmdfjbhnoaaGreatDoor
open Go.RowKit
/-- the bytes that a value is; which error; where -/
def readV (l : List UInt8) : List UInt8 × Int × Int :=
  match l with
  | a :: b :: r => if a = 48 then (if b = 120 ∨ b = 88 then readHex r else if b = 98 ∨ b = 66 then readLet r else ([], 3, -1)) else ([], 3, -1)
  | _ => ([], 3, -1)
theorem readV_hex (r : List UInt8) (b : UInt8) (hb : b = 120 ∨ b = 88) : readV (48 :: b :: r) = readHex r := by simp only [readV, if_true]; rw [if_pos hb]
theorem readV_b64 (r : List UInt8) (b : UInt8) (hb : b = 98 ∨ b = 66) : readV (48 :: b :: r) = readLet r := by
  simp only [readV, if_true]
  rw [if_neg (by rcases hb with rfl | rfl <;> decide), if_pos hb]
theorem read_short (l : List UInt8) (w : World) (h : l.length < 2) :
    Calls Tryz.prog 16 #[.string (S l)] w (RetSE w ([], 3, -1)) := by
  go_enter Tryz.func16, Tryz.ntmps16
  go_wp2_with fail
  go_ret2
  exact ⟨_, rfl, .bare _ (by decide), Below.refl _ _⟩
theorem u8_ne (a : UInt8) (n : Nat) (h : a ≠ UInt8.ofNat n) (hn : n < 256) : ((a.toNat : Int) == (n : Int)) = false ∧ ((a.toNat : Int) != (n : Int)) = true := by
  have hne : (a.toNat : Int) ≠ (n : Int) := by
    intro hx
    apply h
    apply UInt8.toNat_inj.1
    rw [UInt8.toNat_ofNat', Nat.mod_eq_of_lt (show n < 2 ^ 8 from hn)]; omega
  exact ⟨beq_false_of_ne hne, bne_iff_ne.2 hne⟩
theorem read_pair (a b : UInt8) (r : List UInt8) (w : World) (hl : r.length ≤ 4294967270) :
    Calls Tryz.prog 16 #[.string (S (a :: b :: r))] w (RetSE w (readV (a :: b :: r))) := by
  by_cases ha : a = 48
  · subst ha
    by_cases hx : b = 120 ∨ b = 88
    · rw [readV_hex r b hx]
      rcases hx with rfl | rfl
      all_goals
        go_enter Tryz.func16, Tryz.ntmps16
        go_wp2_with fail
        refine (readDigits_any r _ (by omega)).mono ?_
        rintro e w' ⟨v, rfl, he, hb⟩
        go_wp2_with fail
        go_ret2
        exact ⟨v, rfl, he, hb⟩
    · by_cases hy : b = 98 ∨ b = 66
      · rw [readV_b64 r b hy]
        rcases hy with rfl | rfl
        all_goals
          go_enter Tryz.func16, Tryz.ntmps16
          go_wp2_with fail
          refine (readLetters_any r _ (by omega)).mono ?_
          rintro e w' ⟨v, rfl, he, hb⟩
          go_wp2_with fail
          go_ret2
          exact ⟨v, rfl, he, hb⟩
      · obtain ⟨h1, _⟩ := u8_ne b 120 (fun h => hx (.inl h)) (by decide)
        obtain ⟨h2, _⟩ := u8_ne b 88 (fun h => hx (.inr h)) (by decide)
        obtain ⟨h3, _⟩ := u8_ne b 98 (fun h => hy (.inl h)) (by decide)
        obtain ⟨h4, _⟩ := u8_ne b 66 (fun h => hy (.inr h)) (by decide)
        have e : readV (48 :: b :: r) = ([], 3, -1) := by simp only [readV, if_true]; rw [if_neg hx, if_neg hy]
        rw [e]
        clear hx hy e
        simp only [Int.cast_ofNat_Int] at h1 h2 h3 h4
        go_enter Tryz.func16, Tryz.ntmps16
        go_wp2_with fail
        go_ret2
        exact ⟨_, rfl, .bare _ (by decide), Below.refl _ _⟩
  · obtain ⟨h1, h2⟩ := u8_ne a 48 ha (by decide)
    have e : readV (a :: b :: r) = ([], 3, -1) := by simp only [readV]; rw [if_neg ha]
    rw [e]
    clear e ha
    simp only [Int.cast_ofNat_Int] at h1 h2
    go_enter Tryz.func16, Tryz.ntmps16
    go_wp2_with fail
    go_ret2
    exact ⟨_, rfl, .bare _ (by decide), Below.refl _ _⟩
theorem read_any (l : List UInt8) (w : World) (hl : l.length ≤ 4294967270) :
    Calls Tryz.prog 16 #[.string (S l)] w (RetSE w (readV l)) := by
  match l, hl with
  | [], _ => exact read_short [] w (by decide)
  | [a], _ => exact read_short [a] w (by simp)
  | a :: b :: r, hl => exact read_pair a b r w (by simp at hl; omega)
end Go.Proofs.YtoponmdfjbhnoaaGreatDoor
