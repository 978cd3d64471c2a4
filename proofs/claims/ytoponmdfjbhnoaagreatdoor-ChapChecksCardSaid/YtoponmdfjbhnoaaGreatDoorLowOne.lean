/- strings.ToLower of one byte. -/
import Derived.Test.YtoponmdfjbhnoaaGreatDoorGA
import Derived.Shelf.Strings.CaseAny
namespace Go.Proofs.YtoponmdfjbhnoaaGreatDoor
open Go.RowKit
theorem decode_high : ∀ n : Fin 256, 128 ≤ n.1 → Lib.decodeL [UInt8.ofNat n.1] = (65533, 1) := by decide +kernel
theorem bad_low : Lib.encodeRune (Lib.toLowerU 65533) = [239, 191, 189] := by decide +kernel
theorem low_high (b : UInt8) (h : 128 ≤ b.toNat) : Lib.toLowerD [b] = [239, 191, 189] := by
  have hd := decode_high ⟨b.toNat, b.toNat_lt⟩ h
  simp only [UInt8.ofNat_toNat] at hd
  unfold Lib.toLowerD
  rw [Lib.mapD_step _ _ (by simp), hd]
  dsimp only
  rw [if_pos (by have := (Lib.toLowerU_range 65533 (by decide)).1; exact this)]
  show Lib.encodeRune (Lib.toLowerU 65533) ++ _ = _
  rw [bad_low]
  rfl
theorem low_low (b : UInt8) (h : b.toNat < 128) : Lib.toLowerD [b] = [Lib.lowerB b] := by
  rw [Lib.toLowerD_ascii [b] (by intro x hx; rw [List.mem_singleton.1 hx]; exact h)]
  rfl
theorem lowerB_x : ∀ n : Fin 256, (Lib.lowerB (UInt8.ofNat n.1) = 120 ↔ (n.1 = 120 ∨ n.1 = 88)) ∧ (Lib.lowerB (UInt8.ofNat n.1) = 98 ↔ (n.1 = 98 ∨ n.1 = 66)) := by decide +kernel
theorem low_not (a b : UInt8) (h : a = 48 → ¬ (b = 120 ∨ b = 88) ∧ ¬ (b = 98 ∨ b = 66)) : a :: Lib.toLowerD [b] ≠ [48, 120] ∧ a :: Lib.toLowerD [b] ≠ [48, 98] := by
  have hb := lowerB_x ⟨b.toNat, b.toNat_lt⟩
  simp only [UInt8.ofNat_toNat] at hb
  have n1 : b.toNat = 120 → b = 120 := fun e => UInt8.toNat_inj.1 e
  have n2 : b.toNat = 88 → b = 88 := fun e => UInt8.toNat_inj.1 e
  have n3 : b.toNat = 98 → b = 98 := fun e => UInt8.toNat_inj.1 e
  have n4 : b.toNat = 66 → b = 66 := fun e => UInt8.toNat_inj.1 e
  constructor
  · intro e
    injection e with e1 e2
    obtain ⟨h1, h2⟩ := h e1
    by_cases h8 : b.toNat < 128
    · rw [low_low b h8] at e2
      injection e2 with e3
      rcases hb.1.1 e3 with e4 | e4
      · exact h1 (.inl (n1 e4))
      · exact h1 (.inr (n2 e4))
    · rw [low_high b (by omega)] at e2; revert e2; decide
  · intro e
    injection e with e1 e2
    obtain ⟨h1, h2⟩ := h e1
    by_cases h8 : b.toNat < 128
    · rw [low_low b h8] at e2
      injection e2 with e3
      rcases hb.2.1 e3 with e4 | e4
      · exact h2 (.inl (n3 e4))
      · exact h2 (.inr (n4 e4))
    · rw [low_high b (by omega)] at e2; revert e2; decide
end Go.Proofs.YtoponmdfjbhnoaaGreatDoor
