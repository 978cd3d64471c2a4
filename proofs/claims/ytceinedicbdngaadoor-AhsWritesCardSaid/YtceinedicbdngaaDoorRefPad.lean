/- ref.Pad, ref.Padded. -/
import Derived.Test.YtceinedicbdngaaDoorFld
namespace Go.Proofs.YtceinedicbdngaaDoor
open Go.RowKit
set_option linter.unusedVariables false
theorem refPad_any (n : Int) (w : World) : Calls Tryd.prog 32 #[.int .i64 n] w fun e w' => e = .returned (.int .i64 (padI n)) ∧ w = w' := by
  by_cases h : n ≤ 0
  · have hd : decide (n ≤ 0) = true := decide_eq_true h
    have hp : padI n = 0 := by unfold padI; split <;> omega
    have Hp := Lib.hid hp
    clear hp
    go_enter Tryd.func32, Tryd.ntmps32
    go_wp2_with fail
    go_ret
    exact ⟨ret_int Hp.out.symm, rfl⟩
  · have hd : decide (n ≤ 0) = false := decide_eq_false h
    by_cases h4 : n % 4 = 0
    · have hp : padI n = 0 := by unfold padI; split <;> omega
      have Hp := Lib.hid hp
      clear hp
      go_enter Tryd.func32, Tryd.ntmps32
      go_wp2_with fail
      go_ret
      exact ⟨ret_int Hp.out.symm, rfl⟩
    · have hp : padI n = 4 - n % 4 := by unfold padI; split <;> omega
      have hd4 : (n % 4 == 0) = false := by rw [beq_eq_false_iff_ne]; exact h4
      have h0 : 0 ≤ n := by omega
      have Hp := Lib.hid hp
      clear hp h4
      go_enter Tryd.func32, Tryd.ntmps32
      go_wp2_with fail
      go_ret
      exact ⟨ret_int Hp.out.symm, rfl⟩
theorem refPad_nat (k : Nat) (w : World) : Calls Tryd.prog 32 #[.int .i64 k] w fun e w' => e = .returned (.int .i64 (pad k : Nat)) ∧ w = w' := by
  rw [← padI_pad]; exact refPad_any _ _
theorem zs_succ (k : Nat) : zs k ++ [0] = zs (k + 1) := by simp [zs, List.replicate_succ']
theorem refPadded_any (l : List UInt8) (w : World) (hl : l.length ≤ 5000) :
    Calls Tryd.prog 27 #[.string (S l)] w fun e w' => e = .returned (.string (S (padded l))) ∧ w = w' := by
  have hp := pad_le l.length
  go_enter Tryd.func27, Tryd.ntmps27
  go_wp2_with fail
  go_loopg [0] 4 (fun g s wr => ∃ k : Nat, k ≤ pad l.length ∧ g + k = 4 ∧ s = .string (S (l ++ zs k)) ∧ wr = w)
  case atStart => exact ⟨0, by omega, by omega, by simp [zs], rfl⟩
  case round =>
    obtain ⟨k, hk, hg, rfl, rfl⟩ := hrel
    have Hg := Lib.hid hg
    clear hg
    have hlen : (l ++ zs k).length = l.length + k := by simp [zs]
    by_cases hlt : k < pad l.length
    · have hm : (((l.length : Int) + (k : Int)) % 4 != 0) = true := by rw [bne_iff_ne]; unfold pad at hlt; omega
      have hz := zs_succ k
      go_wp2_with fail
      go_roundg (gk - 1)
      case measure => have := Hg.out; omega
      case rel => exact ⟨k + 1, by omega, by have := Hg.out; omega, by rw [← hz, ← List.append_assoc], rfl⟩
    · have hks : k = pad l.length := by omega
      have hm : (((l.length : Int) + (k : Int)) % 4 != 0) = false := by
        have : ((l.length : Int) + (k : Int)) % 4 = 0 := by rw [hks]; unfold pad; omega
        rw [this]; rfl
      have hpd : padded l = l ++ zs k := by rw [hks]; rfl
      have Hpd := Lib.hid hpd
      clear hpd hks
      go_wp2_with fail
      go_ret
      exact ⟨by rw [Hpd.out]; rfl, rfl⟩
end Go.Proofs.YtceinedicbdngaaDoor
