/- Contracts of field.Get. -/
import Derived.Test.YtceinedicbdngaaDoorRows
import Derived.Test.YtceinedicbdngaaDoorNum
namespace Go.Proofs.YtceinedicbdngaaDoor
open Go.RowKit
theorem get_limit (l : List UInt8) (w : World) (h : 8 < l.length) :
    Calls Tryd.prog 44 #[.string (S l)] w fun e w' => e = .returned (.tuple #[.int .u64 0, .iface 24 (.int .i64 4)]) ∧ w = w' := by
  go_enter Tryd.func44, Tryd.ntmps44
  go_wp2_with fail
  go_ret2
  exact ⟨rfl, rfl⟩
theorem get_ok (l : List UInt8) (w : World) (h : l.length ≤ 8) :
    Calls Tryd.prog 44 #[.string (S l)] w fun e w' => e = .returned (.tuple #[.int .u64 (val l : Nat), .nilIface]) ∧ w = w' := by
  go_enter Tryd.func44, Tryd.ntmps44
  go_wp2_with fail
  go_loopg [4, 12] 9 (fun g v c wr => ∃ k : Nat, k ≤ l.length ∧ g + k = 9 ∧ c = .int .i64 k ∧ v = .int .u64 (val (l.take k) : Nat) ∧ wr = w)
  case atStart => exact ⟨0, by omega, by omega, rfl, rfl, rfl⟩
  case round =>
    obtain ⟨k, hk, hg, rfl, rfl, rfl⟩ := hrel
    have Hg := Lib.hid hg
    clear hg
    by_cases hlt : k < l.length
    · have hv := val_snoc (l.take k) l[k]
      rw [← take_succ_snoc l k hlt] at hv
      have hlen : (l.take (k + 1)).length = k + 1 := by simp; omega
      have hlt2 := val_lt (k + 1) (l.take (k + 1)) hlen
      have hpow : 256 ^ (k + 1) ≤ 256 ^ 8 := Nat.pow_le_pow_right (by decide) (by omega)
      have hor := shl_or8 (val (l.take k)) l[k].toNat l[k].toNat_lt (by rw [← hv]; exact Nat.lt_of_lt_of_le hlt2 hpow)
      rw [← hv] at hor
      clear hv hlen hlt2 hpow
      go_wp2
      go_roundg (gk - 1)
      case measure => have := Hg.out; omega
      case rel => exact ⟨k + 1, by omega, by have := Hg.out; omega, by go_num, rfl, rfl⟩
    · have hkl : k = l.length := by omega
      subst hkl
      go_wp2
      go_ret2
      exact ⟨by simp, rfl⟩
end Go.Proofs.YtceinedicbdngaaDoor
