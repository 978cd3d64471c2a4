/- Contracts of field.Put. -/
import Derived.Test.YtceinedicbdngaaDoorRows
import Derived.Test.YtceinedicbdngaaDoorNum
namespace Go.Proofs.YtceinedicbdngaaDoor
open Go.RowKit
theorem put_range (n size : Int) (w : World) (h : size < 0 ∨ 8 < size) :
    Calls Tryd.prog 38 #[.int .u64 n, .int .i64 size] w fun e w' => e = .returned (.tuple #[.string (S []), .iface 24 (.int .i64 2)]) ∧ w = w' := by
  by_cases h1 : size < 0
  · go_enter Tryd.func38, Tryd.ntmps38
    go_wp2_with fail
    go_ret2
    exact ⟨rfl, rfl⟩
  · have h2 : 8 < size := by omega
    go_enter Tryd.func38, Tryd.ntmps38
    go_wp2_with fail
    go_ret2
    exact ⟨rfl, rfl⟩
theorem put_limit (n size : Nat) (w : World) (h : size ≤ 8) (hb : n / 2 ^ (8 * size) ≠ 0) :
    Calls Tryd.prog 38 #[.int .u64 n, .int .i64 size] w fun e w' => e = .returned (.tuple #[.string (S []), .iface 24 (.int .i64 4)]) ∧ w = w' := by
  have hq : ((n : Int) / 2 ^ (8 * size) != 0) = true := by
    rw [bne_iff_ne]; intro h0; apply hb; exact_mod_cast h0
  go_enter Tryd.func38, Tryd.ntmps38
  go_wp2_with fail
  all_goals (go_ret2; exact ⟨rfl, rfl⟩)
theorem put_ok (n size : Nat) (w : World) (h : size ≤ 8) (hb : n / 2 ^ (8 * size) = 0) :
    Calls Tryd.prog 38 #[.int .u64 n, .int .i64 size] w fun e w' => e = .returned (.tuple #[.string (S (be n size)), .nilIface]) ∧ Below w.heap.size w w' := by
  have hq : ((n : Int) / 2 ^ (8 * size) != 0) = false := by
    have : (n : Int) / 2 ^ (8 * size) = 0 := by exact_mod_cast hb
    rw [this]; rfl
  have hA : (#[Value.int IntKind.u8 0, Value.int IntKind.u8 0, Value.int IntKind.u8 0, Value.int IntKind.u8 0,
          Value.int IntKind.u8 0, Value.int IntKind.u8 0, Value.int IntKind.u8 0, Value.int IntKind.u8 0] : Array Value) = cells8 (zs 8) := rfl
  go_enter Tryd.func38, Tryd.ntmps38
  go_wp2_with fail
  go_loopg [22] 9 (fun g c wr => ∃ k : Nat, k ≤ size ∧ g + k = 9 ∧ c = .int .i64 k ∧ wr = w.alloc (.cells (cells8 (putRow n size k)) 103))
  case atStart => exact ⟨0, by omega, by omega, rfl, by rw [putRow_0 n size h]⟩
  case round =>
    obtain ⟨k, hk, hg, rfl, rfl⟩ := hrel
    have hlen := putRow_len n size k hk h
    by_cases hlt : k < size
    · have Hg := Lib.hid hg
      clear hg
      have hc := cells8_get (putRow n size k) (size - 1 - k) (by omega)
      have hst : (cells8 (putRow n size k)).setIfInBounds (size - 1 - k) (.int .u8 ((n : Int) / 2 ^ (8 * k) % 256)) = cells8 (putRow n size (k + 1)) := by
        rw [← byte_cast, cells8_set, putRow_step n size k hlt]
      go_wp2
      go_roundg (gk - 1)
      case measure => have := Hg.out; omega
      case rel => exact ⟨k + 1, by omega, by have := Hg.out; omega, by go_num, rfl⟩
    · have hks : k = size := by omega
      subst hks
      have hrow : putRow n k k = be n k ++ zs (8 - k) := by simp [putRow, zs]
      have hcv := run_string_cells8 (P := Tryd.prog) 57 9 5 Tryd.underlying57 Tryd.underlying5 Tryd.underlying9 w (be n k ++ zs (8 - k)) k 8 103 (by simp [be_len])
      have htk : (be n k ++ zs (8 - k)).take k = be n k := by
        have := be_len n k
        rw [List.take_append_of_le_length (by omega), List.take_of_length_le (by omega)]
      rw [htk] at hcv
      clear htk hg
      go_wp2
      go_ret2
      exact ⟨rfl, (Below.refl _ _).alloc (Nat.le_refl _) _⟩
end Go.Proofs.YtceinedicbdngaaDoor
