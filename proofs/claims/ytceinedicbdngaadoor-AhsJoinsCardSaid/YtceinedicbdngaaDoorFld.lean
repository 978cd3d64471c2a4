/- Contracts of package field: Pad, zeros, Padded, Unpad. -/
import Derived.Test.YtceinedicbdngaaDoorFPut
import Derived.Test.YtceinedicbdngaaDoorFGet
namespace Go.Proofs.YtceinedicbdngaaDoor
open Go.RowKit
def padI (n : Int) : Int := if n < 0 then 0 else (4 - n % 4) % 4
theorem padI_nat (n : Nat) : padI n = (((4 - n % 4) % 4 : Nat) : Int) := by unfold padI; rw [if_neg (by omega)]; omega
theorem padI_bd (n : Int) : 0 ≤ padI n ∧ padI n ≤ 3 := by unfold padI; split <;> omega
theorem pad_any (n : Int) (w : World) : Calls Tryd.prog 40 #[.int .i64 n] w fun e w' => e = .returned (.int .i64 (padI n)) ∧ w = w' := by
  by_cases h : n < 0
  · go_enter Tryd.func40, Tryd.ntmps40
    go_wp2
    go_ret
    exact ⟨ret_int (by unfold padI; rw [if_pos ‹n < 0›]), rfl⟩
  · have h0 : 0 ≤ n := by omega
    go_enter Tryd.func40, Tryd.ntmps40
    go_wp2
    go_ret
    exact ⟨ret_int (by unfold padI; rw [if_neg (by omega)]; omega), rfl⟩
theorem zeros_any (n : Int) (w : World) (h0 : 0 ≤ n) (h3 : n ≤ 3) :
    Calls Tryd.prog 52 #[.int .i64 n] w fun e w' => e = .returned (.string (S (zs n.toNat))) ∧ w = w' := by
  have ht := take_zs n.toNat (by omega)
  go_enter Tryd.func52, Tryd.ntmps52
  go_wp2
  go_ret
  exact ⟨ret_S rfl, rfl⟩
def pad (n : Nat) : Nat := (4 - n % 4) % 4
theorem padI_pad (n : Nat) : padI n = (pad n : Int) := padI_nat n
theorem pad_le (n : Nat) : pad n ≤ 3 := by unfold pad; omega
def padded (l : List UInt8) : List UInt8 := l ++ zs (pad l.length)
theorem padded_any (l : List UInt8) (w : World) (hm : l.length ≤ 4294967280) :
    Calls Tryd.prog 39 #[.string (S l)] w fun e w' => e = .returned (.string (S (padded l))) ∧ w = w' := by
  have hp := pad_le l.length
  go_enter Tryd.func39, Tryd.ntmps39
  go_wp2_with fail
  refine (pad_any _ _).mono ?_
  rintro e w' ⟨rfl, rfl⟩
  rw [padI_pad]
  go_wp2_with fail
  refine (zeros_any _ _ (by omega) (by omega)).mono ?_
  rintro e w' ⟨rfl, rfl⟩
  go_wp2_with fail
  go_ret
  exact ⟨ret_S rfl, rfl⟩
theorem unpad_neg (l : List UInt8) (n : Int) (w : World) (h : n < 0) :
    Calls Tryd.prog 45 #[.string (S l), .int .i64 n] w fun e w' => e = .returned (.tuple #[.string (S []), .int .i64 0, .iface 24 (.int .i64 2)]) ∧ w = w' := by
  go_enter Tryd.func45, Tryd.ntmps45
  go_wp2_with fail
  go_ret3
  exact ⟨rfl, rfl⟩
theorem unpad_few (l : List UInt8) (n : Nat) (w : World) (hl : l.length ≤ 4294967280) (h : l.length < n ∨ l.length < n + pad n) :
    Calls Tryd.prog 45 #[.string (S l), .int .i64 n] w fun e w' => e = .returned (.tuple #[.string (S []), .int .i64 0, .iface 24 (.int .i64 7)]) ∧ w = w' := by
  have hp := pad_le n
  by_cases h1 : l.length < n
  · have hd : decide ((l.length : Int) < n) = true := by simpa using h1
    go_enter Tryd.func45, Tryd.ntmps45
    go_wp2_with fail
    refine (pad_any _ _).mono ?_
    rintro e w' ⟨rfl, rfl⟩
    rw [padI_pad]
    go_wp2_with fail
    go_ret3
    exact ⟨rfl, rfl⟩
  · have hd : decide ((l.length : Int) < n) = false := by simpa using h1
    go_enter Tryd.func45, Tryd.ntmps45
    go_wp2_with fail
    refine (pad_any _ _).mono ?_
    rintro e w' ⟨rfl, rfl⟩
    rw [padI_pad]
    go_wp2_with fail
    go_ret3
    exact ⟨rfl, rfl⟩
theorem unpad_bad (l : List UInt8) (n : Nat) (w : World) (hl : l.length ≤ 4294967280) (h : n + pad n ≤ l.length) (hb : ((l.drop n).take (pad n) == zs (pad n)) = false) :
    Calls Tryd.prog 45 #[.string (S l), .int .i64 n] w fun e w' => e = .returned (.tuple #[.string (S []), .int .i64 0, .iface 24 (.int .i64 3)]) ∧ ∃ m, w' = w.drewN m := by
  have hp := pad_le n
  have h1 : ¬ l.length < n := by omega
  have hd : decide ((l.length : Int) < n) = false := by simpa using h1
  go_enter Tryd.func45, Tryd.ntmps45
  go_wp2_with fail
  refine (pad_any _ _).mono ?_
  rintro e w' ⟨rfl, rfl⟩
  rw [padI_pad]
  go_wp2_with fail
  go_quiet ((go_at_call 52; exact quiet_left (zeros_any _ _ (by omega) (by omega))))
  go_wp2_with fail
  go_ret3
  exact ⟨rfl, _, rfl⟩
theorem unpad_ok (l : List UInt8) (n : Nat) (w : World) (hl : l.length ≤ 4294967280) (h : n + pad n ≤ l.length) (hb : ((l.drop n).take (pad n) == zs (pad n)) = true) :
    Calls Tryd.prog 45 #[.string (S l), .int .i64 n] w fun e w' => e = .returned (.tuple #[.string (S (l.take n)), .int .i64 (n + pad n : Nat), .nilIface]) ∧ ∃ m, w' = w.drewN m := by
  have hp := pad_le n
  have h1 : ¬ l.length < n := by omega
  have hd : decide ((l.length : Int) < n) = false := by simpa using h1
  go_enter Tryd.func45, Tryd.ntmps45
  go_wp2_with fail
  refine (pad_any _ _).mono ?_
  rintro e w' ⟨rfl, rfl⟩
  rw [padI_pad]
  go_wp2_with fail
  go_quiet ((go_at_call 52; exact quiet_left (zeros_any _ _ (by omega) (by omega))))
  go_wp2_with fail
  go_ret3
  exact ⟨by simp, _, rfl⟩
end Go.Proofs.YtceinedicbdngaaDoor
