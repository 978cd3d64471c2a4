/- ref.within, ref.Number: the document's own answer to Put and Get. -/
import Derived.Test.YtceinedicbdngaaDoorRows
import Derived.Test.YtceinedicbdngaaDoorBase2
import Derived.Test.YtceinedicbdngaaDoorNum
namespace Go.Proofs.YtceinedicbdngaaDoor
open Go.RowKit
set_option linter.unusedVariables false
theorem within_true (n a b : Int) (w : World) (h1 : a ≤ n) (h2 : n ≤ b) : Calls Tryd.prog 25 #[.int .i64 n, .int .i64 a, .int .i64 b] w fun e w' => e = .returned (.bool true) ∧ w = w' := by
  have hd1 : decide (a ≤ n) = true := decide_eq_true h1
  have hd2 : decide (n ≤ b) = true := decide_eq_true h2
  go_enter Tryd.func25, Tryd.ntmps25
  go_wp2_with fail
  go_ret
  exact ⟨rfl, rfl⟩
theorem within_false (n a b : Int) (w : World) (h : n < a ∨ b < n) : Calls Tryd.prog 25 #[.int .i64 n, .int .i64 a, .int .i64 b] w fun e w' => e = .returned (.bool false) ∧ w = w' := by
  by_cases h1 : a ≤ n
  · have h2 : b < n := by omega
    have hd1 : decide (a ≤ n) = true := decide_eq_true h1
    have hd2 : decide (n ≤ b) = false := decide_eq_false (by omega)
    clear h
    go_enter Tryd.func25, Tryd.ntmps25
    go_wp2_with fail
    go_ret
    exact ⟨rfl, rfl⟩
  · have h2 : n < a := by omega
    have hd1 : decide (a ≤ n) = false := decide_eq_false h1
    clear h
    go_enter Tryd.func25, Tryd.ntmps25
    go_wp2_with fail
    go_ret
    exact ⟨rfl, rfl⟩
theorem number_range (n : Nat) (size : Int) (w : World) (h : size < 0 ∨ 8 < size) :
    Calls Tryd.prog 26 #[.int .u64 n, .int .i64 size] w fun e w' => e = .returned (.tuple #[.string (S []), .int .i64 2]) ∧ w = w' := by
  have H := Lib.hid h
  clear h
  go_enter Tryd.func26, Tryd.ntmps26
  go_wp2_with fail
  refine (within_false _ _ _ _ H.out).mono ?_
  rintro e w' ⟨rfl, rfl⟩
  go_wp2_with fail
  go_ret2
  exact ⟨rfl, rfl⟩
/-- what the document's answer to Put is, in 0 to 8 bytes -/
def numV (n size : Nat) : Value := if 0 < n / 2 ^ (8 * size) then .tuple #[.string (S []), .int .i64 4] else .tuple #[.string (S (be n size)), .int .i64 0]
theorem wrap_div256 (m : Nat) (h : m < 2 ^ 64) : IntKind.u64.wrap ((m : Int) / 256) = ((m / 256 : Nat) : Int) := by
  have e : (m : Int) / 256 = ((m / 256 : Nat) : Int) := by omega
  rw [e, wrap_u64_lt _ (Nat.lt_of_le_of_lt (Nat.div_le_self _ _) h)]
theorem div_step (n k : Nat) : n / 2 ^ (8 * k) / 256 = n / 2 ^ (8 * (k + 1)) := by
  rw [Nat.div_div_eq_div_mul, show 8 * (k + 1) = 8 * k + 8 from by omega, Nat.pow_add]
theorem number_in (n size : Nat) (w : World) (hs : size ≤ 8) (hn : n < 2 ^ 64) :
    Calls Tryd.prog 26 #[.int .u64 n, .int .i64 size] w fun e w' => e = .returned (numV n size) ∧ Below w.heap.size w w' := by
  have Hn := Lib.hid hn
  clear hn
  go_enter Tryd.func26, Tryd.ntmps26
  go_wp2_with fail
  refine (within_true _ _ _ _ (by omega) (by omega)).mono ?_
  rintro e w' ⟨rfl, rfl⟩
  go_wp2_with fail
  go_loopg [0, 6, 11] 9 (fun g x s i wr => ∃ k m : Nat, k ≤ size ∧ g + k = 9 ∧ i = .int .i64 k ∧ x = .int .u64 m ∧ m = n / 2 ^ (8 * k) ∧ s = .string (S (be n k)) ∧ Below w.heap.size w wr)
  case atStart => exact ⟨0, n, by omega, by omega, rfl, rfl, by simp, rfl, Below.refl _ _⟩
  case round =>
    obtain ⟨k, m, hk, hg, rfl, rfl, hm, rfl, hb⟩ := hrel
    have Hg := Lib.hid hg
    have hlen := be_len n k
    have hwd := wrap_div256 m (by rw [hm]; exact Nat.lt_of_le_of_lt (Nat.div_le_self _ _) Hn.out)
    have Hm := Lib.hid hm
    clear hg hm
    by_cases hlt : k < size
    · have hki : (k : Int) < size := by omega
      have hbe : UInt8.ofNat (m % 256) :: be n k = be n (k + 1) := by rw [Hm.out]; rfl
      have Hbe := Lib.hid hbe
      clear hbe
      have hcv := run_string_new1 (P := Tryd.prog) 57 9 5 Tryd.underlying57 Tryd.underlying5 Tryd.underlying9 wr m 5
      go_wp2_with fail
      go_roundg (gk - 1)
      case measure => have := Hg.out; omega
      case rel => exact ⟨k + 1, m / 256, by omega, by have := Hg.out; omega, by go_num, by first | rfl | exact congrArg (Value.int IntKind.u64) hwd, by rw [Hm.out, div_step], by rw [← Hbe.out], hb.alloc hb.size _⟩
    · have hks : k = size := by omega
      subst hks
      by_cases hm0 : 0 < m
      · have hv : numV n k = .tuple #[.string (S []), .int .i64 4] := by unfold numV; rw [← Hm.out, if_pos hm0]
        have Hv := Lib.hid hv
        clear hv
        go_wp2_with fail
        go_ret2
        exact ⟨by rw [Hv.out]; rfl, hb⟩
      · have hv : numV n k = .tuple #[.string (S (be n k)), .int .i64 0] := by unfold numV; rw [← Hm.out, if_neg hm0]
        have Hv := Lib.hid hv
        clear hv
        go_wp2_with fail
        go_ret2
        exact ⟨by rw [Hv.out]; rfl, hb⟩
/-- Put's error, and its bytes -/
def putE (n : Nat) (size : Int) : Int := if size < 0 ∨ 8 < size then 2 else if n / 2 ^ (8 * size.toNat) = 0 then 0 else 4
def putS (n : Nat) (size : Int) : List UInt8 := if putE n size = 0 then be n size.toNat else []
theorem number_all (n : Nat) (size : Int) (w : World) (hn : n < 2 ^ 64) :
    Calls Tryd.prog 26 #[.int .u64 n, .int .i64 size] w fun e w' => e = .returned (.tuple #[.string (S (putS n size)), .int .i64 (putE n size)]) ∧ Below w.heap.size w w' := by
  by_cases h : size < 0 ∨ 8 < size
  · have he : putE n size = 2 := by unfold putE; rw [if_pos h]
    have hs : putS n size = [] := by unfold putS; rw [he, if_neg (by decide)]
    rw [he, hs]
    exact (number_range n size w h).mono fun e w' ⟨he, hw⟩ => ⟨he, hw ▸ Below.refl _ _⟩
  · obtain ⟨k, rfl⟩ := Int.eq_ofNat_of_zero_le (show 0 ≤ size by omega)
    have hv : numV n k = .tuple #[.string (S (putS n k)), .int .i64 (putE n k)] := by
      by_cases hq : n / 2 ^ (8 * k) = 0
      · have he : putE n k = 0 := by unfold putE; rw [if_neg h, Int.toNat_natCast, if_pos hq]
        have hs : putS n k = be n k := by unfold putS; rw [he, if_pos rfl, Int.toNat_natCast]
        rw [he, hs]; unfold numV; rw [if_neg (by rw [hq]; decide)]
      · have he : putE n k = 4 := by unfold putE; rw [if_neg h, Int.toNat_natCast, if_neg hq]
        have hs : putS n k = [] := by unfold putS; rw [he, if_neg (by decide)]
        rw [he, hs]; unfold numV; rw [if_pos (Nat.pos_of_ne_zero hq)]
    rw [← hv]
    exact number_in n k w (by omega) hn
end Go.Proofs.YtceinedicbdngaaDoor
