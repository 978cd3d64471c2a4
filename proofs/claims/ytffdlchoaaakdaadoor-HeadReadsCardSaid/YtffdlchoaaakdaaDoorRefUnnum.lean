/- ref.Unnumber: the document's own answer to Get. -/
import Derived.Test.YtffdlchoaaakdaaDoorRows
import Derived.Test.YtffdlchoaaakdaaDoorBase2
import Derived.Test.YtffdlchoaaakdaaDoorNum
namespace Go.Proofs.YtffdlchoaaakdaaDoor
open Go.RowKit
set_option linter.unusedVariables false
theorem unnumber_limit (l : List UInt8) (w : World) (h : 8 < l.length) :
    Calls Tryd.prog 32 #[.string (S l)] w fun e w' => e = .returned (.tuple #[.int .u64 0, .int .i64 4]) ∧ w = w' := by
  go_enter Tryd.func32, Tryd.ntmps32
  go_wp2_with fail
  go_ret2
  exact ⟨rfl, rfl⟩
theorem mul_add256 (v b : Nat) (hb : b < 256) (hv : v * 256 + b < 18446744073709551616) :
    IntKind.u64.wrap (IntKind.u64.wrap ((v : Int) * 256) + IntKind.u64.wrap (b : Int)) = ((v * 256 + b : Nat) : Int) := by
  have h1 : v * 256 < 18446744073709551616 := Nat.lt_of_le_of_lt (Nat.le_add_right _ _) hv
  have h2 : b < 18446744073709551616 := Nat.lt_of_le_of_lt (Nat.le_add_left _ _) hv
  have e : (v : Int) * 256 = ((v * 256 : Nat) : Int) := by rw [Int.natCast_mul]; rfl
  rw [e, wrap_u64_lt (v * 256) h1, wrap_u64_lt b h2, ← Int.natCast_add]
  exact wrap_u64_lt (v * 256 + b) hv
set_option maxRecDepth 100000 in
theorem unnumber_ok (l : List UInt8) (w : World) (h : l.length ≤ 8) :
    Calls Tryd.prog 32 #[.string (S l)] w fun e w' => e = .returned (.tuple #[.int .u64 (val l : Nat), .int .i64 0]) ∧ Below w.heap.size w w' := by
  obtain ⟨cap, hc1, hc2, hrun⟩ := run_bytes_S (P := Tryd.prog) 9 61 5 Tryd.underlying9 Tryd.underlying61 Tryd.underlying5 w l
  have hB := bytesAt_drew (bytesAt_new w (l ++ List.replicate (cap - l.length) 0) 5 (cap, cap + 1))
  have hbel : Below w.heap.size w (w.alloc (.cells (cells8 (l ++ List.replicate (cap - l.length) 0)) 5 (cap, cap + 1))).drew := ((Below.refl _ _).alloc (Nat.le_refl _) _).drew
  have hc2' := hc2 (by unfold maxLen; omega)
  unfold maxLen at hc2'
  clear hc2
  generalize hW : (w.alloc (.cells (cells8 (l ++ List.replicate (cap - l.length) 0)) 5 (cap, cap + 1))).drew = W at hrun hB hbel
  have HB := Lib.hid hB
  have Hbel := Lib.hid hbel
  clear hB hbel hW
  go_enter Tryd.func32, Tryd.ntmps32
  go_wp2_with fail
  clear hrun
  go_loopg [4, 13] 9 (fun g v c wr => ∃ k : Nat, k ≤ l.length ∧ g + k = 9 ∧ c = .int .i64 k ∧ v = .int .u64 (val (l.take k) : Nat) ∧ wr = W)
  case atStart => exact ⟨0, by omega, by omega, rfl, rfl, rfl⟩
  case round =>
    obtain ⟨k, hk, hg, rfl, rfl, rfl⟩ := hrel
    have Hg := Lib.hid hg
    clear hg
    by_cases hlt : k < l.length
    · have hcell := bytesAt_get HB.out k (by simp; omega)
      rw [List.getElem_append_left hlt] at hcell
      have hv := val_snoc (l.take k) l[k]
      rw [← take_succ_snoc l k hlt] at hv
      have hlen : (l.take (k + 1)).length = k + 1 := by simp; omega
      have hlt2 := val_lt (k + 1) (l.take (k + 1)) hlen
      have hpow : 256 ^ (k + 1) ≤ 256 ^ 8 := Nat.pow_le_pow_right (by decide) (by omega)
      have hor := mul_add256 (val (l.take k)) l[k].toNat l[k].toNat_lt (by rw [← hv]; exact Nat.lt_of_lt_of_le hlt2 hpow)
      rw [← hv] at hor
      clear hv hlen hlt2 hpow
      go_wp2_with fail
      go_roundg (gk - 1)
      case measure => have := Hg.out; omega
      case rel => exact ⟨k + 1, by omega, by have := Hg.out; omega, by go_num, rfl, rfl⟩
    · have hkl : k = l.length := by omega
      subst hkl
      go_wp2_with fail
      go_ret2
      exact ⟨by simp, Hbel.out⟩
def getE (l : List UInt8) : Int := if 8 < l.length then 4 else 0
def getN (l : List UInt8) : Nat := if 8 < l.length then 0 else val l
theorem unnumber_all (l : List UInt8) (w : World) :
    Calls Tryd.prog 32 #[.string (S l)] w fun e w' => e = .returned (.tuple #[.int .u64 (getN l : Nat), .int .i64 (getE l)]) ∧ Below w.heap.size w w' := by
  unfold getN getE
  by_cases h : 8 < l.length
  · rw [if_pos h, if_pos h]
    exact (unnumber_limit l w h).mono fun e w' ⟨he, hw⟩ => ⟨he, hw ▸ Below.refl _ _⟩
  · rw [if_neg h, if_neg h]
    exact unnumber_ok l w (by omega)
end Go.Proofs.YtffdlchoaaakdaaDoor
