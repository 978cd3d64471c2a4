/- A number's lowest digits. No program stands in it. -/
import Derived.Test.YtoheabcohfjknaaGreatDoorBinPlain
namespace Go.Proofs.YtoheabcohfjknaaGreatDoor
/-- the k lowest digits of n, the highest first -/
def lowD (b n : Nat) : Nat → List UInt8
  | 0 => []
  | k + 1 => digC (n / b ^ k % b) :: lowD b n k
theorem lowD_len (b n : Nat) : ∀ k, (lowD b n k).length = k
  | 0 => rfl
  | k + 1 => by simp [lowD, lowD_len b n k]
def fmtRow (b n k : Nat) : List UInt8 := List.replicate (65 - k) 0 ++ lowD b n k
theorem fmtRow_len (b n k : Nat) (h : k ≤ 65) : (fmtRow b n k).length = 65 := by simp [fmtRow, lowD_len]; omega
theorem fmtRow_step (b n k : Nat) (h : k < 65) : (fmtRow b n k).set (64 - k) (digC (n / b ^ k % b)) = fmtRow b n (k + 1) := by
  unfold fmtRow
  rw [show 65 - k = (64 - k) + 1 from by omega, List.replicate_succ', List.append_assoc, List.set_append, if_neg (by simp)]
  rw [show 65 - (k + 1) = 64 - k from by omega]
  simp [lowD]
theorem fmtRow_drop (b n k : Nat) : (fmtRow b n k).drop (65 - k) = lowD b n k := by
  unfold fmtRow
  rw [List.drop_append, List.drop_of_length_le (by simp)]
  simp
end Go.Proofs.YtoheabcohfjknaaGreatDoor
