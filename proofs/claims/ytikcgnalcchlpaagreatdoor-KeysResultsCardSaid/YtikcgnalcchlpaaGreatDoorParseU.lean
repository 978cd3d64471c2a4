/- internal/strconv.ParseUint of any text, in the bases 10 and 16, of forty bits. -/
import Derived.Test.YtikcgnalcchlpaaGreatDoorRows
import Derived.Test.YtikcgnalcchlpaaGreatDoorBase2
import Derived.Test.YtikcgnalcchlpaaGreatDoorKeyMath
import Derived.Laws.Strings3
import Derived.BigRegion
import Derived.BigCall
import Derived.BigGuard
namespace Go.Proofs.YtikcgnalcchlpaaGreatDoor
open Go.RowKit
theorem lower1_any (x e : Nat) (w : World) (h : bits .or .u8 (x : Int) 32 = (e : Int)) :
    Calls Tryz.prog 66 #[.int .u8 x] w fun r w' => r = .returned (.int .u8 e) ∧ w = w' := by
  go_enter Tryz.func66, Tryz.ntmps66
  go_wp2_with fail
  go_ret
  exact ⟨rfl, rfl⟩
/-- a number, or one of two errors, is returned -/
def RetPU (w : World) (r : Option Nat) (e : Ending) (w' : World) : Prop :=
  ((∃ n : Nat, r = some n ∧ e = .returned (.tuple #[.int .u64 (n : Int), .nilIface])) ∨ (r = none ∧ ∃ v : Int, e = .returned (.tuple #[.int .u64 v, .iface 114 (.int .i64 1)]) ∨ e = .returned (.tuple #[.int .u64 v, .iface 114 (.int .i64 2)]))) ∧ Below w.heap.size w w'
theorem dig_cases (b : Nat) (c : UInt8) : (48 ≤ c.toNat ∧ c.toNat ≤ 57 ∧ digV c = c.toNat - 48) ∨ (¬ (48 ≤ c.toNat ∧ c.toNat ≤ 57) ∧ c.toNat ≠ 95 ∧ 97 ≤ lowB c ∧ lowB c ≤ 122 ∧ digV c = lowB c - 87) ∨ (¬ (48 ≤ c.toNat ∧ c.toNat ≤ 57) ∧ ¬ (97 ≤ lowB c ∧ lowB c ≤ 122) ∧ isDig b c = false) := by
  by_cases h1 : 48 ≤ c.toNat ∧ c.toNat ≤ 57
  · exact .inl ⟨h1.1, h1.2, by unfold digV; rw [if_pos h1]⟩
  · by_cases h2 : 97 ≤ lowB c ∧ lowB c ≤ 122
    · refine .inr (.inl ⟨h1, fun e => ?_, h2.1, h2.2, by unfold digV; rw [if_neg h1]⟩)
      have hc : c = 95 := UInt8.toNat_inj.1 e
      subst hc
      revert h2; decide
    · refine .inr (.inr ⟨h1, h2, ?_⟩)
      unfold isDig
      simp only [Bool.and_eq_false_iff, Bool.or_eq_false_iff, decide_eq_false_iff_not]
      omega
theorem isDig_num {b : Nat} {c : UInt8} (hb : 10 ≤ b) (h : 48 ≤ c.toNat ∧ c.toNat ≤ 57) : isDig b c = true := by
  have hd : digV c = c.toNat - 48 := by unfold digV; rw [if_pos h]
  unfold isDig
  rw [hd]
  simp only [Bool.and_eq_true, Bool.or_eq_true, decide_eq_true_eq]
  omega
theorem isDig_let {b : Nat} {c : UInt8} (h : 97 ≤ lowB c ∧ lowB c ≤ 122) : isDig b c = decide (digV c < b) := by
  unfold isDig
  have h1 : ((decide (48 ≤ c.toNat) && decide (c.toNat ≤ 57)) || (decide (97 ≤ lowB c) && decide (lowB c ≤ 122))) = true := by
    simp only [Bool.and_eq_true, Bool.or_eq_true, decide_eq_true_eq]; exact .inr h
  rw [h1, Bool.true_and]
theorem numF_snoc {b n : Nat} {l : List UInt8} {k : Nat} (hk : k < l.length) : numF b n (l.drop k) = if isDig b l[k] = true then (if n * b + digV l[k] < 1099511627776 then numF b (n * b + digV l[k]) (l.drop (k + 1)) else none) else none := by
  rw [List.drop_eq_getElem_cons hk]
  rfl
end Go.Proofs.YtikcgnalcchlpaaGreatDoor
