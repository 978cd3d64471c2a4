/- Numbers in range; pick. -/
import Derived.Test.YtoponmdfjbhnoaaDoorRows
import Derived.Test.YtoponmdfjbhnoaaDoorBase
namespace Go.Proofs.YtoponmdfjbhnoaaDoor
open Go.RowKit
theorem wf_u64 {n : Int} (h : (Lit.int .u64 n).wf = true) : ∃ k : Nat, n = k ∧ k < 2 ^ 64 := by
  have h' : 0 ≤ n ∧ n ≤ 18446744073709551615 := by simpa [Lit.wf, IntKind.min, IntKind.max, IntKind.signed, IntKind.bits] using h
  exact ⟨n.toNat, by omega, by omega⟩
theorem wf_i64 {n : Int} (h : (Lit.int .i64 n).wf = true) : -9223372036854775808 ≤ n ∧ n ≤ 9223372036854775807 := by
  simpa [Lit.wf, IntKind.min, IntKind.max, IntKind.signed, IntKind.bits] using h
theorem wf_u32 {n : Int} (h : (Lit.int .u32 n).wf = true) : ∃ k : Nat, n = k ∧ k < 2 ^ 32 := by
  have h' : 0 ≤ n ∧ n ≤ 4294967295 := by simpa [Lit.wf, IntKind.min, IntKind.max, IntKind.signed, IntKind.bits] using h
  exact ⟨n.toNat, by omega, by omega⟩
theorem u64_wrap (a : Int) : IntKind.u64.wrap a = a % 2 ^ 64 := by
  have s : IntKind.u64.signed = false := rfl
  unfold IntKind.wrap
  simp only [s, Bool.false_and, Bool.false_eq_true, if_false]
  rfl
/-- int(uint(a) % uint(n)) -/
def pickI (a : Int) (n : Nat) : Nat := (a % 2 ^ 64).toNat % n
theorem pickI_lt (a : Int) (n : Nat) (hn : 0 < n) : pickI a n < n := Nat.mod_lt _ hn
theorem pick_walk (a : Int) (n : Nat) (hn : 0 < n) (h : n ≤ 4611686018427387904) : wrap64 ((IntKind.u64.wrap a).tmod (n : Int)) = ((pickI a n : Nat) : Int) := by
  have h0 : 0 ≤ a % 2 ^ 64 := Int.emod_nonneg _ (by decide)
  have e : (IntKind.u64.wrap a).tmod (n : Int) = ((pickI a n : Nat) : Int) := by
    rw [u64_wrap, Int.tmod_eq_emod_of_nonneg h0]
    unfold pickI
    generalize a % 2 ^ 64 = m at h0
    obtain ⟨k, rfl⟩ := Int.eq_ofNat_of_zero_le h0
    rw [Int.toNat_natCast, Int.natCast_emod]
  have hlt := pickI_lt a n hn
  rw [e]
  exact IntWalk.wrap64_in _ ⟨by omega, by omega⟩
theorem pick_any (a : Int) (n : Nat) (w : World) (hn : 0 < n) (h : n ≤ 4611686018427387904) :
    Calls Tryd.prog 10 #[.int .i64 a, .int .i64 n] w fun e w' => e = .returned (.int .i64 (pickI a n : Nat)) ∧ w = w' := by
  have hp := pick_walk a n hn h
  have hn2 : (n : Int) ≠ 0 := by omega
  go_enter Tryd.func10, Tryd.ntmps10
  go_wp2_with fail
  go_ret
  exact ⟨ret_int hp, rfl⟩

end Go.Proofs.YtoponmdfjbhnoaaDoor
