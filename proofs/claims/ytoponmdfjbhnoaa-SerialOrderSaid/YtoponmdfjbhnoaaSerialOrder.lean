/- SerialOrder: of two numbers that aren't one just one is ahead, but of those that are farthest apart neither is. -/
import Derived.Test.YtoponmdfjbhnoaaSerial
import Derived.Test.YtoponmdfjbhnoaaPick
namespace Go.Proofs.Ytoponmdfjbhnoaa
open Go.RowKit
set_option maxHeartbeats 4000000 in
theorem order_walk (a b : Nat) (x y f n : Bool) (w : World) (ha : a < 2 ^ 32) (hb : b < 2 ^ 32) (hx : beforeB a b = x) (hy : beforeB b a = y) (hf : (((a ^^^ b : Nat) : Int) == 2147483648) = f) (hn : ((a : Int) != (b : Int)) = n) (h : ((x || y) == (n && !f) && !(x && y)) = true) :
    Calls Try.prog 4 #[.int .u32 a, .int .u32 b] w fun e w' => e = .returned (.bool true) ∧ Below w.heap.size w w' := by
  have F := Lib.hid (rounded_fact w)
  have C1 := Lib.hid (fun W => before_any a b W ⟨by omega, by omega⟩ ⟨by omega, by omega⟩)
  have C2 := Lib.hid (fun W => before_any b a W ⟨by omega, by omega⟩ ⟨by omega, by omega⟩)
  rw [hx] at C1
  rw [hy] at C2
  have hb1 := u32_xor_nat a b ha hb
  generalize a ^^^ b = X at hf hb1
  clear hx hy
  cases x <;> cases y <;> cases f <;> cases n <;> simp at h
  all_goals
    go_enter Try.func4, Try.ntmps4
    go_wp2_with fail
    refine F.out.mono ?_
    rintro e w1 ⟨rfl, hlow⟩
    go_wp2_with fail
    refine (C1.out _).mono ?_
    rintro e w' ⟨rfl, rfl⟩
    go_wp2_with fail
    refine (C2.out _).mono ?_
    rintro e w' ⟨rfl, rfl⟩
    go_wp2_with fail
    go_ret
    exact ⟨by simp_all, hlow⟩
theorem serialOrder_any (a b : Int) (w : World) (ha : (Lit.int .u32 a).wf = true) (hb : (Lit.int .u32 b).wf = true) :
    Calls Try.prog 4 #[.int .u32 a, .int .u32 b] w fun e w' => e = .returned (.bool true) ∧ Below w.heap.size w w' := by
  obtain ⟨a, rfl, la⟩ := wf_u32 ha
  obtain ⟨b, rfl, lb⟩ := wf_u32 hb
  obtain ⟨h1, h2⟩ := order_sides a b la lb
  have h3 := xor_far a b la lb
  refine order_walk a b _ _ _ _ w la lb rfl rfl rfl rfl ?_
  have h4 : (((a ^^^ b : Nat) : Int) = 2147483648) ↔ ((b : Int) - a) % 4294967296 = 2147483648 := by rw [← h3]; omega
  generalize a ^^^ b = X at h3 h4
  by_cases c1 : ((b : Int) - a) % 4294967296 = 0
  · have hab : (a : Int) = b := by omega
    have e1 : beforeB a b = false := Bool.eq_false_iff.2 fun h => by have := h1.1 h; omega
    have e2 : beforeB b a = false := Bool.eq_false_iff.2 fun h => by have := h2.1 h; omega
    rw [e1, e2, hab]; simp
  · have hab : (a : Int) ≠ b := by omega
    have e0 : ((a : Int) != (b : Int)) = true := by simpa using hab
    by_cases c2 : ((b : Int) - a) % 4294967296 = 2147483648
    · have e1 : beforeB a b = false := Bool.eq_false_iff.2 fun h => by have := h1.1 h; omega
      have e2 : beforeB b a = false := Bool.eq_false_iff.2 fun h => by have := h2.1 h; omega
      rw [e1, e2, e0, show ((X : Int) == 2147483648) = true from beq_iff_eq.2 (h4.2 c2)]; rfl
    · rw [e0, show ((X : Int) == 2147483648) = false from beq_eq_false_iff_ne.2 (fun h => c2 (h4.1 h))]
      by_cases c3 : ((b : Int) - a) % 4294967296 ≤ 2147483647
      · have e1 : beforeB a b = true := h1.2 (by omega)
        have e2 : beforeB b a = false := Bool.eq_false_iff.2 fun h => by have := h2.1 h; omega
        rw [e1, e2]; rfl
      · have e1 : beforeB a b = false := Bool.eq_false_iff.2 fun h => by have := h1.1 h; omega
        have e2 : beforeB b a = true := h2.2 (by omega)
        rw [e1, e2]; rfl
end Go.Proofs.Ytoponmdfjbhnoaa
