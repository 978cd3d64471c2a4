/- serial.Before, After, Within. -/
import Derived.Test.YtoponmdfjbhnoaaSerialMath
import Derived.Test.YtoponmdfjbhnoaaRows
namespace Go.Proofs.Ytoponmdfjbhnoaa
open Go.RowKit
set_option linter.unusedVariables false
theorem ret_b {a b : Bool} (h : a = b) : Ending.returned (.bool a) = .returned (.bool b) := by rw [h]
abbrev U32 (a : Int) : Prop := 0 ≤ a ∧ a < 4294967296
theorem before_any (a b : Int) (w : World) (ha : U32 a) (hb : U32 b) :
    Calls Try.prog 7 #[.int .u32 a, .int .u32 b] w fun e w' => e = .returned (.bool (beforeB a b)) ∧ w = w' := by
  have hB : decide (0 < wrap32 ((b - a) % 4294967296)) = beforeB a b := by
    unfold beforeB wrap32
    obtain ⟨d, hd⟩ : ∃ d, (b - a) % 4294967296 = d := ⟨_, rfl⟩
    have h0 : 0 ≤ d ∧ d < 4294967296 := by omega
    rw [hd]
    by_cases h1 : 1 ≤ d ∧ d ≤ 2147483647
    · rw [decide_eq_true h1.1, decide_eq_true h1.2]; exact decide_eq_true (by omega)
    · have h2 : (decide (1 ≤ d) && decide (d ≤ 2147483647)) = false := by simp; omega
      rw [h2]; exact decide_eq_false (by omega)
  clear ha hb
  go_enter Try.func7, Try.ntmps7
  go_wp2_with fail
  go_ret
  exact ⟨rfl, rfl⟩
theorem after_any (a n : Int) (w : World) :
    Calls Try.prog 9 #[.int .u32 a, .int .i64 n] w fun e w' => e = .returned (.int .u32 (afterI a n)) ∧ w = w' := by
  have hA : (a + n % 4294967296) % 4294967296 = afterI a n := by unfold afterI; omega
  go_enter Try.func9, Try.ntmps9
  go_wp2_with fail
  go_ret
  exact ⟨ret_int hA, rfl⟩
theorem within_any (n a b : Int) (w : World) (hn : U32 n) (ha : U32 a) (hb : U32 b) :
    Calls Try.prog 11 #[.int .u32 n, .int .u32 a, .int .u32 b] w fun e w' => e = .returned (.bool (withinB n a b)) ∧ w = w' := by
  obtain ⟨hn0, hn1⟩ := hn
  obtain ⟨ha0, ha1⟩ := ha
  obtain ⟨hb0, hb1⟩ := hb
  by_cases h : (b + 1) % 4294967296 = a
  · have hB : withinB n a b = false := by
      unfold withinB
      exact decide_eq_false (by omega)
    rw [hB]
    clear hB
    go_enter Try.func11, Try.ntmps11
    go_wp2_with fail
    go_ret
    exact ⟨rfl, rfl⟩
  · have hB : ((b + 1) % 4294967296 != a && decide ((n - a) % 4294967296 ≤ (b - a) % 4294967296)) = withinB n a b := by
      have h1 : ((b + 1) % 4294967296 != a) = true := by simpa using h
      rw [h1, Bool.true_and]
      unfold withinB
      have e : (b - a + 1) % 4294967296 = (b - a) % 4294967296 + 1 := by omega
      rw [e]
      by_cases h2 : (n - a) % 4294967296 ≤ (b - a) % 4294967296
      · rw [decide_eq_true h2, decide_eq_true (by omega)]
      · rw [decide_eq_false h2, decide_eq_false (by omega)]
    go_enter Try.func11, Try.ntmps11
    go_wp2_with fail
    go_ret
    exact ⟨rfl, rfl⟩
theorem rounded_fact (w : World) : Calls Try.prog 13 #[] w fun e w' => e = .returned (.bool true) ∧ Below w.heap.size w w' := by
  have d1 := fun W => before_any 1 2 W (by decide) (by decide)
  have d2 := fun W => before_any 4294967295 0 W (by decide) (by decide)
  have d3 := fun W => before_any 5 5 W (by decide) (by decide)
  have d4 := fun W => before_any 0 2147483648 W (by decide) (by decide)
  have d5 := fun W => after_any 4294967295 2 W
  have d6 := fun W => within_any 0 4294967295 3 W (by decide) (by decide) (by decide)
  have d7 := fun W => within_any 4 4294967295 3 W (by decide) (by decide) (by decide)
  have d8 := fun W => within_any 3 3 2 W (by decide) (by decide) (by decide)
  rw [show beforeB 1 2 = true by decide] at d1
  rw [show beforeB 4294967295 0 = true by decide] at d2
  rw [show beforeB 5 5 = false by decide] at d3
  rw [show beforeB 0 2147483648 = false by decide] at d4
  rw [show afterI 4294967295 2 = 1 by decide] at d5
  rw [show withinB 0 4294967295 3 = true by decide] at d6
  rw [show withinB 4 4294967295 3 = false by decide] at d7
  rw [show withinB 3 3 2 = false by decide] at d8
  have D1 := Lib.hid d1
  have D2 := Lib.hid d2
  have D3 := Lib.hid d3
  have D4 := Lib.hid d4
  have D5 := Lib.hid d5
  have D6 := Lib.hid d6
  have D7 := Lib.hid d7
  have D8 := Lib.hid d8
  clear d1 d2 d3 d4 d5 d6 d7 d8
  go_enter Try.func13, Try.ntmps13
  go_wp2_with fail
  refine (D1.out _).mono ?_
  rintro e w' ⟨rfl, rfl⟩
  go_wp2_with fail
  refine (D2.out _).mono ?_
  rintro e w' ⟨rfl, rfl⟩
  go_wp2_with fail
  refine (D3.out _).mono ?_
  rintro e w' ⟨rfl, rfl⟩
  go_wp2_with fail
  refine (D4.out _).mono ?_
  rintro e w' ⟨rfl, rfl⟩
  go_wp2_with fail
  refine (D5.out _).mono ?_
  rintro e w' ⟨rfl, rfl⟩
  go_wp2_with fail
  refine (D6.out _).mono ?_
  rintro e w' ⟨rfl, rfl⟩
  go_wp2_with fail
  refine (D7.out _).mono ?_
  rintro e w' ⟨rfl, rfl⟩
  go_wp2_with fail
  refine (D8.out _).mono ?_
  rintro e w' ⟨rfl, rfl⟩
  go_wp2_with fail
  go_ret
  exact ⟨rfl, Below.refl _ _⟩
end Go.Proofs.Ytoponmdfjbhnoaa
