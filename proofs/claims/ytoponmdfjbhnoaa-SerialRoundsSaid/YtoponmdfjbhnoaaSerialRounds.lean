/- SerialRounds: any numbers that go round are the document's. -/
import Derived.Test.YtoponmdfjbhnoaaSerial
import Derived.Test.YtoponmdfjbhnoaaPick
import Derived.Test.YtoponmdfjbhnoaaRefWithin
namespace Go.Proofs.Ytoponmdfjbhnoaa
open Go.RowKit
theorem refBefore_any (a b : Int) (w : World) (ha : U32 a) (hb : U32 b) :
    Calls Try.prog 8 #[.int .u32 a, .int .u32 b] w fun e w' => e = .returned (.bool (beforeB a b)) ∧ w = w' := by
  have h0 : 0 ≤ b - a + 4294967296 := by omega
  have h1 : (b - a + 4294967296).tmod 4294967296 = (b - a) % 4294967296 := by rw [Int.tmod_eq_emod_of_nonneg h0]; omega
  obtain ⟨d, hd⟩ : ∃ d, (b - a) % 4294967296 = d := ⟨_, rfl⟩
  have hB : beforeB a b = (decide (1 ≤ d) && decide (d ≤ 2147483647)) := by unfold beforeB; rw [hd]
  rw [hd] at h1
  rw [hB]
  have hd2 : 0 ≤ d ∧ d < 4294967296 := by omega
  clear hB hd
  obtain ⟨ha0, ha1⟩ := ha
  obtain ⟨hb0, hb1⟩ := hb
  by_cases h : 1 ≤ d ∧ d ≤ 2147483647
  · rw [decide_eq_true h.1, decide_eq_true h.2]
    have C := Lib.hid (fun W => within_true d 1 2147483647 W h.1 h.2)
    go_enter Try.func8, Try.ntmps8
    go_wp2_with fail
    refine (C.out _).mono ?_
    rintro e w' ⟨rfl, rfl⟩
    go_wp2_with fail
    go_ret
    exact ⟨rfl, rfl⟩
  · rw [show (decide (1 ≤ d) && decide (d ≤ 2147483647)) = false by simp; omega]
    have C := Lib.hid (fun W => within_false d 1 2147483647 W (by omega))
    go_enter Try.func8, Try.ntmps8
    go_wp2_with fail
    refine (C.out _).mono ?_
    rintro e w' ⟨rfl, rfl⟩
    go_wp2_with fail
    go_ret
    exact ⟨rfl, rfl⟩
theorem tmod_abs (n : Int) : -4294967296 < n.tmod 4294967296 ∧ n.tmod 4294967296 < 4294967296 ∧ (n.tmod 4294967296) % 4294967296 = n % 4294967296 := by
  have h := Int.mul_tdiv_add_tmod n 4294967296
  have h1 := Int.tmod_lt_of_pos n (show (0 : Int) < 4294967296 by decide)
  have h2 := Int.lt_tmod_of_pos n (show (0 : Int) < 4294967296 by decide)
  refine ⟨by omega, h1, by omega⟩
theorem refAfter_any (a n : Int) (w : World) (ha : U32 a) :
    Calls Try.prog 10 #[.int .u32 a, .int .i64 n] w fun e w' => e = .returned (.int .u32 (afterI a n)) ∧ w = w' := by
  obtain ⟨ha0, ha1⟩ := ha
  obtain ⟨r, hr⟩ : ∃ r, n.tmod 4294967296 = r := ⟨_, rfl⟩
  obtain ⟨h1, h2, h3⟩ := tmod_abs n
  rw [hr] at h1 h2 h3
  obtain ⟨q, hq⟩ : ∃ q, (a + r).tmod 4294967296 = q := ⟨_, rfl⟩
  obtain ⟨h4, h5, h6⟩ := tmod_abs (a + r)
  rw [hq] at h4 h5 h6
  obtain ⟨z, hz⟩ : ∃ z, (q + 4294967296).tmod 4294967296 = z := ⟨_, rfl⟩
  have h7 : z = (q + 4294967296) % 4294967296 := by rw [← hz, Int.tmod_eq_emod_of_nonneg (by omega)]
  have h8 : z % 4294967296 = afterI a n := by unfold afterI; omega
  have h9 : z = afterI a n := by unfold afterI; omega
  have h10 : 0 ≤ z ∧ z < 4294967296 := by omega
  clear h3 h6 h7
  go_enter Try.func10, Try.ntmps10
  go_wp2_with fail
  go_ret
  exact ⟨rfl, rfl⟩
theorem refWithin_any (n a b : Int) (w : World) (hn : U32 n) (ha : U32 a) (hb : U32 b) :
    Calls Try.prog 12 #[.int .u32 n, .int .u32 a, .int .u32 b] w fun e w' => e = .returned (.bool (withinB n a b)) ∧ w = w' := by
  obtain ⟨hn0, hn1⟩ := hn
  obtain ⟨ha0, ha1⟩ := ha
  obtain ⟨hb0, hb1⟩ := hb
  have h1 : (b - a + 1 + 4294967296).tmod 4294967296 = (b - a + 1) % 4294967296 := by rw [Int.tmod_eq_emod_of_nonneg (by omega)]; omega
  have h2 : (n - a + 4294967296).tmod 4294967296 = (n - a) % 4294967296 := by rw [Int.tmod_eq_emod_of_nonneg (by omega)]; omega
  go_enter Try.func12, Try.ntmps12
  go_wp2_with fail
  go_ret
  exact ⟨rfl, rfl⟩
theorem serialRounds_any (a b c n : Int) (w : World) (ha : (Lit.int .u32 a).wf = true) (hb : (Lit.int .u32 b).wf = true) (hc : (Lit.int .u32 c).wf = true) (_hn : (Lit.int .i64 n).wf = true) :
    Calls Try.prog 3 #[.int .u32 a, .int .u32 b, .int .u32 c, .int .i64 n] w fun e w' => e = .returned (.bool true) ∧ Below w.heap.size w w' := by
  obtain ⟨a, rfl, ha⟩ := wf_u32 ha
  obtain ⟨b, rfl, hb⟩ := wf_u32 hb
  obtain ⟨c, rfl, hc⟩ := wf_u32 hc
  have A : U32 (a : Int) := ⟨by omega, by omega⟩
  have B : U32 (b : Int) := ⟨by omega, by omega⟩
  have C : U32 (c : Int) := ⟨by omega, by omega⟩
  have C1 := Lib.hid (fun W => before_any a b W A B)
  have C2 := Lib.hid (fun W => refBefore_any a b W A B)
  have C3 := Lib.hid (fun W => after_any a n W)
  have C4 := Lib.hid (fun W => refAfter_any a n W A)
  have C5 := Lib.hid (fun W => within_any a b c W A B C)
  have C6 := Lib.hid (fun W => refWithin_any a b c W A B C)
  generalize beforeB (a : Int) b = x at C1 C2
  generalize afterI (a : Int) n = y at C3 C4
  generalize withinB (a : Int) b c = z at C5 C6
  go_enter Try.func3, Try.ntmps3
  go_wp2_with fail
  refine (C1.out _).mono ?_
  rintro e w' ⟨rfl, rfl⟩
  go_wp2_with fail
  refine (C2.out _).mono ?_
  rintro e w' ⟨rfl, rfl⟩
  have h1 : (x == x) = true := by simp
  go_wp2_with fail
  refine (C3.out _).mono ?_
  rintro e w' ⟨rfl, rfl⟩
  go_wp2_with fail
  refine (C4.out _).mono ?_
  rintro e w' ⟨rfl, rfl⟩
  go_wp2_with fail
  refine (C5.out _).mono ?_
  rintro e w' ⟨rfl, rfl⟩
  go_wp2_with fail
  refine (C6.out _).mono ?_
  rintro e w' ⟨rfl, rfl⟩
  go_wp2_with fail
  go_ret
  exact ⟨by simp, Below.refl _ _⟩
end Go.Proofs.Ytoponmdfjbhnoaa
