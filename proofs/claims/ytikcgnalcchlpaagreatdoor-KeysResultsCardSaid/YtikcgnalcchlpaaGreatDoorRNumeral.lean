/- ref.Numeral. -/
import Derived.Test.YtikcgnalcchlpaaGreatDoorRNum
import Derived.Test.YtikcgnalcchlpaaGreatDoorRefWithin
import Derived.Test.YtikcgnalcchlpaaGreatDoorKNumber
namespace Go.Proofs.YtikcgnalcchlpaaGreatDoor
open Go Go.RowKit
set_option linter.unusedVariables false
theorem refNum_any (s : List UInt8) (w : World) (hl : s.length ≤ 1000000) : Calls Tryz.prog 15 #[.string (S s)] w fun e w' => e = .returned (.int .i64 (optI (numR s))) ∧ Below w.heap.size w w' := by
  by_cases hx : s.take 2 = [48, 120]
  · obtain ⟨r, rfl⟩ := take2_of hx
    have hn : numR (48 :: 120 :: r) = numU 16 r := by unfold numR; rw [if_pos hx]; rfl
    rw [hn]
    exact refNum16_any r w (by simp at hl; omega)
  · have hn : numR s = if 1 < s.length ∧ s.getD 0 0 = 48 then none else numU 10 s := by unfold numR; rw [if_neg hx]
    rw [hn]
    exact refNum10_any s w hl hx
set_option maxRecDepth 100000 in
theorem refNumeral_any (s : List UInt8) (lo hi : Int) (w : World) (hl : s.length ≤ 1000000) : Calls Tryz.prog 5 #[.string (S s), .int .i64 lo, .int .i64 hi] w fun e w' => e = .returned (.tuple #[.int .i64 (numE s lo hi).1, .int .i64 (numE s lo hi).2]) ∧ Below w.heap.size w w' := by
  have N := Lib.hid (refNum_any s w hl)
  cases hn : numR s with
  | none =>
    rw [numE_none hn]
    rw [hn] at N
    have N := Lib.hid (show Calls Tryz.prog 15 #[.string (S s)] w fun e w' => e = .returned (.int .i64 (-1)) ∧ Below w.heap.size w w' from N.out)
    clear hn
    go_enter Tryz.func5, Tryz.ntmps5
    go_wp2_with fail
    refine N.out.mono ?_
    rintro e w1 ⟨rfl, hb1⟩
    have Hb1 := Lib.hid hb1
    clear hb1
    go_wp2_with fail
    go_ret2
    exact ⟨rfl, Hb1.out⟩
  | some n =>
    rw [hn] at N
    have N := Lib.hid (show Calls Tryz.prog 15 #[.string (S s)] w fun e w' => e = .returned (.int .i64 (n : Int)) ∧ Below w.heap.size w w' from N.out)
    have h0 : ¬ (n : Int) < 0 := by omega
    by_cases h : lo ≤ (n : Int) ∧ (n : Int) ≤ hi
    · rw [numE_in hn h.1 h.2]
      have WT := Lib.hid (fun W => within_true n lo hi W h.1 h.2)
      clear hn h
      go_enter Tryz.func5, Tryz.ntmps5
      go_wp2_with fail
      refine N.out.mono ?_
      rintro e w1 ⟨rfl, hb1⟩
      have Hb1 := Lib.hid hb1
      clear hb1
      go_wp2_with fail
      refine (WT.out _).mono ?_
      rintro e w' ⟨rfl, rfl⟩
      go_wp2_with fail
      go_ret2
      exact ⟨rfl, Hb1.out⟩
    · have ho : (n : Int) < lo ∨ hi < (n : Int) := by omega
      rw [numE_off hn ho]
      have WF := Lib.hid (fun W => within_false n lo hi W ho)
      clear hn h ho
      go_enter Tryz.func5, Tryz.ntmps5
      go_wp2_with fail
      refine N.out.mono ?_
      rintro e w1 ⟨rfl, hb1⟩
      have Hb1 := Lib.hid hb1
      clear hb1
      go_wp2_with fail
      refine (WF.out _).mono ?_
      rintro e w' ⟨rfl, rfl⟩
      go_wp2_with fail
      go_ret2
      exact ⟨rfl, Hb1.out⟩
end Go.Proofs.YtikcgnalcchlpaaGreatDoor
