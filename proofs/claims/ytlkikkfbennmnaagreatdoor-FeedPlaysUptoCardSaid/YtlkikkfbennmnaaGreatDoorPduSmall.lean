/- pdu.Modes, room, digest, endsOf. -/
import Derived.Test.YtlkikkfbennmnaaGreatDoorCrcC
import Derived.Test.YtlkikkfbennmnaaGreatDoorPduMath
import Derived.Test.YtlkikkfbennmnaaGreatDoorGB
import Derived.Test.YtlkikkfbennmnaaGreatDoorGC
import Derived.StillTailTactics
import Derived.IntWalk
import Derived.Deep.RegionHeld3
namespace Go.Proofs.YtlkikkfbennmnaaGreatDoor
open Go.RowKit
set_option linter.unusedVariables false
theorem okM_fl (n : Int) : flOk n 3 = true ↔ okM n := by
  unfold flOk okM
  simp only [Bool.and_eq_true, decide_eq_true_eq, beq_iff_eq, nat_mask2]
  omega
theorem modes_bits (n : Int) (h : I64 n) : (bits .andNot .i64 n 3 == 0) = decide (okM n) := by
  have := andNot_fl n 3 (by decide) h.1 h.2
  rw [okM_fl] at this
  by_cases hk : okM n
  · rw [decide_eq_true hk, beq_iff_eq]; exact this.2 hk
  · rw [decide_eq_false hk, beq_eq_false_iff_ne]; exact fun e => hk (this.1 e)
theorem modes_any (n : Int) (w : World) (h : I64 n) : Calls Tryz.prog 36 #[.int .i64 n] w fun e w' => e = .returned (.bool (decide (okM n))) ∧ w = w' := by
  have hb := modes_bits n h
  clear h
  go_enter Tryz.func36, Tryz.ntmps36
  go_wp2_with fail
  go_ret
  exact ⟨rfl, rfl⟩
theorem room_bits (m b : Nat) (hm : m ≤ 3) (hb : b = 1 ∨ b = 2) : (bits .and .i64 (m : Int) (b : Int) == 0) = !(onM m b) := by
  obtain rfl | rfl | rfl | rfl : m = 0 ∨ m = 1 ∨ m = 2 ∨ m = 3 := by omega
  all_goals (obtain rfl | rfl := hb) <;> decide +kernel
theorem room_any (n m b : Nat) (w : World) (hm : m ≤ 3) (hb : b = 1 ∨ b = 2) : Calls Tryz.prog 77 #[.int .i64 (n : Int), .int .i64 (m : Int), .int .i64 (b : Int)] w fun e w' => e = .returned (.int .i64 (room m b n : Nat)) ∧ w' = w := by
  have hbits := room_bits m b hm hb
  cases ho : onM m b with
  | false =>
    have hr : room m b n = 0 := by unfold room; rw [ho, if_neg (by simp)]
    rw [hr]
    rw [ho] at hbits
    clear hb hm ho hr
    go_enter Tryz.func77, Tryz.ntmps77
    go_wp2_with fail
    go_ret
    exact ⟨rfl, rfl⟩
  | true =>
    rw [ho] at hbits
    by_cases hn : n = 0
    · subst hn
      have hr : room m b 0 = 0 := by unfold room; rw [if_neg (by simp)]
      rw [hr]
      clear hb hm ho hr
      go_enter Tryz.func77, Tryz.ntmps77
      go_wp2_with fail
      go_ret
      exact ⟨rfl, rfl⟩
    · have hr : room m b n = 4 := by unfold room; rw [ho, if_pos ⟨rfl, hn⟩]
      rw [hr]
      have hne : ((n : Int) == 0) = false := by rw [beq_eq_false_iff_ne]; omega
      clear hb hm ho hr
      go_enter Tryz.func77, Tryz.ntmps77
      go_wp2_with fail
      go_ret
      exact ⟨rfl, rfl⟩
theorem digest_dig (s : List UInt8) (m b : Nat) (w : World) (hl : s.length ≤ 4294967280) (hm : m ≤ 3) (hb : b = 1 ∨ b = 2) :
    Calls Tryz.prog 50 #[.string (S s), .int .i64 (m : Int), .int .i64 (b : Int)] w fun e w' => e = .returned (.string (S (dig m b s))) ∧ Below w.heap.size w w' := by
  have R := fun w => Lib.hid (room_any s.length m b w hm hb)
  have C := fun w => Lib.hid (digest_any s w hl)
  by_cases ho : onM m b = true ∧ s.length ≠ 0
  · have hr : room m b s.length = 4 := by unfold room; rw [if_pos ho]
    have hd : dig m b s = digest s := by unfold dig; rw [if_pos ho]
    rw [hd]
    simp only [hr] at R
    clear ho hr hd hm hb hl
    go_enter Tryz.func50, Tryz.ntmps50
    go_wp2_with fail
    refine (R _).out.mono ?_
    rintro e w1 ⟨rfl, rfl⟩
    go_wp2_with fail
    refine (C _).out.mono ?_
    rintro e w2 ⟨rfl, hb2⟩
    go_wp2_with fail
    go_ret
    exact ⟨rfl, hb2⟩
  · have hr : room m b s.length = 0 := by unfold room; rw [if_neg ho]
    have hd : dig m b s = [] := by unfold dig; rw [if_neg ho]
    rw [hd]
    simp only [hr] at R
    clear ho hr hd hm hb hl C
    go_enter Tryz.func50, Tryz.ntmps50
    go_wp2_with fail
    refine (R _).out.mono ?_
    rintro e w1 ⟨rfl, rfl⟩
    go_wp2_with fail
    go_ret
    exact ⟨rfl, Below.refl _ _⟩
end Go.Proofs.YtlkikkfbennmnaaGreatDoor
