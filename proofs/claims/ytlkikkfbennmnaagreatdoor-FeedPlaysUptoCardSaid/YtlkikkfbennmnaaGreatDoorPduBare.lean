/- pdu.bare: the first of two errors, without its place. -/
import Derived.Test.YtlkikkfbennmnaaGreatDoorGC
import Derived.Test.YtlkikkfbennmnaaGreatDoorGA
namespace Go.Proofs.YtlkikkfbennmnaaGreatDoor
open Go.RowKit
theorem idx2_0 (a b : Value) (w : World) : (Instr.index 100 (.agg #[a, b]) (.int .i64 0)).run Tryz.prog w = .ok a w := by kernel_rfl
theorem idx2_1 (a b : Value) (w : World) : (Instr.index 100 (.agg #[a, b]) (.int .i64 1)).run Tryz.prog w = .ok b w := by kernel_rfl
theorem ErrIs.shape {w : World} {v : Value} {n p : Int} (h : ErrIs w v n p) : v = .nilIface ∨ ∃ t x, v = .iface t x := by
  cases h
  · exact .inl rfl
  · exact .inr ⟨_, _, rfl⟩
  · exact .inr ⟨_, _, rfl⟩
/-- an error of no place is one in every world -/
def Bare1 (v : Value) (n : Int) : Prop := (n = 0 ∧ v = .nilIface) ∨ (n ≠ 0 ∧ v = .iface 51 (.int .i64 n))
theorem Bare1.is {v : Value} {n : Int} (h : Bare1 v n) (W : World) : ErrIs W v n (-1) := by
  rcases h with ⟨rfl, rfl⟩ | ⟨hn, rfl⟩
  · exact .good
  · exact .bare n hn
theorem Bare1.v {v : Value} {n : Int} (h : Bare1 v n) : v = errV n := by
  rcases h with ⟨rfl, rfl⟩ | ⟨hn, rfl⟩
  · rfl
  · exact (errV_pos n hn).symm
theorem Bare1.zero {v : Value} (h : Bare1 v 0) : v = .nilIface := h.v
theorem Bare1.iface {v : Value} {n : Int} (h : Bare1 v n) (hn : n ≠ 0) : v = .iface 51 (.int .i64 n) := by rw [h.v, errV_pos n hn]
/-- the first one's number -/
def fstE (a b : Int) : Int := if a ≠ 0 then a else b
theorem fst_first {α : Type} (n1 n2 : Int) (f : Int → α) (X : α) (h : fstE n1 n2 ≠ 0) : (if n1 ≠ 0 then f n1 else if n2 ≠ 0 then f n2 else X) = f (fstE n1 n2) := by
  unfold fstE at *
  by_cases h1 : n1 = 0
  · simp_all
  · simp_all
set_option maxRecDepth 100000 in
theorem bare2_any {v1 v2 : Value} {n1 p1 n2 p2 : Int} (w : World) (h1 : ErrIs w v1 n1 p1) (h2 : ErrIs w v2 n2 p2) (hg : ErrCell w) :
    Calls Tryz.prog 45 #[.agg #[v1, v2]] w fun e w' => ∃ v, e = .returned v ∧ Bare1 v (fstE n1 n2) ∧ Below w.heap.size w w' := by
  have hb0 := (Below.refl w.heap.size w).alloc (Nat.le_refl _) (.cells #[v1, v2] 100)
  have T1 := Lib.hid (tell_is (h1.later hb0) (hg.later hb0))
  have T2 := Lib.hid (tell_is (h2.later hb0) (hg.later hb0))
  have Hb0 := Lib.hid hb0
  by_cases hn1 : n1 = 0
  · subst hn1
    obtain rfl := h1.zero
    by_cases hn2 : n2 = 0
    · subst hn2
      obtain rfl := h2.zero
      have i0 := idx2_0 .nilIface .nilIface
      have i1 := idx2_1 .nilIface .nilIface
      rw [show fstE 0 0 = 0 from rfl]
      clear h1 h2 hg hb0
      go_enter Tryz.func45, Tryz.ntmps45
      go_wp2_with fail
      refine wp_loop_rounds 3 ?_
      rw [rounds_succ]
      go_wp2_with fail
      rw [rounds_succ]
      go_wp2_with fail
      rw [rounds_succ]
      go_wp2_with fail
      go_ret
      exact ⟨_, rfl, .inl ⟨rfl, rfl⟩, Hb0.out⟩
    · obtain ⟨t, x, rfl⟩ := h2.iface hn2
      have i0 := idx2_0 .nilIface (.iface t x)
      have i1 := idx2_1 .nilIface (.iface t x)
      rw [show fstE 0 n2 = n2 from rfl]
      have Hn := Lib.hid hn2
      clear h1 h2 hg hb0 hn2
      go_enter Tryz.func45, Tryz.ntmps45
      go_wp2_with fail
      refine wp_loop_rounds 3 ?_
      rw [rounds_succ]
      go_wp2_with fail
      rw [rounds_succ]
      go_wp2_with fail
      refine T2.out.mono ?_
      rintro e w1 ⟨rfl, hb1⟩
      go_wp2_with fail
      go_ret
      exact ⟨_, rfl, .inr ⟨Hn.out, rfl⟩, below_then Hb0.out hb1⟩
  · obtain ⟨t, x, rfl⟩ := h1.iface hn1
    have i0 := idx2_0 (.iface t x) v2
    rw [show fstE n1 n2 = n1 from by unfold fstE; rw [if_pos hn1]]
    have Hn := Lib.hid hn1
    clear h1 h2 hg hb0 hn1
    go_enter Tryz.func45, Tryz.ntmps45
    go_wp2_with fail
    refine wp_loop_rounds 3 ?_
    rw [rounds_succ]
    go_wp2_with fail
    refine T1.out.mono ?_
    rintro e w1 ⟨rfl, hb1⟩
    go_wp2_with fail
    go_ret
    exact ⟨_, rfl, .inr ⟨Hn.out, rfl⟩, below_then Hb0.out hb1⟩
end Go.Proofs.YtlkikkfbennmnaaGreatDoor
