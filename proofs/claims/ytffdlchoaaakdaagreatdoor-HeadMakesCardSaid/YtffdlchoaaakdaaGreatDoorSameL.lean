/- quaymasterlaw.sameHead at the same head. -/
import Derived.Test.YtffdlchoaaakdaaGreatDoorEqU
namespace Go.Proofs.YtffdlchoaaakdaaGreatDoor
open Go.RowKit
theorem sameL_same (h : Hd) (v v' : Value) (w : World) (hv : Vals w v h.vs) (hv' : Vals w v' h.vs) (hl : h.vs.length ≤ 140737488355328) :
    Calls Tryz.prog 19 #[headV h v, headV h v'] w fun e w' => e = .returned (.bool true) ∧ Below w.heap.size w w' := by
  obtain ⟨op, now, fl, vs⟩ := h
  unfold headV
  simp only at *
  have hb0 := ((Below.refl w.heap.size w).alloc (Nat.le_refl _) (.cells #[.int .i64 op, .bool now, .int .i64 fl, v] 24)).alloc (by simp) (.cells #[.int .i64 op, .bool now, .int .i64 fl, v'] 24)
  have C := Lib.hid (equalU_same vs v v' _ (hv.later hb0) (hv'.later hb0) hl)
  have Hb0 := Lib.hid hb0
  clear hb0 hv hv'
  go_enter Tryz.func19, Tryz.ntmps19
  go_wp2_with fail
  refine C.out.mono ?_
  rintro e w1 ⟨rfl, hb⟩
  have Hb := Lib.hid (below_then Hb0.out hb)
  clear hb
  go_wp2_with fail
  go_ret
  exact ⟨rfl, Hb.out⟩
end Go.Proofs.YtffdlchoaaakdaaGreatDoor
