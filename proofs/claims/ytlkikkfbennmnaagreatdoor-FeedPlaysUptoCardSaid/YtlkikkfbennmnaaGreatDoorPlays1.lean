/- FeedPlays' own closure: two pieces are one. -/
import Derived.Test.YtlkikkfbennmnaaGreatDoorRefSame
import Derived.Test.YtlkikkfbennmnaaGreatDoorFeedOk
import Derived.Test.YtlkikkfbennmnaaGreatDoorFeedNext
namespace Go.Proofs.YtlkikkfbennmnaaGreatDoor
open Go.RowKit
set_option linter.unusedVariables false
set_option maxRecDepth 100000 in
theorem plays1_any (q : Pc) (p1 p2 p3 p4 : Option Addr) (n1 n2 n3 n4 c1 c2 c3 c4 : Nat) (w : World) (h : PduAt w q.p (.slice p1 n1 c1) (.slice p2 n2 c2)) (h' : PduAt w q.p (.slice p3 n3 c3) (.slice p4 n4 c4)) (ok : PcOk q) :
    Calls Tryz.prog 33 #[.agg #[.int .i64 q.p.h.op, .bool q.p.h.now, .int .i64 q.p.h.fl, .slice p1 n1 c1, .slice p2 n2 c2, .string (S q.p.d), .string (S q.sp)], .agg #[.int .i64 q.p.h.op, .bool q.p.h.now, .int .i64 q.p.h.fl, .slice p3 n3 c3, .slice p4 n4 c4, .string (S q.p.d), .string (S q.sp)]] w fun e w' => e = .returned (.bool true) ∧ Below w.heap.size w w' := by
  have hb1 := (Below.refl w.heap.size w).alloc (Nat.le_refl _) (.cells #[.int .i64 q.p.h.op, .bool q.p.h.now, .int .i64 q.p.h.fl, .slice p1 n1 c1, .slice p2 n2 c2, .string (S q.p.d), .string (S q.sp)] 47)
  have hb2 := hb1.alloc hb1.size (.cells #[.int .i64 q.p.h.op, .bool q.p.h.now, .int .i64 q.p.h.fl, .slice p3 n3 c3, .slice p4 n4 c4, .string (S q.p.d), .string (S q.sp)] 47)
  have S1 := refSame_same q.p _ _ _ _ _ (h.later hb2) (h'.later hb2) ok.v ok.a
  unfold pduV at S1
  have S1 := Lib.hid S1
  have Hb2 := Lib.hid hb2
  clear h h' ok hb1 hb2
  go_enter Tryz.func33, Tryz.ntmps33
  go_wp2_with fail
  refine S1.out.mono ?_
  rintro e w3 ⟨rfl, hb3⟩
  have Hb3 := Lib.hid (below_then Hb2.out hb3)
  clear hb3 S1
  go_wp2_with fail
  go_ret
  exact ⟨rfl, Hb3.out⟩
end Go.Proofs.YtlkikkfbennmnaaGreatDoor
