/- quaymasterlaw.placed. -/
import Derived.Test.YteapbjeapnmloaaGreatDoorPlaceAt
import Derived.Test.YteapbjeapnmloaaGreatDoorGL9
namespace Go.Proofs.YteapbjeapnmloaaGreatDoor
open Go.RowKit
theorem placed_same {w : World} {v : Value} {n p : Int} (h : ErrIs w v n p) (hg : ErrCell w) :
    Calls Tryz.prog 47 #[v, .agg #[.int .i64 n, .int .i64 p]] w fun e w' => e = .returned (.bool true) ∧ Below w.heap.size w w' := by
  have hb0 := ((Below.refl w.heap.size w).alloc (Nat.le_refl _) (.cells #[.int .i64 n, .int .i64 p] 78))
  have C := Lib.hid (place_is (h.later hb0) (hg.later hb0))
  have hcc : Cell2 (w.alloc (.cells #[.int .i64 n, .int .i64 p] 78)) w.heap.size n p := heap_alloc_new w _
  have Hcc := Lib.hid hcc
  have Hb0 := Lib.hid hb0
  clear h hg hb0 hcc
  go_enter Tryz.func47, Tryz.ntmps47
  go_wp2_with fail
  refine C.out.mono ?_
  rintro e w1 ⟨rfl, hb1⟩
  obtain ⟨q0, q1⟩ := (Hcc.out.later hb1).cells
  have Hb1 := Lib.hid (below_then Hb0.out hb1)
  clear hb1
  go_wp2_with fail
  go_ret
  exact ⟨rfl, Hb1.out⟩
end Go.Proofs.YteapbjeapnmloaaGreatDoor
