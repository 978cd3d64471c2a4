/- AhsWrites: any additional headers as bytes are the document's. -/
import Derived.Test.YtceinedicbdngaaDoorRefAhsW
import Derived.Test.YtceinedicbdngaaDoorAhsW
import Derived.Test.YtceinedicbdngaaDoorWideL
import Derived.Test.YtceinedicbdngaaDoorPlaced
import Derived.Deep.RegionHeld3
namespace Go.Proofs.YtceinedicbdngaaDoor
open Go.RowKit
theorem keepF {w3 W W' : World} {b : Nat} {x y : Value} (h : Below w3.heap.size w3 W ∧ W.cell? ⟨b, 0, none⟩ = some x ∧ W.cell? ⟨b, 1, none⟩ = some y) (hb : Below W.heap.size W W') :
    Below w3.heap.size w3 W' ∧ W'.cell? ⟨b, 0, none⟩ = some x ∧ W'.cell? ⟨b, 1, none⟩ = some y :=
  ⟨below_then h.1 hb, (hb.cell (p := ⟨b, 0, none⟩) (block_lt_of_cell h.2.1)).trans h.2.1, (hb.cell (p := ⟨b, 1, none⟩) (block_lt_of_cell h.2.2)).trans h.2.2⟩
set_option maxRecDepth 100000 in
theorem ahsWrites_any (l : List Ah) (v : Value) (w : World) (hv : AhsV w v l) (hf : fitA l) (hg : ErrCell w) :
    Calls Tryd.prog 3 #[v] w fun e w' => e = .returned (.bool true) ∧ Below w.heap.size w w' := by
  have D := fun w hv => Lib.hid (wideL_any l v w hv hf)
  have A := fun w hv => Lib.hid (refWrite_ahs l v w hv hf)
  have B := fun w hv => Lib.hid (write_ahs l v w hv hf)
  have C := fun w hv => Lib.hid (right_ahs l v w hv hf)
  have hwr : (writeA l).2 = rightA l := by
    unfold writeA
    split
    · rename_i h; exact (rightA_is l h).2.2.symm
    · rfl
  obtain ⟨⟨s, n, q⟩, hw⟩ : ∃ r, writeA l = r := ⟨_, rfl⟩
  rw [hw] at hwr
  simp only at hwr
  simp only [hw, ← hwr] at A B C
  have HV := Lib.hid hv
  have Hg := Lib.hid hg
  have D1 := D w hv
  obtain ⟨p, c, rfl⟩ := hv.form
  clear hv hg hw hwr hf D
  go_enter Tryd.func3, Tryd.ntmps3
  go_wp2_with fail
  refine D1.out.mono ?_
  rintro e w1 ⟨bb, rfl, hb1⟩
  have HV1 := HV.out.later hb1
  have A1 := A _ HV1
  have Hlow1 := Lib.hid hb1
  have HV1 := Lib.hid HV1
  clear hb1 A D1
  cases bb with
  | true =>
    go_wp2_with fail
    go_ret
    exact ⟨rfl, Hlow1.out⟩
  | false =>
    go_wp2_with fail
    refine A1.out.mono ?_
    rintro e w2 ⟨rfl, hb2⟩
    have hba := (Below.refl w2.heap.size w2).alloc (Nat.le_refl _) (.cells #[.int .i64 n, .int .i64 q] 26)
    have HV2 := HV1.out.later (below_then hb2 hba)
    have B2 := B _ HV2
    have HV2 := Lib.hid HV2
    have Hlow2 := Lib.hid (below_then Hlow1.out (below_then hb2 hba))
    have HK2 := Lib.hid (Blk.new w2 #[.int .i64 n, .int .i64 q] 26)
    have hz2 : w.heap.size ≤ w2.heap.size := Nat.le_trans Hlow1.out.size hb2.size
    clear hb2 hba A1 B
    simp only at *
    go_wp2_with fail
    refine B2.out.mono ?_
    rintro e w3 ⟨ev, rfl, he, hb3⟩
    have HK3 := Lib.hid (HK2.out.later hb3)
    have HV3 := Lib.hid (HV2.out.later hb3)
    have Hlow3 := Lib.hid (below_then Hlow2.out hb3)
    have He := Lib.hid he
    obtain ⟨q0, q1⟩ := HK3.out.two
    have Hg3 := Lib.hid (Hg.out.later Hlow3.out)
    have P2 := Lib.hid (fun W ev2 (h : ErrIs W ev2 n q) (hb : Below w3.heap.size w3 W) => placed_same h (Hg3.out.later hb))
    have P1 := Lib.hid (fun W (h : Below w3.heap.size w3 W) => placed_same (He.out.later h) (Hg3.out.later h))
    have C1 := Lib.hid (fun W (h : Below w3.heap.size w3 W) => (C W (HV3.out.later h)).out)
    clear hb3 he B2
    simp only at *
    go_wp2_with fail
    go_region_held3 (fun w' => Below w3.heap.size w3 w' ∧ w'.cell? ⟨w2.heap.size, 0, none⟩ = some (.int .i64 n) ∧ w'.cell? ⟨w2.heap.size, 1, none⟩ = some (.int .i64 q))
      (first | assumption | exact ⟨Below.refl _ _, q0, q1⟩ | exact ⟨(Below.refl _ _).drew, q0, q1⟩ | exact keepF (by assumption) hb')
      (first | ((with_reducible refine (P1.out _ (by first | assumption | exact (‹Below w3.heap.size w3 _ ∧ _›).1)).mono ?_); rintro e w' ⟨rfl, hb'⟩) | ((with_reducible refine (C1.out _ (by first | assumption | exact (‹Below w3.heap.size w3 _ ∧ _›).1)).mono ?_); rintro e w' ⟨ev2, rfl, he2, hb'⟩) | ((with_reducible refine (P2.out _ _ (by assumption) (by first | assumption | exact (‹Below w3.heap.size w3 _ ∧ _›).1)).mono ?_); rintro e w' ⟨rfl, hb'⟩))
    all_goals
      have Hend := Lib.hid (below_then Hlow3.out (‹Below w3.heap.size w3 w' ∧ _›).1)
      go_wp2_with fail
      go_ret
      exact ⟨rfl, Hend.out⟩
end Go.Proofs.YtceinedicbdngaaDoor
