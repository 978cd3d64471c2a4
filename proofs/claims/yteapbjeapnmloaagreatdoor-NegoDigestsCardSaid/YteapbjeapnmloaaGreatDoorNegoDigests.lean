/- NegoDigests: which digests there are is what came of both keys. -/
import Derived.Test.YteapbjeapnmloaaGreatDoorGJ
import Derived.Test.YteapbjeapnmloaaGreatDoorGA
import Derived.Test.YteapbjeapnmloaaGreatDoorOpenPrs
namespace Go.Proofs.YteapbjeapnmloaaGreatDoor
open Go.RowKit
set_option linter.unusedVariables false
set_option maxRecDepth 100000 in
set_option maxHeartbeats 2000000 in
theorem negoDigests_any (l : List Pr) (v : Value) (m : List Pr) (u : Value) (w : World) (hv : PrsV w v l) (hf : WideP l) (hu : PrsV w u m) (hfu : WideP m) (hE : Env w) (hg : ErrCell w) :
    Calls Tryz.prog 9 #[v, u] w fun e w' => e = .returned (.bool true) ∧ Below w.heap.size w w' := by
  have HV := Lib.hid hv
  have HU := Lib.hid hu
  have HF := Lib.hid hf.1
  have HFU := Lib.hid hfu.1
  have HE := Lib.hid hE
  have Hg := Lib.hid hg
  obtain ⟨p, c, rfl⟩ := hv.form
  obtain ⟨pu, cu, rfl⟩ := hu.form
  have F := Lib.hid (settled_any w hE hg)
  clear hv hu hE hg
  go_enter Tryz.func9, Tryz.ntmps9
  go_wp2_with fail
  refine F.out.mono ?_
  rintro e w0 ⟨rfl, hb0⟩
  have Hb0 := Lib.hid hb0
  clear hb0 F
  have M := Lib.hid (made_any (w := w0) l _ Hb0.out HV.out HF.out HE.out Hg.out)
  go_wp2_with fail
  refine M.out.mono ?_
  rintro e w1 hM
  clear M
  rcases hM with ⟨rfl, hb1⟩ | ⟨nb, mv, rfl, hS1, hbf1, hge1, hb1⟩
  · have Hb1 := Lib.hid (below_then Hb0.out hb1)
    clear hb1
    go_wp2_with fail
    go_ret
    exact ⟨rfl, Hb1.out⟩
  have HS1 := Lib.hid hS1
  clear hS1 hbf1 hge1 hb1
  have T := Lib.hid (thickK_any m _ w1 (HU.out.later HS1.out.low) HFU.out.1)
  go_wp2_with fail
  refine T.out.mono ?_
  rintro e w2 ⟨b, rfl, hb2⟩
  have HS2 := Lib.hid (HS1.out.later hb2)
  clear hb2 T HS1
  rcases b_cases b with rfl | rfl
  · go_wp2_with fail
    go_ret
    exact ⟨rfl, HS2.out.low⟩
  obtain ⟨⟨⟨s, n, q⟩, r⟩, hr⟩ : ∃ x, ansN l [] m true false = x := ⟨_, rfl⟩
  have A := Lib.hid (ans_ns hr HS2.out (HS2.out.args HU.out) HFU.out HE.out)
  clear hr
  go_wp2_with fail
  refine A.out.mono ?_
  rintro e w3 ⟨v3, ev3, H3, rfl, hb3, he3, hS3, hk3⟩
  have HS3 := Lib.hid hS3
  obtain ⟨k1, hk1⟩ := row_hd
  obtain ⟨k2, hk2⟩ := row_dd
  obtain ⟨x, hx⟩ := val_known (recd := r) hk1
  obtain ⟨y, hy⟩ := val_known (recd := r) hk2
  have hd := digN_of hx hy
  have V1 := Lib.hid (val_at (ev := .nilIface) hx rfl hS3)
  have V2 := Lib.hid (fun W (hb : Below w3.heap.size w3 W) => val_at (ev := .nilIface) hy rfl (HS3.out.later hb))
  have D := Lib.hid (fun W (hb : Below w3.heap.size w3 W) => dig_ns (HS3.out.later hb))
  rw [hd] at D
  clear hb3 he3 hS3 hk3 hk1 hk2 hx hy hd A HS2
  go_wp2_with fail
  refine V1.out.mono ?_
  rintro e w4 ⟨rfl, hb4⟩
  have V2' := Lib.hid (V2.out w4 hb4)
  have Hb4 := Lib.hid hb4
  clear hb4 V1 V2
  go_wp2_with fail
  refine V2'.out.mono ?_
  rintro e w5 ⟨rfl, hb5⟩
  have hb6 := below_then Hb4.out hb5
  have D5 := D.out w5 hb6
  have Hb6 := Lib.hid hb6
  clear hb5 hb6 V2' D
  by_cases hx : x = [67, 82, 67, 51, 50, 67] <;> by_cases hy : y = [67, 82, 67, 51, 50, 67]
  all_goals
    first
      | (have ex : (x == [67, 82, 67, 51, 50, 67]) = true := by simpa using hx)
      | (have ex : (x == [67, 82, 67, 51, 50, 67]) = false := by simpa using hx)
    first
      | (have ey : (y == [67, 82, 67, 51, 50, 67]) = true := by simpa using hy)
      | (have ey : (y == [67, 82, 67, 51, 50, 67]) = false := by simpa using hy)
    first
      | rw [if_pos hx] at D5
      | rw [if_neg hx] at D5
    first
      | rw [if_pos hy] at D5
      | rw [if_neg hy] at D5
    have D5 := Lib.hid D5
    clear hx hy
    go_wp2_with fail
    refine D5.out.mono ?_
    rintro e w7 ⟨rfl, hb7⟩
    have Hb7 := Lib.hid (HS3.out.later (below_then Hb6.out hb7)).low
    clear hb7
    go_wp2_with fail
    go_ret
    exact ⟨rfl, Hb7.out⟩
end Go.Proofs.YteapbjeapnmloaaGreatDoor
