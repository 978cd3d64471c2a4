/- NegoOwn: what one has stays, whatever is offered. -/
import Derived.Test.YteapbjeapnmloaaGreatDoorGJ
import Derived.Test.YteapbjeapnmloaaGreatDoorNames18
import Derived.Test.YteapbjeapnmloaaGreatDoorOpenPrs
import Derived.Test.YteapbjeapnmloaaGreatDoorPick
namespace Go.Proofs.YteapbjeapnmloaaGreatDoor
open Go.RowKit
set_option linter.unusedVariables false
set_option maxRecDepth 100000 in
set_option maxHeartbeats 2000000 in
theorem negoOwn_any (l : List Pr) (v : Value) (m : List Pr) (u : Value) (which : Int) (w : World) (hv : PrsV w v l) (hf : WideP l) (hu : PrsV w u m) (hfu : WideP m) (hw : (Lit.int .i64 which).wf = true) (hE : Env w) (hg : ErrCell w) :
    Calls Tryz.prog 10 #[v, u, .int .i64 which] w fun e w' => e = .returned (.bool true) ∧ Below w.heap.size w w' := by
  have HV := Lib.hid hv
  have HU := Lib.hid hu
  have HF := Lib.hid hf.1
  have HFU := Lib.hid hfu.1
  have HE := Lib.hid hE
  have Hg := Lib.hid hg
  obtain ⟨p, c, rfl⟩ := hv.form
  obtain ⟨pu, cu, rfl⟩ := hu.form
  have F := Lib.hid (settled_any w hE hg)
  have PK := Lib.hid (fun W => pick_any which 18 W (by decide) (by decide))
  have hil := pickI_lt which 18 (by decide)
  obtain ⟨i, hi⟩ : ∃ i, pickI which 18 = i := ⟨_, rfl⟩
  rw [hi] at PK hil
  obtain ⟨ke, hrow⟩ := name_row hil
  obtain ⟨kk, hkk⟩ : ∃ kk, nameAt i = kk := ⟨_, rfl⟩
  rw [hkk] at hrow
  obtain ⟨kn, kd, lo, hi2, df, no, lg⟩ := ke
  have hvn : valN l kk = ((prFind l kk).getD df, 0) := by unfold valN; rw [hrow]
  obtain ⟨x, hx⟩ : ∃ x, (prFind l kk).getD df = x := ⟨_, rfl⟩
  rw [hx] at hvn
  have Hvn := Lib.hid hvn
  have Hx := Lib.hid hx
  have OF := Lib.hid (fun W => of_row (s := kk) W hrow)
  have Hkk := Lib.hid hkk
  have i0 : (0 : Int) ≤ (i : Int) := by omega
  have i18 : (i : Int) < 18 := by omega
  clear hv hu hE hg hi hrow hkk hvn hx
  go_enter Tryz.func10, Tryz.ntmps10
  go_wp2_with fail
  refine F.out.mono ?_
  rintro e w0 ⟨rfl, hb0⟩
  have Hb0 := Lib.hid hb0
  clear hb0 F
  have KY := Lib.hid (keyed_any w0 (HE.out.later Hb0.out) (Hg.out.later Hb0.out))
  go_wp2_with fail
  refine KY.out.mono ?_
  rintro e w0k ⟨rfl, hbk⟩
  have Hb0 := Lib.hid (below_then Hb0.out hbk)
  clear hbk KY
  have M := Lib.hid (made_any (w := w0k) l _ Hb0.out HV.out HF.out HE.out Hg.out)
  go_wp2_with fail
  refine M.out.mono ?_
  rintro e w1 hM
  clear M
  rcases hM with ⟨rfl, hb1⟩ | ⟨nb, mv, rfl, hS1, hbf1, hge1, hb1⟩
  · have Hb1 := Lib.hid (below_then Hb0.out hb1)
    clear hb1
    have NM := Lib.hid (names18_any w1)
    go_wp2_with fail
    refine NM.out.mono ?_
    rintro e wn ⟨bn, on, cn, rfl, hnm, hbn⟩
    have Hb2 := Lib.hid (below_then Hb1.out hbn)
    clear hnm hbn NM
    go_wp2_with fail
    go_ret
    exact ⟨rfl, Hb2.out⟩
  have HS1 := Lib.hid hS1
  clear hS1 hbf1 hge1 hb1
  have NM := Lib.hid (names18_any w1)
  go_wp2_with fail
  refine NM.out.mono ?_
  rintro e w1n ⟨bn, on, cn, rfl, hnm, hbn⟩
  have HSn := Lib.hid (HS1.out.later hbn)
  have HNM := Lib.hid hnm
  clear hnm hbn NM HS1
  have T := Lib.hid (thickK_any m _ w1n (HU.out.later HSn.out.low) HFU.out.1)
  go_wp2_with fail
  refine T.out.mono ?_
  rintro e w2 ⟨b, rfl, hb2⟩
  have HS2 := Lib.hid (HSn.out.later hb2)
  have HNM := Lib.hid (HNM.out.later hb2)
  clear hb2 T HSn
  rcases b_cases b with rfl | rfl
  · go_wp2_with fail
    go_ret
    exact ⟨rfl, HS2.out.low⟩
  have q0 := HNM.out i hil
  rw [Hkk.out] at q0
  have O1 := Lib.hid (own_at (ev := .nilIface) Hvn.out rfl HS2.out)
  go_wp2_with fail
  refine (PK.out _).mono ?_
  rintro e w' ⟨rfl, rfl⟩
  go_wp2_with fail
  refine O1.out.mono ?_
  rintro e w3 ⟨rfl, hb3⟩
  have HS3 := Lib.hid (HS2.out.later hb3)
  obtain ⟨⟨⟨s, n, q⟩, r⟩, hr⟩ : ∃ x, ansN l [] m true false = x := ⟨_, rfl⟩
  have A := Lib.hid (ans_ns hr HS3.out (HS3.out.args HU.out) HFU.out HE.out)
  clear hr hb3 O1 HS2 q0 HNM
  go_wp2_with fail
  refine A.out.mono ?_
  rintro e w4 ⟨v4, ev4, H4, rfl, hb4, he4, hS4, hk4⟩
  have HS4 := Lib.hid hS4
  have O2 := Lib.hid (own_at (ev := .nilIface) Hvn.out rfl hS4)
  clear hb4 he4 hS4 hk4 A HS3
  go_wp2_with fail
  refine O2.out.mono ?_
  rintro e w5 ⟨rfl, hb5⟩
  have HS5 := Lib.hid (HS4.out.later hb5)
  clear hb5 O2 HS4
  go_wp2_with fail
  refine (OF.out _).mono ?_
  rintro e w6 ⟨rfl, hb6⟩
  obtain ⟨w7, hw7⟩ : ∃ w7, w6.alloc (.cells #[.string (S kn), .int .i64 (kd : Int), .int .i64 (lo : Int), .int .i64 (hi2 : Int), .string (S df), .bool no, .bool lg] 48) = w7 := ⟨_, rfl⟩
  have hb7 : Below w6.heap.size w6 w7 := by rw [← hw7]; exact (Below.refl _ _).alloc (Nat.le_refl _) _
  have bK : Blk w7 w6.heap.size #[.string (S kn), .int .i64 (kd : Int), .int .i64 (lo : Int), .int .i64 (hi2 : Int), .string (S df), .bool no, .bool lg] 48 := by rw [← hw7]; exact Blk.new w6 _ _
  have HS7 := Lib.hid ((HS5.out.later hb6).later hb7)
  have HK7 := Lib.hid bK
  have FD := find_prs l kk (.slice p l.length c) w7 (HV.out.later HS7.out.low) HF.out.1
  obtain ⟨c0, c1, c2, c3, c4, c5, c6⟩ := bK.seven
  have hx := Hx.out
  clear hb6 hb7 bK OF HS5
  have e1 : (x == x) = true := by simp
  cases hfd : prFind l kk with
  | some y =>
    rw [hfd] at FD hx
    simp only [Option.getD_some] at hx
    subst hx
    unfold findR at FD
    have FD := Lib.hid FD
    clear hfd
    go_wp2_with fail
    refine FD.out.mono ?_
    rintro e w8 ⟨rfl, hb8⟩
    obtain ⟨d0, d1, d2, d3, d4, d5, d6⟩ := (HK7.out.later hb8).seven
    have Hb8 := Lib.hid (HS7.out.later hb8).low
    clear hb8 FD
    go_wp2_with fail
    go_ret
    exact ⟨rfl, Hb8.out⟩
  | none =>
    rw [hfd] at FD hx
    simp only [Option.getD_none] at hx
    subst hx
    unfold findR at FD
    have FD := Lib.hid FD
    clear hfd
    go_wp2_with fail
    refine FD.out.mono ?_
    rintro e w8 ⟨rfl, hb8⟩
    obtain ⟨d0, d1, d2, d3, d4, d5, d6⟩ := (HK7.out.later hb8).seven
    have Hb8 := Lib.hid (HS7.out.later hb8).low
    clear hb8 FD
    go_wp2_with fail
    go_ret
    exact ⟨rfl, Hb8.out⟩
end Go.Proofs.YteapbjeapnmloaaGreatDoor
