/- NegoNothing: behind an error all is as it was, and what comes then is as if it hadn't come. -/
import Derived.Test.YteapbjeapnmloaaGreatDoorGJ
import Derived.Test.YteapbjeapnmloaaGreatDoorPair2
import Derived.Test.YteapbjeapnmloaaGreatDoorSaidLen
import Derived.Test.YteapbjeapnmloaaGreatDoorOpenPrs
namespace Go.Proofs.YteapbjeapnmloaaGreatDoor
open Go.RowKit
set_option linter.unusedVariables false
def twoX : List Pr := [⟨aliasL, [120]⟩, ⟨aliasL, [121]⟩]
set_option maxRecDepth 100000 in
set_option maxHeartbeats 4000000 in
theorem negoNothing_any (l : List Pr) (v : Value) (m : List Pr) (u : Value) (n : List Pr) (x : Value) (w : World) (hv : PrsV w v l) (hf : WideP l) (hu : PrsV w u m) (hfu : WideP m) (hx : PrsV w x n) (hfx : WideP n) (hE : Env w) (hg : ErrCell w) :
    Calls Tryz.prog 14 #[v, u, x] w fun e w' => e = .returned (.bool true) ∧ Below w.heap.size w w' := by
  have HV := Lib.hid hv
  have HU := Lib.hid hu
  have HN := Lib.hid hx
  have HF := Lib.hid hf.1
  have HFU := Lib.hid hfu.1
  have HFN := Lib.hid hfx.1
  have HWN := Lib.hid hfx.2
  have HE := Lib.hid hE
  have Hg := Lib.hid hg
  obtain ⟨p, c, rfl⟩ := hv.form
  obtain ⟨pu, cu, rfl⟩ := hu.form
  obtain ⟨px, cx, rfl⟩ := hx.form
  have F := Lib.hid (settled_any w hE hg)
  clear hv hu hE hg hx
  go_enter Tryz.func14, Tryz.ntmps14
  go_wp2_with fail
  refine F.out.mono ?_
  rintro e w0 ⟨rfl, hb0⟩
  have Hb0 := Lib.hid hb0
  clear hb0 F
  have M := Lib.hid (made_any (w := w0) l _ Hb0.out HV.out HF.out HE.out Hg.out)
  go_wp2_with fail
  refine M.out.mono ?_
  rintro e w1 hM
  clear M
  rcases hM with ⟨rfl, hb1⟩ | ⟨nb, mv, rfl, hS1, hbf1, hge1, hb1⟩
  · have Hb1 := Lib.hid (below_then Hb0.out hb1)
    clear hb1
    have M := Lib.hid (made_any (w := w1) l _ Hb1.out HV.out HF.out HE.out Hg.out)
    go_wp2_with fail
    refine M.out.mono ?_
    rintro e w1b hM
    clear M
    rcases hM with ⟨rfl, hb2⟩ | ⟨nc, mc, rfl, _, _, _, hb2⟩
    all_goals
      have Hb2 := Lib.hid (below_then Hb1.out hb2)
      clear hb2
      go_wp2_with fail
      go_ret
      exact ⟨rfl, Hb2.out⟩
  have HS0 := Lib.hid hS1
  have HB0 := Lib.hid hbf1
  have HG0 := Lib.hid hge1
  have Hb1 := Lib.hid (below_then Hb0.out hb1)
  have M := Lib.hid (made_any (w := w1) l _ Hb1.out HV.out HF.out HE.out Hg.out)
  clear hS1 hbf1 hge1 hb1
  go_wp2_with fail
  refine M.out.mono ?_
  rintro e w1b hM
  clear M
  rcases hM with ⟨rfl, hb2⟩ | ⟨nc, mc, rfl, hS2, hbf2, hge2, hb2⟩
  · have Hb2 := Lib.hid (below_then Hb1.out hb2)
    clear hb2
    go_wp2_with fail
    go_ret
    exact ⟨rfl, Hb2.out⟩
  have HT1 := Lib.hid (NT.mk' HS0.out hb2 hS2 hbf2 hge2)
  clear hS2 hbf2 hge2 hb2 HS0 HB0 HG0
  have T := Lib.hid (thickK_any m _ w1b (HU.out.later HT1.out.low) HFU.out.1)
  go_wp2_with fail
  refine T.out.mono ?_
  rintro e w2 ⟨b, rfl, hb2⟩
  have HT2 := Lib.hid (HT1.out.later hb2)
  clear hb2 T HT1
  rcases b_cases b with rfl | rfl
  · go_wp2_with fail
    go_ret
    exact ⟨rfl, HT2.out.low⟩
  have T := Lib.hid (thickK_any n _ w2 (HN.out.later HT2.out.low) HFN.out.1)
  go_wp2_with fail
  refine T.out.mono ?_
  rintro e w3 ⟨b, rfl, hb2⟩
  have HT3 := Lib.hid (HT2.out.later hb2)
  clear hb2 T HT2
  rcases b_cases b with rfl | rfl
  · go_wp2_with fail
    go_ret
    exact ⟨rfl, HT3.out.low⟩
  obtain ⟨⟨⟨s, a, q⟩, r⟩, hr⟩ : ∃ x, ansN l [] m true false = x := ⟨_, rfl⟩
  have A := Lib.hid (ans_left hr HT3.out (HT3.out.args HU.out) HFU.out HE.out)
  have Hr := Lib.hid hr
  clear hr
  go_wp2_with fail
  refine A.out.mono ?_
  rintro e w4 ⟨v4, ev4, H4, rfl, hb4, he4, hT4, hk4⟩
  have HT4 := Lib.hid hT4
  have HE4 := Lib.hid he4
  have A := Lib.hid (ans_right Hr.out hT4 (hT4.args HU.out) HFU.out HE.out)
  clear hb4 he4 hT4 hk4 HT3 Hr
  go_wp2_with fail
  refine A.out.mono ?_
  rintro e w5 ⟨v5, ev5, K5, rfl, hb5, he5, hT5, hk5⟩
  have HT5 := Lib.hid hT5
  have HE4 := Lib.hid (HE4.out.kp hk5)
  have HE5 := Lib.hid he5
  have CL := Lib.hid (cloneP_any n _ w5 (HN.out.later hT5.low) HWN.out)
  clear hb5 he5 hT5 hk5 HT4 A
  go_wp2_with fail
  refine CL.out.mono ?_
  rintro e w6 ⟨v6, rfl, hb6, hlow6⟩
  obtain ⟨p6, c6, rfl⟩ := hb6.form
  have HB6 := Lib.hid hb6
  have Hl6 := Lib.hid hlow6
  have P1 := Lib.hid (pair_any [73, 110, 105, 116, 105, 97, 116, 111, 114, 65, 108, 105, 97, 115] [120] w6)
  clear hb6 hlow6 CL
  go_wp2_with fail
  refine P1.out.mono ?_
  rintro e w7 ⟨rfl, hlow7⟩
  have HB7 := Lib.hid (HB6.out.later hlow7)
  have Hl7 := Lib.hid (below_then Hl6.out hlow7)
  have P2 := Lib.hid (pair_any [73, 110, 105, 116, 105, 97, 116, 111, 114, 65, 108, 105, 97, 115] [121] w7)
  clear hlow7 P1 HB6 Hl6
  go_wp2_with fail
  refine P2.out.mono ?_
  rintro e w8 ⟨rfl, hlow8⟩
  obtain ⟨w9, hw9⟩ : ∃ w9, w8.alloc (.cells #[.string (S [73, 110, 105, 116, 105, 97, 116, 111, 114, 65, 108, 105, 97, 115]), .string (S [120]), .string (S [73, 110, 105, 116, 105, 97, 116, 111, 114, 65, 108, 105, 97, 115]), .string (S [121])] 35) = w9 := ⟨_, rfl⟩
  have hb9 : Below w8.heap.size w8 w9 := by rw [← hw9]; exact (Below.refl _ _).alloc (Nat.le_refl _) _
  have hp9 : PrsV w9 (.slice (some ⟨w8.heap.size, 0, none⟩) 2 2) twoX := by rw [← hw9]; exact prs_new w8 twoX 35
  have hl9 := below_then (below_then Hl7.out hlow8) hb9
  have hbuf9 := (HB7.out.later hlow8).later hb9
  obtain ⟨v10, w10, hrun, hown, hgrow⟩ := run_append_wide (m := twoX) hbuf9 hp9 (by decide) (by have h1 := HWN.out; have h2 : twoX.length = 2 := rfl; omega) hl9.size
  have hl10 := hl9.grown hgrow hl9.size hbuf9.ge
  obtain ⟨p10, c10, rfl⟩ := hown.form
  have hln : (n ++ twoX).length = n.length + 2 := by rw [List.length_append]; rfl
  have HT10 := Lib.hid (HT5.out.later hl10)
  have HE4 := Lib.hid (HE4.out.bl hl10)
  have HE5 := Lib.hid (HE5.out.bl hl10)
  have hv10 := PrBuf.prs (row_off (H := U H4 K5) hown (fun k hk hh => by
    have h1 := hown.ge k hk
    rcases hh with hh | hh
    · have := (HT5.out.a.base k hh).2; omega
    · have := (HT5.out.b.base k hh).2; omega))
  have hne := ans_two (mine := l) (rec := r) (more := n) (dc := false) [120] [121]
  rw [show ([⟨aliasL, [120]⟩, ⟨aliasL, [121]⟩] : List Pr) = twoX from rfl] at hne
  obtain ⟨h31, h32⟩ := ansN_err hne
  obtain ⟨⟨⟨s3, a3, q3⟩, r3⟩, hr3⟩ : ∃ x, ansN l r (n ++ twoX) true false = x := ⟨_, rfl⟩
  rw [hr3] at hne h31 h32
  simp only at hne h31 h32
  subst h31 h32
  have Ha3 := Lib.hid hne
  have A := Lib.hid (ans_left hr3 HT10.out hv10 ⟨by rw [hln]; have h1 := HWN.out; omega, fun p hp => by
    rcases List.mem_append.1 hp with hp | hp
    · exact HFN.out.2 p hp
    · have : p.k.length ≤ 100 ∧ p.v.length ≤ 100 := (show ∀ p ∈ twoX, p.k.length ≤ 100 ∧ p.v.length ≤ 100 by decide) p hp
      omega⟩ HE.out)
  rw [hln] at hrun A
  have HRun := Lib.hid hrun
  clear hlow8 hb9 hp9 hl9 hbuf9 hrun hown hgrow hl10 hln hv10 hne hr3 HB7 Hl7 HT5 P2
  go_wp2_with (at_builtin; refine Lib.wpList_append_run _ rfl _ _ _ _ rfl _ _ rfl rfl _ _ HRun.out ?_)
  refine A.out.mono ?_
  rintro e w11 ⟨v11, ev11, H11, rfl, hb11, he11, hT11, hk11⟩
  obtain ⟨p11, c11, rfl⟩ := hb11.form
  obtain ⟨te, xe, rfl⟩ := he11.iface Ha3.out
  have HT11 := Lib.hid hT11
  have HE4 := Lib.hid (HE4.out.kp hk11)
  have HE5 := Lib.hid (HE5.out.kp hk11)
  obtain ⟨⟨⟨s5, a5, q5⟩, r5⟩, hr5⟩ : ∃ x, ansN l r3 n true false = x := ⟨_, rfl⟩
  have Hr5 := Lib.hid hr5
  have A := Lib.hid (ans_left hr5 hT11 (hT11.args HN.out) HFN.out HE.out)
  clear hb11 he11 hT11 hk11 HT10 hr5 HRun
  simp only [List.length_nil]
  go_wp2_with fail
  refine A.out.mono ?_
  rintro e w12 ⟨v12, ev12, H12, rfl, hb12, he12, hT12, hk12⟩
  obtain ⟨p12, c12, rfl⟩ := hb12.form
  have HT12 := Lib.hid hT12
  have HB12 := Lib.hid hb12
  have HE12 := Lib.hid he12
  have HE4 := Lib.hid (HE4.out.kp hk12)
  have HE5 := Lib.hid (HE5.out.kp hk12)
  have A := Lib.hid (ans_right Hr5.out hT12 (hT12.args HN.out) HFN.out HE.out)
  clear hb12 he12 hT12 hk12 HT11
  go_wp2_with fail
  refine A.out.mono ?_
  rintro e w13 ⟨v13, ev13, K13, rfl, hb13, he13, hT13, hk13⟩
  obtain ⟨p13, c13, rfl⟩ := hb13.form
  have HT13 := Lib.hid hT13
  have HB12 := Lib.hid (HB12.out.kp hk13).prs.off
  have HB13 := Lib.hid hb13.prs.off
  have HE12 := Lib.hid (HE12.out.kp hk13).off
  have HE13 := Lib.hid he13.off
  have HE4 := Lib.hid (HE4.out.kp hk13).off
  have HE5 := Lib.hid (HE5.out.kp hk13).off
  have hg13 := HT13.out.err Hg.out
  have T := Lib.hid (tell_is HE4.out hg13)
  have hs60 := said_len2 Hr5.out
  clear hb13 he13 hT13 hk13 HT12 A hg13
  go_wp2_with fail
  refine T.out.mono ?_
  rintro e w14 ⟨rfl, hb14⟩
  have HT14 := Lib.hid (HT13.out.later hb14)
  have HB12 := Lib.hid (HB12.out.later hb14)
  have HB13 := Lib.hid (HB13.out.later hb14)
  have HE12 := Lib.hid (HE12.out.later hb14)
  have HE13 := Lib.hid (HE13.out.later hb14)
  have T := Lib.hid (tell_is (HE5.out.later hb14) (HT14.out.err Hg.out))
  have haa : (a == a) = true := by simp
  clear hb14 HT13 HE4 HE5
  go_wp2_with fail
  refine T.out.mono ?_
  rintro e w15 ⟨rfl, hb15⟩
  have HT15 := Lib.hid (HT14.out.later hb15)
  have HB12 := Lib.hid (HB12.out.later hb15)
  have HB13 := Lib.hid (HB13.out.later hb15)
  have HE13 := Lib.hid (HE13.out.later hb15)
  have T := Lib.hid (tell_is (HE12.out.later hb15) (HT15.out.err Hg.out))
  clear hb15 HT14 HE12
  go_wp2_with fail
  refine T.out.mono ?_
  rintro e w16 ⟨rfl, hb16⟩
  have HT16 := Lib.hid (HT15.out.later hb16)
  have HB12 := Lib.hid (HB12.out.later hb16)
  have HB13 := Lib.hid (HB13.out.later hb16)
  have T := Lib.hid (tell_is (HE13.out.later hb16) (HT16.out.err Hg.out))
  have hbb : (a5 == a5) = true := by simp
  clear hb16 HT15 HE13
  go_wp2_with fail
  refine T.out.mono ?_
  rintro e w17 ⟨rfl, hb17⟩
  have HT17 := Lib.hid (HT16.out.later hb17)
  have E := Lib.hid (equalP_same s5 _ _ w17 (by omega) (HB12.out.later hb17) (HB13.out.later hb17))
  clear hb17 HT16 HB12 HB13 T
  go_wp2_with fail
  refine E.out.mono ?_
  rintro e w18 ⟨rfl, hb18⟩
  have HT18 := Lib.hid (HT17.out.later hb18)
  have RA := Lib.hid (rec_left HT18.out)
  clear hb18 E HT17
  go_wp2_with fail
  refine RA.out.mono ?_
  rintro e w19 ⟨v19, rfl, hb19, hlow19⟩
  obtain ⟨p19, c19, rfl⟩ := hb19.form
  have HT19 := Lib.hid (HT18.out.later hlow19)
  have HB19 := Lib.hid hb19
  have RB := Lib.hid (rec_right HT19.out)
  clear hb19 hlow19 RA HT18
  go_wp2_with fail
  refine RB.out.mono ?_
  rintro e w20 ⟨v20, rfl, hb20, hlow20⟩
  obtain ⟨p20, c20, rfl⟩ := hb20.form
  have HT20 := Lib.hid (HT19.out.later hlow20)
  have hr18 := HT20.out.ra.few
  have E := Lib.hid (equalP_same r5 _ _ w20 (by omega) (HB19.out.prs.later hlow20) hb20.prs)
  clear hb20 hlow20 RB HT19 HB19 hr18
  go_wp2_with fail
  refine E.out.mono ?_
  rintro e w21 ⟨rfl, hb21⟩
  have Hb21 := Lib.hid (HT20.out.later hb21).low
  clear hb21 E
  go_wp2_with fail
  go_ret
  exact ⟨rfl, Hb21.out⟩
end Go.Proofs.YteapbjeapnmloaaGreatDoor
