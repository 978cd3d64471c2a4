/- FeedBack: what is sent comes, whatever it is cut into. -/
import Derived.Test.YtlkikkfbennmnaaGreatDoorEqBack
import Derived.Test.YtlkikkfbennmnaaGreatDoorFeedCuts
import Derived.Test.YtlkikkfbennmnaaGreatDoorOpenInts
namespace Go.Proofs.YtlkikkfbennmnaaGreatDoor
open Go.RowKit
set_option linter.unusedVariables false
theorem IntsV.cell {W : World} {p : Option Addr} {c : Nat} {l : List Int} (h : IntsV W (.slice p l.length c) l) {j : Nat} (hj : j < l.length) : ∃ b o, p = some ⟨b, o, none⟩ ∧ W.cell? ⟨b, o + j, none⟩ = some (.int .i64 l[j]) := by
  obtain ⟨p0, c0, hv, hc⟩ := h
  obtain ⟨rfl, rfl⟩ : p = p0 ∧ c = c0 := by simpa using hv
  obtain ⟨b, o, rfl, hcell⟩ := hc (by omega)
  exact ⟨b, o, rfl, hcell j hj⟩
theorem flat_step {kp s1 s2 : List UInt8} {l2 : List Pd} {m : Nat} (hm : m ≤ 3) (hr : ∀ p ∈ l2, rightP p = 0) (h : (kp ++ s1) ++ s2 = flatP l2 m) :
    ∃ l3 l4 k, l2 = l3 ++ l4 ∧ allF ⟨100000, m, kp ++ s1, false⟩ = (l3.map pcOf, 0, ⟨100000, m, k, false⟩) ∧ k ++ s2 = flatP l4 m ∧ (s2 = [] → l4 = []) ∧ k.length + s2.length ≤ kp.length + s1.length + s2.length := by
  obtain ⟨l3, l4, k, h1, h2, h3, h4⟩ := all_flat l2 ⟨100000, m, kp ++ s1, false⟩ s2 ⟨Nat.le_refl _, hm⟩ (fun p hp => ⟨hr p hp, (rightP_is (hr p hp)).d⟩) h
  refine ⟨l3, l4, k, h1, h2, h3, h4, ?_⟩
  have e1 := congrArg List.length h
  have e3 := congrArg List.length h3
  rw [h1, flatP_app] at e1
  simp only [List.length_append] at e1 e3
  omega
set_option maxRecDepth 100000 in
set_option maxHeartbeats 2000000 in
theorem feedBack_any (l : List Pd) (v : Value) (a : Int) (cs : List Int) (vc : Value) (w : World) (hv : PdusV w v l) (hf : (∀ q ∈ l, FitP q) ∧ l.length ≤ 140737488355328) (_ha : (Lit.int .i64 a).wf = true) (hvc : IntsV w vc cs) (hnc : cs.length ≤ 140737488355328) (hg : ErrCell w) (hm : MaxCell w) :
    Calls Tryz.prog 3 #[v, .int .i64 a, vc] w fun e w' => e = .returned (.bool true) ∧ Below w.heap.size w w' := by
  obtain ⟨pl, cl, rfl⟩ := hv.form
  obtain ⟨pc, cc, rfl⟩ := hvc.form
  have M := Lib.hid (fed_any w hm hg)
  by_cases h20 : 20 < l.length
  · have i1 : (20 : Int) < (l.length : Int) := by omega
    clear hv hf hvc hnc hg hm h20
    go_enter Tryz.func3, Tryz.ntmps3
    go_wp2_with fail
    refine M.out.mono ?_
    rintro e w1 ⟨rfl, hb1⟩
    go_wp2_with fail
    go_ret
    exact ⟨rfl, hb1⟩
  have i1 : (l.length : Int) ≤ 20 := by omega
  by_cases h60 : 60 < cs.length
  · have i2 : (60 : Int) < (cs.length : Int) := by omega
    clear hv hf hvc hnc hg hm h20 h60
    go_enter Tryz.func3, Tryz.ntmps3
    go_wp2_with fail
    refine M.out.mono ?_
    rintro e w1 ⟨rfl, hb1⟩
    go_wp2_with fail
    go_ret
    exact ⟨rfl, hb1⟩
  have i2 : (cs.length : Int) ≤ 60 := by omega
  have K4 : ∀ W, Hid (Calls Tryz.prog 11 #[.int .i64 a, .int .i64 4] W fun e w' => e = .returned (.int .i64 (pickI a 4 : Nat)) ∧ W = w') := fun W => Lib.hid (pick_any a 4 W (by decide) (by decide))
  have hm4 := pickI_lt a 4 (by decide)
  generalize pickI a 4 = m at K4 hm4
  have N := fun W => Lib.hid (new_ok 100000 W (Nat.le_refl _))
  have St := Lib.hid (fun W (h : Below w.heap.size w W) => stream_any l _ m W (by omega) (hv.later h) hf.1 (by omega) (hm.later h) (hg.later h))
  have Hm4 := Lib.hid (show m ≤ 3 by omega)
  have Hg := Lib.hid hg
  have Hm := Lib.hid hm
  have HV := Lib.hid hv
  have HVC := Lib.hid hvc
  have H20 := Lib.hid h20
  clear hv hf hvc hnc hg hm hm4 h20 h60
  go_enter Tryz.func3, Tryz.ntmps3
  go_wp2_with fail
  refine M.out.mono ?_
  rintro e w1 ⟨rfl, hb1⟩
  have Hb1 := Lib.hid hb1
  clear hb1 M
  go_wp2_with fail
  refine (K4 _).out.mono ?_
  rintro e w2 ⟨rfl, rfl⟩
  go_wp2_with fail
  refine (St.out _ Hb1.out).mono ?_
  rintro e w2 ⟨hst, hb⟩
  have Hb2 := Lib.hid (below_then Hb1.out hb)
  clear hb Hb1 K4 St
  rcases hst with rfl | ⟨hr, rfl⟩
  · go_wp2_with fail
    refine (N _).out.mono ?_
    rintro e w3 ⟨fb, H, rfl, hF, hb⟩
    have Hb3 := Lib.hid (below_then Hb2.out hb)
    clear hF hb
    go_wp2_with fail
    go_ret
    exact ⟨rfl, Hb3.out⟩
  have Hr := Lib.hid hr
  clear hr
  obtain ⟨sAll, hsAll⟩ : ∃ s, flatP l m = s := ⟨_, rfl⟩
  rw [hsAll]
  by_cases h5 : sAll.length ≤ 5000
  case neg =>
    have i3 : decide ((sAll.length : Int) ≤ 5000) = false := decide_eq_false (by omega)
    clear h5
    go_wp2_with fail
    refine (N _).out.mono ?_
    rintro e w3 ⟨fb, H, rfl, hF, hb⟩
    have Hb3 := Lib.hid (below_then Hb2.out hb)
    clear hF hb
    go_wp2_with fail
    go_ret
    exact ⟨rfl, Hb3.out⟩
  have i3 : decide ((sAll.length : Int) ≤ 5000) = true := decide_eq_true (by omega)
  have HsAll := Lib.hid hsAll
  have H5 := Lib.hid h5
  clear hsAll h5
  go_wp2_with fail
  refine (N _).out.mono ?_
  rintro e w3 ⟨fb, H3, rfl, hF, hb⟩
  have HF3 := Lib.hid (hF.mono Hb2.out.size)
  have Hb3 := Lib.hid (below_then Hb2.out hb)
  have O3 := Lib.hid (mode_good m Hm4.out HF3.out)
  clear hF hb Hb2 N
  go_wp2_with fail
  refine O3.out.mono ?_
  rintro e w4 ⟨ev, H4, rfl, hE, hF, hK⟩
  obtain rfl := hE.zero
  have HF4 := Lib.hid hF
  have Hb4 := Lib.hid (below_op Hb3.out HF3.out hK)
  clear hE hF hK O3 HF3 Hb3 i3
  go_wp2_with fail
  go_loopw [7, 11, 55] (fun sv gv i wr => ∃ (j : Nat) (rest kp : List UInt8) (H : Nat → Prop) (l1 l2 : List Pd), j ≤ cs.length + 1 ∧ i = .int .i64 j ∧ sv = .string (S rest) ∧ l = l1 ++ l2 ∧ PBuf w.heap.size wr gv (l1.map pcOf) ∧ FeedAt wr w.heap.size H fb ⟨100000, m, kp, false⟩ ∧ kp ++ rest = flatP l2 m ∧ kp.length + rest.length ≤ 5000 ∧ (j = cs.length + 1 → rest = [] ∧ l2 = []) ∧ Below w.heap.size w wr) (fun _ _ i _ => cs.length + 1 - (intOf i).toNat)
  case atStart => exact ⟨0, sAll, [], H4, [], l, by omega, rfl, rfl, rfl, PBuf.nil _ _, HF4.out, HsAll.out.symm, by have := H5.out; simp; omega, fun h => by omega, Hb4.out⟩
  case round =>
    obtain ⟨j, rest, kp, H, l1, l2, hj, rfl, rfl, hl12, hP, hF, hflat, hkr, hend, hb⟩ := hrel
    obtain ⟨pg, cg, rfl⟩ := hP.form
    have HP := Lib.hid hP
    have HF := Lib.hid hF
    have Hb := Lib.hid hb
    have Hl12 := Lib.hid hl12
    have hl1l : l1.length + l2.length ≤ 20 := by have := H20.out; rw [hl12, List.length_append] at this; omega
    have Hl1l := Lib.hid hl1l
    have hr2 : ∀ p ∈ l2, rightP p = 0 := fun p hp => Hr.out p (by rw [hl12]; exact List.mem_append_right _ hp)
    have i4 : (rest.length : Int) ≤ 5000 := by omega
    by_cases hlt : j < cs.length + 1
    · by_cases hlt2 : j < cs.length
      · obtain ⟨b, o, rfl, hce⟩ := (HVC.out.later hb).cell hlt2
        have hk := pickI_lt cs[j] (rest.length + 1) (by omega)
        have Kp : ∀ W, Hid (Calls Tryz.prog 11 #[.int .i64 cs[j], .int .i64 ((rest.length : Int) + 1)] W fun e w' => e = .returned (.int .i64 (pickI cs[j] (rest.length + 1) : Nat)) ∧ W = w') := fun W => Lib.hid (by have := pick_any cs[j] (rest.length + 1) W (by omega) (by omega); rwa [show ((rest.length + 1 : Nat) : Int) = (rest.length : Int) + 1 by omega] at this)
        generalize pickI cs[j] (rest.length + 1) = k at Kp hk
        generalize cs[j] = cj at *
        have i5 : (k : Int) ≤ (rest.length : Int) := by omega
        have htk : List.take (rest.length - k) (List.drop k rest) = List.drop k rest := List.take_of_length_le (by simp)
        have hsp := List.take_append_drop k rest
        have hl1 : (rest.take k).length ≤ 5000 := by rw [List.length_take]; omega
        have hl2' : (rest.take k).length + (rest.drop k).length = rest.length := by rw [← List.length_append, hsp]
        generalize htk1 : List.take k rest = s1 at *
        generalize htk2 : List.drop k rest = s2 at *
        rw [← hsp, ← List.append_assoc] at hflat
        obtain ⟨l3, l4, kn, hl34, hall, hk4, hfin, hkk⟩ := flat_step Hm4.out hr2 hflat
        have Hall := Lib.hid hall
        have Hl34 := Lib.hid hl34
        have Hk4 := Lib.hid hk4
        have Hfin := Lib.hid hfin
        have Hkk := Lib.hid (show kn.length + s2.length ≤ 5000 by omega)
        have Hks := Lib.hid (show (kp ++ s1).length ≤ 5000 by rw [List.length_append]; omega)
        have P4 := Lib.hid (put_good s1 (kp ++ s1) rfl (by have := Hks.out; omega) HF.out)
        clear hP hF hb hl12 hl1l hr2 hflat hkr hend hk hsp hl1 hl2' hall hl34 hk4 hfin hkk
        go_wp2_with fail
        refine (Kp _).out.mono ?_
        rintro e w5 ⟨rfl, rfl⟩
        go_wp2_with fail
        refine P4.out.mono ?_
        rintro e w6 ⟨ev, H6, rfl, hE, hF, hK⟩
        obtain rfl := hE.zero
        have HF6 := Lib.hid hF
        have Hb6 := Lib.hid (below_op Hb.out HF.out hK)
        have HP6 := Lib.hid (HP.out.work HF.out hK)
        have A6 := fall_any (by have := Hks.out; simp only; omega) (hF.gl Hb6.out Hm.out Hg.out) hF
        rw [Hall.out] at A6
        have A6 := Lib.hid A6
        clear hE hF hK P4 HF Hb HP
        go_wp2_with fail
        refine A6.out.mono ?_
        rintro e w7 ⟨v3, ev3, H7, rfl, hV, hE3, hF, hK⟩
        obtain rfl := hE3.zero
        have hb7 := below_op Hb6.out HF6.out hK
        have hP7 := HP6.out.work HF6.out hK
        obtain ⟨news, hnm, hnl, hsrc, hnP⟩ := hV.off.1.src
        obtain ⟨p3, c3, rfl⟩ := hV.form
        have hll := congrArg List.length Hl34.out
        rw [List.length_append] at hll
        rw [List.length_map] at hnl
        obtain ⟨v', w8, hr, hP8, hgrow⟩ := run_append_pcs 34 hP7 news hsrc hnP hb7.size (by rw [List.length_map]; have := Hl1l.out; omega)
        rw [hnm, ← List.map_append] at hP8
        have HF8 := Lib.hid (hF.grown hgrow (hP7.offF hF).off.2)
        have Hb8 := Lib.hid (hb7.grown hgrow hb7.size hP7.ge)
        have HP8 := Lib.hid hP8
        have HRun := Lib.hid hr
        have Hl8 := Lib.hid (show l = (l1 ++ l3) ++ l4 by rw [Hl12.out, Hl34.out, List.append_assoc])
        clear hE3 hF hK hV A6 hnm hnl hsrc hnP hll hr hP8 hgrow hb7 hP7 HF6 Hb6 HP6
        simp only [List.length_map] at HRun ⊢
        go_wp2_with (at_builtin; refine Lib.wpList_append_run _ rfl _ _ _ _ rfl _ _ rfl rfl _ _ HRun.out ?_)
        go_roundw
        case rel => exact ⟨j + 1, s2, kn, H7, l1 ++ l3, l4, by omega, by go_num, rfl, Hl8.out, HP8.out, HF8.out, Hk4.out, Hkk.out, fun h => by omega, Hb8.out⟩
        case measure => simp [intOf]; omega
      · obtain rfl : j = cs.length := by omega
        obtain ⟨s1, hs1⟩ : ∃ s1, rest = s1 := ⟨_, rfl⟩
        obtain ⟨s2, hs2⟩ : ∃ s2 : List UInt8, ([] : List UInt8) = s2 := ⟨_, rfl⟩
        have hl2' : s1.length + s2.length = rest.length := by rw [← hs1, ← hs2]; rfl
        rw [show kp ++ rest = (kp ++ s1) ++ s2 by rw [← hs1, ← hs2, List.append_nil]] at hflat
        have htk1 : List.take rest.length rest = s1 := by rw [List.take_length]; exact hs1
        obtain ⟨l3, l4, kn, hl34, hall, hk4, hfin, hkk⟩ := flat_step Hm4.out hr2 hflat
        have Hall := Lib.hid hall
        have Hl34 := Lib.hid hl34
        have Hk4 := Lib.hid hk4
        have Hfin := Lib.hid hfin
        have Hkk := Lib.hid (show kn.length + s2.length ≤ 5000 by omega)
        have Hks := Lib.hid (show (kp ++ s1).length ≤ 5000 by rw [List.length_append]; omega)
        have P4 := Lib.hid (put_good s1 (kp ++ s1) rfl (by have := Hks.out; omega) HF.out)
        have Hs2 := Lib.hid hs2
        subst hs1
        clear hP hF hb hl12 hl1l hr2 hflat hkr hend hl2' hall hl34 hk4 hfin hkk
        go_wp2_with fail
        refine P4.out.mono ?_
        rintro e w6 ⟨ev, H6, rfl, hE, hF, hK⟩
        obtain rfl := hE.zero
        have HF6 := Lib.hid hF
        have Hb6 := Lib.hid (below_op Hb.out HF.out hK)
        have HP6 := Lib.hid (HP.out.work HF.out hK)
        have A6 := fall_any (by have := Hks.out; simp only; omega) (hF.gl Hb6.out Hm.out Hg.out) hF
        rw [Hall.out] at A6
        have A6 := Lib.hid A6
        clear hE hF hK P4 HF Hb HP
        go_wp2_with fail
        refine A6.out.mono ?_
        rintro e w7 ⟨v3, ev3, H7, rfl, hV, hE3, hF, hK⟩
        obtain rfl := hE3.zero
        have hb7 := below_op Hb6.out HF6.out hK
        have hP7 := HP6.out.work HF6.out hK
        obtain ⟨news, hnm, hnl, hsrc, hnP⟩ := hV.off.1.src
        obtain ⟨p3, c3, rfl⟩ := hV.form
        have hll := congrArg List.length Hl34.out
        rw [List.length_append] at hll
        rw [List.length_map] at hnl
        obtain ⟨v', w8, hr, hP8, hgrow⟩ := run_append_pcs 34 hP7 news hsrc hnP hb7.size (by rw [List.length_map]; have := Hl1l.out; omega)
        rw [hnm, ← List.map_append] at hP8
        have HF8 := Lib.hid (hF.grown hgrow (hP7.offF hF).off.2)
        have Hb8 := Lib.hid (hb7.grown hgrow hb7.size hP7.ge)
        have HP8 := Lib.hid hP8
        have HRun := Lib.hid hr
        have Hl8 := Lib.hid (show l = (l1 ++ l3) ++ l4 by rw [Hl12.out, Hl34.out, List.append_assoc])
        clear hE3 hF hK hV A6 hnm hnl hsrc hnP hll hr hP8 hgrow hb7 hP7 HF6 Hb6 HP6
        simp only [List.length_map] at HRun ⊢
        go_wp2_with (at_builtin; refine Lib.wpList_append_run _ rfl _ _ _ _ rfl _ _ rfl rfl _ _ HRun.out ?_)
        go_roundw
        case rel => exact ⟨cs.length + 1, s2, kn, H7, l1 ++ l3, l4, by omega, by go_num, by rw [← Hs2.out]; rfl, Hl8.out, HP8.out, HF8.out, Hk4.out, Hkk.out, fun _ => ⟨Hs2.out.symm, Hfin.out Hs2.out.symm⟩, Hb8.out⟩
        case measure => simp [intOf]
    · obtain rfl : j = cs.length + 1 := by omega
      obtain ⟨rfl, rfl⟩ := hend rfl
      have hkp : kp = [] := (List.append_eq_nil_iff.1 hflat).1
      subst hkp
      rw [List.append_nil] at hl12
      subst hl12
      have Q := kept_any hF
      rw [show (((⟨100000, m, [], false⟩ : Fe).kept.length : Nat) : Int) = 0 from rfl] at Q
      have Q := Lib.hid Q
      have EQ := eqBack_any l _ _ wr (HV.out.later hb) hP.pcs Hr.out (by have := H20.out; omega)
      simp only [List.length_map] at EQ ⊢
      have EQ := Lib.hid EQ
      clear hP hF hb hl1l hr2 hflat hkr hend
      go_wp2_with fail
      refine Q.out.mono ?_
      rintro e w5 ⟨rfl, rfl⟩
      go_wp2_with fail
      refine EQ.out.mono ?_
      rintro e w6 ⟨rfl, hb6⟩
      go_wp2_with fail
      go_ret
      exact ⟨rfl, below_then Hb.out hb6⟩
end Go.Proofs.YtlkikkfbennmnaaGreatDoor
