/- FeedCuts: any bytes give the same pieces, and the same error, in two parts as at once. -/
import Derived.Test.YtlkikkfbennmnaaGreatDoorEqPc
namespace Go.Proofs.YtlkikkfbennmnaaGreatDoor
open Go.RowKit
set_option linter.unusedVariables false
theorem PBuf.work {base : Nat} {W W' : World} {B : Nat} {H H' : Nat → Prop} {fb : Nat} {F : Fe} {v : Value} {l : List Pc} (h : PBuf base W v l) (hF : FeedAt W B H fb F) (hk : Keeps W.heap.size W W' H H') : PBuf base W' v l := ((h.offF hF).later hk.off').off.1
theorem Two.grown {W W' : World} {B base : Nat} {H1 H2 : Nat → Prop} {f1 f2 : Nat} {F1 F2 : Fe} {v : Value} {l : List Pc} (h : Two W B H1 H2 f1 f2 F1 F2) (hP : PBuf base W v l) (hg : W.grownBy W' v.ownBlock) : Two W' B H1 H2 f1 f2 F1 F2 :=
  ⟨h.a.grown hg (hP.offF h.a).off.2, h.b.grown hg (hP.offF h.b).off.2, h.d⟩
set_option maxRecDepth 100000 in
set_option maxHeartbeats 2000000 in
theorem feedCuts_any (s : List UInt8) (a b c : Int) (w : World) (hl : s.length ≤ 140737488351232) (_ha : (Lit.int .i64 a).wf = true) (_hb : (Lit.int .i64 b).wf = true) (_hc : (Lit.int .i64 c).wf = true) (hg : ErrCell w) (hm : MaxCell w) :
    Calls Tryz.prog 4 #[.string (S s), .int .i64 a, .int .i64 b, .int .i64 c] w fun e w' => e = .returned (.bool true) ∧ Below w.heap.size w w' := by
  have M := Lib.hid (fed_any w hm hg)
  have Hg := Lib.hid hg
  have Hm := Lib.hid hm
  by_cases h3 : 3000 < s.length
  · have i1 : (3000 : Int) < (s.length : Int) := by omega
    clear hg hm h3 hl
    go_enter Tryz.func4, Tryz.ntmps4
    go_wp2_with fail
    refine M.out.mono ?_
    rintro e w1 ⟨rfl, hb1⟩
    go_wp2_with fail
    go_ret
    exact ⟨rfl, hb1⟩
  · have i1 : (s.length : Int) ≤ 3000 := by omega
    have K1 : ∀ W, Hid (Calls Tryz.prog 11 #[.int .i64 a, .int .i64 ((s.length : Int) + 1)] W fun e w' => e = .returned (.int .i64 (pickI a (s.length + 1) : Nat)) ∧ W = w') := fun W => Lib.hid (by have := pick_any a (s.length + 1) W (by omega) (by omega); rwa [show ((s.length + 1 : Nat) : Int) = (s.length : Int) + 1 by omega] at this)
    have K2 : ∀ W, Hid (Calls Tryz.prog 11 #[.int .i64 b, .int .i64 2000] W fun e w' => e = .returned (.int .i64 (pickI b 2000 : Nat)) ∧ W = w') := fun W => Lib.hid (pick_any b 2000 W (by decide) (by decide))
    have K4 : ∀ W, Hid (Calls Tryz.prog 11 #[.int .i64 c, .int .i64 4] W fun e w' => e = .returned (.int .i64 (pickI c 4 : Nat)) ∧ W = w') := fun W => Lib.hid (pick_any c 4 W (by decide) (by decide))
    have hk := pickI_lt a (s.length + 1) (by omega)
    have hlt := pickI_lt b 2000 (by decide)
    have hm4 := pickI_lt c 4 (by decide)
    generalize pickI a (s.length + 1) = k at K1 hk
    generalize pickI b 2000 = lim at K2 hlt
    generalize pickI c 4 = m at K4 hm4
    have N := fun W => Lib.hid (new_ok lim W (by omega))
    have Hm4 := Lib.hid (show m ≤ 3 by omega)
    have H3 := Lib.hid h3
    have i2 : (k : Int) ≤ (s.length : Int) := by omega
    have htk : List.take (s.length - k) (List.drop k s) = List.drop k s := List.take_of_length_le (by simp)
    have hsp := List.take_append_drop k s
    have hs1 : (s.take k).length ≤ 3000 := by rw [List.length_take]; omega
    have hs2 : (s.drop k).length ≤ 3000 := by rw [List.length_drop]; omega
    have hap := all_app ((s.take k).length + 1) ⟨lim, m, s.take k, false⟩ (s.drop k) (by simp)
    simp only [hsp] at hap
    have hfok : FeOk ⟨lim, m, s.take k, false⟩ := ⟨by simp only; omega, by simp only; omega⟩
    have hD := all_done ((s.take k).length + 1) ⟨lim, m, s.take k, false⟩ (by simp) hfok
    have hln := all_len (s.length + 1) ⟨lim, m, s, false⟩ (by simp)
    have hpc := all_pcok (s.length + 1) ⟨lim, m, s, false⟩ (by simp)
    have hln1 := all_len ((s.take k).length + 1) ⟨lim, m, s.take k, false⟩ (by simp)
    obtain ⟨R, hR⟩ : ∃ R, allF ⟨lim, m, s, false⟩ = R := ⟨_, rfl⟩
    rw [hR] at hap hln hpc
    obtain ⟨RA, er, FA⟩ := R
    simp only at hln hpc
    generalize htk' : List.take k s = s1 at *
    generalize hdk : List.drop k s = s2 at *
    obtain ⟨RB, hRB⟩ : ∃ R, allF ⟨lim, m, s1, false⟩ = R := ⟨_, rfl⟩
    rw [hRB] at hap hD hln1
    obtain ⟨LB, eb, GB⟩ := RB
    simp only at hap hD hln1
    obtain ⟨hok', hl1, hm1, hkl, hD0, hD1⟩ := hD
    obtain ⟨gl, gm, gk, gb⟩ := GB
    simp only at hl1 hm1 hkl hD0 hD1 hap
    subst hl1 hm1
    have HR := Lib.hid hR
    have HRB := Lib.hid hRB
    have Hap := Lib.hid hap
    have HD0 := Lib.hid hD0
    have Hkl := Lib.hid hkl
    have Hpc := Lib.hid hpc
    have Hln := Lib.hid hln
    have Hln1 := Lib.hid hln1
    have Hs1 := Lib.hid hs1
    have Hs2 := Lib.hid hs2
    clear hg hm hlt hm4 h3 hl hR hln hpc hfok hRB hap hok' hkl hD0 hD1 hs1 hs2 hsp hk hln1
    go_enter Tryz.func4, Tryz.ntmps4
    go_wp2_with fail
    refine M.out.mono ?_
    rintro e w1 ⟨rfl, hb1⟩
    have Hb1 := Lib.hid hb1
    clear hb1 M
    go_wp2_with fail
    refine (K1 _).out.mono ?_
    rintro e w2 ⟨rfl, rfl⟩
    go_wp2_with fail
    refine (K2 _).out.mono ?_
    rintro e w2 ⟨rfl, rfl⟩
    go_wp2_with fail
    refine (K4 _).out.mono ?_
    rintro e w2 ⟨rfl, rfl⟩
    go_wp2_with fail
    refine (N _).out.mono ?_
    rintro e w2 ⟨f1, H1, rfl, hF, hb2⟩
    have HF2 := Lib.hid (hF.mono Hb1.out.size)
    have Hb2 := Lib.hid (below_then Hb1.out hb2)
    clear hb2 Hb1 hF K1 K2 K4
    go_wp2_with fail
    refine (N _).out.mono ?_
    rintro e w3 ⟨f2, H2, rfl, hF, hb3⟩
    have T3 := Lib.hid (Two.mk' HF2.out hb3 hF)
    have Hb3 := Lib.hid (below_then Hb2.out hb3)
    clear hb3 Hb2 hF HF2 N
    have O4 := Lib.hid (mode_good gm Hm4.out T3.out.a)
    go_wp2_with fail
    refine O4.out.mono ?_
    rintro e w4 ⟨ev, H4, rfl, hE, hF, hK⟩
    obtain rfl := hE.zero
    have T4 := Lib.hid (T3.out.left hF hK)
    have Hb4 := Lib.hid (below_op Hb3.out T3.out.a hK)
    have O5 := Lib.hid (mode_good gm Hm4.out T4.out.b)
    clear hE hF hK O4 T3 Hb3
    go_wp2_with fail
    refine O5.out.mono ?_
    rintro e w5 ⟨ev, H5, rfl, hE, hF, hK⟩
    obtain rfl := hE.zero
    have T5 := Lib.hid (T4.out.right hF hK)
    have Hb5 := Lib.hid (below_op Hb4.out T4.out.b hK)
    have P5 := Lib.hid (put_good s s rfl (by have := H3.out; omega) T5.out.a)
    clear hE hF hK O5 T4 Hb4
    go_wp2_with fail
    refine P5.out.mono ?_
    rintro e w6 ⟨ev, H6, rfl, hE, hF, hK⟩
    obtain rfl := hE.zero
    have T6 := Lib.hid (T5.out.left hF hK)
    have Hb6 := Lib.hid (below_op Hb5.out T5.out.a hK)
    have P6 := Lib.hid (put_good s1 s1 rfl (by have := Hs1.out; omega) T6.out.b)
    clear hE hF hK P5 T5 Hb5
    go_wp2_with fail
    refine P6.out.mono ?_
    rintro e w7 ⟨ev, H7, rfl, hE, hF, hK⟩
    obtain rfl := hE.zero
    have T7 := Lib.hid (T6.out.right hF hK)
    have Hb7 := Lib.hid (below_op Hb6.out T6.out.b hK)
    have A7 := fall_any (by have := H3.out; simp only; omega) (T7.out.a.gl Hb7.out Hm.out Hg.out) T7.out.a
    rw [HR.out] at A7
    have A7 := Lib.hid A7
    clear hE hF hK P6 T6 Hb6
    go_wp2_with fail
    refine A7.out.mono ?_
    rintro e w8 ⟨v1, ev1, H8, rfl, hV, hE1, hF, hK⟩
    have T8 := Lib.hid (T7.out.left hF hK)
    have Hb8 := Lib.hid (below_op Hb7.out T7.out.a hK)
    have HV1 := Lib.hid hV.off.1.pcs
    have HE1 := Lib.hid (show Bare1 ev1 er from hE1)
    have A8 := fall_any (by have := Hs1.out; simp only; omega) (T8.out.b.gl Hb8.out Hm.out Hg.out) T8.out.b
    rw [HRB.out] at A8
    have A8 := Lib.hid A8
    obtain ⟨pa, ca, rfl⟩ := hV.form
    clear hE1 hF hK hV A7 T7 Hb7
    simp only
    go_wp2_with fail
    refine A8.out.mono ?_
    rintro e w9 ⟨v2, ev2, H9, rfl, hV, hE2, hF, hK⟩
    have T9 := Lib.hid (T8.out.right hF hK)
    have Hb9 := Lib.hid (below_op Hb8.out T8.out.b hK)
    have HKg := Lib.hid hK
    have HVo := Lib.hid (HV1.out.offF T8.out.b)
    have HVb := Lib.hid hV.off.1
    have HE2 := Lib.hid (show Bare1 ev2 eb from hE2)
    have Hs8 := Lib.hid Hb8.out.size
    obtain ⟨pb, cb, rfl⟩ := hV.form
    clear hE2 hF hK hV A8 T8 Hb8 HV1
    simp only
    by_cases h0 : eb = 0
    · subst h0
      obtain rfl := HE2.out.zero
      have hgb := (HD0.out rfl).1
      subst hgb
      have hap2 := Hap.out
      rw [if_pos rfl] at hap2
      obtain ⟨RC, hRC⟩ : ∃ R, allF ⟨gl, gm, gk ++ s2, false⟩ = R := ⟨_, rfl⟩
      rw [hRC] at hap2
      have hlnc := all_len ((gk ++ s2).length + 1) ⟨gl, gm, gk ++ s2, false⟩ (by simp)
      rw [hRC] at hlnc
      obtain ⟨LC, ec, GC⟩ := RC
      simp only [Prod.mk.injEq] at hap2
      obtain ⟨rfl, rfl, rfl⟩ := hap2
      have hks : (gk ++ s2).length ≤ 6000 := by rw [List.length_append]; have := Hkl.out; have := Hs1.out; have := Hs2.out; omega
      have P9 := Lib.hid (put_good s2 (gk ++ s2) rfl (by omega) T9.out.b)
      have Hks := Lib.hid hks
      have HRC := Lib.hid hRC
      have Hlnc := Lib.hid hlnc
      clear hRC hks hlnc
      go_wp2_with fail
      refine P9.out.mono ?_
      rintro e w10 ⟨ev, H10, rfl, hE, hF, hK⟩
      obtain rfl := hE.zero
      have T10 := Lib.hid (T9.out.right hF hK)
      have Hb10 := Lib.hid (below_op Hb9.out T9.out.b hK)
      have HKg10 := Lib.hid (HKg.out.then hK)
      have HVb10 := Lib.hid (HVb.out.work T9.out.b hK)
      have A10 := fall_any (by have := Hks.out; simp only; omega) (T10.out.b.gl Hb10.out Hm.out Hg.out) T10.out.b
      rw [HRC.out] at A10
      have A10 := Lib.hid A10
      clear hE hF hK P9 T9 Hb9 HKg HVb
      go_wp2_with fail
      refine A10.out.mono ?_
      rintro e w11 ⟨v3, ev3, H11, rfl, hV, hE3, hF, hK⟩
      have T11 := Lib.hid (T10.out.right hF hK)
      have Hb11 := Lib.hid (below_op Hb10.out T10.out.b hK)
      have HKg11 := HKg10.out.then hK
      have hVb11 := HVb10.out.work T10.out.b hK
      obtain ⟨news, hnm, hnl, hsrc, hnP⟩ := hV.off.1.src
      obtain ⟨pc, cc, rfl⟩ := hV.form
      have hs11 : w8.heap.size ≤ w11.heap.size := HKg11.size
      obtain ⟨v', w12, hr, hP12, hgrow⟩ := run_append_pcs 34 hVb11 news hsrc hnP hs11 (by have := Hlnc.out; have := Hks.out; have := Hln1.out; have := Hs1.out; simp only at *; omega)
      rw [hnm] at hP12
      have T12 := Lib.hid (T11.out.grown hVb11 hgrow)
      have Hb12 := Lib.hid (Hb11.out.grown hgrow (Nat.le_trans Hs8.out hs11) (fun k hk => Nat.le_trans Hs8.out (hVb11.ge k hk)))
      have hKg12 := HKg11.grown hgrow hVb11.ge hs11
      have HV12 := Lib.hid ((HVo.out.later (by rw [off_size]; exact hKg12.off (Nat.le_refl _))).off)
      have HVb12 := Lib.hid hP12.pcs
      have HE3 := Lib.hid (show Bare1 ev3 er from hE3)
      have HRun := Lib.hid hr
      obtain ⟨pv, cv, rfl⟩ := hP12.form
      have TE1 := Lib.hid (tell_is (HE1.out.is w12) (T12.out.a.gl Hb12.out Hm.out Hg.out).g.off)
      clear hE3 hF hK hV A10 T10 Hb10 HKg10 HVb10 hnm hnl hsrc hnP hs11 hr hP12 hgrow hKg12 HKg11 hVb11 T11 Hb11
      simp only
      go_wp2_with (at_builtin; refine Lib.wpList_append_run _ rfl _ _ _ _ rfl _ _ rfl rfl _ _ HRun.out ?_)
      refine TE1.out.mono ?_
      rintro e w13 ⟨rfl, hb13⟩
      have T13 := Lib.hid (T12.out.later hb13)
      have Hb13 := Lib.hid (below_then Hb12.out hb13)
      have HV13 := Lib.hid (HV12.out.later hb13)
      have HVb13 := Lib.hid (HVb12.out.later hb13)
      have TE2 := Lib.hid (tell_is (HE3.out.is w13) (T13.out.a.gl Hb13.out Hm.out Hg.out).g.off)
      clear hb13 TE1 T12 Hb12 HV12 HVb12
      go_wp2_with fail
      refine TE2.out.mono ?_
      rintro e w14 ⟨rfl, hb14⟩
      have T14 := Lib.hid (T13.out.later hb14)
      have Hb14 := Lib.hid (below_then Hb13.out hb14)
      have Q1 := Lib.hid (kept_any T14.out.a)
      have Q2 := Lib.hid (kept_any T14.out.b)
      have EQ := eqPcs_any _ _ _ w14 (HV13.out.later hb14) (HVb13.out.later hb14) Hpc.out (by have := Hln.out; have := H3.out; omega)
      simp only [List.length_append] at EQ
      have EQ := Lib.hid EQ
      clear hb14 TE2 T13 Hb13 HV13 HVb13
      go_wp2_with fail
      refine Q1.out.mono ?_
      rintro e w15 ⟨rfl, rfl⟩
      go_wp2_with fail
      refine Q2.out.mono ?_
      rintro e w15 ⟨rfl, rfl⟩
      go_wp2_with fail
      refine EQ.out.mono ?_
      rintro e w15 ⟨rfl, hb15⟩
      go_wp2_with fail
      go_ret
      exact ⟨rfl, below_then Hb14.out hb15⟩
    · obtain rfl := HE2.out.iface h0
      have hap2 := Hap.out
      rw [if_neg h0] at hap2
      simp only [Prod.mk.injEq] at hap2
      obtain ⟨rfl, rfl, rfl⟩ := hap2
      have hV9 := (HVo.out.later HKg.out.off').off
      have TE1 := Lib.hid (tell_is (HE1.out.is w9) (T9.out.a.gl Hb9.out Hm.out Hg.out).g.off)
      have H0 := Lib.hid h0
      have HV9 := Lib.hid hV9
      have HVb9 := Lib.hid HVb.out.pcs
      clear h0 hV9 HVb HVo HKg
      go_wp2_with fail
      refine TE1.out.mono ?_
      rintro e w13 ⟨rfl, hb13⟩
      have T13 := Lib.hid (T9.out.later hb13)
      have Hb13 := Lib.hid (below_then Hb9.out hb13)
      have HV13 := Lib.hid (HV9.out.later hb13)
      have HVb13 := Lib.hid (HVb9.out.later hb13)
      have TE2 := Lib.hid (tell_is (ErrIs.bare (W := w13) er H0.out) (T13.out.a.gl Hb13.out Hm.out Hg.out).g.off)
      clear hb13 TE1 T9 Hb9 HV9 HVb9
      go_wp2_with fail
      refine TE2.out.mono ?_
      rintro e w14 ⟨rfl, hb14⟩
      have T14 := Lib.hid (T13.out.later hb14)
      have Hb14 := Lib.hid (below_then Hb13.out hb14)
      have Q1 := Lib.hid (kept_any T14.out.a)
      have Q2 := Lib.hid (kept_any T14.out.b)
      have EQ := Lib.hid (eqPcs_any _ _ _ w14 (HV13.out.later hb14) (HVb13.out.later hb14) Hpc.out (by have := Hln.out; have := H3.out; omega))
      clear hb14 TE2 T13 Hb13 HV13 HVb13
      go_wp2_with fail
      refine Q1.out.mono ?_
      rintro e w15 ⟨rfl, rfl⟩
      go_wp2_with fail
      refine Q2.out.mono ?_
      rintro e w15 ⟨rfl, rfl⟩
      go_wp2_with fail
      refine EQ.out.mono ?_
      rintro e w15 ⟨rfl, hb15⟩
      go_wp2_with fail
      go_ret
      exact ⟨rfl, below_then Hb14.out hb15⟩
end Go.Proofs.YtlkikkfbennmnaaGreatDoor
