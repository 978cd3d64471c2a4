/- TargetAll: who is there is each target, in order, with all its portals; these can be told. -/
import Derived.Test.YtlcadichpcdgpaaGreatDoorTgtC
import Derived.Test.YtlcadichpcdgpaaGreatDoorGP
import Derived.Test.YtlcadichpcdgpaaGreatDoorGK
import Derived.Test.YtlcadichpcdgpaaGreatDoorGB
import Derived.Test.YtlcadichpcdgpaaGreatDoorGI
namespace Go.Proofs.YtlcadichpcdgpaaGreatDoor
open Go.RowKit
set_option linter.unusedVariables false
theorem all_fit {c : Cf} (h : CfOk c) : fitPs (c.ts.flatMap (oneT c.ps)) ∧ (c.ts.flatMap (oneT c.ps)).length ≤ 60 := by
  obtain ⟨h1, h2, _⟩ := prRight_is (by rw [list_right h] : (prRight (c.ts.flatMap (oneT c.ps))).1 = 0)
  refine ⟨⟨by omega, fun p hp => ?_⟩, h2⟩
  obtain ⟨a, b⟩ := wrongP_ok (h1 p hp)
  unfold isKey at a
  unfold isVal at b
  simp only [Bool.and_eq_true, decide_eq_true_eq] at a b
  omega
theorem flat_few (ps : List Po) (ts : List (List UInt8)) (j : Nat) (h : (ts.flatMap (oneT ps)).length ≤ 60) : ((ts.take j).flatMap (oneT ps)).length ≤ 60 := by
  have := congrArg (fun l => (l.flatMap (oneT ps)).length) (List.take_append_drop j ts)
  simp only [List.flatMap_append, List.length_append] at this
  omega
set_option maxRecDepth 100000 in
set_option maxHeartbeats 8000000 in
theorem targetAll_any (c : Cf) (vt vp vu vo : Value) (w : World) (hv : ConfAt w c vt vp vu vo) (hf : FitCf c) (h1 : TgtHasOk w) (h2 : TgtRightOk w) (h3 : TgtListOk w) (hm : MaxCell w) :
    Calls Tryz.prog 3 #[confV c vt vp vu vo] w fun e w' => e = .returned (.bool true) ∧ Below w.heap.size w w' := by
  obtain ⟨ts, ps, us, sn, ss, lim, own⟩ := c
  obtain ⟨pt, ct, et, -⟩ := hv.ts
  obtain ⟨pp, cp, ep⟩ := hv.ps.form
  simp only at et ep
  subst et ep
  have hA := (Below.refl w.heap.size w).alloc (Nat.le_refl _) (.cells #[(.slice pt ts.length ct), (.slice pp ps.length cp), vu, .string (S sn), .string (S ss), .int .i64 lim, vo] 29)
  have hK := Blk.new w #[(.slice pt ts.length ct), (.slice pp ps.length cp), vu, .string (S sn), .string (S ss), .int .i64 lim, vo] 29
  obtain ⟨w0, hw0⟩ : ∃ w0, w.alloc (.cells #[(.slice pt ts.length ct), (.slice pp ps.length cp), vu, .string (S sn), .string (S ss), .int .i64 lim, vo] 29) = w0 := ⟨_, rfl⟩
  rw [hw0] at hA hK
  have g1 : TgtHasOk w0 := fun W c vt vp vu vo name h => h1 W c vt vp vu vo name (below_then hA h)
  have g2 : TgtRightOk w0 := fun W c vt vp vu vo h => h2 W c vt vp vu vo (below_then hA h)
  have g3 : TgtListOk w0 := fun W c vt vp vu vo name all h => h3 W c vt vp vu vo name all (below_then hA h)
  have F := Lib.hid (listed_fact w0 g1 g2 g3)
  have HV := Lib.hid (hv.later hA)
  have Hf := Lib.hid hf
  have HK := Lib.hid hK
  have HA := Lib.hid hA
  have Hm := Lib.hid (hm.later hA)
  have H1 := Lib.hid g1
  have H2 := Lib.hid g2
  have H3 := Lib.hid g3
  clear hA hK hv hf hm h1 h2 h3 g1 g2 g3
  unfold confV
  simp only
  go_enter Tryz.func3, Tryz.ntmps3
  go_wp2_with fail
  refine F.out.mono ?_
  rintro e w1 ⟨rfl, hb1⟩
  have PD := Lib.hid (paired_any w1 (Hm.out.later hb1))
  have Hb1 := Lib.hid hb1
  clear hb1 F
  go_wp2_with fail
  refine PD.out.mono ?_
  rintro e w2 ⟨rfl, hb2⟩
  have Hb2 := Lib.hid (below_then Hb1.out hb2)
  have CR := crowdedK_any ⟨ts, ps, us, sn, ss, lim, own⟩ (.slice pt ts.length ct) (.slice pp ps.length cp) vu vo w2 (HV.out.later Hb2.out) Hf.out
  unfold confV at CR
  simp only at CR
  have CR := Lib.hid CR
  obtain ⟨k0, k1, k2, k3, k4, k5, k6⟩ := (HK.out.later Hb2.out).seven
  clear hb2 PD Hb1
  go_wp2_with fail
  refine CR.out.mono ?_
  rintro e w3 ⟨b, rfl, _, hb3⟩
  have Hb3 := Lib.hid (below_then Hb2.out hb3)
  clear hb3 k0 k1 k2 k3 k4 k5 k6 CR Hb2
  cases b with
  | true =>
    go_wp2_with fail
    go_ret
    exact ⟨rfl, below_then HA.out Hb3.out⟩
  | false =>
    have RR := H2.out w3 ⟨ts, ps, us, sn, ss, lim, own⟩ (.slice pt ts.length ct) (.slice pp ps.length cp) vu vo Hb3.out (HV.out.later Hb3.out) Hf.out
    obtain ⟨r1, r2, hrq⟩ : ∃ r1 r2, tgtR ⟨ts, ps, us, sn, ss, lim, own⟩ = (r1, r2) := ⟨_, _, rfl⟩
    rw [hrq] at RR
    unfold confV at RR
    simp only at RR
    have RR := Lib.hid RR
    obtain ⟨k0, k1, k2, k3, k4, k5, k6⟩ := (HK.out.later Hb3.out).seven
    have Hrq := Lib.hid hrq
    clear hrq
    go_wp2_with fail
    refine RR.out.mono ?_
    rintro e w4 ⟨ev, rfl, he, hb4⟩
    simp only at he
    have Hb4 := Lib.hid (below_then Hb3.out hb4)
    clear hb4 k0 k1 k2 k3 k4 k5 k6 RR Hb3
    by_cases hr : r1 = 0
    · subst hr
      obtain rfl := he.zero
      have hok := tgtR_ok.1 (by rw [Hrq.out] : (tgtR ⟨ts, ps, us, sn, ss, lim, own⟩).1 = 0)
      have h8 := hok.nt
      have h4 := hok.np
      obtain ⟨hfit, h60⟩ := all_fit hok
      have hlr := list_right hok
      have hnd := hok.ts.2
      simp only at h8 h4 hfit h60 hlr hnd
      have HFEW := Lib.hid (fun (j : Nat) => flat_few ps ts j h60)
      have hbig : ts.length * (1 + ps.length) * 32 ≤ 140737488351232 := by
        have : ts.length * (1 + ps.length) ≤ 8 * 5 := Nat.mul_le_mul h8 (by omega)
        omega
      have LS := H3.out w4 ⟨ts, ps, us, sn, ss, lim, own⟩ (.slice pt ts.length ct) (.slice pp ps.length cp) vu vo [] true Hb4.out (HV.out.later Hb4.out) Hf.out (fun _ => hbig)
      have LT := fun (W : World) (t : List UInt8) (h : Below w0.heap.size w0 W) => H3.out W ⟨ts, ps, us, sn, ss, lim, own⟩ (.slice pt ts.length ct) (.slice pp ps.length cp) vu vo t false h (HV.out.later h) Hf.out (fun h => by cases h)
      have HT := fun (W : World) (t : List UInt8) (h : Below w0.heap.size w0 W) => H1.out W ⟨ts, ps, us, sn, ss, lim, own⟩ (.slice pt ts.length ct) (.slice pp ps.length cp) vu vo t h (HV.out.later h).ts (by simp only; omega)
      have e1 : listD ⟨ts, ps, us, sn, ss, lim, own⟩ [] true = (ts.flatMap (oneT ps), 0) := rfl
      have e2 : ∀ t ∈ ts, listD ⟨ts, ps, us, sn, ss, lim, own⟩ t false = (oneT ps t, 0) := fun t ht => by
        unfold listD
        have hh : hasT ts t = true := decide_eq_true ht
        simp only
        rw [hh, if_neg (by simp), if_neg (by simp)]
      obtain ⟨A, hAll⟩ : ∃ A, ts.flatMap (oneT ps) = A := ⟨_, rfl⟩
      rw [hAll] at e1 hfit h60 hlr
      rw [e1] at LS
      have HALL := Lib.hid hAll
      clear hAll
      unfold confV at LS LT HT
      simp only at LS LT HT
      have LS := Lib.hid LS
      have LT := Lib.hid LT
      have HT := Lib.hid HT
      have E2 := Lib.hid e2
      have Hfit := Lib.hid hfit
      have H60 := Lib.hid h60
      have Hlr := Lib.hid hlr
      clear e1 e2 hfit h60 hlr hnd hbig hok he Hrq
      obtain ⟨k0, k1, k2, k3, k4, k5, k6⟩ := (HK.out.later Hb4.out).seven
      go_wp2_with fail
      refine LS.out.mono ?_
      rintro e w5 ⟨va, ev5, rfl, hpa, he5, hb5⟩
      simp only at hpa he5
      obtain rfl := he5.zero
      have Hb5 := Lib.hid (below_then Hb4.out hb5)
      have HPA := Lib.hid hpa
      obtain ⟨pa, ca, hform⟩ := hpa.form
      subst hform
      clear hb5 hpa he5 LS k0 k1 k2 k3 k4 k5 k6
      obtain ⟨k0, k1, k2, k3, k4, k5, k6⟩ := (HK.out.later Hb5.out).seven
      go_wp2_with fail
      clear k0 k1 k2 k3 k4 k5 k6
      go_loopw [5, 31] (fun v i wr => ∃ j : Nat, j ≤ ts.length ∧ i = .int .i64 j ∧ PrBuf w5.heap.size wr v ((ts.take j).flatMap (oneT ps)) ∧ Below w5.heap.size w5 wr) (fun _ i _ => ts.length - (intOf i).toNat)
      case atStart => exact ⟨0, by omega, rfl, PrBuf.nil _ _, Below.refl _ _⟩
      case round =>
        obtain ⟨j, hj, rfl, hbuf, hb⟩ := hrel
        have hb0 := below_then Hb5.out hb
        by_cases hlt : j < ts.length
        · have hpt := HV.out.ts
          simp only at hpt
          obtain ⟨b, o, rfl, q0⟩ := (hpt.later hb0).cell hlt
          have hnext := flat_take ps ts j hlt
          have hfew := HFEW.out j
          have hmem : ts[j] ∈ ts := List.getElem_mem hlt
          obtain ⟨t, ht⟩ : ∃ t, ts[j] = t := ⟨_, rfl⟩
          rw [ht] at q0 hnext hmem
          have hji : (j : Int) < (ts.length : Int) := by omega
          obtain ⟨M, hM⟩ : ∃ M, (ts.take j).flatMap (oneT ps) = M := ⟨_, rfl⟩
          rw [hM] at hbuf hnext hfew
          have L1 := LT.out wr t hb0
          rw [E2.out t hmem] at L1
          have L1 := Lib.hid L1
          have hh : hasT ts t = true := decide_eq_true hmem
          have Hnext := Lib.hid hnext
          have HBF := Lib.hid hbuf
          have Hb := Lib.hid hb
          have Hfew := Lib.hid hfew
          obtain ⟨pv, cv, hform⟩ := hbuf.form
          subst hform
          have Hhh := Lib.hid hh
          obtain ⟨k0, k1, k2, k3, k4, k5, k6⟩ := (HK.out.later hb0).seven
          clear hbuf hnext hb hb0 hM ht hpt hfew hh hmem
          go_wp2_with fail
          refine L1.out.mono ?_
          rintro e w6 ⟨vl, ev6, rfl, hpl, he6, hb6⟩
          simp only at hpl he6
          obtain rfl := he6.zero
          have Hb6 := Lib.hid (below_then Hb.out hb6)
          have HB6 := Lib.hid (HBF.out.later hb6)
          have HPL := Lib.hid hpl
          obtain ⟨pl, cl, hform⟩ := hpl.form
          have hl1 := oneT_len ps t
          have Hl1 := Lib.hid hl1
          rw [hl1] at hform
          subst hform
          have h06 := below_then Hb5.out Hb6.out
          have L2 := HT.out w6 t h06
          rw [Hhh.out] at L2
          have L2 := Lib.hid L2
          clear hpl he6 hb6 L1 HBF k0 k1 k2 k3 k4 k5 k6 q0 hl1
          obtain ⟨k0, k1, k2, k3, k4, k5, k6⟩ := (HK.out.later h06).seven
          clear h06
          go_wp2_with fail
          refine L2.out.mono ?_
          rintro e w7 ⟨rfl, hb7⟩
          have hb57 := below_then Hb6.out hb7
          have hbuf7 := HB6.out.later hb7
          obtain ⟨v8, w8, hrun, hbuf8, hgrow⟩ := run_append_prs hbuf7 (HPL.out.later hb7) (by have := Hfew.out; omega) (by rw [Hl1.out]; omega) hb57.size
          have hb58 : Below w5.heap.size w5 w8 := hb57.grown hgrow hb57.size hbuf7.ge
          rw [← Hnext.out] at hbuf8
          have HRun := Lib.hid hrun
          have HB8 := Lib.hid hbuf8
          have Hb58 := Lib.hid hb58
          clear hb57 hbuf7 hrun hbuf8 hgrow hb58 hb7 k0 k1 k2 k3 k4 k5 k6 HB6 HPL Hb6 Hb L2
          go_wp2_with (at_builtin; refine wpList_append_ran _ (by rfl) _ _ _ _ rfl _ _ rfl rfl _ _ HRun.out ?_)
          go_roundw
          case rel => exact ⟨j + 1, by omega, by go_num, HB8.out, Hb58.out⟩
          case measure => simp [intOf]; omega
        · obtain rfl : j = ts.length := by omega
          rw [List.take_length, HALL.out] at hbuf
          have hpa := HPA.out.later hb
          have EQ := Lib.hid (equalP_same _ _ _ wr (by have := H60.out; omega) hpa hbuf.prs)
          have HBR := Lib.hid hb
          have Hend := Lib.hid (below_then HA.out hb0)
          obtain ⟨pv, cv, hform⟩ := hbuf.form
          subst hform
          clear hbuf hpa hb hb0
          go_wp2_with fail
          refine EQ.out.mono ?_
          rintro e w6 ⟨rfl, hb6⟩
          have RP := right_prs _ _ w6 (HPA.out.later (below_then HBR.out hb6)) Hfit.out
          rw [Hlr.out] at RP
          have RP := Lib.hid RP
          have Hend := Lib.hid (below_then Hend.out hb6)
          clear hb6
          go_wp2_with fail
          refine RP.out.mono ?_
          rintro e w7 ⟨ev7, rfl, he7, hb7⟩
          simp only at he7
          obtain rfl := he7.zero
          go_wp2_with fail
          go_ret
          exact ⟨rfl, below_then Hend.out hb7⟩
    · obtain ⟨tt, xx, rfl⟩ := he.iface hr
      go_wp2_with fail
      go_ret
      exact ⟨rfl, below_then HA.out Hb4.out⟩
end Go.Proofs.YtlcadichpcdgpaaGreatDoor
