/- TargetNone: of a name that no target has nothing is told. -/
import Derived.Test.YtlcadichpcdgpaaGreatDoorTgtC
import Derived.Test.YtlcadichpcdgpaaGreatDoorGP
import Derived.Test.YtlcadichpcdgpaaGreatDoorGO
import Derived.Test.YtlcadichpcdgpaaGreatDoorGC
namespace Go.Proofs.YtlcadichpcdgpaaGreatDoor
open Go.RowKit
set_option linter.unusedVariables false
set_option maxRecDepth 100000 in
set_option maxHeartbeats 4000000 in
theorem targetNone_any (c : Cf) (vt vp vu vo : Value) (n : List UInt8) (w : World) (hv : ConfAt w c vt vp vu vo) (hf : FitCf c) (hn : n.length ≤ 140737488351232) (h1 : TgtHasOk w) (h2 : TgtRightOk w) (h3 : TgtListOk w) (hg : ErrCell w) :
    Calls Tryz.prog 4 #[confV c vt vp vu vo, .string (S n)] w fun e w' => e = .returned (.bool true) ∧ Below w.heap.size w w' := by
  obtain ⟨ts, ps, us, sn, ss, lim, own⟩ := c
  have hA := (Below.refl w.heap.size w).alloc (Nat.le_refl _) (.cells #[vt, vp, vu, .string (S sn), .string (S ss), .int .i64 lim, vo] 29)
  have hK := Blk.new w #[vt, vp, vu, .string (S sn), .string (S ss), .int .i64 lim, vo] 29
  obtain ⟨w0, hw0⟩ : ∃ w0, w.alloc (.cells #[vt, vp, vu, .string (S sn), .string (S ss), .int .i64 lim, vo] 29) = w0 := ⟨_, rfl⟩
  rw [hw0] at hA hK
  have g1 : TgtHasOk w0 := fun W c vt vp vu vo name h => h1 W c vt vp vu vo name (below_then hA h)
  have g2 : TgtRightOk w0 := fun W c vt vp vu vo h => h2 W c vt vp vu vo (below_then hA h)
  have g3 : TgtListOk w0 := fun W c vt vp vu vo name all h => h3 W c vt vp vu vo name all (below_then hA h)
  have F := Lib.hid (listed_fact w0 g1 g2 g3)
  have HV := Lib.hid (hv.later hA)
  have Hf := Lib.hid hf
  have HK := Lib.hid hK
  have HA := Lib.hid hA
  have Hg := Lib.hid (hg.later hA)
  have H1 := Lib.hid g1
  have H3 := Lib.hid g3
  clear hA hK hv hf hg h1 h2 h3 g1 g2 g3
  unfold confV
  simp only
  go_enter Tryz.func4, Tryz.ntmps4
  go_wp2_with fail
  refine F.out.mono ?_
  rintro e w1 ⟨rfl, hb1⟩
  have CR := Lib.hid (crowdedK_any ⟨ts, ps, us, sn, ss, lim, own⟩ vt vp vu vo w1 (HV.out.later hb1) Hf.out)
  have Hb1 := Lib.hid hb1
  obtain ⟨k0, k1, k2, k3, k4, k5, k6⟩ := (HK.out.later hb1).seven
  clear hb1 F
  go_wp2_with fail
  refine CR.out.mono ?_
  rintro e w2 ⟨b, rfl, hcr, hb2⟩
  have Hb2 := Lib.hid (below_then Hb1.out hb2)
  have Hcr := Lib.hid hcr
  clear hb2 hcr k0 k1 k2 k3 k4 k5 k6 CR Hb1
  cases b with
  | true =>
    go_wp2_with fail
    go_ret
    exact ⟨rfl, below_then HA.out Hb2.out⟩
  | false =>
    by_cases hl : (200 : Int) < (n.length : Int)
    · go_wp2_with fail
      go_ret
      exact ⟨rfl, below_then HA.out Hb2.out⟩
    · have hts := Hf.out.ts.1
      simp only at hts
      have LS := H3.out w2 ⟨ts, ps, us, sn, ss, lim, own⟩ vt vp vu vo n false Hb2.out (HV.out.later Hb2.out) Hf.out (fun h => by cases h)
      obtain ⟨lst, q, hlq⟩ : ∃ lst q, listD ⟨ts, ps, us, sn, ss, lim, own⟩ n false = (lst, q) := ⟨_, _, rfl⟩
      have HLQ := Lib.hid hlq
      rw [hlq] at LS
      unfold confV at LS
      simp only at LS
      have LS := Lib.hid LS
      obtain ⟨k0, k1, k2, k3, k4, k5, k6⟩ := (HK.out.later Hb2.out).seven
      clear hlq
      go_wp2_with fail
      refine LS.out.mono ?_
      rintro e w3 ⟨v, ev, rfl, hpv, he, hb3⟩
      have Hb3 := Lib.hid (below_then Hb2.out hb3)
      have HAS := H1.out w3 ⟨ts, ps, us, sn, ss, lim, own⟩ vt vp vu vo n Hb3.out (HV.out.later Hb3.out).ts (by simp only; omega)
      unfold confV at HAS
      simp only at HAS
      have HPV := Lib.hid hpv
      have He := Lib.hid he
      clear k0 k1 k2 k3 k4 k5 k6 hb3 LS Hb2 hpv he
      obtain ⟨k0, k1, k2, k3, k4, k5, k6⟩ := (HK.out.later Hb3.out).seven
      cases hq : hasT ts n with
      | true =>
        rw [hq] at HAS
        have HAS := Lib.hid HAS
        have hw := HLQ.out
        unfold listD at hw
        simp only at hw
        rw [hq, if_neg (by simp), if_neg (by simp)] at hw
        obtain ⟨rfl, rfl⟩ : oneT ps n = lst ∧ (0 : Int) = q := by simpa using hw
        obtain rfl := He.out.zero
        have hpos : 0 < (oneT ps n).length := by rw [oneT_len]; omega
        obtain ⟨pv, cv, rfl⟩ := HPV.out.form
        have Hpos := Lib.hid hpos
        clear hw hq hpos
        go_wp2_with fail
        refine HAS.out.mono ?_
        rintro e w4 ⟨rfl, hb4⟩
        have Hb4 := Lib.hid (below_then Hb3.out hb4)
        clear hb4
        go_wp2_with fail
        go_ret
        refine ⟨?_, below_then HA.out Hb4.out⟩
        show Ending.returned (.bool (decide (0 < (oneT ps n).length))) = _
        rw [decide_eq_true Hpos.out]
      | false =>
        rw [hq] at HAS
        have HAS := Lib.hid HAS
        have hw := HLQ.out
        unfold listD at hw
        simp only at hw
        rw [hq, if_neg (by simp), if_pos (by simp)] at hw
        obtain ⟨rfl, rfl⟩ : [] = lst ∧ (8 : Int) = q := by simpa using hw
        obtain ⟨pv, cv, rfl⟩ := HPV.out.form
        have hnm : decide (n ∈ ts) = false := hq
        clear hw hq
        go_wp2_with fail
        refine HAS.out.mono ?_
        rintro e w4 ⟨rfl, hb4⟩
        have T := Lib.hid (tell_is (He.out.later hb4) (Hg.out.later (below_then Hb3.out hb4)))
        have Hb4 := Lib.hid (below_then Hb3.out hb4)
        clear hb4 k0 k1 k2 k3 k4 k5 k6
        go_wp2_with fail
        refine T.out.mono ?_
        rintro e w5 ⟨rfl, hb5⟩
        have Hb5 := Lib.hid (below_then Hb4.out hb5)
        have CO := containsS_any ts vt n w5 (HV.out.later Hb5.out).ts (by omega)
        rw [hnm] at CO
        have CO := Lib.hid CO
        clear hb5
        obtain ⟨k0, k1, k2, k3, k4, k5, k6⟩ := (HK.out.later Hb5.out).seven
        go_wp2_with fail
        refine CO.out.mono ?_
        rintro e w' ⟨rfl, rfl⟩
        go_wp2_with fail
        go_ret
        exact ⟨rfl, below_then HA.out Hb5.out⟩
end Go.Proofs.YtlcadichpcdgpaaGreatDoor
