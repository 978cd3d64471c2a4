/- NegoOrder: offers the other way round come to the same, key by key. -/
import Derived.Test.YteapbjeapnmloaaGreatDoorGJ
import Derived.Test.YteapbjeapnmloaaGreatDoorNames18
import Derived.Test.YteapbjeapnmloaaGreatDoorReverseP
import Derived.Test.YteapbjeapnmloaaGreatDoorOpenPrs
namespace Go.Proofs.YteapbjeapnmloaaGreatDoor
open Go.RowKit
set_option linter.unusedVariables false
set_option maxRecDepth 100000 in
set_option maxHeartbeats 4000000 in
theorem negoOrder_any (l : List Pr) (v : Value) (m : List Pr) (u : Value) (dc : Bool) (w : World) (hv : PrsV w v l) (hf : WideP l) (hu : PrsV w u m) (hfu : WideP m) (hE : Env w) (hg : ErrCell w) :
    Calls Tryz.prog 12 #[v, u, .bool dc] w fun e w' => e = .returned (.bool true) ∧ Below w.heap.size w w' := by
  have HV := Lib.hid hv
  have HU := Lib.hid hu
  have HF := Lib.hid hf.1
  have HFU := Lib.hid hfu.1
  have HWU := Lib.hid hfu.2
  have HE := Lib.hid hE
  have Hg := Lib.hid hg
  obtain ⟨p, c, rfl⟩ := hv.form
  obtain ⟨pu, cu, rfl⟩ := hu.form
  have F := Lib.hid (settled_any w hE hg)
  clear hv hu hE hg
  go_enter Tryz.func12, Tryz.ntmps12
  go_wp2_with fail
  refine F.out.mono ?_
  rintro e w0 ⟨rfl, hb0⟩
  have Hb0 := Lib.hid hb0
  clear hb0 F
  have KY := Lib.hid (keyed_any w0 (HE.out.later Hb0.out) (Hg.out.later Hb0.out))
  go_wp2_with fail
  refine KY.out.mono ?_
  rintro e w0k ⟨rfl, hbk⟩
  have Hb0 := Lib.hid (below_then Hb0.out hbk)
  clear hbk KY
  have M := Lib.hid (made_any (w := w0k) l _ Hb0.out HV.out HF.out HE.out Hg.out)
  go_wp2_with fail
  refine M.out.mono ?_
  rintro e w1 hM
  clear M
  rcases hM with ⟨rfl, hb1⟩ | ⟨nb, mv, rfl, hS1, hbf1, hge1, hb1⟩
  · have Hb1 := Lib.hid (below_then Hb0.out hb1)
    clear hb1
    have M := Lib.hid (made_any (w := w1) l _ Hb1.out HV.out HF.out HE.out Hg.out)
    go_wp2_with fail
    refine M.out.mono ?_
    rintro e w1b hM
    clear M
    rcases hM with ⟨rfl, hb2⟩ | ⟨nc, mc, rfl, _, _, _, hb2⟩
    all_goals
      have Hb2 := Lib.hid (below_then Hb1.out hb2)
      clear hb2
      go_wp2_with fail
      go_ret
      exact ⟨rfl, Hb2.out⟩
  have HS0 := Lib.hid hS1
  have HB0 := Lib.hid hbf1
  have HG0 := Lib.hid hge1
  have Hb1 := Lib.hid (below_then Hb0.out hb1)
  have M := Lib.hid (made_any (w := w1) l _ Hb1.out HV.out HF.out HE.out Hg.out)
  clear hS1 hbf1 hge1 hb1
  go_wp2_with fail
  refine M.out.mono ?_
  rintro e w1b hM
  clear M
  rcases hM with ⟨rfl, hb2⟩ | ⟨nc, mc, rfl, hS2, hbf2, hge2, hb2⟩
  · have Hb2 := Lib.hid (below_then Hb1.out hb2)
    clear hb2
    go_wp2_with fail
    go_ret
    exact ⟨rfl, Hb2.out⟩
  have HT1 := Lib.hid (NT.mk' HS0.out hb2 hS2 hbf2 hge2)
  clear hS2 hbf2 hge2 hb2 HS0 HB0 HG0
  have T := Lib.hid (thickK_any m _ w1b (HU.out.later HT1.out.low) HFU.out.1)
  go_wp2_with fail
  refine T.out.mono ?_
  rintro e w2 ⟨b, rfl, hb2⟩
  have HT2 := Lib.hid (HT1.out.later hb2)
  clear hb2 T HT1
  rcases b_cases b with rfl | rfl
  · go_wp2_with fail
    go_ret
    exact ⟨rfl, HT2.out.low⟩
  have CL := Lib.hid (cloneP_any m _ w2 (HU.out.later HT2.out.low) HWU.out)
  go_wp2_with fail
  refine CL.out.mono ?_
  rintro e w3 ⟨v3, rfl, hb3, hlow3⟩
  obtain ⟨p3, c3, rfl⟩ := hb3.form
  have HB3 := Lib.hid hb3
  have Hl3 := Lib.hid hlow3
  have RV := Lib.hid (reverseP_any m _ w2.heap.size w3 hb3 (by have := HWU.out; omega))
  clear hb3 hlow3 CL
  go_wp2_with fail
  refine RV.out.mono ?_
  rintro e w4 ⟨rfl, hb4, hgrow⟩
  have hl4 := Hl3.out.grown hgrow Hl3.out.size HB3.out.ge
  have HT4 := Lib.hid (HT2.out.later hl4)
  have HB4 := Lib.hid (row_off (H := U (fun k => k = nb) (fun k => k = nc)) hb4 (fun k hk hh => by
    have h1 := HB3.out.ge k hk
    rcases hh with hh | hh
    · have := (HT2.out.a.base k hh).2; omega
    · have := (HT2.out.b.base k hh).2; omega))
  obtain ⟨⟨⟨s, a1, q1⟩, ra⟩, hr1⟩ : ∃ x, ansN l [] m true dc = x := ⟨_, rfl⟩
  obtain ⟨⟨⟨s2, a2, q2⟩, rb⟩, hr2⟩ : ∃ x, ansN l [] m.reverse true dc = x := ⟨_, rfl⟩
  have hnil := ans_back (mine := l) (l := m) (dc := dc)
  rw [hr1, hr2] at hnil
  simp only at hnil
  have hval := fun key => ans_back_val (mine := l) (l := m) (dc := dc) key
  rw [hr1, hr2] at hval
  simp only at hval
  have hdig := ans_back_dig (mine := l) (l := m) (dc := dc)
  rw [hr1, hr2] at hdig
  simp only at hdig
  have Hval := Lib.hid hval
  have Hdig := Lib.hid hdig
  have Hr2 := Lib.hid hr2
  have A := Lib.hid (ans_left hr1 HT4.out (HT4.out.args HU.out) HFU.out HE.out)
  clear hb4 hgrow hl4 hr1 hr2 hval hdig HB3 Hl3 HT2 RV
  go_wp2_with fail
  refine A.out.mono ?_
  rintro e w5 ⟨v5, ev5, H5, rfl, hb5, he5, hT5, hk5⟩
  have HE5 := Lib.hid he5
  have HB5 := Lib.hid (show PrsV (offW (U H5 (fun k => k = nc)) w5) (.slice p3 m.length c3) m.reverse from (PrBuf.prs HB4.out).kp hk5)
  have A := Lib.hid (ans_right Hr2.out hT5 HB5.out ⟨by rw [List.length_reverse]; exact HFU.out.1, fun p hp => HFU.out.2 p (List.mem_reverse.1 hp)⟩ HE.out)
  clear hb5 he5 hT5 hk5 HB4 HT4 Hr2
  go_wp2_with fail
  refine A.out.mono ?_
  rintro e w6 ⟨v6, ev6, K6, rfl, hb6, he6, hT6, hk6⟩
  have HT6 := Lib.hid hT6
  have he5 := HE5.out
  have hnn : (ev5 = .nilIface ∧ ev6 = .nilIface) ∨ (∃ t x t' x', ev5 = .iface t x ∧ ev6 = .iface t' x') := by
    by_cases h : a1 = 0
    · have h2 := hnil.2 h
      subst h h2
      exact .inl ⟨he5.zero, he6.zero⟩
    · have h2 : ¬ a2 = 0 := fun h2 => h (hnil.1 h2)
      obtain ⟨t, x, e1⟩ := he5.iface h
      obtain ⟨t', x', e2⟩ := he6.iface h2
      exact .inr ⟨t, x, t', x', e1, e2⟩
  clear hb6 he6 hT6 hk6 he5 HE5 HB5 A hnil
  rcases hnn with ⟨rfl, rfl⟩ | ⟨t, x, t', x', rfl, rfl⟩
  all_goals
    go_wp2_with fail
    go_quiet (fail)
    have HT7 := Lib.hid (HT6.out.later (below_drawn nq))
    generalize w6.drewN nq = w7 at *
    have NM := Lib.hid (names18_any w7)
    go_wp2_with fail
    refine NM.out.mono ?_
    rintro e wn ⟨bn, on, cn, rfl, hnm, hbn⟩
    have HTn := Lib.hid (HT7.out.later hbn)
    have HNM := Lib.hid hnm
    clear hnm hbn NM HT7
    go_wp2_with fail
    go_loopw [65] (fun i wr => ∃ j : Nat, j ≤ 18 ∧ i = .int .i64 j ∧ Below wn.heap.size wn wr) (fun i _ => 18 - (intOf i).toNat)
    case atStart => exact ⟨0, by omega, rfl, Below.refl _ _⟩
    case round =>
      obtain ⟨j, hj, rfl, hb⟩ := hrel
      have Hb := Lib.hid hb
      by_cases hlt : j < 18
      · have q0 := (HNM.out.later hb) j hlt
        obtain ⟨ke, hrow⟩ := name_row hlt
        obtain ⟨kk, hkk⟩ : ∃ kk, nameAt j = kk := ⟨_, rfl⟩
        rw [hkk] at q0 hrow
        obtain ⟨y, hy⟩ := val_known (recd := ra) hrow
        have hy2 := (Hval.out kk).trans hy
        have V1 := valueN_any kk (HTn.out.later hb).a (by have := HTn.out.ra.few; omega)
        have V2 := Lib.hid (fun W (hW : Below wn.heap.size wn W) => valueN_any kk (HTn.out.later hW).b (by have := HTn.out.rb.few; omega))
        unfold RetVE at V1 V2
        rw [hy] at V1
        rw [hy2] at V2
        simp only [errV_0] at V1 V2
        have V1 := Lib.hid V1
        have hjI : (j : Int) < 18 := by omega
        have hyy : (y == y) = true := by simp
        have hyy2 : (y != y) = false := by simp
        clear hb hrow hkk hy hy2
        go_wp2_with fail
        refine V1.out.mono ?_
        rintro e w8 ⟨rfl, hb8⟩
        have hb9 := below_then Hb.out hb8
        have V2' := Lib.hid (V2.out w8 hb9)
        have Hb9 := Lib.hid hb9
        clear hb8 hb9 V1 V2 q0
        go_wp2_with fail
        refine V2'.out.mono ?_
        rintro e w10 ⟨rfl, hb10⟩
        have Hb10 := Lib.hid (below_then Hb9.out hb10)
        clear hb10 V2'
        go_wp2_with fail
        go_roundw
        case rel => exact ⟨j + 1, by omega, by go_num, Hb10.out⟩
        case measure => simp [intOf]; omega
      · have HTe := Lib.hid (HTn.out.later hb)
        have D1 := digN_any HTe.out.a (by have := HTe.out.ra.few; omega)
        have D2 := Lib.hid (fun W (hW : Below wr.heap.size wr W) => digN_any (HTe.out.later hW).b (by have := HTe.out.rb.few; omega))
        rw [Hdig.out] at D2
        obtain ⟨dg, hdg⟩ : ∃ d, digN ra = d := ⟨_, rfl⟩
        rw [hdg] at D1 D2
        have D1 := Lib.hid D1
        have hdd : (dg == dg) = true := by simp
        clear hb hdg
        go_wp2_with fail
        refine D1.out.mono ?_
        rintro e w8 ⟨rfl, hb8⟩
        have D2' := Lib.hid (D2.out w8 hb8)
        have Hb8 := Lib.hid hb8
        clear hb8 D1 D2
        go_wp2_with fail
        refine D2'.out.mono ?_
        rintro e w9 ⟨rfl, hb9⟩
        have Hl := Lib.hid (HTe.out.later (below_then Hb8.out hb9)).low
        clear hb9 D2'
        go_wp2_with fail
        go_ret
        exact ⟨rfl, Hl.out⟩
end Go.Proofs.YteapbjeapnmloaaGreatDoor
