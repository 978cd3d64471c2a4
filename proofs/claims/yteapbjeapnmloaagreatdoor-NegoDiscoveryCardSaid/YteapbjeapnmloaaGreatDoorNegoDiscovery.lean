/- NegoDiscovery: in a discovery what counts for nothing is never recorded; all others come to what they come to otherwise. -/
import Derived.Test.YteapbjeapnmloaaGreatDoorGJ
import Derived.Test.YteapbjeapnmloaaGreatDoorGH
import Derived.Test.YteapbjeapnmloaaGreatDoorOpenPrs
namespace Go.Proofs.YteapbjeapnmloaaGreatDoor
open Go.RowKit
set_option linter.unusedVariables false
set_option maxRecDepth 100000 in
theorem discIs_any (x : Pr) (w : World) : Calls Tryz.prog 32 #[.agg #[.string (S x.k), .string (S x.v)]] w fun e w' => e = .returned (.bool (!counts x)) ∧ Below w.heap.size w w' := by
  obtain ⟨k, d⟩ := x
  obtain ⟨wp, hwp⟩ : ∃ wp, w.alloc (.cells #[.string (S k), .string (S d)] 35) = wp := ⟨_, rfl⟩
  have hbp : Below w.heap.size w wp := by rw [← hwp]; exact (Below.refl _ _).alloc (Nat.le_refl _) _
  have hPp : Blk wp w.heap.size #[.string (S k), .string (S d)] 35 := by rw [← hwp]; exact Blk.new w _ _
  obtain ⟨x0, x1⟩ := hPp.two
  have Hbp := Lib.hid hbp
  clear hbp hPp
  cases hrow : rowOf k with
  | none =>
    have hc : (!counts ⟨k, d⟩) = true := by unfold counts; simp only [hrow]; rfl
    rw [hc]
    have C := Lib.hid (of_no wp hrow)
    clear hrow hc
    go_enter Tryz.func32, Tryz.ntmps32
    go_wp2_with fail
    refine C.out.mono ?_
    rintro e w1 ⟨rfl, hb1⟩
    have Hb1 := Lib.hid (fun o => (below_then Hbp.out hb1).alloc (below_then Hbp.out hb1).size o)
    clear hb1
    go_wp2_with fail
    go_ret
    exact ⟨rfl, Hb1.out _⟩
  | some ke =>
    obtain ⟨kn, kd, lo, hi, df, no, klg⟩ := ke
    have hc : (!counts ⟨k, d⟩) = no := by unfold counts; simp only [hrow]; cases no <;> rfl
    rw [hc]
    have C0 := of_row wp hrow
    obtain ⟨K, hKd⟩ : ∃ K : Int, (kd : Int) = K := ⟨_, rfl⟩
    rw [hKd] at C0
    have C := Lib.hid C0
    clear hrow hc hKd C0
    go_enter Tryz.func32, Tryz.ntmps32
    go_wp2_with fail
    refine C.out.mono ?_
    rintro e w1 ⟨rfl, hb1⟩
    obtain ⟨w6, hw6⟩ : ∃ w6, w1.alloc (.cells #[.string (S kn), .int .i64 K, .int .i64 (lo : Int), .int .i64 (hi : Int), .string (S df), .bool no, .bool klg] 48) = w6 := ⟨_, rfl⟩
    have hb6 : Below wp.heap.size wp w6 := by rw [← hw6]; exact hb1.alloc hb1.size _
    have hK6 : Blk w6 w1.heap.size #[.string (S kn), .int .i64 K, .int .i64 (lo : Int), .int .i64 (hi : Int), .string (S df), .bool no, .bool klg] 48 := by rw [← hw6]; exact Blk.new w1 _ _
    obtain ⟨c0, c1, c2, c3, c4, c5, c6⟩ := hK6.seven
    have Hb6 := Lib.hid (below_then Hbp.out hb6)
    clear hb1 hb6 hK6
    go_wp2_with fail
    go_ret
    exact ⟨rfl, Hb6.out⟩
set_option maxRecDepth 100000 in
set_option maxHeartbeats 4000000 in
theorem negoDiscovery_any (l : List Pr) (v : Value) (m : List Pr) (u : Value) (w : World) (hv : PrsV w v l) (hf : WideP l) (hu : PrsV w u m) (hfu : WideP m) (hE : Env w) (hg : ErrCell w) :
    Calls Tryz.prog 7 #[v, u] w fun e w' => e = .returned (.bool true) ∧ Below w.heap.size w w' := by
  have HV := Lib.hid hv
  have HU := Lib.hid hu
  have HF := Lib.hid hf.1
  have HFU := Lib.hid hfu.1
  have HE := Lib.hid hE
  have Hg := Lib.hid hg
  obtain ⟨p, c, rfl⟩ := hv.form
  obtain ⟨pu, cu, rfl⟩ := hu.form
  have F := Lib.hid (settled_any w hE hg)
  clear hv hu hE hg
  go_enter Tryz.func7, Tryz.ntmps7
  go_wp2_with fail
  refine F.out.mono ?_
  rintro e w0 ⟨rfl, hb0⟩
  have Hb0 := Lib.hid hb0
  clear hb0 F
  have KY := Lib.hid (keyed_any w0 (HE.out.later Hb0.out) (Hg.out.later Hb0.out))
  go_wp2_with fail
  refine KY.out.mono ?_
  rintro e w0k ⟨rfl, hbk⟩
  have Hb0 := Lib.hid (below_then Hb0.out hbk)
  clear hbk KY
  have M := Lib.hid (made_any (w := w0k) l _ Hb0.out HV.out HF.out HE.out Hg.out)
  go_wp2_with fail
  refine M.out.mono ?_
  rintro e w1 hM
  clear M
  rcases hM with ⟨rfl, hb1⟩ | ⟨nb, mv, rfl, hS1, hbf1, hge1, hb1⟩
  · have Hb1 := Lib.hid (below_then Hb0.out hb1)
    clear hb1
    have M := Lib.hid (made_any (w := w1) l _ Hb1.out HV.out HF.out HE.out Hg.out)
    go_wp2_with fail
    refine M.out.mono ?_
    rintro e w1b hM
    clear M
    rcases hM with ⟨rfl, hb2⟩ | ⟨nc, mc, rfl, _, _, _, hb2⟩
    all_goals
      have Hb2 := Lib.hid (below_then Hb1.out hb2)
      clear hb2
      go_wp2_with fail
      go_ret
      exact ⟨rfl, Hb2.out⟩
  have HS0 := Lib.hid hS1
  have HB0 := Lib.hid hbf1
  have HG0 := Lib.hid hge1
  have Hb1 := Lib.hid (below_then Hb0.out hb1)
  have M := Lib.hid (made_any (w := w1) l _ Hb1.out HV.out HF.out HE.out Hg.out)
  clear hS1 hbf1 hge1 hb1
  go_wp2_with fail
  refine M.out.mono ?_
  rintro e w1b hM
  clear M
  rcases hM with ⟨rfl, hb2⟩ | ⟨nc, mc, rfl, hS2, hbf2, hge2, hb2⟩
  · have Hb2 := Lib.hid (below_then Hb1.out hb2)
    clear hb2
    go_wp2_with fail
    go_ret
    exact ⟨rfl, Hb2.out⟩
  have HT1 := Lib.hid (NT.mk' HS0.out hb2 hS2 hbf2 hge2)
  clear hS2 hbf2 hge2 hb2 HS0 HB0 HG0
  have T := Lib.hid (thickK_any m _ w1b (HU.out.later HT1.out.low) HFU.out.1)
  go_wp2_with fail
  refine T.out.mono ?_
  rintro e w2 ⟨b, rfl, hb2⟩
  have HT2 := Lib.hid (HT1.out.later hb2)
  clear hb2 T HT1
  rcases b_cases b with rfl | rfl
  · go_wp2_with fail
    go_ret
    exact ⟨rfl, HT2.out.low⟩
  obtain ⟨⟨⟨s, a1, q1⟩, ra⟩, hr1⟩ : ∃ x, ansN l [] m true true = x := ⟨_, rfl⟩
  obtain ⟨⟨⟨s2, a2, q2⟩, rb⟩, hr2⟩ : ∃ x, ansN l [] m true false = x := ⟨_, rfl⟩
  have haa := ansN_err_dc (mine := l) (rec := []) (l := m) (lg := true) true false
  rw [hr1, hr2] at haa
  simp only at haa
  subst haa
  have hdis := ans_disc l m
  rw [hr1, hr2] at hdis
  simp only at hdis
  have Hdis := Lib.hid hdis
  have Hr2 := Lib.hid hr2
  have A := Lib.hid (ans_left hr1 HT2.out (HT2.out.args HU.out) HFU.out HE.out)
  clear hr1 hr2 hdis
  go_wp2_with fail
  refine A.out.mono ?_
  rintro e w5 ⟨v5, ev5, H5, rfl, hb5, he5, hT5, hk5⟩
  have HE5 := Lib.hid he5
  have A := Lib.hid (ans_right Hr2.out hT5 (hT5.args HU.out) HFU.out HE.out)
  clear hb5 he5 hT5 hk5 HT2 Hr2
  go_wp2_with fail
  refine A.out.mono ?_
  rintro e w6 ⟨v6, ev6, K6, rfl, hb6, he6, hT6, hk6⟩
  have HT6 := Lib.hid hT6
  have he5 := HE5.out
  have hnn : (ev5 = .nilIface ∧ ev6 = .nilIface) ∨ (∃ t x t' x', ev5 = .iface t x ∧ ev6 = .iface t' x') := by
    by_cases h : a1 = 0
    · subst h
      exact .inl ⟨he5.zero, he6.zero⟩
    · obtain ⟨t, x, e1⟩ := he5.iface h
      obtain ⟨t', x', e2⟩ := he6.iface h
      exact .inr ⟨t, x, t', x', e1, e2⟩
  clear hb6 he6 hT6 hk6 he5 HE5 A
  rcases hnn with ⟨rfl, rfl⟩ | ⟨t, x, t', x', rfl, rfl⟩
  all_goals
    go_wp2_with fail
    go_quiet (fail)
    have HT7 := Lib.hid (HT6.out.later (below_drawn nq))
    generalize w6.drewN nq = w7 at *
    have R := Lib.hid (rec_right HT7.out)
    go_wp2_with fail
    refine R.out.mono ?_
    rintro e w8 ⟨v8, rfl, hb8, hlow8⟩
    obtain ⟨p8, c8, rfl⟩ := hb8.form
    have HT8 := Lib.hid (HT7.out.later hlow8)
    have HB8 := Lib.hid hb8
    have hr18 := HT8.out.rb.few
    have D := Lib.hid (deleteFuncP_any 32 #[] (fun x => !counts x) (enters_of Tryz.func32 (by kernel_rfl) rfl) rb (.slice p8 rb.length c8) w7.heap.size w8 hb8 (by omega) (fun W' _ x => discIs_any x W'))
    have Hl8 := Lib.hid hlow8
    clear hb8 hlow8 R
    go_wp2_with fail
    refine D.out.mono ?_
    rintro e w9 ⟨v9, rfl, hb9, _, hg9, _⟩
    have hfl : rb.filter (fun x => !!counts x) = ra := by
      rw [Hdis.out]
      congr 1
      funext x
      simp
    rw [hfl] at hb9
    have hl9 := Hl8.out.grown hg9 Hl8.out.size HB8.out.ge
    have HT9 := Lib.hid (HT7.out.later hl9)
    obtain ⟨p9, c9, rfl⟩ := hb9.form
    have HB9 := Lib.hid hb9.prs
    have R := Lib.hid (rec_left HT9.out)
    clear hb9 hg9 hl9 hfl D HT8 HB8 Hl8 HT7
    go_wp2_with fail
    refine R.out.mono ?_
    rintro e w10 ⟨v10, rfl, hb10, hlow10⟩
    obtain ⟨p10, c10, rfl⟩ := hb10.form
    have HT10 := Lib.hid (HT9.out.later hlow10)
    have hra := HT10.out.ra.few
    have E := Lib.hid (equalP_same ra _ _ w10 (by omega) hb10.prs (HB9.out.later hlow10))
    clear hb10 hlow10 R HT9 HB9
    go_wp2_with fail
    refine E.out.mono ?_
    rintro e w11 ⟨rfl, hb11⟩
    have Hl := Lib.hid (HT10.out.later hb11).low
    clear hb11 E
    go_wp2_with fail
    go_ret
    exact ⟨rfl, Hl.out⟩
end Go.Proofs.YteapbjeapnmloaaGreatDoor
