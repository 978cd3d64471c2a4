/- AhsBack: what is written is read; just what is right can be written. -/
import Derived.Test.YtceinedicbdngaaDoorMore
import Derived.Test.YtceinedicbdngaaDoorWide
import Derived.Test.YtceinedicbdngaaDoorEqA
namespace Go.Proofs.YtceinedicbdngaaDoor
open Go.RowKit
set_option maxRecDepth 100000 in
theorem ahsBack_any (l : List Ah) (v : Value) (w : World) (hv : AhsV w v l) (hf : fitA l) (hg : ErrCell w) :
    Calls Tryd.prog 5 #[v] w fun e w' => e = .returned (.bool true) ∧ Below w.heap.size w w' := by
  have M := Lib.hid (more_fact w hg)
  have D := fun w hv => Lib.hid (wideK_any l v w hv hf)
  have Wr := fun w hv => Lib.hid (write_ahs l v w hv hf)
  have Rt := fun w hv => Lib.hid (right_ahs l v w hv hf)
  have Eq := fun v' w hv hv' => Lib.hid (equalA_same l v v' w hf.1 hv hv')
  have HV := Lib.hid hv
  have Hg := Lib.hid hg
  obtain ⟨p, c, rfl⟩ := hv.form
  by_cases h0 : (rightA l).1 = 0
  · obtain ⟨hk, hs, hr⟩ := rightA_is l h0
    have h4 := wrL_4 l
    have Rd := fun w hg => Lib.hid (read_ahs (wrL l) w hg (by omega))
    rw [read_write hk hs] at Rd
    rw [writeA_ok hk hs] at Wr
    rw [hr] at Rt
    obtain ⟨s, hsv⟩ : ∃ s, wrL l = s := ⟨_, rfl⟩
    simp only [hsv] at h4 hs Wr Rd
    have H4 := Lib.hid (show ((s.length : Int) % 4 == 0) = true by rw [beq_iff_eq]; omega)
    clear hv hg hf h0 hk hr hsv h4
    go_enter Tryd.func5, Tryd.ntmps5
    go_wp2_with fail
    refine M.out.mono ?_
    rintro e w1 ⟨rfl, hb1⟩
    have D1 := D _ (HV.out.later hb1)
    have Hb1 := Lib.hid hb1
    clear hb1 M D
    go_wp2_with fail
    refine D1.out.mono ?_
    rintro e w2 ⟨bb, rfl, hb2⟩
    have Hb2 := Lib.hid (below_then Hb1.out hb2)
    have W2 := Wr _ (HV.out.later Hb2.out)
    clear hb2 D1 Wr
    cases bb with
    | true =>
      go_wp2_with fail
      go_ret
      exact ⟨rfl, Hb2.out⟩
    | false =>
      go_wp2_with fail
      refine W2.out.mono ?_
      rintro e w3 ⟨ev, rfl, he, hb3⟩
      obtain rfl := he.zero
      have Hb3 := Lib.hid (below_then Hb2.out hb3)
      have Rt3 := Rt _ (HV.out.later Hb3.out)
      clear he hb3 W2 Rt
      go_wp2_with fail
      refine Rt3.out.mono ?_
      rintro e w4 ⟨ev, rfl, he, hb4⟩
      obtain rfl := he.zero
      have Hb4 := Lib.hid (below_then Hb3.out hb4)
      have Rd4 := Rd _ (Hg.out.later Hb4.out)
      clear he hb4 Rt3 Rd
      go_wp2_with fail
      refine Rd4.out.mono ?_
      rintro e w5 ⟨v5, ev, rfl, hv5, he, hb5⟩
      obtain rfl := he.zero
      have Hb5 := Lib.hid (below_then Hb4.out hb5)
      have Eq5 := Eq v5 _ (HV.out.later Hb5.out) hv5
      clear he hb5 hv5 Rd4 Eq
      have h4 := H4.out
      have h5 : decide ((s.length : Int) ≤ 1020) = true := decide_eq_true (by omega)
      go_wp2_with fail
      refine Eq5.out.mono ?_
      rintro e w6 ⟨rfl, hb6⟩
      have Hb6 := Lib.hid (below_then Hb5.out hb6)
      clear hb6
      go_wp2_with fail
      go_ret
      exact ⟨rfl, Hb6.out⟩
  · have hwr : writeA l = ([], rightA l) := by unfold writeA; rw [if_neg h0]
    obtain ⟨⟨n, q⟩, hr⟩ : ∃ r, rightA l = r := ⟨_, rfl⟩
    rw [hr] at hwr h0
    rw [hwr] at Wr
    rw [hr] at Rt
    have Hn := Lib.hid h0
    clear hv hg hf h0 hr hwr
    go_enter Tryd.func5, Tryd.ntmps5
    go_wp2_with fail
    refine M.out.mono ?_
    rintro e w1 ⟨rfl, hb1⟩
    have D1 := D _ (HV.out.later hb1)
    have Hb1 := Lib.hid hb1
    clear hb1 M D
    go_wp2_with fail
    refine D1.out.mono ?_
    rintro e w2 ⟨bb, rfl, hb2⟩
    have Hb2 := Lib.hid (below_then Hb1.out hb2)
    have W2 := Wr _ (HV.out.later Hb2.out)
    clear hb2 D1 Wr
    cases bb with
    | true =>
      go_wp2_with fail
      go_ret
      exact ⟨rfl, Hb2.out⟩
    | false =>
      go_wp2_with fail
      refine W2.out.mono ?_
      rintro e w3 ⟨ev, rfl, he, hb3⟩
      obtain ⟨t, x, rfl⟩ := he.iface Hn.out
      have Hb3 := Lib.hid (below_then Hb2.out hb3)
      have Rt3 := Rt _ (HV.out.later Hb3.out)
      clear he hb3 W2 Rt
      go_wp2_with fail
      refine Rt3.out.mono ?_
      rintro e w4 ⟨ev, rfl, he, hb4⟩
      obtain ⟨t', x', rfl⟩ := he.iface Hn.out
      have Hb4 := Lib.hid (below_then Hb3.out hb4)
      clear he hb4 Rt3
      go_wp2_with fail
      go_ret
      exact ⟨rfl, Hb4.out⟩
end Go.Proofs.YtceinedicbdngaaDoor
