/- PairsJoins: pairs of two texts are those of both, as long as there aren't too many. -/
import Derived.Test.YtildnpnpakhnjaaDoorPaired
import Derived.Test.YtildnpnpakhnjaaDoorIs
import Derived.Test.YtildnpnpakhnjaaDoorEqP
import Derived.Test.YtildnpnpakhnjaaDoorConcatP
namespace Go.Proofs.YtildnpnpakhnjaaDoor
open Go.RowKit
set_option maxRecDepth 100000 in
set_option maxHeartbeats 2000000 in
theorem pairsJoins_any (a b : List UInt8) (w : World) (hla : a.length ≤ 140737488351232) (hlb : b.length ≤ 140737488351232) (hm : MaxCell w) (hg : ErrCell w) :
    Calls Tryd.prog 5 #[.string (S a), .string (S b)] w fun e w' => e = .returned (.bool true) ∧ Below w.heap.size w w' := by
  have Hm := Lib.hid hm
  have Hg := Lib.hid hg
  have F := Lib.hid (paired_any w hm)
  clear hm hg
  go_enter Tryd.func5, Tryd.ntmps5
  go_wp2_with fail
  refine F.out.mono ?_
  rintro e w1 ⟨rfl, hb1⟩
  have Hb1 := Lib.hid hb1
  clear hb1 F
  by_cases h20 : 2000 < a.length + b.length
  · have h20i : (2000 : Int) < (a.length : Int) + (b.length : Int) := by omega
    go_wp2_with fail
    go_ret
    exact ⟨rfl, Hb1.out⟩
  have h20i : (a.length : Int) + (b.length : Int) ≤ 2000 := by omega
  have hcc : ¬ 9223372036854775807 < a.length + b.length := by omega
  have Q1 := parse_any a w1 (by omega) (Hm.out.later Hb1.out)
  have Q2 := fun w hm => parse_any b w (by omega) hm
  have Q3 := fun w hm => parse_any (a ++ b) w (by rw [List.length_append]; omega) hm
  have hj := fun x y => parse_join (a := a) (b := b) (x := x) (y := y)
  have hlx := parse_len a
  have hly := parse_len b
  have hpa := parse_is (s := a)
  have hpb := parse_is (s := b)
  obtain ⟨⟨x, n1, q1⟩, h1⟩ : ∃ r, prParse a = r := ⟨_, rfl⟩
  obtain ⟨⟨y, n2, q2⟩, h2⟩ : ∃ r, prParse b = r := ⟨_, rfl⟩
  rw [h1] at Q1 hlx hpa
  rw [h2] at hly hpb
  simp only [h2] at Q2
  simp only at hlx hly hpa hpb
  have hjx : n1 = 0 → n2 = 0 → prParse (a ++ b) = if 60 < x.length + y.length then ([], 4, -1) else (x ++ y, 0, -1) := fun e1 e2 => by
    obtain ⟨l, e, _⟩ := hpa e1
    obtain ⟨m, e', _⟩ := hpb e2
    refine hj x y ?_ ?_
    · rw [h1, e]; cases e; rfl
    · rw [h2, e']; cases e'; rfl
  have HJ := Lib.hid hjx
  have Q1 := Lib.hid Q1
  have hlxi : (x.length : Int) ≤ 60 := by omega
  have hlyi : (y.length : Int) ≤ 60 := by omega
  clear hj hpa hpb h1 h2 hjx
  go_wp2_with fail
  refine Q1.out.mono ?_
  rintro e w2 ⟨v1, ev1, rfl, hv1, he1, hb2⟩
  have Hb2 := Lib.hid (below_then Hb1.out hb2)
  have HV1 := Lib.hid hv1
  have He1 := Lib.hid he1
  have Q2' := Lib.hid (Q2 w2 (Hm.out.later Hb2.out))
  obtain ⟨p1, c1, rfl⟩ := hv1.form
  clear hv1 he1 hb2 Q1 Q2
  go_wp2_with fail
  refine Q2'.out.mono ?_
  rintro e w3 ⟨v2, ev2, rfl, hv2, he2, hb3⟩
  have Hb3 := Lib.hid (below_then Hb2.out hb3)
  have HV1b := Lib.hid (HV1.out.later hb3)
  have HV2 := Lib.hid hv2
  have He2 := Lib.hid he2
  have Q3' := Q3 w3 (Hm.out.later Hb3.out)
  obtain ⟨p2, c2, rfl⟩ := hv2.form
  clear hv2 he2 hb3 Q2' Q3
  by_cases z1 : n1 = 0
  case neg =>
    obtain ⟨t, u, rfl⟩ := He1.out.iface z1
    clear Q3' z1
    go_wp2_with fail
    go_ret
    exact ⟨rfl, Hb3.out⟩
  subst z1
  obtain rfl := He1.out.zero
  by_cases z2 : n2 = 0
  case neg =>
    obtain ⟨t, u, rfl⟩ := He2.out.iface z2
    clear Q3' z2
    go_wp2_with fail
    go_ret
    exact ⟨rfl, Hb3.out⟩
  subst z2
  obtain rfl := He2.out.zero
  rw [HJ.out rfl rfl] at Q3'
  by_cases h60 : 60 < x.length + y.length
  · rw [if_pos h60] at Q3'
    have h60i : (60 : Int) < (x.length : Int) + (y.length : Int) := by omega
    have Q3' := Lib.hid Q3'
    clear h60
    go_wp2_with fail
    refine Q3'.out.mono ?_
    rintro e w4 ⟨v3, ev3, rfl, hv3, he3, hb4⟩
    have Hb4 := Lib.hid (below_then Hb3.out hb4)
    obtain ⟨p3, c3, rfl⟩ := hv3.form
    have T := Lib.hid (tell_is he3 (Hg.out.later Hb4.out))
    clear hv3 he3 hb4 Q3'
    go_wp2_with fail
    refine T.out.mono ?_
    rintro e w5 ⟨rfl, hb5⟩
    have Hb5 := Lib.hid (below_then Hb4.out hb5)
    clear hb5 T
    go_wp2_with fail
    go_ret
    exact ⟨rfl, Hb5.out⟩
  · rw [if_neg h60] at Q3'
    have h60i : (x.length : Int) + (y.length : Int) ≤ 60 := by omega
    have h60n : x.length + y.length ≤ 60 := by omega
    have Q3' := Lib.hid Q3'
    clear h60
    go_wp2_with fail
    refine Q3'.out.mono ?_
    rintro e w4 ⟨v3, ev3, rfl, hv3, he3, hb4⟩
    have Hb4 := Lib.hid (below_then Hb3.out hb4)
    obtain rfl := he3.zero
    have hbn := (Below.refl w4.heap.size w4).alloc (Nat.le_refl _) (.cells #[.slice p1 x.length c1, .slice p2 y.length c2] 22)
    have hk := Blk.new w4 #[.slice p1 x.length c1, .slice p2 y.length c2] 22
    have CC := Lib.hid (concatP_any x y _ _ _ _ ((HV1b.out.later hb4).later hbn) ((HV2.out.later hb4).later hbn) hk.two.1 hk.two.2 (by omega) (by omega))
    have HV3 := Lib.hid (hv3.later hbn)
    have Hb5 := Lib.hid (below_then Hb4.out hbn)
    obtain ⟨p3, c3, hf3⟩ := hv3.form
    rw [List.length_append] at hf3
    subst hf3
    clear hv3 he3 hb4 Q3' hbn hk
    go_wp2_with fail
    refine CC.out.mono ?_
    rintro e w6 ⟨v6, rfl, hv6, hb6⟩
    have Hb6 := Lib.hid (below_then Hb5.out hb6)
    obtain ⟨p6, c6, hf6⟩ := hv6.form
    rw [List.length_append] at hf6
    subst hf6
    have E := Lib.hid (equalP_same (x ++ y) _ _ w6 (by rw [List.length_append]; omega) (HV3.out.later hb6) hv6)
    clear hv6 hb6 CC
    go_wp2_with fail
    refine E.out.mono ?_
    rintro e w7 ⟨rfl, hb7⟩
    have Hb7 := Lib.hid (below_then Hb6.out hb7)
    clear hb7 E
    go_wp2_with fail
    go_ret
    exact ⟨rfl, Hb7.out⟩
end Go.Proofs.YtildnpnpakhnjaaDoor
