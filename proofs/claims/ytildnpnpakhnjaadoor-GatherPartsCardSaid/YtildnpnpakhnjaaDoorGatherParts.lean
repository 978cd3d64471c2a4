/- GatherParts: a text that comes in parts is what it is at once. -/
import Derived.Test.YtildnpnpakhnjaaDoorGatherTwice
import Derived.Test.YtildnpnpakhnjaaDoorPick
import Derived.Test.YtildnpnpakhnjaaDoorOpenInts
namespace Go.Proofs.YtildnpnpakhnjaaDoor
open Go.RowKit
set_option linter.unusedVariables false
theorem addG_part {n : Nat} {a b : List UInt8} (h : a.length + b.length ≤ n) : addG ⟨n, a⟩ b true = (([], 0, -1), ⟨n, a ++ b⟩) := addG_more (by simpa using h)
theorem addG_last {n : Nat} {a b : List UInt8} {r : List Pr × Int × Int} (hb : a.length + b.length ≤ n) (h : prParse (a ++ b) = r) : addG ⟨n, a⟩ b false = (r, ⟨n, []⟩) := by
  rw [addG_end (by simpa using hb)]
  simp [h]
set_option maxRecDepth 100000 in
set_option maxHeartbeats 2000000 in
theorem gatherParts_any (s : List UInt8) (cs : List Int) (vc : Value) (w : World) (hs : s.length ≤ 140737488351232) (hvc : IntsV w vc cs) (hnc : cs.length ≤ 140737488355328) (hm : MaxCell w) (hg : ErrCell w) :
    Calls Tryd.prog 9 #[.string (S s), vc] w fun e w' => e = .returned (.bool true) ∧ Below w.heap.size w w' := by
  obtain ⟨pc, cc, rfl⟩ := hvc.form
  have M := Lib.hid (gathered_any w hm hg)
  have Hm := Lib.hid hm
  have Hg := Lib.hid hg
  have HVC := Lib.hid hvc
  clear hm hg hvc
  go_enter Tryd.func9, Tryd.ntmps9
  go_wp2_with fail
  refine M.out.mono ?_
  rintro e w0 ⟨rfl, hb0⟩
  have Hb0 := Lib.hid hb0
  have F := Lib.hid (paired_any w0 (Hm.out.later hb0))
  clear hb0 M
  go_wp2_with fail
  refine F.out.mono ?_
  rintro e w1 ⟨rfl, hb1⟩
  have Hb1 := Lib.hid (below_then Hb0.out hb1)
  clear hb1 F Hb0
  by_cases h20 : 2000 < s.length
  · have i1 : (2000 : Int) < (s.length : Int) := by omega
    go_wp2_with fail
    go_ret
    exact ⟨rfl, Hb1.out⟩
  have i1 : (s.length : Int) ≤ 2000 := by omega
  by_cases h60 : 60 < cs.length
  · have i2 : (60 : Int) < (cs.length : Int) := by omega
    go_wp2_with fail
    go_ret
    exact ⟨rfl, Hb1.out⟩
  have i2 : (cs.length : Int) ≤ 60 := by omega
  have hlen := parse_len s
  have A1 := parse_any s w1 (by omega) (Hm.out.later Hb1.out)
  obtain ⟨⟨l, n, p⟩, hp⟩ : ∃ r, prParse s = r := ⟨_, rfl⟩
  rw [hp] at A1 hlen
  have A1 := Lib.hid A1
  have Hp := Lib.hid hp
  have Hlen := Lib.hid hlen
  clear hp hlen h20 h60
  go_wp2_with fail
  refine A1.out.mono ?_
  rintro e w2 ⟨v1, ev1, rfl, hv1, he1, hb2⟩
  have Hb2 := Lib.hid (below_then Hb1.out hb2)
  have HV := Lib.hid hv1
  have HE := Lib.hid he1
  have N := Lib.hid (new_gs 20000 (Nat.le_refl _) Hb2.out Hm.out Hg.out)
  obtain ⟨p1, c1, rfl⟩ := hv1.form
  clear hv1 he1 hb2 A1 Hb1
  go_wp2_with fail
  refine N.out.mono ?_
  rintro e w3 ⟨gb, H, rfl, hgs, hb3⟩
  have HV3 := Lib.hid ((HV.out.later hb3).offG hgs.gat)
  have HE3 := Lib.hid ((HE.out.later hb3).offG hgs.gat)
  have HGS := Lib.hid hgs
  clear hgs hb3 N HV HE Hb2
  go_wp2_with fail
  go_loopw [9, 48] (fun x i wr => ∃ (j k : Nat) (H' : Nat → Prop), j ≤ cs.length ∧ i = .int .i64 j ∧ k ≤ s.length ∧ x = .int .i64 k ∧ GS w wr H' gb ⟨20000, s.take k⟩ ∧ PrsV (offW H' wr) (.slice p1 l.length c1) l ∧ ErrIs (offW H' wr) ev1 n p) (fun _ i _ => cs.length - (intOf i).toNat)
  case atStart => exact ⟨0, 0, H, by omega, rfl, by omega, rfl, HGS.out, HV3.out, HE3.out⟩
  case round =>
    obtain ⟨j, k, H', hj, rfl, hk, rfl, hgs, hv, he⟩ := hrel
    have HS := Lib.hid hgs
    have HV := Lib.hid hv
    have HE := Lib.hid he
    have hki : (k : Int) ≤ (s.length : Int) := by omega
    clear hgs hv he
    by_cases hlt : j < cs.length
    · have hji : (j : Int) < (cs.length : Int) := by omega
      obtain ⟨b, o, rfl, hcell⟩ := (HVC.out.later HS.out.low).cell hlt
      obtain ⟨c, hc⟩ : ∃ c, cs[j] = c := ⟨_, rfl⟩
      rw [hc] at hcell
      have K : ∀ W, Hid (Calls Tryd.prog 41 #[.int .i64 c, .int .i64 ((s.length : Int) - (k : Int) + 1)] W fun e w' => e = .returned (.int .i64 (pickI c (s.length - k + 1) : Nat)) ∧ W = w') := fun W => Lib.hid (by have := pick_any c (s.length - k + 1) W (by omega) (by omega); rwa [show ((s.length - k + 1 : Nat) : Int) = (s.length : Int) - (k : Int) + 1 by omega] at this)
      have hm := pickI_lt c (s.length - k + 1) (by omega)
      generalize pickI c (s.length - k + 1) = m at K hm
      have htk : List.take m (List.drop k s) = (s.drop k).take m := rfl
      have e0 : ((k : Int) + (m : Int)).toNat = k + m := by omega
      have e1 : k + m - k = m := by omega
      have i3 : (k : Int) ≤ (k : Int) + (m : Int) := by omega
      have i4 : (k : Int) + (m : Int) ≤ (s.length : Int) := by omega
      have i5 : (0 : Int) ≤ (k : Int) + (m : Int) := by omega
      have hj2 : s.take k ++ (s.drop k).take m = s.take (k + m) := by rw [List.take_add]
      have hpl : ((s.drop k).take m).length ≤ 140737488351232 := by rw [List.length_take, List.length_drop]; omega
      have hfit : (s.take k).length + ((s.drop k).take m).length ≤ 20000 := by rw [List.length_take, List.length_take, List.length_drop]; omega
      have A := add_gs ((s.drop k).take m) true hpl (addG_part hfit) HS.out
      rw [hj2] at A
      have A := Lib.hid A
      have hlk : ((s.take (k + m)).length : Int) = (k : Int) + (m : Int) := by rw [List.length_take]; omega
      obtain ⟨sk, hsk⟩ : ∃ x, List.take (k + m) s = x := ⟨_, rfl⟩
      obtain ⟨sp, hsp⟩ : ∃ x, List.take m (List.drop k s) = x := ⟨_, rfl⟩
      rw [hsk] at A hlk
      rw [hsp] at A htk
      have hbe : ((sk.length : Int) != (k : Int) + (m : Int)) = false := by simp; omega
      have Hsk := Lib.hid hsk
      clear hc htk hj2 hpl hfit hsk
      go_wp2_with fail
      refine (K _).out.mono ?_
      rintro e w4 ⟨rfl, rfl⟩
      go_wp2_with fail
      refine A.out.mono ?_
      rintro e w4 ⟨v2, ev2, H2, rfl, hv2, he2, hgs2, hk2⟩
      obtain rfl := he2.zero
      obtain ⟨p2, c2, rfl⟩ := hv2.form
      have HS2 := Lib.hid hgs2
      have HV2 := Lib.hid (HV.out.later hk2.off')
      have HE2 := Lib.hid (HE.out.later hk2.off')
      have Z := Lib.hid (size_gs hgs2)
      clear hv2 he2 hgs2 hk2 A HS HV HE hcell
      simp only [List.length_nil]
      go_wp2_with fail
      refine Z.out.mono ?_
      rintro e w5 ⟨rfl, rfl⟩
      go_wp2_with fail
      go_roundw
      case rel => exact ⟨j + 1, k + m, H2, by omega, by go_num, by omega, by go_num, by first | exact Hsk.out ▸ HS2.out | (rw [Hsk.out]; exact HS2.out), HV2.out, HE2.out⟩
      case measure => simp [intOf]; omega
    · obtain rfl : j = cs.length := by omega
      have htk : List.take (s.length - k) (List.drop k s) = List.drop k s := List.take_of_length_le (by simp)
      have hpl : (s.drop k).length ≤ 140737488351232 := by rw [List.length_drop]; omega
      have hfit : (s.take k).length + (s.drop k).length ≤ 20000 := by rw [List.length_take, List.length_drop]; omega
      have A := Lib.hid (add_gs (s.drop k) false hpl (addG_last (r := (l, n, p)) hfit (by rw [List.take_append_drop]; exact Hp.out)) HS.out)
      obtain ⟨sp, hsp⟩ : ∃ x, List.drop k s = x := ⟨_, rfl⟩
      rw [hsp] at A htk
      clear hpl hfit
      go_wp2_with fail
      refine A.out.mono ?_
      rintro e w4 ⟨v2, ev2, H2, rfl, hv2, he2, hgs2, hk2⟩
      have HS2 := Lib.hid hgs2
      have HV2 := Lib.hid (HV.out.later hk2.off').off
      have HE2 := Lib.hid (HE.out.later hk2.off').off
      have HW2 := Lib.hid hv2.off
      have HD2 := Lib.hid he2.off
      obtain ⟨p2, c2, rfl⟩ := hv2.form
      have T := Lib.hid (tell_is HE2.out hgs2.ec)
      clear hv2 he2 hgs2 hk2 A HS HV HE
      go_wp2_with fail
      refine T.out.mono ?_
      rintro e w5 ⟨rfl, hb5⟩
      have HS5 := Lib.hid (HS2.out.later hb5)
      have HV5 := Lib.hid (HV2.out.later hb5)
      have HW5 := Lib.hid (HW2.out.later hb5)
      have T := Lib.hid (tell_is (HD2.out.later hb5) HS5.out.ec)
      clear hb5 HS2 HV2 HW2 HD2 HE2
      go_wp2_with fail
      refine T.out.mono ?_
      rintro e w6 ⟨rfl, hb6⟩
      have HS6 := Lib.hid (HS5.out.later hb6)
      have E := Lib.hid (equalP_same l _ _ _ (by have := Hlen.out; omega) (HW5.out.later hb6) (HV5.out.later hb6))
      clear hb6 HS5 HV5 HW5 T
      go_wp2_with fail
      refine E.out.mono ?_
      rintro e w7 ⟨rfl, hb7⟩
      have HS7 := Lib.hid (HS6.out.later hb7)
      have Z := Lib.hid (size_gs HS7.out)
      clear hb7 E HS6
      go_wp2_with fail
      refine Z.out.mono ?_
      rintro e w8 ⟨rfl, rfl⟩
      go_wp2_with fail
      go_ret
      exact ⟨rfl, HS7.out.low⟩
end Go.Proofs.YtildnpnpakhnjaaDoor
