/- GatherTwice: behind a text that was whole the next one is what it is alone. -/
import Derived.Test.YtildnpnpakhnjaaDoorGathered
import Derived.Test.YtildnpnpakhnjaaDoorPaired
namespace Go.Proofs.YtildnpnpakhnjaaDoor
open Go.RowKit
set_option linter.unusedVariables false
theorem addG_alone {n : Nat} {b : List UInt8} {r : List Pr × Int × Int} (hb : b.length ≤ n) (h : prParse b = r) : addG ⟨n, []⟩ b false = (r, ⟨n, []⟩) := by
  rw [addG_end (by simpa using hb)]
  simp [h]
set_option maxRecDepth 100000 in
set_option maxHeartbeats 2000000 in
theorem gatherTwice_any (a b : List UInt8) (w : World) (ha : a.length ≤ 140737488351232) (hb : b.length ≤ 140737488351232) (hm : MaxCell w) (hg : ErrCell w) :
    Calls Tryd.prog 8 #[.string (S a), .string (S b)] w fun e w' => e = .returned (.bool true) ∧ Below w.heap.size w w' := by
  have M := Lib.hid (gathered_any w hm hg)
  have Hm := Lib.hid hm
  have Hg := Lib.hid hg
  have Ha := Lib.hid ha
  have Hb := Lib.hid hb
  clear hm hg
  go_enter Tryd.func8, Tryd.ntmps8
  go_wp2_with fail
  refine M.out.mono ?_
  rintro e w0 ⟨rfl, hb0⟩
  have Hb0 := Lib.hid hb0
  have F := Lib.hid (paired_any w0 (Hm.out.later hb0))
  clear hb0 M
  go_wp2_with fail
  refine F.out.mono ?_
  rintro e w1 ⟨rfl, hb1⟩
  have Hb1 := Lib.hid (below_then Hb0.out hb1)
  clear hb1 F Hb0
  by_cases h10 : 2000 < a.length + b.length
  · have i1 : (2000 : Int) < (a.length : Int) + (b.length : Int) := by omega
    go_wp2_with fail
    go_ret
    exact ⟨rfl, Hb1.out⟩
  have i1 : (a.length : Int) + (b.length : Int) ≤ 2000 := by omega
  have ha2 : a.length ≤ 20000 := by omega
  have hb2 : b.length ≤ 20000 := by omega
  have N := Lib.hid (new_gs 20000 (Nat.le_refl _) Hb1.out Hm.out Hg.out)
  have hlen := parse_len b
  obtain ⟨⟨la, na, pa⟩, hra⟩ : ∃ r, prParse a = r := ⟨_, rfl⟩
  obtain ⟨⟨lb, nb, pb⟩, hrb⟩ : ∃ r, prParse b = r := ⟨_, rfl⟩
  have AA := Lib.hid (addG_alone (n := 20000) ha2 hra)
  have AB := Lib.hid (addG_alone (n := 20000) hb2 hrb)
  have PB := fun W (hm : MaxCell W) => Lib.hid (parse_any b W (by omega) hm)
  simp only [hrb] at PB hlen
  clear h10 ha hb Hb1 ha2 hb2 hra hrb
  go_wp2_with fail
  refine N.out.mono ?_
  rintro e w2 ⟨gb, H, rfl, hs, _⟩
  have A := Lib.hid (add_gs a false Ha.out AA.out hs)
  clear N hs
  go_wp2_with fail
  refine A.out.mono ?_
  rintro e w3 ⟨v1, ev1, H1, rfl, hv1, he1, hs1, _⟩
  have A := Lib.hid (add_gs b false Hb.out AB.out hs1)
  clear hv1 he1 hs1
  go_wp2_with fail
  refine A.out.mono ?_
  rintro e w4 ⟨v2, ev2, H2, rfl, hv2, he2, hs2, _⟩
  have HV2 := Lib.hid hv2.off
  have HE2 := Lib.hid he2.off
  have HS2 := Lib.hid hs2
  have P := PB _ hs2.mc
  clear hv2 he2 hs2 A
  go_wp2_with fail
  refine P.out.mono ?_
  rintro e w5 ⟨v3, ev3, rfl, hv3, he3, hb5⟩
  have HS5 := Lib.hid (HS2.out.later hb5)
  have HV5 := Lib.hid (HV2.out.later hb5)
  have HV3 := Lib.hid hv3
  have HE3 := Lib.hid he3
  have T := Lib.hid (tell_is (HE2.out.later hb5) HS5.out.ec)
  clear hv3 he3 hb5 P HS2 HV2 HE2 PB
  go_wp2_with fail
  refine T.out.mono ?_
  rintro e w6 ⟨rfl, hb6⟩
  have HS6 := Lib.hid (HS5.out.later hb6)
  have HV6 := Lib.hid (HV5.out.later hb6)
  have HV3' := Lib.hid (HV3.out.later hb6)
  have T := Lib.hid (tell_is (HE3.out.later hb6) HS6.out.ec)
  clear hb6 HS5 HV5 HV3 HE3
  go_wp2_with fail
  refine T.out.mono ?_
  rintro e w7 ⟨rfl, hb7⟩
  have HS7 := Lib.hid (HS6.out.later hb7)
  have E := Lib.hid (equalP_same lb _ _ _ (by omega) (HV6.out.later hb7) (HV3'.out.later hb7))
  clear hb7 HS6 HV6 HV3' T
  go_wp2_with fail
  refine E.out.mono ?_
  rintro e w8 ⟨rfl, hb8⟩
  have Hb8 := Lib.hid (HS7.out.later hb8).low
  clear hb8 E
  go_wp2_with fail
  go_ret
  exact ⟨rfl, Hb8.out⟩
end Go.Proofs.YtildnpnpakhnjaaDoor
