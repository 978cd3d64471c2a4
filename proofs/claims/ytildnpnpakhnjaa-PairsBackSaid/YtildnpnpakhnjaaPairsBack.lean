/- PairsBack: what is written is read; just what is right can be written. -/
import Derived.Test.YtildnpnpakhnjaaPaired
import Derived.Test.YtildnpnpakhnjaaThick
import Derived.Test.YtildnpnpakhnjaaEqP
import Derived.Test.YtildnpnpakhnjaaOpenPrs
import Derived.Test.YtildnpnpakhnjaaShCnt
namespace Go.Proofs.Ytildnpnpakhnjaa
open Go.RowKit
theorem prBytes_count : ∀ {l : List Pr}, okPs l → (prBytes l).count 0 = l.length
  | [], _ => rfl
  | p :: l, h => by
    have ih := prBytes_count (l := l) (fun q hq => h q (List.mem_cons_of_mem _ hq))
    obtain ⟨h1, h2⟩ := wrongP_ok (h p (List.mem_cons_self ..))
    have k0 := List.count_eq_zero.2 (isKey_not h1).1
    have v0 := List.count_eq_zero.2 (isVal_not h2)
    rw [prBytes_cons, List.count_append, ih]
    unfold wrP
    rw [List.count_append, List.count_cons, List.count_append, k0, v0]
    simp
    omega
set_option maxRecDepth 100000 in
set_option maxHeartbeats 1000000 in
theorem pairsBack_any (l : List Pr) (v : Value) (w : World) (hv : PrsV w v l) (hf : WideP l) (hm : MaxCell w) :
    Calls Try.prog 3 #[v] w fun e w' => e = .returned (.bool true) ∧ Below w.heap.size w w' := by
  obtain ⟨p, c, rfl⟩ := hv.form
  have HV := Lib.hid hv
  have Hf := Lib.hid hf
  have Hm := Lib.hid hm
  have hl32 := hf.2
  have F := Lib.hid (paired_any w hm)
  clear hv hf hm
  go_enter Try.func3, Try.ntmps3
  go_wp2_with fail
  refine F.out.mono ?_
  rintro e w1 ⟨rfl, hb1⟩
  have Hb1 := Lib.hid hb1
  have T := Lib.hid (thickK_any l _ w1 (HV.out.later hb1) Hf.out.1.1)
  clear hb1 F
  go_wp2_with fail
  refine T.out.mono ?_
  rintro e w2 ⟨b, rfl, hb2⟩
  have Hb2 := Lib.hid (below_then Hb1.out hb2)
  clear hb2 T
  cases b with
  | true =>
    go_wp2_with fail
    go_ret
    exact ⟨rfl, Hb2.out⟩
  | false =>
    have P := Lib.hid (print_prs l _ w2 (HV.out.later Hb2.out) Hf.out.1)
    by_cases h0 : (prRight l).1 = 0
    · obtain ⟨hk, hs, hr⟩ := prRight_is h0
      rw [prPrint_ok h0] at P
      have Hk := Lib.hid hk
      have hsm := prBytes_small hk
      have Hs := Lib.hid (show (prBytes l).length ≤ 1000000 by omega)
      have Hr := Lib.hid hr
      have Hc := Lib.hid (prBytes_count hk)
      have Hp := Lib.hid (parse_bytes hk hs)
      have hee : ((l.length : Int) == (l.length : Int)) = true := by simp
      clear h0 hk hr hsm
      go_wp2_with fail
      refine P.out.mono ?_
      rintro e w3 ⟨ev, rfl, he, hb3⟩
      obtain rfl := he.zero
      have Hb3 := Lib.hid (below_then Hb2.out hb3)
      have R := right_prs l _ w3 (HV.out.later Hb3.out) Hf.out.1
      rw [Hr.out] at R
      have R := Lib.hid R
      clear he hb3 P
      go_wp2_with fail
      refine R.out.mono ?_
      rintro e w4 ⟨ev, rfl, he, hb4⟩
      obtain rfl := he.zero
      have Hb4 := Lib.hid (below_then Hb3.out hb4)
      have Q := parse_any (prBytes l) w4 Hs.out (Hm.out.later Hb4.out)
      rw [Hp.out] at Q
      have Q := Lib.hid Q
      clear he hb4 R
      go_wp2_with fail
      refine Q.out.mono ?_
      rintro e w5 ⟨v5, ev, rfl, hv5, he, hb5⟩
      obtain rfl := he.zero
      have Hb5 := Lib.hid (below_then Hb4.out hb5)
      have E := Lib.hid (equalP_same l _ _ w5 Hf.out.1.1 (HV.out.later Hb5.out) hv5)
      obtain ⟨p5, c5, rfl⟩ := hv5.form
      clear hv5 he hb5 Q
      go_wp2_with fail
      refine E.out.mono ?_
      rintro e w6 ⟨rfl, hb6⟩
      have Hb6 := Lib.hid (below_then Hb5.out hb6)
      clear hb6 E
      have C := fun w => Try.strings_Count_one (S (prBytes l)) 0 w
      have e1 : Lib.countByte (S (prBytes l)).data.toList 0 = l.length := by
        unfold Lib.countByte
        rw [← Hc.out]
        simp [S]
      simp only [e1] at C
      have C := fun w => Lib.hid (C w)
      clear e1
      go_wp2_with fail
      refine (C _).out.mono ?_
      rintro e w7 ⟨rfl, hw⟩
      rw [hw]
      clear hw
      go_wp2_with fail
      go_ret
      exact ⟨rfl, Hb6.out⟩
    · rw [prPrint_bad h0] at P
      have Rr := fun w hv => Lib.hid (right_prs l (.slice p l.length c) w hv Hf.out.1)
      obtain ⟨⟨n, q⟩, hr⟩ : ∃ r, prRight l = r := ⟨_, rfl⟩
      rw [hr] at P h0
      simp only [hr] at Rr
      clear hr
      go_wp2_with fail
      refine P.out.mono ?_
      rintro e w3 ⟨ev, rfl, he, hb3⟩
      obtain ⟨t, x, rfl⟩ := he.iface h0
      have Hb3 := Lib.hid (below_then Hb2.out hb3)
      have R := Rr w3 (HV.out.later Hb3.out)
      clear he hb3 P Rr
      go_wp2_with fail
      refine R.out.mono ?_
      rintro e w4 ⟨ev, rfl, he, hb4⟩
      obtain ⟨t2, x2, rfl⟩ := he.iface h0
      have Hb4 := Lib.hid (below_then Hb3.out hb4)
      clear he hb4 R
      go_wp2_with fail
      go_ret
      exact ⟨rfl, Hb4.out⟩
end Go.Proofs.Ytildnpnpakhnjaa
