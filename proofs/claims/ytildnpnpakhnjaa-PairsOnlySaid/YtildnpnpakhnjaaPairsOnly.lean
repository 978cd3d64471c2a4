/- PairsOnly: what is read is right, and is written so. -/
import Derived.Test.YtildnpnpakhnjaaPaired
import Derived.Test.YtildnpnpakhnjaaOpenPrs
namespace Go.Proofs.Ytildnpnpakhnjaa
open Go.RowKit
theorem okPs_fit {l : List Pr} (h : okPs l) (hl : l.length ≤ 60) : fitPs l := ⟨by omega, fun p hp => by have := thick_okP (h p hp); omega⟩
set_option maxRecDepth 100000 in
set_option maxHeartbeats 1000000 in
theorem pairsOnly_any (s : List UInt8) (w : World) (hl : s.length ≤ 140737488351232) (hm : MaxCell w) :
    Calls Try.prog 4 #[.string (S s)] w fun e w' => e = .returned (.bool true) ∧ Below w.heap.size w w' := by
  have Hm := Lib.hid hm
  have F := Lib.hid (paired_any w hm)
  clear hm
  go_enter Try.func4, Try.ntmps4
  go_wp2_with fail
  refine F.out.mono ?_
  rintro e w1 ⟨rfl, hb1⟩
  have Hb1 := Lib.hid hb1
  clear hb1 F
  by_cases h20 : 2000 < s.length
  · have h20i : (2000 : Int) < (s.length : Int) := by omega
    go_wp2_with fail
    go_ret
    exact ⟨rfl, Hb1.out⟩
  have Q := parse_any s w1 (by omega) (Hm.out.later Hb1.out)
  have h20i : (s.length : Int) ≤ 2000 := by omega
  by_cases h0 : (prParse s).2.1 = 0
  · obtain ⟨l, e1, rfl, hk, hs⟩ := parse_is h0
    rw [e1] at Q
    have Q := Lib.hid Q
    have Hk := Lib.hid hk
    have Hr := Lib.hid (prRight_ok hk hs)
    have Hp := Lib.hid (prPrint_ok (l := l) (by rw [prRight_ok hk hs]))
    have Hf := Lib.hid (okPs_fit hk hs)
    clear h0 e1 hk
    go_wp2_with fail
    refine Q.out.mono ?_
    rintro e w2 ⟨v, ev, rfl, hv, he, hb2⟩
    obtain rfl := he.zero
    have Hb2 := Lib.hid (below_then Hb1.out hb2)
    have P := print_prs l v w2 hv Hf.out
    rw [Hp.out] at P
    have P := Lib.hid P
    have HV := Lib.hid hv
    obtain ⟨p, c, rfl⟩ := hv.form
    clear he hb2 Q hv
    go_wp2_with fail
    refine P.out.mono ?_
    rintro e w3 ⟨ev, rfl, he, hb3⟩
    obtain rfl := he.zero
    have Hb3 := Lib.hid (below_then Hb2.out hb3)
    have R := right_prs l _ w3 (HV.out.later hb3) Hf.out
    rw [Hr.out] at R
    have R := Lib.hid R
    clear he hb3 P
    go_wp2_with fail
    refine R.out.mono ?_
    rintro e w4 ⟨ev, rfl, he, hb4⟩
    obtain rfl := he.zero
    have Hb4 := Lib.hid (below_then Hb3.out hb4)
    clear he hb4 R
    go_wp2_with fail
    go_ret
    exact ⟨rfl, Hb4.out⟩
  · have h1 := parse_bad h0
    obtain ⟨⟨l, n, q⟩, hr⟩ : ∃ r, prParse s = r := ⟨_, rfl⟩
    rw [hr] at Q h0 h1
    simp only at h0 h1
    subst h1
    have Q := Lib.hid Q
    clear hr
    go_wp2_with fail
    refine Q.out.mono ?_
    rintro e w2 ⟨v, ev, rfl, hv, he, hb2⟩
    obtain ⟨t, x, rfl⟩ := he.iface h0
    have Hb2 := Lib.hid (below_then Hb1.out hb2)
    obtain ⟨p, c, rfl⟩ := hv.form
    simp only [List.length_nil]
    clear he hb2 Q hv
    go_wp2_with fail
    go_ret
    exact ⟨rfl, Hb2.out⟩
end Go.Proofs.Ytildnpnpakhnjaa
