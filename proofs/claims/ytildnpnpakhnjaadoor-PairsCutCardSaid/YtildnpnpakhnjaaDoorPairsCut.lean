/- PairsCut: without its last byte a text is none, and that is told of its last pair. -/
import Derived.Test.YtildnpnpakhnjaaDoorPaired
import Derived.Test.YtildnpnpakhnjaaDoorPlaceAt
import Derived.Test.YtildnpnpakhnjaaDoorThick
import Derived.Test.YtildnpnpakhnjaaDoorOpenPrs
namespace Go.Proofs.YtildnpnpakhnjaaDoor
open Go.RowKit
set_option maxRecDepth 100000 in
set_option maxHeartbeats 2000000 in
theorem pairsCut_any (l : List Pr) (v : Value) (w : World) (hv : PrsV w v l) (hf : WideP l) (hm : MaxCell w) (hg : ErrCell w) :
    Calls Tryd.prog 6 #[v] w fun e w' => e = .returned (.bool true) ∧ Below w.heap.size w w' := by
  obtain ⟨p, c, rfl⟩ := hv.form
  have HV := Lib.hid hv
  have Hf := Lib.hid hf
  have Hm := Lib.hid hm
  have Hg := Lib.hid hg
  have hl32 := hf.2
  have F := Lib.hid (paired_any w hm)
  clear hv hf hm hg
  go_enter Tryd.func6, Tryd.ntmps6
  go_wp2_with fail
  refine F.out.mono ?_
  rintro e w1 ⟨rfl, hb1⟩
  have Hb1 := Lib.hid hb1
  have T := Lib.hid (thickK_any l _ w1 (HV.out.later hb1) Hf.out.1.1)
  clear hb1 F
  go_wp2_with fail
  refine T.out.mono ?_
  rintro e w2 ⟨b, rfl, hb2⟩
  have Hb2 := Lib.hid (below_then Hb1.out hb2)
  clear hb2 T
  cases b with
  | true =>
    go_wp2_with fail
    go_ret
    exact ⟨rfl, Hb2.out⟩
  | false =>
    by_cases hl0 : l.length = 0
    · have h0b : ((l.length : Int) == 0) = true := by simp [hl0]
      go_wp2_with fail
      go_ret
      exact ⟨rfl, Hb2.out⟩
    have h0b : ((l.length : Int) == 0) = false := by simp; exact fun h => hl0 (by rw [h]; rfl)
    have R := right_prs l _ w2 (HV.out.later Hb2.out) Hf.out.1
    by_cases h0 : (prRight l).1 = 0
    case neg =>
      obtain ⟨⟨n, q⟩, hr⟩ : ∃ r, prRight l = r := ⟨_, rfl⟩
      rw [hr] at R h0
      have R := Lib.hid R
      clear hr
      go_wp2_with fail
      refine R.out.mono ?_
      rintro e w3 ⟨ev, rfl, he, hb3⟩
      obtain ⟨t, x, rfl⟩ := he.iface h0
      have Hb3 := Lib.hid (below_then Hb2.out hb3)
      clear he hb3 R
      go_wp2_with fail
      go_ret
      exact ⟨rfl, Hb3.out⟩
    obtain ⟨hk, hs, hr⟩ := prRight_is h0
    rw [hr] at R
    have R := Lib.hid R
    have Pp := fun w hv => print_prs l (.slice p l.length c) w hv Hf.out.1
    rw [prPrint_ok h0] at Pp
    have hcut := parse_cut hk hs (by omega)
    have hsm := prBytes_small hk
    have hne : (prBytes l) ≠ [] := fun e => by
      cases l with
      | nil => exact hl0 rfl
      | cons p l => rw [prBytes_cons] at e; exact wrP_ne p _ e
    have hie : (prBytes l).isEmpty = false := by
      cases h : prBytes l with
      | nil => exact absurd h hne
      | cons _ _ => rfl
    have hpos := List.length_pos_iff.2 hne
    have Q := fun w hm => parse_any ((prBytes l).take ((prBytes l).length - 1)) w (by rw [List.length_take]; omega) hm
    simp only [hcut] at Q
    generalize prBytes l = s at *
    have i1 : (s.length : Int) ≤ 30000 := by omega
    have i2 : (1 : Int) ≤ (s.length : Int) := by omega
    have e1 : ((s.length : Int) - 1).toNat = s.length - 1 := by omega
    have e2 : ((l.length - 1 : Nat) : Int) = (l.length : Int) - 1 := by omega
    have i3 : (1 : Int) ≤ (l.length : Int) := by omega
    have i4 : (l.length : Int) ≤ 60 := by omega
    simp only [e2] at Q
    clear h0 hk hr hcut hsm hne hl0 e2
    go_wp2_with fail
    refine R.out.mono ?_
    rintro e w3 ⟨ev, rfl, he, hb3⟩
    obtain rfl := he.zero
    have Hb3 := Lib.hid (below_then Hb2.out hb3)
    have P := Lib.hid (Pp w3 (HV.out.later Hb3.out))
    clear he hb3 R Pp
    go_wp2_with fail
    refine P.out.mono ?_
    rintro e w4 ⟨ev, rfl, he, hb4⟩
    obtain rfl := he.zero
    have Hb4 := Lib.hid (below_then Hb3.out hb4)
    have Q' := Lib.hid (Q w4 (Hm.out.later Hb4.out))
    clear he hb4 P Q
    go_wp2_with fail
    refine Q'.out.mono ?_
    rintro e w5 ⟨v5, ev, rfl, hv5, he, hb5⟩
    have Hb5 := Lib.hid (below_then Hb4.out hb5)
    obtain ⟨p5, c5, rfl⟩ := hv5.form
    have PL := Lib.hid (place_is he (Hg.out.later Hb5.out))
    clear hv5 he hb5 Q'
    simp only [List.length_nil]
    go_wp2_with fail
    refine PL.out.mono ?_
    rintro e w6 ⟨rfl, hb6⟩
    have Hb6 := Lib.hid (below_then Hb5.out hb6)
    clear hb6 PL
    go_wp2_with fail
    go_ret
    refine ⟨?_, Hb6.out⟩
    simp
end Go.Proofs.YtildnpnpakhnjaaDoor
