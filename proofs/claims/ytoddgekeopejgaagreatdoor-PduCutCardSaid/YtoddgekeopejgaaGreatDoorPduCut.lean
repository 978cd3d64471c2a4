/- PduCut: cut anywhere, what is missing is told. -/
import Derived.Test.YtoddgekeopejgaaGreatDoorPduBack
namespace Go.Proofs.YtoddgekeopejgaaGreatDoor
open Go.RowKit
set_option linter.unusedVariables false
set_option maxRecDepth 100000 in
theorem pduCut_any (p : Pd) (vv va : Value) (a b : Int) (w : World) (hp : PduAt w p vv va) (hf : FitP p) (_ha : (Lit.int .i64 a).wf = true) (_hb : (Lit.int .i64 b).wf = true) (hg : ErrCell w) (hm : MaxCell w) :
    Calls Tryz.prog 7 #[pduV p vv va, .int .i64 a, .int .i64 b] w fun e w' => e = .returned (.bool true) ∧ Below w.heap.size w w' := by
  have hb0 := (Below.refl w.heap.size w).alloc (Nat.le_refl _) (.cells (cells6 p vv va) 27)
  have hk := Blk.new w (cells6 p vv va) 27
  have M := Lib.hid (wrapped_any _ (hm.later hb0) (hg.later hb0))
  have L := fun W (h : PduAt W p vv va) => Lib.hid (large_any p vv va W h hf)
  have Rt := fun W (h : PduAt W p vv va) hc hg => Lib.hid (rightP_any p vv va W h hf hc hg)
  have HP := Lib.hid (hp.later hb0)
  have Hb0 := Lib.hid hb0
  have HK := Lib.hid hk
  have Hg := Lib.hid hg
  have Hm := Lib.hid hm
  by_cases hr : rightP p = 0
  · have K : ∀ W, Hid (Calls Tryz.prog 25 #[.int .i64 a, .int .i64 4] W fun e w' => e = .returned (.int .i64 (pickI a 4 : Nat)) ∧ W = w') := fun W => Lib.hid (pick_any a 4 W (by decide) (by decide))
    have Wr := fun W (h : PduAt W p vv va) hc hg => Lib.hid (writeP_any p vv va (pickI a 4 : Nat) W (I64_pick a) h hf hc hg)
    have hok := okM_pick a
    have hI := I64_pick a
    have RP := rightP_is hr
    have hW : writeP p (pickI a 4 : Nat) = (bytesP p (pickI a 4), 0) := by unfold writeP; rw [if_neg (by simp [hok]), if_neg (by simp [hr])]; rfl
    have hge := bytesP_ge RP (pickI a 4)
    have hd := RP.d
    have hlt := pickI_lt b (bytesP p (pickI a 4)).length (by omega)
    have K2 := fun W => Lib.hid (pick_any b (bytesP p (pickI a 4)).length W (by omega) (by omega))
    have hR : readP ((bytesP p (pickI a 4)).take (pickI b (bytesP p (pickI a 4)).length)) (pickI a 4 : Nat) = (pd0, 0, 7) := readP_cut hr hok hlt
    rw [hW] at Wr
    rw [hr] at Rt
    obtain ⟨s, hs⟩ : ∃ s, bytesP p (pickI a 4) = s := ⟨_, rfl⟩
    rw [hs] at hge hR hlt
    simp only [hs] at Wr K2
    generalize pickI a 4 = n at *
    generalize pickI b s.length = k at *
    have Rd := fun W hc hg => Lib.hid (readP_any (s.take k) (n : Int) W hI (by rw [List.length_take]; omega) hc hg)
    rw [hR] at Rd
    have hemp : s.isEmpty = false := by cases s with | nil => simp at hge | cons => rfl
    have i1 : (k : Int) ≤ (s.length : Int) := by omega
    have i2 : (s.length : Int) ≤ 200000 := by omega
    obtain ⟨⟨op, now, fl, vs⟩, al, d⟩ := p
    obtain ⟨pv, cv, rfl⟩ : ∃ p c, vv = .slice p vs.length c := by obtain ⟨p, c, h, _⟩ := hp.v; exact ⟨p, c, h⟩
    obtain ⟨pa, ca, rfl⟩ := hp.a.form
    unfold cells6 at HK Hb0 M HP
    unfold pduV at L Rt Wr ⊢
    simp only at HK Hb0 M HP L Rt Wr ⊢
    clear hb0 hk hW hR RP hr hok hI hs hp hf hg hm hge hd
    go_enter Tryz.func7, Tryz.ntmps7
    go_wp2_with fail
    refine M.out.mono ?_
    rintro e w1 ⟨rfl, hb1⟩
    have HK1 := Lib.hid (HK.out.later hb1)
    have HP1 := Lib.hid (HP.out.later hb1)
    have Hb1 := Lib.hid (below_then Hb0.out hb1)
    clear hb1 HK HP Hb0 M
    obtain ⟨q0, q1, q2, q3, q4, q5⟩ := HK1.out.six
    go_wp2_with fail
    refine (L _ HP1.out).out.mono ?_
    rintro e w2 ⟨bb, rfl, hlg, hb2⟩
    have HK2 := Lib.hid (HK1.out.later hb2)
    have HP2 := Lib.hid (HP1.out.later hb2)
    have Hb2 := Lib.hid (below_then Hb1.out hb2)
    clear q0 q1 q2 q3 q4 q5 hb2 HK1 HP1 Hb1 L
    obtain ⟨q0, q1, q2, q3, q4, q5⟩ := HK2.out.six
    cases bb with
    | true =>
      go_wp2_with fail
      go_ret
      exact ⟨rfl, Hb2.out⟩
    | false =>
      go_wp2_with fail
      refine (Rt _ HP2.out (Hm.out.later Hb2.out) (Hg.out.later Hb2.out)).out.mono ?_
      rintro e w3 ⟨ev, rfl, he, hb3⟩
      have HK3 := Lib.hid (HK2.out.later hb3)
      have HP3 := Lib.hid (HP2.out.later hb3)
      have Hb3 := Lib.hid (below_then Hb2.out hb3)
      clear q0 q1 q2 q3 q4 q5 hb3 HK2 HP2 Hb2 Rt
      obtain rfl := he.zero
      obtain ⟨q0, q1, q2, q3, q4, q5⟩ := HK3.out.six
      go_wp2_with fail
      refine (K _).out.mono ?_
      rintro e w4 ⟨rfl, rfl⟩
      go_wp2_with fail
      refine (Wr _ HP3.out (Hm.out.later Hb3.out) (Hg.out.later Hb3.out)).out.mono ?_
      rintro e w4 ⟨ev, rfl, he4, hb4⟩
      obtain rfl := he4.zero
      have HK4 := Lib.hid (HK3.out.later hb4)
      have HP4 := Lib.hid (HP3.out.later hb4)
      have Hb4 := Lib.hid (below_then Hb3.out hb4)
      clear q0 q1 q2 q3 q4 q5 he4 hb4 HK3 HP3 Hb3
      go_wp2_with fail
      refine (K2 _).out.mono ?_
      rintro e w5 ⟨rfl, rfl⟩
      go_wp2_with fail
      refine (Rd _ (Hm.out.later Hb4.out) (Hg.out.later Hb4.out)).out.mono ?_
      rintro e w5 ⟨vv', va', ev, rfl, hP5, he, hb5⟩
      obtain rfl := he.iface (by decide)
      obtain ⟨pv', cv', rfl⟩ : ∃ p c, vv' = .slice p 0 c := by obtain ⟨p, c, h, _⟩ := hP5.v; exact ⟨p, c, h⟩
      obtain ⟨pa', ca', rfl⟩ : ∃ p c, va' = .slice p 0 c := hP5.a.form
      have hbn := (Below.refl w5.heap.size w5).alloc (Nat.le_refl _) (.cells #[.int .i64 0, .bool false, .int .i64 0, .slice pv' 0 cv', .slice pa' 0 ca', .string (S [])] 27)
      have Hb5 := Lib.hid (below_then Hb4.out (below_then hb5 hbn))
      have Tl := Lib.hid (tell_is (he.is _) (Hg.out.later Hb5.out))
      clear he hb5 hbn hP5 HK4 HP4 Hb4
      unfold pduV pd0 hd0
      simp only
      go_wp2_with fail
      refine Tl.out.mono ?_
      rintro e w6 ⟨rfl, hb6⟩
      have Hb6 := Lib.hid (below_then Hb5.out hb6)
      clear hb6
      go_wp2_with fail
      go_ret
      exact ⟨rfl, Hb6.out⟩
  · have Hr := Lib.hid hr
    obtain ⟨⟨op, now, fl, vs⟩, al, d⟩ := p
    obtain ⟨pv, cv, rfl⟩ : ∃ p c, vv = .slice p vs.length c := by obtain ⟨p, c, h, _⟩ := hp.v; exact ⟨p, c, h⟩
    obtain ⟨pa, ca, rfl⟩ := hp.a.form
    unfold cells6 at HK Hb0 M HP
    unfold pduV at L Rt ⊢
    simp only at HK Hb0 M HP L Rt ⊢
    clear hb0 hk hr hp hf hg hm
    go_enter Tryz.func7, Tryz.ntmps7
    go_wp2_with fail
    refine M.out.mono ?_
    rintro e w1 ⟨rfl, hb1⟩
    have HK1 := Lib.hid (HK.out.later hb1)
    have HP1 := Lib.hid (HP.out.later hb1)
    have Hb1 := Lib.hid (below_then Hb0.out hb1)
    clear hb1 HK HP Hb0 M
    obtain ⟨q0, q1, q2, q3, q4, q5⟩ := HK1.out.six
    go_wp2_with fail
    refine (L _ HP1.out).out.mono ?_
    rintro e w2 ⟨bb, rfl, hlg, hb2⟩
    have HK2 := Lib.hid (HK1.out.later hb2)
    have HP2 := Lib.hid (HP1.out.later hb2)
    have Hb2 := Lib.hid (below_then Hb1.out hb2)
    clear q0 q1 q2 q3 q4 q5 hb2 HK1 HP1 Hb1 L
    obtain ⟨q0, q1, q2, q3, q4, q5⟩ := HK2.out.six
    cases bb with
    | true =>
      go_wp2_with fail
      go_ret
      exact ⟨rfl, Hb2.out⟩
    | false =>
      go_wp2_with fail
      refine (Rt _ HP2.out (Hm.out.later Hb2.out) (Hg.out.later Hb2.out)).out.mono ?_
      rintro e w3 ⟨ev, rfl, he, hb3⟩
      have HK3 := Lib.hid (HK2.out.later hb3)
      have HP3 := Lib.hid (HP2.out.later hb3)
      have Hb3 := Lib.hid (below_then Hb2.out hb3)
      clear q0 q1 q2 q3 q4 q5 hb3 HK2 HP2 Hb2 Rt
      obtain ⟨t, x, rfl⟩ := he.iface Hr.out
      go_wp2_with fail
      go_ret
      exact ⟨rfl, Hb3.out⟩
end Go.Proofs.YtoddgekeopejgaaGreatDoor
