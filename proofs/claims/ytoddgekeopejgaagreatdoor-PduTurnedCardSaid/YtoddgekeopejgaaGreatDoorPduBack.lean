/- PduBack: what is written is read, whatever stands behind it; just what is right can be written. -/
import Derived.Test.YtoddgekeopejgaaGreatDoorWrapped
import Derived.Test.YtoddgekeopejgaaGreatDoorPick
namespace Go.Proofs.YtoddgekeopejgaaGreatDoor
open Go.RowKit
set_option linter.unusedVariables false
theorem okM_pick (a : Int) : okM ((pickI a 4 : Nat) : Int) := by have := pickI_lt a 4 (by decide); unfold okM; omega
theorem I64_pick (a : Int) : I64 ((pickI a 4 : Nat) : Int) := by have := pickI_lt a 4 (by decide); unfold I64; omega
set_option maxRecDepth 100000 in
theorem pduBack_any (p : Pd) (vv va : Value) (a : Int) (l : List UInt8) (w : World) (hp : PduAt w p vv va) (hf : FitP p) (_ha : (Lit.int .i64 a).wf = true) (hl : l.length ≤ 140737488351232) (hg : ErrCell w) (hm : MaxCell w) :
    Calls Tryz.prog 5 #[pduV p vv va, .int .i64 a, .string (S l)] w fun e w' => e = .returned (.bool true) ∧ Below w.heap.size w w' := by
  have hb0 := (Below.refl w.heap.size w).alloc (Nat.le_refl _) (.cells (cells6 p vv va) 27)
  have hk := Blk.new w (cells6 p vv va) 27
  have M := Lib.hid (wrapped_any _ (hm.later hb0) (hg.later hb0))
  have L := fun W (h : PduAt W p vv va) => Lib.hid (large_any p vv va W h hf)
  have K : ∀ W, Hid (Calls Tryz.prog 25 #[.int .i64 a, .int .i64 4] W fun e w' => e = .returned (.int .i64 (pickI a 4 : Nat)) ∧ W = w') := fun W => Lib.hid (pick_any a 4 W (by decide) (by decide))
  have Wr := fun W (h : PduAt W p vv va) hc hg => Lib.hid (writeP_any p vv va (pickI a 4 : Nat) W (I64_pick a) h hf hc hg)
  have Rt := fun W (h : PduAt W p vv va) hc hg => Lib.hid (rightP_any p vv va W h hf hc hg)
  have hok := okM_pick a
  have hI := I64_pick a
  have HP := Lib.hid (hp.later hb0)
  have Hb0 := Lib.hid hb0
  have HK := Lib.hid hk
  have Hg := Lib.hid hg
  have Hm := Lib.hid hm
  by_cases hr : rightP p = 0
  · have RP := rightP_is hr
    have hW : writeP p (pickI a 4 : Nat) = (bytesP p (pickI a 4), 0) := by unfold writeP; rw [if_neg (by simp [hok]), if_neg (by simp [hr])]; rfl
    have h4 := bytesP_4 RP (pickI a 4)
    have hge := bytesP_ge RP (pickI a 4)
    have hd := RP.d
    have hR : readP (bytesP p (pickI a 4) ++ l) (pickI a 4 : Nat) = (p, (bytesP p (pickI a 4)).length, 0) := readP_bytes hr hok l
    have hS : sizeP (bytesP p (pickI a 4)) (pickI a 4 : Nat) = ((bytesP p (pickI a 4)).length, 0) := by
      have := sizeP_bytes RP hok []
      rw [List.append_nil] at this
      exact this
    rw [hW] at Wr
    rw [hr] at Rt
    obtain ⟨s, hs⟩ : ∃ s, bytesP p (pickI a 4) = s := ⟨_, rfl⟩
    rw [hs] at h4 hge hR hS
    simp only [hs] at Wr
    generalize pickI a 4 = n at *
    have Sm := fun v1 v2 v3 v4 W h h' => Lib.hid (same_same p v1 v2 v3 v4 W h h' (by have := RP.vs; omega) hf.a.1)
    have h4I : ((s.length : Int) % 4 == 0) = true := by rw [beq_iff_eq]; omega
    by_cases hl3 : 300 < l.length
    · have i1 : (300 : Int) < (l.length : Int) := by omega
      obtain ⟨⟨op, now, fl, vs⟩, al, d⟩ := p
      obtain ⟨pv, cv, rfl⟩ : ∃ p c, vv = .slice p vs.length c := by obtain ⟨p, c, h, _⟩ := hp.v; exact ⟨p, c, h⟩
      obtain ⟨pa, ca, rfl⟩ := hp.a.form
      unfold cells6 at HK Hb0 M HP
      unfold pduV at L ⊢
      simp only at HK Hb0 M HP L ⊢
      clear Wr Rt Sm K hb0 hk hW hR hS RP hr hok hI h4 hge hd hs h4I hl3 hp hf hg hm
      go_enter Tryz.func5, Tryz.ntmps5
      go_wp2_with fail
      refine M.out.mono ?_
      rintro e w1 ⟨rfl, hb1⟩
      have HK1 := Lib.hid (HK.out.later hb1)
      have HP1 := Lib.hid (HP.out.later hb1)
      have Hb1 := Lib.hid (below_then Hb0.out hb1)
      obtain ⟨q0, q1, q2, q3, q4, q5⟩ := HK1.out.six
      clear hb1 HK HP Hb0 M
      go_wp2_with fail
      refine (L _ HP1.out).out.mono ?_
      rintro e w2 ⟨bb, rfl, _, hb2⟩
      have Hb2 := Lib.hid (below_then Hb1.out hb2)
      clear q0 q1 q2 q3 q4 q5 hb2
      cases bb <;> (go_wp2_with fail; go_ret; exact ⟨rfl, Hb2.out⟩)
    · have i1 : (l.length : Int) ≤ 300 := by omega
      have Rd := fun W hc hg => Lib.hid (readP_any (s ++ l) (n : Int) W hI (by rw [List.length_append]; omega) hc hg)
      rw [hR] at Rd
      have Sz := fun W => Lib.hid (size_any2 s (n : Int) W hI (by omega))
      rw [hS] at Sz
      have i2 : (s.length : Int) ≤ 200000 := by omega
      obtain ⟨⟨op, now, fl, vs⟩, al, d⟩ := p
      obtain ⟨pv, cv, rfl⟩ : ∃ p c, vv = .slice p vs.length c := by obtain ⟨p, c, h, _⟩ := hp.v; exact ⟨p, c, h⟩
      obtain ⟨pa, ca, rfl⟩ := hp.a.form
      unfold cells6 at HK Hb0 M HP
      unfold pduV at L Wr Rt Sm ⊢
      simp only at HK Hb0 M HP L Wr Rt Sm ⊢
      clear hb0 hk hW hR hS RP hr hok hI h4 hs hl3 hp hf hg hm hge hd
      go_enter Tryz.func5, Tryz.ntmps5
      go_wp2_with fail
      refine M.out.mono ?_
      rintro e w1 ⟨rfl, hb1⟩
      have HK1 := Lib.hid (HK.out.later hb1)
      have HP1 := Lib.hid (HP.out.later hb1)
      have Hb1 := Lib.hid (below_then Hb0.out hb1)
      obtain ⟨q0, q1, q2, q3, q4, q5⟩ := HK1.out.six
      clear hb1 HK HP Hb0 M
      go_wp2_with fail
      refine (L _ HP1.out).out.mono ?_
      rintro e w2 ⟨bb, rfl, _, hb2⟩
      have HK2 := Lib.hid (HK1.out.later hb2)
      have HP2 := Lib.hid (HP1.out.later hb2)
      have Hb2 := Lib.hid (below_then Hb1.out hb2)
      clear q0 q1 q2 q3 q4 q5 hb2 HK1 HP1 Hb1
      obtain ⟨q0, q1, q2, q3, q4, q5⟩ := HK2.out.six
      cases bb with
      | true =>
        go_wp2_with fail
        go_ret
        exact ⟨rfl, Hb2.out⟩
      | false =>
        go_wp2_with fail
        refine (K _).out.mono ?_
        rintro e w3 ⟨rfl, rfl⟩
        go_wp2_with fail
        refine (Wr _ HP2.out (Hm.out.later Hb2.out) (Hg.out.later Hb2.out)).out.mono ?_
        rintro e w3 ⟨ev, rfl, he, hb3⟩
        obtain rfl := he.zero
        have HK3 := Lib.hid (HK2.out.later hb3)
        have HP3 := Lib.hid (HP2.out.later hb3)
        have Hb3 := Lib.hid (below_then Hb2.out hb3)
        clear q0 q1 q2 q3 q4 q5 he hb3 HK2 HP2 Hb2
        obtain ⟨q0, q1, q2, q3, q4, q5⟩ := HK3.out.six
        go_wp2_with fail
        refine (Rt _ HP3.out (Hm.out.later Hb3.out) (Hg.out.later Hb3.out)).out.mono ?_
        rintro e w4 ⟨ev, rfl, he, hb4⟩
        obtain rfl := he.zero
        have HK4 := Lib.hid (HK3.out.later hb4)
        have HP4 := Lib.hid (HP3.out.later hb4)
        have Hb4 := Lib.hid (below_then Hb3.out hb4)
        clear q0 q1 q2 q3 q4 q5 he hb4 HK3 HP3 Hb3
        go_wp2_with fail
        refine (Rd _ (Hm.out.later Hb4.out) (Hg.out.later Hb4.out)).out.mono ?_
        rintro e w5 ⟨vv', va', ev, rfl, hP5, he, hb5⟩
        obtain rfl := he.zero
        obtain ⟨pv', cv', rfl⟩ : ∃ p c, vv' = .slice p vs.length c := by obtain ⟨p, c, h, _⟩ := hP5.v; exact ⟨p, c, h⟩
        obtain ⟨pa', ca', rfl⟩ := hP5.a.form
        have hbn := (Below.refl w5.heap.size w5).alloc (Nat.le_refl _) (.cells #[.int .i64 op, .bool now, .int .i64 fl, .slice pv' vs.length cv', .slice pa' al.length ca', .string (S d)] 27)
        have HKn := Lib.hid (Blk.new w5 #[.int .i64 op, .bool now, .int .i64 fl, .slice pv' vs.length cv', .slice pa' al.length ca', .string (S d)] 27)
        have HK5 := Lib.hid (HK4.out.later (below_then hb5 hbn))
        have HP5 := Lib.hid (HP4.out.later (below_then hb5 hbn))
        have HPn := Lib.hid (hP5.later hbn)
        have Hb5 := Lib.hid (below_then Hb4.out (below_then hb5 hbn))
        clear he hb5 hbn hP5 HK4 HP4 Hb4
        unfold pduV
        simp only
        go_wp2_with fail
        refine (Sz _).out.mono ?_
        rintro e w6 ⟨ev, rfl, he, hb6⟩
        obtain rfl := he.zero
        have HKn6 := Lib.hid (HKn.out.later hb6)
        have HK6 := Lib.hid (HK5.out.later hb6)
        have HP6 := Lib.hid (HP5.out.later hb6)
        have HPn6 := Lib.hid (HPn.out.later hb6)
        have Hb6 := Lib.hid (below_then Hb5.out hb6)
        obtain ⟨q0, q1, q2, q3, q4, q5⟩ := HK6.out.six
        obtain ⟨r0, r1, r2, r3, r4, r5⟩ := HKn6.out.six
        have C := Sm _ _ _ _ _ HP6.out HPn6.out
        clear he hb6 HKn HK5 HP5 HPn Hb5 Sm
        go_wp2_with fail
        refine C.out.mono ?_
        rintro e w7 ⟨rfl, hb7⟩
        have Hb7 := Lib.hid (below_then Hb6.out hb7)
        clear q0 q1 q2 q3 q4 q5 r0 r1 r2 r3 r4 r5 hb7
        go_wp2_with fail
        go_ret
        exact ⟨rfl, Hb7.out⟩
  · have hW : writeP p (pickI a 4 : Nat) = ([], rightP p) := by unfold writeP; rw [if_neg (by simp [hok]), if_pos hr]
    rw [hW] at Wr
    obtain ⟨r, hr'⟩ : ∃ r, rightP p = r := ⟨_, rfl⟩
    rw [hr'] at hr
    simp only [hr'] at Wr Rt
    generalize pickI a 4 = n at *
    have Hr := Lib.hid hr
    obtain ⟨⟨op, now, fl, vs⟩, al, d⟩ := p
    obtain ⟨pv, cv, rfl⟩ : ∃ p c, vv = .slice p vs.length c := by obtain ⟨p, c, h, _⟩ := hp.v; exact ⟨p, c, h⟩
    obtain ⟨pa, ca, rfl⟩ := hp.a.form
    unfold cells6 at HK Hb0 M HP
    unfold pduV at L Wr Rt ⊢
    simp only at HK Hb0 M HP L Wr Rt ⊢
    clear hb0 hk hW hr hok hI hr' hp hf hg hm
    go_enter Tryz.func5, Tryz.ntmps5
    go_wp2_with fail
    refine M.out.mono ?_
    rintro e w1 ⟨rfl, hb1⟩
    have HK1 := Lib.hid (HK.out.later hb1)
    have HP1 := Lib.hid (HP.out.later hb1)
    have Hb1 := Lib.hid (below_then Hb0.out hb1)
    obtain ⟨q0, q1, q2, q3, q4, q5⟩ := HK1.out.six
    clear hb1 HK HP Hb0 M
    go_wp2_with fail
    refine (L _ HP1.out).out.mono ?_
    rintro e w2 ⟨bb, rfl, _, hb2⟩
    have HK2 := Lib.hid (HK1.out.later hb2)
    have HP2 := Lib.hid (HP1.out.later hb2)
    have Hb2 := Lib.hid (below_then Hb1.out hb2)
    clear q0 q1 q2 q3 q4 q5 hb2 HK1 HP1 Hb1
    obtain ⟨q0, q1, q2, q3, q4, q5⟩ := HK2.out.six
    cases bb with
    | true =>
      go_wp2_with fail
      go_ret
      exact ⟨rfl, Hb2.out⟩
    | false =>
      by_cases hl3 : 300 < l.length
      · have i1 : (300 : Int) < (l.length : Int) := by omega
        clear hl3
        go_wp2_with fail
        go_ret
        exact ⟨rfl, Hb2.out⟩
      · have i1 : (l.length : Int) ≤ 300 := by omega
        clear hl3
        go_wp2_with fail
        refine (K _).out.mono ?_
        rintro e w3 ⟨rfl, rfl⟩
        go_wp2_with fail
        refine (Wr _ HP2.out (Hm.out.later Hb2.out) (Hg.out.later Hb2.out)).out.mono ?_
        rintro e w3 ⟨ev, rfl, he, hb3⟩
        obtain ⟨t, x, rfl⟩ := he.iface Hr.out
        have HK3 := Lib.hid (HK2.out.later hb3)
        have HP3 := Lib.hid (HP2.out.later hb3)
        have Hb3 := Lib.hid (below_then Hb2.out hb3)
        clear q0 q1 q2 q3 q4 q5 he hb3 HK2 HP2 Hb2
        obtain ⟨q0, q1, q2, q3, q4, q5⟩ := HK3.out.six
        go_wp2_with fail
        refine (Rt _ HP3.out (Hm.out.later Hb3.out) (Hg.out.later Hb3.out)).out.mono ?_
        rintro e w4 ⟨ev, rfl, he, hb4⟩
        obtain ⟨t', x', rfl⟩ := he.iface Hr.out
        have Hb4 := Lib.hid (below_then Hb3.out hb4)
        clear q0 q1 q2 q3 q4 q5 he hb4 HK3 HP3 Hb3
        go_wp2_with fail
        go_ret
        exact ⟨rfl, Hb4.out⟩
end Go.Proofs.YtoddgekeopejgaaGreatDoor
