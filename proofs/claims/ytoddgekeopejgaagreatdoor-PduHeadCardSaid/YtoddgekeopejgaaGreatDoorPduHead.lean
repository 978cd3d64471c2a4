/- PduHead: a PDU begins with its head, which tells how much follows. -/
import Derived.Test.YtoddgekeopejgaaGreatDoorPduBack
import Derived.Test.YtoddgekeopejgaaGreatDoorMore
namespace Go.Proofs.YtoddgekeopejgaaGreatDoor
open Go.RowKit
set_option linter.unusedVariables false
theorem head_of {p : Pd} (h : RightP p) (m : Nat) : (bytesP p m).take 48 = headB p.h ((wrL p.a).length / 4) p.d.length ∧ ((bytesP p m).drop 48).take (wrL p.a).length = wrL p.a := by
  have B := bytesP_is h
  constructor
  · unfold bytesP hdrs
    simp only [List.append_assoc]
    rw [← B.hb]
    exact List.take_left
  · unfold bytesP hdrs
    rw [List.append_assoc, List.append_assoc]
    rw [← B.hb]
    have := cutB_mid (headB p.h ((wrL p.a).length / 4) p.d.length) (wrL p.a) (dig m 1 (headB p.h ((wrL p.a).length / 4) p.d.length ++ wrL p.a) ++ (padded p.d ++ dig m 2 (padded p.d)))
    unfold cutB at this
    exact this
theorem keep6 {W w w' : World} {a b c d e f : Addr} {x y z u v s : Value} (h : Below W.heap.size W w ∧ w.cell? a = some x ∧ w.cell? b = some y ∧ w.cell? c = some z ∧ w.cell? d = some u ∧ w.cell? e = some v ∧ w.cell? f = some s) (hb : Below w.heap.size w w') :
    Below W.heap.size W w' ∧ w'.cell? a = some x ∧ w'.cell? b = some y ∧ w'.cell? c = some z ∧ w'.cell? d = some u ∧ w'.cell? e = some v ∧ w'.cell? f = some s := by
  obtain ⟨h0, h1, h2, h3, h4, h5, h6⟩ := h
  have k : ∀ {a : Addr} {x : Value}, w.cell? a = some x → w'.cell? a = some x := fun {a x} hx => (hb.cell (p := a) (block_lt_of_cell hx)).trans hx
  exact ⟨below_then h0 hb, k h1, k h2, k h3, k h4, k h5, k h6⟩
set_option maxRecDepth 100000 in
set_option maxHeartbeats 1000000 in
theorem pduHead_any (p : Pd) (vv va : Value) (a : Int) (w : World) (hp : PduAt w p vv va) (hf : FitP p) (_ha : (Lit.int .i64 a).wf = true) (hg : ErrCell w) (hm : MaxCell w) :
    Calls Tryz.prog 10 #[pduV p vv va, .int .i64 a] w fun e w' => e = .returned (.bool true) ∧ Below w.heap.size w w' := by
  have hb0 := (Below.refl w.heap.size w).alloc (Nat.le_refl _) (.cells (cells6 p vv va) 27)
  have hk := Blk.new w (cells6 p vv va) 27
  have M := Lib.hid (wrapped_any _ (hm.later hb0) (hg.later hb0))
  have L := fun W (h : PduAt W p vv va) => Lib.hid (large_any p vv va W h hf)
  have Rt := fun W (h : PduAt W p vv va) hc hg => Lib.hid (rightP_any p vv va W h hf hc hg)
  have HP := Lib.hid (hp.later hb0)
  have Hb0 := Lib.hid hb0
  have HK := Lib.hid hk
  have Hg := Lib.hid hg
  have Hm := Lib.hid hm
  have Mo := fun W hg => Lib.hid (more_fact W hg)
  have He0 := fun W hm => Lib.hid (headed_any W hm)
  by_cases hr : rightP p = 0
  · have K : ∀ W, Hid (Calls Tryz.prog 25 #[.int .i64 a, .int .i64 4] W fun e w' => e = .returned (.int .i64 (pickI a 4 : Nat)) ∧ Below W.heap.size W w') := fun W => Lib.hid ((pick_any a 4 W (by decide) (by decide)).mono fun e w' ⟨h1, h2⟩ => ⟨h1, h2 ▸ Below.refl _ _⟩)
    have Wr := fun W (h : PduAt W p vv va) hc hg => Lib.hid (writeP_any p vv va (pickI a 4 : Nat) W (I64_pick a) h hf hc hg)
    have hok := okM_pick a
    have RP := rightP_is hr
    have BP := bytesP_is RP
    have hW : writeP p (pickI a 4 : Nat) = (bytesP p (pickI a 4), 0) := by unfold writeP; rw [if_neg (by simp [hok]), if_neg (by simp [hr])]; rfl
    obtain ⟨hh1, hh2⟩ := head_of RP (pickI a 4)
    have hrr := BP.r
    rw [← hh1] at hrr
    have hge := bytesP_len RP (pickI a 4)
    have hd := RP.d
    have ha := RP.a
    have hvs := RP.vs
    have Wa := fun W (h : PduAt W p vv va) => write_ahs p.a va W h.a hf.a
    rw [writeA_ok RP.k RP.a] at Wa
    rw [hW] at Wr
    rw [hr] at Rt
    have hsl : 48 + (wrL p.a).length ≤ (bytesP p (pickI a 4)).length ∧ (bytesP p (pickI a 4)).length ≤ 200000 := by
      rw [hge]
      have := pad_le p.d.length
      constructor
      · omega
      · split <;> split <;> omega
    have h4 := wrL_4 p.a
    have HP0 := Lib.hid hp
    obtain ⟨⟨op, now, fl, vs⟩, al, d⟩ := p
    obtain ⟨pv, cv, rfl⟩ : ∃ p c, vv = .slice p vs.length c := by obtain ⟨p, c, h, _⟩ := hp.v; exact ⟨p, c, h⟩
    obtain ⟨pa, ca, rfl⟩ := hp.a.form
    unfold cells6 at HK Hb0 M HP
    simp only at *
    generalize bytesP ⟨⟨op, now, fl, vs⟩, al, d⟩ (pickI a 4) = s at *
    generalize pickI a 4 = n at *
    generalize wrL al = sa at *
    generalize hq4 : sa.length / 4 = wq at *
    have Rd := fun W hc => read_any (s.take 48) W (by rw [List.length_take]; omega) hc
    rw [hrr] at Rd
    have Sk := fun v1 v2 W h1 h2 => sameK_same ⟨op, now, fl, vs⟩ v1 v2 W h1 h2 (by simp only; omega)
    unfold headV at Sk
    simp only at Sk
    have i1 : (48 : Int) + (sa.length : Int) ≤ (s.length : Int) := by omega
    have i2 : (s.length : Int) ≤ 200000 := by omega
    have i3 : (sa.length : Int) ≤ 1020 := by omega
    have i4 : (d.length : Int) ≤ 100000 := by omega
    have hq : (sa.length : Int) / 4 = (wq : Int) := by omega
    have HWa := Lib.hid Wa
    have HRd := Lib.hid Rd
    have HSk := Lib.hid Sk
    unfold pduV at L Rt Wr ⊢
    simp only at HK Hb0 M HP L Rt Wr ⊢
    clear hb0 hk RP BP hr hp hf hg hm hd Wa Rd Sk hok hW hh1 hrr hge ha hsl h4 hq4
    go_enter Tryz.func10, Tryz.ntmps10
    go_wp2_with fail
    refine M.out.mono ?_
    rintro e w1 ⟨rfl, hb1⟩
    have HK1 := Lib.hid (HK.out.later hb1)
    have HP1 := Lib.hid (HP.out.later hb1)
    have Hb1 := Lib.hid (below_then Hb0.out hb1)
    clear hb1 HK HP Hb0 M
    go_wp2_with fail
    refine (He0 _ (Hm.out.later Hb1.out)).out.mono ?_
    rintro e w1' ⟨rfl, hb1⟩
    have HK1' := Lib.hid (HK1.out.later hb1)
    have HP1' := Lib.hid (HP1.out.later hb1)
    have Hb1' := Lib.hid (below_then Hb1.out hb1)
    clear hb1 HK1 HP1 Hb1 He0
    go_wp2_with fail
    refine (Mo _ (Hg.out.later Hb1'.out)).out.mono ?_
    rintro e w1'' ⟨rfl, hb1⟩
    have HK1 := Lib.hid (HK1'.out.later hb1)
    have HP1 := Lib.hid (HP1'.out.later hb1)
    have Hb1 := Lib.hid (below_then Hb1'.out hb1)
    clear hb1 HK1' HP1' Hb1' Mo
    obtain ⟨q0, q1, q2, q3, q4, q5⟩ := HK1.out.six
    go_wp2_with fail
    refine (L _ HP1.out).out.mono ?_
    rintro e w2 ⟨bb, rfl, hlg, hb2⟩
    have HK2 := Lib.hid (HK1.out.later hb2)
    have HP2 := Lib.hid (HP1.out.later hb2)
    have Hb2 := Lib.hid (below_then Hb1.out hb2)
    clear q0 q1 q2 q3 q4 q5 hb2 HK1 HP1 Hb1 L
    obtain ⟨q0, q1, q2, q3, q4, q5⟩ := HK2.out.six
    cases bb with
    | true =>
      go_wp2_with fail
      go_ret
      exact ⟨rfl, Hb2.out⟩
    | false =>
      go_wp2_with fail
      refine (Rt _ HP2.out (Hm.out.later Hb2.out) (Hg.out.later Hb2.out)).out.mono ?_
      rintro e w3 ⟨ev, rfl, he, hb3⟩
      have HK3 := Lib.hid (HK2.out.later hb3)
      have HP3 := Lib.hid (HP2.out.later hb3)
      have Hb3 := Lib.hid (below_then Hb2.out hb3)
      clear q0 q1 q2 q3 q4 q5 hb3 HK2 HP2 Hb2 Rt
      obtain rfl := he.zero
      have HB3 := Lib.hid (fun W (h : Below w3.heap.size w3 W) => below_then Hb3.out h)
      obtain ⟨q0, q1, q2, q3, q4, q5⟩ := HK3.out.six
      clear he hlg
      go_wp2_with fail
      go_region_held3 (fun w' => Below w3.heap.size w3 w' ∧ w'.cell? ⟨w.heap.size, 0, none⟩ = some (.int .i64 op) ∧ w'.cell? ⟨w.heap.size, 1, none⟩ = some (.bool now) ∧ w'.cell? ⟨w.heap.size, 2, none⟩ = some (.int .i64 fl) ∧ w'.cell? ⟨w.heap.size, 3, none⟩ = some (.slice pv vs.length cv) ∧ w'.cell? ⟨w.heap.size, 4, none⟩ = some (.slice pa al.length ca) ∧ w'.cell? ⟨w.heap.size, 5, none⟩ = some (.string (S d)))
        (first | assumption | exact ⟨Below.refl _ _, q0, q1, q2, q3, q4, q5⟩ | exact ⟨(Below.refl _ _).drew, q0, q1, q2, q3, q4, q5⟩ | exact keep6 (by assumption) hb')
        (first | ((with_reducible refine (K _).out.mono ?_); rintro e w' ⟨rfl, hb'⟩) | ((with_reducible refine (Wr _ (HP0.out.later (HB3.out _ (by first | assumption | exact (‹Below w3.heap.size w3 _ ∧ _›).1))) (Hm.out.later (HB3.out _ (by first | assumption | exact (‹Below w3.heap.size w3 _ ∧ _›).1))) (Hg.out.later (HB3.out _ (by first | assumption | exact (‹Below w3.heap.size w3 _ ∧ _›).1)))).out.mono ?_); rintro e w' ⟨ev4, rfl, he4, hb'⟩; obtain rfl := he4.zero))
      all_goals
        have hlow4 := (‹Below w3.heap.size w3 w' ∧ _›).1
        have HK4 := Lib.hid (HK3.out.later hlow4)
        have Hb4 := Lib.hid (below_then Hb3.out hlow4)
        clear q0 q1 q2 q3 q4 q5 hlow4
        rename_i hHeld
        clear hHeld hb'
        obtain ⟨q0, q1, q2, q3, q4, q5⟩ := HK4.out.six
        go_wp2_with fail
        refine (HWa.out _ (HP0.out.later Hb4.out)).mono ?_
        rintro e w5 ⟨ev, rfl, he, hb5⟩
        obtain rfl := he.zero
        have HK5 := Lib.hid (HK4.out.later hb5)
        have Hb5 := Lib.hid (below_then Hb4.out hb5)
        clear q0 q1 q2 q3 q4 q5 he hb5
        obtain ⟨q0, q1, q2, q3, q4, q5⟩ := HK5.out.six
        go_wp2_with fail
        refine (HRd.out _ (Hm.out.later Hb5.out)).mono ?_
        rintro e w6 ⟨v6, ev, rfl, hv6, he, hb6⟩
        obtain rfl := he.zero
        obtain ⟨p6, c6, rfl⟩ : ∃ p c, v6 = .slice p vs.length c := by obtain ⟨p, c, h, _⟩ := hv6; exact ⟨p, c, h⟩
        have hbn := (Below.refl w6.heap.size w6).alloc (Nat.le_refl _) (.cells #[.int .i64 op, .bool now, .int .i64 fl, .slice p6 vs.length c6] 24)
        have HK6 := Lib.hid (HK5.out.later (below_then hb6 hbn))
        have HKn := Lib.hid (Blk.new w6 #[.int .i64 op, .bool now, .int .i64 fl, .slice p6 vs.length c6] 24)
        have Hb6 := Lib.hid (below_then Hb5.out (below_then hb6 hbn))
        have S6 := HSk.out _ _ _ (hv6.later hbn) (HP0.out.later Hb6.out).v
        have HS6 := Lib.hid S6
        clear q0 q1 q2 q3 q4 q5 he hb6 hbn hv6 S6
        obtain ⟨q0, q1, q2, q3, q4, q5⟩ := HK6.out.six
        obtain ⟨r0, r1, r2, r3⟩ := HKn.out.four
        unfold headV
        simp only
        go_wp2_with fail
        refine HS6.out.mono ?_
        rintro e w7 ⟨rfl, hb7⟩
        have HK7 := Lib.hid (HK6.out.later hb7)
        have Hb7 := Lib.hid (below_then Hb6.out hb7)
        clear q0 q1 q2 q3 q4 q5 r0 r1 r2 r3 hb7
        obtain ⟨q0, q1, q2, q3, q4, q5⟩ := HK7.out.six
        go_wp2_with fail
        go_ret
        exact ⟨rfl, Hb7.out⟩
  · have Hr := Lib.hid hr
    obtain ⟨⟨op, now, fl, vs⟩, al, d⟩ := p
    obtain ⟨pv, cv, rfl⟩ : ∃ p c, vv = .slice p vs.length c := by obtain ⟨p, c, h, _⟩ := hp.v; exact ⟨p, c, h⟩
    obtain ⟨pa, ca, rfl⟩ := hp.a.form
    unfold cells6 at HK Hb0 M HP
    unfold pduV at L Rt ⊢
    simp only at HK Hb0 M HP L Rt ⊢
    clear hb0 hk hr hp hf hg hm
    go_enter Tryz.func10, Tryz.ntmps10
    go_wp2_with fail
    refine M.out.mono ?_
    rintro e w1 ⟨rfl, hb1⟩
    have HK1 := Lib.hid (HK.out.later hb1)
    have HP1 := Lib.hid (HP.out.later hb1)
    have Hb1 := Lib.hid (below_then Hb0.out hb1)
    clear hb1 HK HP Hb0 M
    go_wp2_with fail
    refine (He0 _ (Hm.out.later Hb1.out)).out.mono ?_
    rintro e w1' ⟨rfl, hb1⟩
    have HK1' := Lib.hid (HK1.out.later hb1)
    have HP1' := Lib.hid (HP1.out.later hb1)
    have Hb1' := Lib.hid (below_then Hb1.out hb1)
    clear hb1 HK1 HP1 Hb1 He0
    go_wp2_with fail
    refine (Mo _ (Hg.out.later Hb1'.out)).out.mono ?_
    rintro e w1'' ⟨rfl, hb1⟩
    have HK1 := Lib.hid (HK1'.out.later hb1)
    have HP1 := Lib.hid (HP1'.out.later hb1)
    have Hb1 := Lib.hid (below_then Hb1'.out hb1)
    clear hb1 HK1' HP1' Hb1' Mo
    obtain ⟨q0, q1, q2, q3, q4, q5⟩ := HK1.out.six
    go_wp2_with fail
    refine (L _ HP1.out).out.mono ?_
    rintro e w2 ⟨bb, rfl, hlg, hb2⟩
    have HK2 := Lib.hid (HK1.out.later hb2)
    have HP2 := Lib.hid (HP1.out.later hb2)
    have Hb2 := Lib.hid (below_then Hb1.out hb2)
    clear q0 q1 q2 q3 q4 q5 hb2 HK1 HP1 Hb1 L
    obtain ⟨q0, q1, q2, q3, q4, q5⟩ := HK2.out.six
    cases bb with
    | true =>
      go_wp2_with fail
      go_ret
      exact ⟨rfl, Hb2.out⟩
    | false =>
      go_wp2_with fail
      refine (Rt _ HP2.out (Hm.out.later Hb2.out) (Hg.out.later Hb2.out)).out.mono ?_
      rintro e w3 ⟨ev, rfl, he, hb3⟩
      have HK3 := Lib.hid (HK2.out.later hb3)
      have HP3 := Lib.hid (HP2.out.later hb3)
      have Hb3 := Lib.hid (below_then Hb2.out hb3)
      clear q0 q1 q2 q3 q4 q5 hb3 HK2 HP2 Hb2 Rt
      obtain ⟨t, x, rfl⟩ := he.iface Hr.out
      go_wp2_with fail
      go_ret
      exact ⟨rfl, Hb3.out⟩
end Go.Proofs.YtoddgekeopejgaaGreatDoor
