/- The reference on PDUs: PduRight, PduWrite. -/
import Derived.Test.YtoddgekeopejgaaGreatDoorPduRight
import Derived.Test.YtoddgekeopejgaaGreatDoorGH
import Derived.Test.YtoddgekeopejgaaGreatDoorGI
import Derived.Test.YtoddgekeopejgaaGreatDoorPduSeen
namespace Go.Proofs.YtoddgekeopejgaaGreatDoor
open Go.RowKit
set_option linter.unusedVariables false
set_option linter.unusedSimpArgs false
theorem refWrite_good (h : Hd) (v : Value) (words data : Nat) (w : World) (hfl : I64 h.fl) (hv : Vals w v h.vs) (hll : h.vs.length ≤ 9223372036854775807) (hr : rightR h = (0, -1)) (hw : words ≤ 255) (hd : data ≤ 16777215) :
    Calls Tryz.prog 38 #[.agg #[.int .i64 h.op, .bool h.now, .int .i64 h.fl, v], .int .i64 words, .int .i64 data] w (RetSF w (headB h words data, 0, -1)) := by
  obtain ⟨k, hk, _⟩ := rightR_good hr
  obtain ⟨op, now, fl, vs⟩ := h
  cases now with
  | true => exact refWrite_now op fl vs v words data k w hk hfl hv hll hr hw hd
  | false => exact refWrite_later op fl vs v words data k w hk hfl hv hll hr hw hd
set_option maxRecDepth 100000 in
theorem refRightP_any (p : Pd) (vv va : Value) (w : World) (hp : PduAt w p vv va) (hf : FitP p) :
    Calls Tryz.prog 16 #[pduV p vv va] w fun e w' => e = .returned (.int .i64 (rightP p)) ∧ Below w.heap.size w w' := by
  have hb0 := (Below.refl w.heap.size w).alloc (Nat.le_refl _) (.cells (cells6 p vv va) 27)
  have HK := Lib.hid (Blk.new w (cells6 p vv va) 27)
  have HP := Lib.hid (hp.later hb0)
  have R1 := fun W (h : PduAt W p vv va) => Lib.hid (refRight_any p.h vv W hf.fl h.v hf.vs)
  have R2 := fun W (h : PduAt W p vv va) => Lib.hid (refWrite_ahs p.a va W h.a hf.a)
  have hrp : rightP p = if (rightR p.h).1 ≠ 0 then (rightR p.h).1 else if (writeA p.a).2.1 ≠ 0 then (writeA p.a).2.1 else if 100000 < p.d.length then 4 else 0 := by
    unfold rightP writeA
    by_cases h : (rightA p.a).1 = 0
    · rw [if_pos h, if_neg (by simp [h] : ¬ (rightA p.a).1 ≠ 0)]; rfl
    · rw [if_neg h]
  have hdl := hf.d
  have Hb0 := Lib.hid hb0
  obtain ⟨R, hR⟩ : ∃ R, rightP p = R := ⟨_, rfl⟩
  rw [hR] at hrp ⊢
  obtain ⟨⟨n1, p1⟩, h1⟩ : ∃ r, rightR p.h = r := ⟨_, rfl⟩
  obtain ⟨⟨sa, n2, p2⟩, h2⟩ : ∃ r, writeA p.a = r := ⟨_, rfl⟩
  rw [h1] at hrp
  rw [h2] at hrp
  simp only [h1] at R1
  simp only [h2] at R2
  obtain ⟨⟨op, now, fl, vs⟩, al, d⟩ := p
  obtain ⟨pv, cv, rfl⟩ : ∃ p c, vv = .slice p vs.length c := by obtain ⟨p, c, h, _⟩ := hp.v; exact ⟨p, c, h⟩
  obtain ⟨pa, ca, rfl⟩ := hp.a.form
  unfold cells6 at HK Hb0 HP
  unfold pduV
  unfold headV at R1
  simp only at HK Hb0 HP R1 R2 hrp hdl ⊢
  have Hrp := Lib.hid hrp
  have G1 := Lib.hid (fun W => isF_good p1 W)
  have G2 := Lib.hid (fun W => isF_good p2 W)
  have B1 := Lib.hid (fun W h => isF_bad n1 p1 W h)
  have B2 := Lib.hid (fun W h => isF_bad n2 p2 W h)
  clear hb0 hp hf hR h1 h2 hrp
  go_enter Tryz.func16, Tryz.ntmps16
  have q := Lib.hid HK.out.six
  obtain ⟨q0, q1, q2, q3, q4, q5⟩ := q.out
  clear q
  go_wp2_with fail
  refine (R1 _ HP.out).out.mono ?_
  rintro e w1 ⟨rfl, hb1⟩
  unfold faultV
  simp only
  have hbn := (Below.refl w1.heap.size w1).alloc (Nat.le_refl _) (.cells #[.int .i64 n1, .int .i64 p1] 68)
  have HK1 := Lib.hid (HK.out.later (below_then hb1 hbn))
  have HP1 := Lib.hid (HP.out.later (below_then hb1 hbn))
  have Hb1 := Lib.hid (below_then Hb0.out (below_then hb1 hbn))
  have HF1 := Lib.hid (Blk.new w1 #[.int .i64 n1, .int .i64 p1] 68)
  clear q0 q1 q2 q3 q4 q5 hb1 hbn HK HP Hb0 R1
  by_cases z1 : n1 = 0
  · subst z1
    have hrr := Hrp.out
    rw [if_neg (by decide)] at hrr
    have Hr2 := Lib.hid hrr
    clear hrr Hrp B1
    obtain ⟨f0, f1⟩ := HF1.out.two
    go_wp2_with fail
    refine (G1.out _).mono ?_
    rintro e w2 ⟨rfl, hb2⟩
    have HK2 := Lib.hid (HK1.out.later hb2)
    have HP2 := Lib.hid (HP1.out.later hb2)
    have Hb2 := Lib.hid (below_then Hb1.out hb2)
    obtain ⟨q0, q1, q2, q3, q4, q5⟩ := HK2.out.six
    clear hb2 HK1 HP1 Hb1 HF1 f0 f1
    go_wp2_with fail
    refine (R2 _ HP2.out).out.mono ?_
    rintro e w3 ⟨rfl, hb3⟩
    have hbn := (Below.refl w3.heap.size w3).alloc (Nat.le_refl _) (.cells #[.int .i64 n2, .int .i64 p2] 68)
    have HK3 := Lib.hid (HK2.out.later (below_then hb3 hbn))
    have Hb3 := Lib.hid (below_then Hb2.out (below_then hb3 hbn))
    have HF3 := Lib.hid (Blk.new w3 #[.int .i64 n2, .int .i64 p2] 68)
    clear q0 q1 q2 q3 q4 q5 hb3 hbn HK2 HP2 Hb2 R2
    obtain ⟨f0, f1⟩ := HF3.out.two
    by_cases z2 : n2 = 0
    · subst z2
      have hrr := Hr2.out
      rw [if_neg (by decide)] at hrr
      go_wp2_with fail
      refine (G2.out _).mono ?_
      rintro e w4 ⟨rfl, hb4⟩
      have HK4 := Lib.hid (HK3.out.later hb4)
      have Hb4 := Lib.hid (below_then Hb3.out hb4)
      obtain ⟨q0, q1, q2, q3, q4, q5⟩ := HK4.out.six
      clear f0 f1 hb4
      by_cases hd : 100000 < d.length
      · rw [if_pos hd] at hrr
        have hrh := Lib.hid hrr
        have i1 : (100000 : Int) < (d.length : Int) := by omega
        clear hrr hd
        go_wp2_with fail
        go_ret
        exact ⟨by rw [hrh.out]; rfl, Hb4.out⟩
      · rw [if_neg hd] at hrr
        have hrh := Lib.hid hrr
        have i1 : (d.length : Int) ≤ 100000 := by omega
        clear hrr hd
        go_wp2_with fail
        go_ret
        exact ⟨by rw [hrh.out]; rfl, Hb4.out⟩
    · have hrr := Hr2.out
      rw [if_pos z2] at hrr
      have hrh := Lib.hid hrr
      have Z2 := Lib.hid z2
      clear hrr z2
      go_wp2_with fail
      refine (B2.out _ Z2.out).mono ?_
      rintro e w4 ⟨rfl, hb4⟩
      have Hb4 := Lib.hid (below_then Hb3.out hb4)
      obtain ⟨g0, g1⟩ := (HF3.out.later hb4).two
      clear f0 f1 hb4
      go_wp2_with fail
      go_ret
      exact ⟨by rw [hrh.out]; rfl, Hb4.out⟩
  · have hrr := Hrp.out
    rw [if_pos z1] at hrr
    have hrh := Lib.hid hrr
    have Z1 := Lib.hid z1
    clear hrr z1
    obtain ⟨f0, f1⟩ := HF1.out.two
    go_wp2_with fail
    refine (B1.out _ Z1.out).mono ?_
    rintro e w2 ⟨rfl, hb2⟩
    have Hb2 := Lib.hid (below_then Hb1.out hb2)
    obtain ⟨g0, g1⟩ := (HF1.out.later hb2).two
    clear f0 f1 hb2
    go_wp2_with fail
    go_ret
    exact ⟨by rw [hrh.out]; rfl, Hb2.out⟩
theorem dig_1 (n : Nat) (s : List UInt8) (h : s.length ≠ 0) : (n % 2 = 1 → dig n 1 s = digest s) ∧ (n % 2 ≠ 1 → dig n 1 s = []) := by
  unfold dig onM
  simp only [Nat.div_one, decide_eq_true_eq]
  exact ⟨fun e => by rw [if_pos ⟨e, h⟩], fun e => by rw [if_neg (fun h => e h.1)]⟩
theorem dig_2 (n : Nat) (hn : n ≤ 3) (s : List UInt8) : (n / 2 = 1 ∧ s.length ≠ 0 → dig n 2 s = digest s) ∧ (¬ (n / 2 = 1 ∧ s.length ≠ 0) → dig n 2 s = []) := by
  have e : n / 2 % 2 = n / 2 := by omega
  unfold dig onM
  simp only [e, decide_eq_true_eq]
  exact ⟨fun h => by rw [if_pos h], fun h => by rw [if_neg h]⟩
set_option maxRecDepth 100000 in
theorem refWriteP_any (p : Pd) (vv va : Value) (m : Int) (w : World) (hm : I64 m) (hp : PduAt w p vv va) (hf : FitP p) (hsm : p.d.length ≤ 2500 ∨ 100000 < p.d.length) :
    Calls Tryz.prog 12 #[pduV p vv va, .int .i64 m] w fun e w' => e = .returned (.tuple #[.string (S (writeP p m).1), .int .i64 (writeP p m).2]) ∧ Below w.heap.size w w' := by
  have hb0 := (Below.refl w.heap.size w).alloc (Nat.le_refl _) (.cells (cells6 p vv va) 27)
  have HK := Lib.hid (Blk.new w (cells6 p vv va) 27)
  have HP := Lib.hid (hp.later hb0)
  have R := fun W (h : PduAt W p vv va) => Lib.hid (refRightP_any p vv va W h hf)
  have Hb0 := Lib.hid hb0
  by_cases hk : okM m
  · have T := Lib.hid (fun W => within_true m 0 3 W hk.1 hk.2)
    by_cases hr : rightP p = 0
    · have e : writeP p m = (bytesP p m.toNat, 0) := by unfold writeP; rw [if_neg (by simp [hk]), if_neg (by simp [hr])]
      rw [e]
      have RP := rightP_is hr
      have BP := bytesP_is RP
      have hd : p.d.length ≤ 2500 := by have := RP.d; omega
      have ha := RP.a
      have hhl := hdrs_len RP
      have hpl := padded_length p.d
      have hp3 := pad_le p.d.length
      simp only [hr] at R
      obtain ⟨n, rfl⟩ : ∃ n : Nat, m = n := ⟨m.toNat, by have := hk.1; omega⟩
      have hn3 : n ≤ 3 := by have := hk.2; omega
      rw [Int.toNat_natCast]
      have W1 := fun W (h : PduAt W p vv va) => refWrite_ahs p.a va W h.a hf.a
      rw [writeA_ok RP.k RP.a] at W1
      have W2 := fun W (h : PduAt W p vv va) => refWrite_good p.h vv ((wrL p.a).length / 4) p.d.length W hf.fl h.v hf.vs RP.h (by omega) (by omega)
      have W3 := fun W => refPadded_any p.d W (by omega)
      have W4 := fun W => refDigest_any (hdrs p) W (by omega)
      have W5 := fun W => refDigest_any (padded p.d) W (by omega)
      have hh1 : headB p.h ((wrL p.a).length / 4) p.d.length ++ wrL p.a = hdrs p := rfl
      have hl1 := BP.hb
      have hq : ((wrL p.a).length : Int) / 4 = (((wrL p.a).length / 4 : Nat) : Int) := by omega
      obtain ⟨d1, d1'⟩ := dig_1 n (hdrs p) (by omega)
      obtain ⟨d2, d2'⟩ := dig_2 n hn3 (padded p.d)
      have hpe : (padded p.d).length ≠ 0 ↔ p.d.length ≠ 0 := by rw [hpl]; unfold pad; omega
      have hdl4 : ∀ l, (digest l).length = 4 := fun l => le_len _ _
      have hg1 := hdl4 (hdrs p)
      have hg2 := hdl4 (padded p.d)
      obtain ⟨bt, hbt⟩ : ∃ bt, bytesP p n = bt := ⟨_, rfl⟩
      have eb : hdrs p ++ dig n 1 (hdrs p) ++ padded p.d ++ dig n 2 (padded p.d) = bt := hbt
      rw [hbt]
      clear RP BP hk hr e hbt hm hsm hdl4
      obtain ⟨⟨op, now, fl, vs⟩, al, d⟩ := p
      obtain ⟨pv, cv, rfl⟩ : ∃ p c, vv = .slice p vs.length c := by obtain ⟨p, c, h, _⟩ := hp.v; exact ⟨p, c, h⟩
      obtain ⟨pa, ca, rfl⟩ := hp.a.form
      unfold cells6 at HK Hb0 HP
      unfold pduV at R ⊢
      simp only at *
      generalize (wrL al).length / 4 = wn at *
      generalize hG1 : digest (hdrs ⟨⟨op, now, fl, vs⟩, al, d⟩) = g1 at *
      generalize dig n 1 (hdrs ⟨⟨op, now, fl, vs⟩, al, d⟩) = x1 at *
      generalize hdrs ⟨⟨op, now, fl, vs⟩, al, d⟩ = hd1 at *
      generalize hG2 : digest (padded d) = g2 at *
      generalize dig n 2 (padded d) = x2 at *
      generalize padded d = pd at *
      generalize headB ⟨op, now, fl, vs⟩ wn d.length = hb1 at *
      generalize wrL al = wl at *
      clear hG1 hG2
      have Eb := Lib.hid eb
      have HW1 := Lib.hid W1
      have HW2 := Lib.hid W2
      have HW3 := Lib.hid W3
      have HW4 := Lib.hid W4
      have HW5 := Lib.hid W5
      have Hpe := Lib.hid hpe
      have D1 := Lib.hid d1
      have D1' := Lib.hid d1'
      have D2 := Lib.hid d2
      have D2' := Lib.hid d2'
      clear eb W1 W2 W3 W4 W5 hpe d1 d1' d2 d2' hf hp hb0
      obtain ⟨q0, q1, q2, q3, q4, q5⟩ := HK.out.six
      go_enter Tryz.func12, Tryz.ntmps12
      go_wp2_with fail
      refine (T.out _).mono ?_
      rintro e w1 ⟨rfl, rfl⟩
      go_wp2_with fail
      refine (R _ HP.out).out.mono ?_
      rintro e w1 ⟨rfl, hb1'⟩
      have HK1 := Lib.hid (HK.out.later hb1')
      have HP1 := Lib.hid (HP.out.later hb1')
      have Hb1 := Lib.hid (below_then Hb0.out hb1')
      clear q0 q1 q2 q3 q4 q5 hb1' HK HP Hb0 R T
      obtain ⟨q0, q1, q2, q3, q4, q5⟩ := HK1.out.six
      go_wp2_with fail
      refine (HW1.out _ HP1.out).mono ?_
      rintro e w2 ⟨rfl, hb2'⟩
      have hbn := (Below.refl w2.heap.size w2).alloc (Nat.le_refl _) (.cells #[.int .i64 0, .int .i64 (-1)] 68)
      have HK2 := Lib.hid (HK1.out.later (below_then hb2' hbn))
      have HP2 := Lib.hid (HP1.out.later (below_then hb2' hbn))
      have Hb2 := Lib.hid (below_then Hb1.out (below_then hb2' hbn))
      clear q0 q1 q2 q3 q4 q5 hb2' hbn HK1 HP1 Hb1 HW1
      obtain ⟨q0, q1, q2, q3, q4, q5⟩ := HK2.out.six
      go_wp2_with fail
      refine (HW2.out _ HP2.out).mono ?_
      rintro e w3 ⟨rfl, hb3'⟩
      have hbn := (Below.refl w3.heap.size w3).alloc (Nat.le_refl _) (.cells #[.int .i64 0, .int .i64 (-1)] 68)
      have HK3 := Lib.hid (HK2.out.later (below_then hb3' hbn))
      have Hb3 := Lib.hid (below_then Hb2.out (below_then hb3' hbn))
      clear q0 q1 q2 q3 q4 q5 hb3' hbn HK2 HP2 Hb2 HW2
      obtain ⟨q0, q1, q2, q3, q4, q5⟩ := HK3.out.six
      by_cases o1 : n % 2 = 1
      · have i1 : ((n : Int) % 2 == 1) = true := by rw [beq_iff_eq]; omega
        have E1 := Lib.hid (D1.out o1)
        clear o1
        go_wp2_with fail
        refine (HW4.out _).mono ?_
        rintro e w4 ⟨rfl, hb4⟩
        have HK4 := Lib.hid (HK3.out.later hb4)
        have Hb4 := Lib.hid (below_then Hb3.out hb4)
        clear q0 q1 q2 q3 q4 q5 hb4 HK3 Hb3
        obtain ⟨q0, q1, q2, q3, q4, q5⟩ := HK4.out.six
        go_wp2_with fail
        refine (HW3.out _).mono ?_
        rintro e w5 ⟨rfl, rfl⟩
        by_cases o2 : n / 2 = 1
        · have i2 : ((n : Int) / 2 == 1) = true := by rw [beq_iff_eq]; omega
          cases hde : d.isEmpty with
          | true =>
            have E2 := Lib.hid (D2'.out (fun h => by have := Hpe.out.1 h.2; rw [List.isEmpty_iff.1 hde] at this; exact this rfl))
            clear o2
            go_wp2_with fail
            go_ret2
            rw [← Eb.out, E1.out, E2.out]
            simp only [List.append_assoc, List.append_nil, List.nil_append]
            exact ⟨rfl, Hb4.out⟩
          | false =>
            have E2 := Lib.hid (D2.out ⟨o2, Hpe.out.2 (fun h => by rw [List.length_eq_zero_iff.1 h] at hde; exact absurd hde (by decide))⟩)
            clear o2
            go_wp2_with fail
            refine (HW5.out _).mono ?_
            rintro e w6 ⟨rfl, hb6⟩
            have Hb6 := Lib.hid (below_then Hb4.out hb6)
            clear q0 q1 q2 q3 q4 q5 hb6
            go_wp2_with fail
            go_ret2
            rw [← Eb.out, E1.out, E2.out]
            simp only [List.append_assoc, List.append_nil, List.nil_append]
            exact ⟨rfl, Hb6.out⟩
        · have i2 : ((n : Int) / 2 == 1) = false := by rw [beq_eq_false_iff_ne]; omega
          have E2 := Lib.hid (D2'.out (fun h => o2 h.1))
          clear o2
          go_wp2_with fail
          go_ret2
          rw [← Eb.out, E1.out, E2.out]
          simp only [List.append_assoc, List.append_nil, List.nil_append]
          exact ⟨rfl, Hb4.out⟩
      · have i1 : ((n : Int) % 2 == 1) = false := by rw [beq_eq_false_iff_ne]; omega
        have E1 := Lib.hid (D1'.out o1)
        clear o1
        go_wp2_with fail
        have HK4 := Lib.hid HK3.out
        have Hb4 := Lib.hid Hb3.out
        clear HK3 Hb3
        refine (HW3.out _).mono ?_
        rintro e w5 ⟨rfl, rfl⟩
        by_cases o2 : n / 2 = 1
        · have i2 : ((n : Int) / 2 == 1) = true := by rw [beq_iff_eq]; omega
          cases hde : d.isEmpty with
          | true =>
            have E2 := Lib.hid (D2'.out (fun h => by have := Hpe.out.1 h.2; rw [List.isEmpty_iff.1 hde] at this; exact this rfl))
            clear o2
            go_wp2_with fail
            go_ret2
            rw [← Eb.out, E1.out, E2.out]
            simp only [List.append_assoc, List.append_nil, List.nil_append]
            exact ⟨rfl, Hb4.out⟩
          | false =>
            have E2 := Lib.hid (D2.out ⟨o2, Hpe.out.2 (fun h => by rw [List.length_eq_zero_iff.1 h] at hde; exact absurd hde (by decide))⟩)
            clear o2
            go_wp2_with fail
            refine (HW5.out _).mono ?_
            rintro e w6 ⟨rfl, hb6⟩
            have Hb6 := Lib.hid (below_then Hb4.out hb6)
            clear q0 q1 q2 q3 q4 q5 hb6
            go_wp2_with fail
            go_ret2
            rw [← Eb.out, E1.out, E2.out]
            simp only [List.append_assoc, List.append_nil, List.nil_append]
            exact ⟨rfl, Hb6.out⟩
        · have i2 : ((n : Int) / 2 == 1) = false := by rw [beq_eq_false_iff_ne]; omega
          have E2 := Lib.hid (D2'.out (fun h => o2 h.1))
          clear o2
          go_wp2_with fail
          go_ret2
          rw [← Eb.out, E1.out, E2.out]
          simp only [List.append_assoc, List.append_nil, List.nil_append]
          exact ⟨rfl, Hb4.out⟩
    · have e : writeP p m = ([], rightP p) := by unfold writeP; rw [if_neg (by simp [hk]), if_pos hr]
      rw [e]
      obtain ⟨r, hr'⟩ : ∃ r, rightP p = r := ⟨_, rfl⟩
      rw [hr'] at hr ⊢
      simp only [hr'] at R
      have hrb : (r != 0) = true := by simp [hr]
      obtain ⟨⟨op, now, fl, vs⟩, al, d⟩ := p
      obtain ⟨pv, cv, rfl⟩ : ∃ p c, vv = .slice p vs.length c := by obtain ⟨p, c, h, _⟩ := hp.v; exact ⟨p, c, h⟩
      obtain ⟨pa, ca, rfl⟩ := hp.a.form
      unfold cells6 at HK Hb0 HP
      unfold pduV at R ⊢
      simp only at HK Hb0 HP R ⊢
      clear e hr hr' hk hm hb0 hp hf hsm
      obtain ⟨q0, q1, q2, q3, q4, q5⟩ := HK.out.six
      go_enter Tryz.func12, Tryz.ntmps12
      go_wp2_with fail
      refine (T.out _).mono ?_
      rintro e w1 ⟨rfl, rfl⟩
      go_wp2_with fail
      refine (R _ HP.out).out.mono ?_
      rintro e w1 ⟨rfl, hb1'⟩
      have Hb1 := Lib.hid (below_then Hb0.out hb1')
      clear q0 q1 q2 q3 q4 q5 hb1'
      go_wp2_with fail
      go_ret2
      exact ⟨rfl, Hb1.out⟩
  · have e : writeP p m = ([], 1) := by unfold writeP; rw [if_pos hk]
    rw [e]
    have T := Lib.hid (fun W => within_false m 0 3 W (by unfold okM at hk; omega))
    obtain ⟨⟨op, now, fl, vs⟩, al, d⟩ := p
    obtain ⟨pv, cv, rfl⟩ : ∃ p c, vv = .slice p vs.length c := by obtain ⟨p, c, h, _⟩ := hp.v; exact ⟨p, c, h⟩
    obtain ⟨pa, ca, rfl⟩ := hp.a.form
    unfold cells6 at HK Hb0 HP
    unfold pduV
    simp only at HK Hb0 HP ⊢
    clear e hk hm hb0 hp hf hsm R
    go_enter Tryz.func12, Tryz.ntmps12
    go_wp2_with fail
    refine (T.out _).mono ?_
    rintro e w1 ⟨rfl, rfl⟩
    go_wp2_with fail
    go_ret2
    exact ⟨rfl, Hb0.out⟩
end Go.Proofs.YtoddgekeopejgaaGreatDoor
