/- The reference's PduRead. -/
import Derived.Test.YtlkikkfbennmnaaGreatDoorRefPduS
import Derived.Test.YtlkikkfbennmnaaGreatDoorPduRd
import Derived.Test.YtlkikkfbennmnaaGreatDoorPduSeen
import Derived.Test.YtlkikkfbennmnaaGreatDoorGG
import Derived.Test.YtlkikkfbennmnaaGreatDoorGI
import Derived.Test.YtlkikkfbennmnaaGreatDoorRefIs
import Derived.BigQuiet
namespace Go.Proofs.YtlkikkfbennmnaaGreatDoor
open Go.RowKit
set_option linter.unusedVariables false
set_option linter.unusedSimpArgs false
def RetRPN (w : World) (r : Pd × Nat × Int) (e : Ending) (w' : World) : Prop := ∃ vv va, e = .returned (.tuple #[pduV r.1 vv va, .int .i64 (r.2.1 : Int), .int .i64 r.2.2]) ∧ PduAt w' r.1 vv va ∧ Below w.heap.size w w'
/-- what is padded is asked of as many bytes alone -/
theorem unp_take (l : List UInt8) (y : Nat) (h : y + pad y ≤ l.length) : unpE l y = unpE (l.take (y + pad y)) y ∧ unpS l y = unpS (l.take (y + pad y)) y ∧ (unpE l y = 0 → unpK l y = ((y + pad y : Nat) : Int)) := by
  have hl : (l.take (y + pad y)).length = y + pad y := by rw [List.length_take]; omega
  have e1 : ((l.take (y + pad y)).drop y).take (pad y) = (l.drop y).take (pad y) := by
    rw [List.drop_take, Nat.add_sub_cancel_left, List.take_take, Nat.min_self]
  have e2 : (l.take (y + pad y)).take y = l.take y := by rw [List.take_take, Nat.min_eq_left (by omega)]
  have hE : unpE l y = unpE (l.take (y + pad y)) y := by
    have h1 : ¬ ((y : Int) < 0) := by omega
    have h2 : ¬ (l.length < y + pad y) := by omega
    have h3 : ¬ ((l.take (y + pad y)).length < y + pad y) := by omega
    unfold unpE
    rw [Int.toNat_natCast, if_neg h1, if_neg h1, if_neg h2, if_neg h3, e1]
  refine ⟨hE, ?_, fun h0 => by unfold unpK; rw [if_pos h0, Int.toNat_natCast]⟩
  unfold unpS
  rw [← hE, Int.toNat_natCast, e2]
theorem fin_bad {R : Pd × Nat × Int} {B : Pd × Int} {l : Nat} {p : Pd} {e : Int} (h : R = if B.2 ≠ 0 then (pd0, 0, B.2) else (B.1, l, 0)) (hb : B = (p, e)) (he : e ≠ 0) : R = (pd0, 0, e) := by
  subst hb
  rw [h, if_pos he]
theorem fin_good {R : Pd × Nat × Int} {B : Pd × Int} {l : Nat} {p : Pd} (h : R = if B.2 ≠ 0 then (pd0, 0, B.2) else (B.1, l, 0)) (hb : B = (p, 0)) : R = (p, l, 0) := by
  subst hb
  rw [h, if_neg (by simp)]
set_option maxRecDepth 100000 in
set_option maxHeartbeats 8000000 in
theorem refReadB_any (s : List UInt8) (n : Nat) (w : World) (hn : n ≤ 3) (h48 : 48 ≤ s.length) (hl : s.length ≤ 4200) (hz : ea s n ≤ s.length) :
    Calls Tryz.prog 61 #[.string (S s), .int .i64 (n : Int)] w (RetRPN w (readP s n)) := by
  have Z := Lib.hid (fun w => refSize_ok s n w hn h48 (by omega))
  have hok : okM (n : Int) := by unfold okM; omega
  have hsz : sizeP s (n : Int) = (ea s n, 0) := by unfold sizeP; rw [if_neg (by simp [hok]), if_neg (by omega)]; rfl
  have hR : readP s n = if (readB (s.take (ea s n)) n).2 ≠ 0 then (pd0, 0, (readB (s.take (ea s n)) n).2) else ((readB (s.take (ea s n)) n).1, ea s n, 0) := by
    unfold readP; rw [hsz, if_neg (by simp), if_neg (by simp only; omega)]; rfl
  obtain ⟨R, hRR⟩ : ∃ R, readP s n = R := ⟨_, rfl⟩
  obtain ⟨Bv, hB⟩ : ∃ B, readB (s.take (ea s n)) n = B := ⟨_, rfl⟩
  rw [hRR]
  rw [hRR, hB] at hR
  have L := ends_le s n
  obtain ⟨t, ht⟩ : ∃ t, s.take (ea s n) = t := ⟨_, rfl⟩
  have htl : t.length = ea s n := by rw [← ht, List.length_take]; omega
  have hsame := ea_same (s := t) (t := s) (by rw [← ht]; exact readW_take (by omega)) (by rw [← ht]; exact readD_take (by omega)) n
  rw [ht] at hB
  replace hB := hB.symm
  have hzt : t.length = ea t n := by rw [htl, hsame.1]
  have Lt := ends_le t n
  have h4t : 4 < t.length := by omega
  have hxw := readW_at t h4t
  have hxl := readW_lt t
  obtain ⟨b4, hb4⟩ : ∃ b, t[4]'h4t = b := ⟨_, rfl⟩
  rw [hb4] at hxw
  have eh1 : eh t = 48 + 4 * b4.toNat := by unfold eh; rw [hxw]
  have eg1 : eg t n = eh t + 4 * (n % 2) := by unfold eg; rw [room_mod n _ hn (by unfold eh; omega)]
  have ed1 : ed t n = eg t n + readD t + pad (readD t) := rfl
  have ea1 : ea t n = ed t n + room n 2 (readD t) := rfl
  have hp3 := pad_le (readD t)
  have hRl : (t.drop (eg t n)).length = t.length - eg t n := List.length_drop ..
  have hU := unp_take (t.drop (eg t n)) (readD t) (by rw [hRl]; omega)
  rw [show readD t + pad (readD t) = ed t n - eg t n by omega] at hU
  have C1 := fun W => refDigest_any (t.take (eh t)) W (by rw [List.length_take]; omega)
  have C2 := fun W => refRead_any (t.take 48) W (by rw [List.length_take]; omega)
  have C3 := fun W => refRead_ahs ((t.drop 48).take (eh t - 48)) W (by rw [List.length_take, List.length_drop]; omega)
  have C5 := fun W => refUnpad_all (t.drop (eg t n)) (readD t : Nat) W (by rw [hRl]; omega)
  have C6 := fun W => refDigest_any ((t.drop (eg t n)).take (ed t n - eg t n)) W (by rw [List.length_take, List.length_drop]; omega)
  have hu3 : unpE ((t.drop (eg t n)).take (ed t n - eg t n)) (readD t : Nat) ≠ 0 → unpE ((t.drop (eg t n)).take (ed t n - eg t n)) (readD t : Nat) = 3 := unpE_3 (by omega) (by rw [List.length_take, List.length_drop, Int.toNat_natCast]; omega)
  have huS : unpE ((t.drop (eg t n)).take (ed t n - eg t n)) (readD t : Nat) = 0 → unpS ((t.drop (eg t n)).take (ed t n - eg t n)) (readD t : Nat) = ((t.drop (eg t n)).take (ed t n - eg t n)).take (readD t) := fun h => by unfold unpS; rw [if_pos h]; rfl
  have hR48 : (readR (t.take 48)).2.2.2 = 0 → readR (t.take 48) = ((readR (t.take 48)).1, readW t, readD t, 0) := fun h => by
    obtain ⟨_, hh, e, _⟩ := readR_is0 h
    rw [readW_take (by decide), readD_take (by decide)] at e
    rw [e]
  -- the digests
  have g1 : n % 2 = 1 → dig n 1 (t.take (eh t)) = digest (t.take (eh t)) ∧ cutB t (eh t) (eg t n - eh t) = (t.drop (eh t)).take 4 := fun h => by
    refine ⟨?_, ?_⟩
    · unfold dig onM; rw [if_pos ⟨by simp [h], by rw [List.length_take]; omega⟩]
    · unfold cutB; rw [show eg t n - eh t = 4 by omega]
  have g2 : n % 2 ≠ 1 → dig n 1 (t.take (eh t)) = cutB t (eh t) (eg t n - eh t) := fun h => by
    unfold cutB
    rw [show eg t n - eh t = 0 by omega]
    unfold dig onM
    rw [if_neg (by simp [h]), List.take_zero]
  have hDl : ((t.drop (eg t n)).take (ed t n - eg t n)).length = readD t + pad (readD t) := by rw [List.length_take, List.length_drop]; omega
  have hTLl : (t.drop (ed t n)).length = room n 2 (readD t) := by rw [List.length_drop]; omega
  have g3 : room n 2 (readD t) ≠ 0 → dig n 2 ((t.drop (eg t n)).take (ed t n - eg t n)) = digest ((t.drop (eg t n)).take (ed t n - eg t n)) := fun h => by
    unfold room at h
    unfold dig
    by_cases c : onM n 2 = true ∧ readD t ≠ 0
    · rw [if_pos ⟨c.1, by rw [hDl]; omega⟩]
    · rw [if_neg c] at h; exact absurd rfl h
  have g4 : room n 2 (readD t) = 0 → dig n 2 ((t.drop (eg t n)).take (ed t n - eg t n)) = t.drop (ed t n) := fun h => by
    rw [h] at hTLl
    rw [List.length_eq_zero_iff.1 hTLl]
    refine List.length_eq_zero_iff.1 ?_
    rw [dig_len, hDl, room_pad, h]
  have hdrop : (t.drop (eg t n)).drop (ed t n - eg t n) = t.drop (ed t n) := by rw [List.drop_drop, show eg t n + (ed t n - eg t n) = ed t n by omega]
  unfold readB at hB
  have hcutD : cutB t (eg t n) (ed t n - eg t n) = (t.drop (eg t n)).take (ed t n - eg t n) := rfl
  have hcutA : cutB t 48 (eh t - 48) = (t.drop 48).take (eh t - 48) := rfl
  rw [hcutD, hcutA] at hB
  obtain ⟨u1, u2, u3⟩ := hU
  rw [← u1] at hB hu3 huS
  rw [← u2] at huS
  generalize hTk : ((t.drop (eg t n)).take (ed t n - eg t n)).take (readD t) = Tk at *
  generalize unpE (t.drop (eg t n)) (readD t : Nat) = u at *
  generalize unpS (t.drop (eg t n)) (readD t : Nat) = uS at *
  generalize unpK (t.drop (eg t n)) (readD t : Nat) = uK at *
  generalize hdg1 : digest (t.take (eh t)) = dg1 at *
  generalize dig n 1 (t.take (eh t)) = xg1 at *
  generalize cutB t (eh t) (eg t n - eh t) = xc1 at *
  generalize hdg2 : digest ((t.drop (eg t n)).take (ed t n - eg t n)) = dg2 at *
  generalize dig n 2 ((t.drop (eg t n)).take (ed t n - eg t n)) = xg2 at *
  generalize readR (t.take 48) = r48 at *
  generalize readA ((t.drop 48).take (eh t - 48)) = rA at *
  generalize hX3 : t.drop (ed t n) = TL at *
  generalize hD : (t.drop (eg t n)).take (ed t n - eg t n) = D at *
  generalize hRs : t.drop (eg t n) = rs at *
  generalize room n 2 (readD t) = rm at *
  generalize readD t = y at *
  generalize readW t = x at *
  rw [← hzt] at ea1
  generalize ed t n = e3 at *
  generalize eg t n = e2 at *
  generalize eh t = e1 at *
  rw [← htl] at Z hR ht
  obtain ⟨⟨op, now, fl, vs⟩, x0, y0, n1⟩ := r48
  obtain ⟨al, n2, p2⟩ := rA
  simp only at *
  obtain ⟨kk, hkk⟩ : ∃ kk : Nat, kk = e3 - e2 := ⟨_, rfl⟩
  have hkk' : ((y + pad y : Nat) : Int) = (kk : Int) := by omega
  rw [← hkk] at hD hdrop
  have F0 : IntKind.i64.wrap (b4.toNat : Int) = (b4.toNat : Int) := IntWalk.i64_in _ (by omega)
  have F1 : (48 : Int) + 4 * (b4.toNat : Int) = (e1 : Int) := by omega
  have i1 : (e1 : Int) ≤ (t.length : Int) := by omega
  have i2 : (48 : Int) ≤ (e1 : Int) := by omega
  have i3 : (48 : Int) ≤ (t.length : Int) := by omega
  have i4 : (t.length : Int) ≤ (s.length : Int) := by omega
  have i5 : (y : Int) ≤ 100000 := by omega
  have i6 : (48 : Int) ≤ (s.length : Int) := by omega
  have i7 : (kk : Int) ≤ (rs.length : Int) := by omega
  have r1 : List.take (t.length - e1) (List.drop e1 t) = List.drop e1 t := List.take_of_length_le (by rw [List.length_drop]; exact Nat.le_refl _)
  have hro : (rm = 0 ∧ ¬ kk < rs.length) ∨ (rm ≠ 0 ∧ kk < rs.length) := by
    by_cases h : rm = 0
    · exact .inl ⟨h, by omega⟩
    · exact .inr ⟨h, by omega⟩
  have r2 : List.take (rs.length - kk) (List.drop kk rs) = TL := by rw [List.take_of_length_le (by rw [List.length_drop]; exact Nat.le_refl _)]; exact hdrop
  have HR := Lib.hid hB
  have HR0 := Lib.hid hR
  have HC1 := Lib.hid C1
  have HC2 := Lib.hid C2
  have HC3 := Lib.hid C3
  have HC5 := Lib.hid C5
  have HC6 := Lib.hid C6
  have Hu3 := Lib.hid hu3
  have HuS := Lib.hid huS
  have HR48 := Lib.hid hR48
  have G1 := Lib.hid g1
  have G2 := Lib.hid g2
  have G3 := Lib.hid g3
  have G4 := Lib.hid g4
  have Hk := Lib.hid u3
  have Hkk := Lib.hid (show ((e3 - e2 : Nat) : Int) = (kk : Int) by rw [hkk])
  have Hle := Lib.hid (show e2 ≤ t.length by omega)
  have Hro := Lib.hid hro
  have hb0 := (Below.refl w.heap.size w).alloc (Nat.le_refl _) (.cells #[.int .i64 0, .bool false, .int .i64 0, .slice none 0 0, .slice none 0 0, .string (S [])] 45)
  have HK0 := Lib.hid (Blk.new w #[.int .i64 0, .bool false, .int .i64 0, .slice none 0 0, .slice none 0 0, .string (S [])] 45)
  have Hb0 := Lib.hid hb0
  have I1 := Lib.hid (fun W h => isF_bad n2 p2 W h)
  have I2 := Lib.hid (fun W => isF_good p2 W)
  have Hrs := Lib.hid hRs
  have Hln := Lib.hid (show e2 = e1 + 4 * (n % 2) from eg1)
  have hrsl : (rs.length : Int) ≤ 4200 := by omega
  have htl3 : (t.length : Int) ≤ 4200 := by omega
  have hn3 : (n : Int) ≤ 3 := by omega
  clear hR hB hRR C1 C2 C3 C5 C6 hu3 huS hR48 g1 g2 g3 g4 u1 u2 u3 hsz hsame hzt Lt L hxw hxl eh1 eg1 ed1 ea1 hp3 hRl hDl hTLl hcutD hcutA hdg1 hdg2 hkk hkk' hro hb0 hok hz hn hTk hX3 hRs htl hdrop h48 hl
  by_cases o1 : n % 2 = 1
  · have G := G1.out o1
    have oB : ((n : Int) % 2 == 1) = true := by rw [beq_iff_eq]; omega
    obtain ⟨rs0, hrs0⟩ : ∃ l, List.drop e1 t = l := ⟨_, rfl⟩
    have hrs4 : List.drop 4 rs0 = rs := by rw [← hrs0, List.drop_drop, ← Hrs.out]; congr 1; have := Hln.out; omega
    have hrs5 : List.take (rs0.length - 4) rs = rs := List.take_of_length_le (by rw [← hrs4, List.length_drop]; exact Nat.le_refl _)
    have hx4 : xc1 = List.take 4 rs0 := by rw [G.2, hrs0]
    have hrl : rs0.length = t.length - e1 := by rw [← hrs0, List.length_drop]
    have i9 : (4 : Int) ≤ (rs0.length : Int) := by have := Hln.out; have := Hle.out; omega
    have r3 : List.take (t.length - e1) rs0 = rs0 := List.take_of_length_le (by omega)
    have Hx4 := Lib.hid hx4
    have HG := Lib.hid G.1
    clear G1 G2 G o1 hx4 hrl Hrs r1
    go_enter Tryz.func61, Tryz.ntmps61
    go_wp2_with fail
    refine (Z.out _).mono ?_
    rintro e w1 ⟨rfl, hb1⟩
    have HK1 := Lib.hid (HK0.out.later hb1)
    have Hb1 := Lib.hid (below_then Hb0.out hb1)
    clear hb1 HK0 Hb0 Z
    go_wp2_with fail
    go_region_held3 (fun w' => Below w1.heap.size w1 w')
      (first | assumption | exact Below.refl _ _ | exact (Below.refl _ _).drew | (refine below_then ?_ hb'; assumption))
      (first | ((with_reducible refine (HC1.out _).mono ?_); rintro e w' ⟨rfl, hb'⟩))
    have hlow2 := (by assumption : Below w1.heap.size w1 w')
    have HK2 := Lib.hid (HK1.out.later hlow2)
    have Hb2 := Lib.hid (below_then Hb1.out hlow2)
    clear hlow2 HK1 Hb1
    generalize hx5 : List.take 4 rs0 = x4 at *
    by_cases c1 : dg1 = x4
    · have hRR := HR.out
      rw [HG.out, Hx4.out, if_neg (by simp [c1])] at hRR
      have HR1 := Lib.hid hRR
      have cb : (!x4 == dg1) = false := by simp [c1]
      rw [cb]
      clear hRR HR c1
      go_wp2_with fail
      refine (HC2.out _).mono ?_
      rintro e w4 ⟨vv, rfl, hvv, hb4'⟩
      obtain ⟨pv, cv, rfl⟩ : ∃ p c, vv = .slice p vs.length c := by obtain ⟨p, c, h, _⟩ := hvv; exact ⟨p, c, h⟩
      have hbn := (Below.refl w4.heap.size w4).alloc (Nat.le_refl _) (.cells #[.int .i64 op, .bool now, .int .i64 fl, .slice pv vs.length cv] 42)
      have HK4 := Lib.hid (HK2.out.later (below_then hb4' hbn))
      have Hb4 := Lib.hid (below_then Hb2.out (below_then hb4' hbn))
      have HV4 := Lib.hid (hvv.later hbn)
      have HH4 := Lib.hid (Blk.new w4 #[.int .i64 op, .bool now, .int .i64 fl, .slice pv vs.length cv] 42)
      clear hvv hb4' hbn HC2
      unfold headV
      simp only
      by_cases z1 : n1 = 0
      · subst z1
        have hr48 := HR48.out rfl
        simp only [Prod.mk.injEq, true_and] at hr48
        obtain ⟨rfl, rfl, _⟩ := hr48
        have hRR := HR1.out
        rw [if_neg (by simp)] at hRR
        have HR2 := Lib.hid hRR
        clear hRR HR1 HR48
        go_wp2_with fail
        refine (HC3.out _).mono ?_
        rintro e w5 ⟨va, rfl, hva, hb5⟩
        obtain ⟨pa, ca, rfl⟩ := hva.form
        have hbn := (Below.refl w5.heap.size w5).alloc (Nat.le_refl _) (.cells #[.int .i64 n2, .int .i64 p2] 176)
        have HK5 := Lib.hid (HK4.out.later (below_then hb5 hbn))
        have Hb5 := Lib.hid (below_then Hb4.out (below_then hb5 hbn))
        have HV5 := Lib.hid (HV4.out.later (below_then hb5 hbn))
        have HH5 := Lib.hid (HH4.out.later (below_then hb5 hbn))
        have HA5 := Lib.hid (hva.later hbn)
        have HF5 := Lib.hid (Blk.new w5 #[.int .i64 n2, .int .i64 p2] 176)
        obtain ⟨f0, f1⟩ := HF5.out.two
        have hlt5 := (HK4.out.later hb5).lt
        clear hva hb5 hbn HK4 Hb4 HV4 HH4 HC3
        by_cases z2 : n2 = 0
        · subst z2
          have hRR := HR2.out
          rw [if_neg (by simp)] at hRR
          have HR3 := Lib.hid hRR
          clear hRR HR2 I1
          go_wp2_with fail
          refine (I2.out _).mono ?_
          rintro e w6 ⟨rfl, hb6⟩
          have HK6 := Lib.hid (HK5.out.later hb6)
          have Hb6 := Lib.hid (below_then Hb5.out hb6)
          have HV6 := Lib.hid (HV5.out.later hb6)
          have HH6 := Lib.hid (HH5.out.later hb6)
          have HA6 := Lib.hid (HA5.out.later hb6)
          clear f0 f1 hb6 HK5 Hb5 HV5 HH5 HA5 HF5
          go_wp2_with fail
          refine (HC5.out _).mono ?_
          rintro e w7 ⟨rfl, hb7⟩
          have HK7 := Lib.hid (HK6.out.later hb7)
          have Hb7 := Lib.hid (below_then Hb6.out hb7)
          have HV7 := Lib.hid (HV6.out.later hb7)
          have HH7 := Lib.hid (HH6.out.later hb7)
          have HA7 := Lib.hid (HA6.out.later hb7)
          clear hb7 HK6 Hb6 HV6 HH6 HA6 HC5
          by_cases c4 : u = 0
          · have hS := HuS.out c4
            have hK := (Hk.out c4).trans Hkk.out
            subst c4 hS
            subst hK
            have hRR := HR3.out
            rw [if_neg (by simp)] at hRR
            have HR4 := Lib.hid hRR
            clear hRR HR3 Hu3 HuS
            rcases Hro.out with ⟨hr0, hdx⟩ | ⟨hr0, hdx⟩
            · have hRR := HR4.out
              have hdc := decide_eq_false (fun h : (kk : Int) < (rs.length : Int) => hdx (Int.ofNat_lt.1 h))
              have hdN := decide_eq_false hdx
              rw [if_neg (by rw [G4.out hr0]; simp), if_neg (by omega)] at hRR
              have hRR := fin_good HR0.out hRR
              clear hr0
              subst hRR
              obtain ⟨p0, p1, p2', p3, p4, p5⟩ := HK7.out.six
              have f0 := HK7.out.frozen 0
              have f1 := HK7.out.frozen 1
              have f2 := HK7.out.frozen 2
              have f3 := HK7.out.frozen 3
              have f4 := HK7.out.frozen 4
              have f5 := HK7.out.frozen 5
              obtain ⟨q0, q1, q2, q3⟩ := HH7.out.four
              go_wp2_with fail
              go_quiet (fail)
              go_wp2_with fail
              have hst := six_stored (.int .i64 op) (.bool now) (.int .i64 fl) (.slice pv vs.length cv) (.slice pa al.length ca) (.string (S uS)) (HK7.out.drewN nq) (Nat.le_refl _) (below_drewN Hb7.out nq)
              exact bodyPost_ret (v := .tuple #[pduV ⟨⟨op, now, fl, vs⟩, al, uS⟩ (.slice pv vs.length cv) (.slice pa al.length ca), .int .i64 (t.length : Int), .int .i64 0]) (by simp [results, Tryz.results61, go_sem, pduV, p0, p1, p2', p3, p4, p5]) rfl ⟨_, _, rfl, PduAt.set6 ⟨HV7.out.drewN nq, HA7.out.drewN nq⟩ (HK7.out.drewN nq) _ _ _ _ _ _, hst.2⟩
            · have g3 := G3.out hr0
              have hdc := decide_eq_true (show (kk : Int) < (rs.length : Int) by omega)
              have hdN := decide_eq_true hdx
              rw [g3] at HR4
              have HR5 := Lib.hid HR4.out
              clear hr0 g3 HR4
              by_cases c5 : dg2 = TL
              · have hRR := HR5.out
                rw [if_neg (by simp [c5]), if_neg (by omega)] at hRR
                have hRR := fin_good HR0.out hRR
                have cb : (TL == dg2) = true := by simp [c5]
                have cb2 : (!TL == dg2) = false := by simp [c5]
                clear c5
                go_wp2_with fail
                go_region_held3 (fun w' => Below w7.heap.size w7 w')
                  (first | assumption | exact Below.refl _ _ | exact (Below.refl _ _).drew | (refine below_then ?_ hb'; assumption))
                  (first | ((with_reducible refine (HC6.out _).mono ?_); rintro e w' ⟨rfl, hb'⟩))
                all_goals
                  have hlow8 := (by assumption : Below w7.heap.size w7 w')
                  have HK8 := Lib.hid (HK7.out.later hlow8)
                  have Hb8 := Lib.hid (below_then Hb7.out hlow8)
                  have HV8 := Lib.hid (HV7.out.later hlow8)
                  have HH8 := Lib.hid (HH7.out.later hlow8)
                  have HA8 := Lib.hid (HA7.out.later hlow8)
                  clear hlow8
                  subst hRR
                  obtain ⟨p0, p1, p2', p3, p4, p5⟩ := HK8.out.six
                  have f0 := HK8.out.frozen 0
                  have f1 := HK8.out.frozen 1
                  have f2 := HK8.out.frozen 2
                  have f3 := HK8.out.frozen 3
                  have f4 := HK8.out.frozen 4
                  have f5 := HK8.out.frozen 5
                  obtain ⟨q0, q1, q2, q3⟩ := HH8.out.four
                  go_wp2_with fail
                  have hst := six_stored (.int .i64 op) (.bool now) (.int .i64 fl) (.slice pv vs.length cv) (.slice pa al.length ca) (.string (S uS)) (HK8.out) (Nat.le_refl _) Hb8.out
                  exact bodyPost_ret (v := .tuple #[pduV ⟨⟨op, now, fl, vs⟩, al, uS⟩ (.slice pv vs.length cv) (.slice pa al.length ca), .int .i64 (t.length : Int), .int .i64 0]) (by simp [results, Tryz.results61, go_sem, pduV, p0, p1, p2', p3, p4, p5]) rfl ⟨_, _, rfl, PduAt.set6 ⟨HV8.out, HA8.out⟩ (HK8.out) _ _ _ _ _ _, hst.2⟩
              · have hRR := HR5.out
                rw [if_pos c5] at hRR
                have hRR := fin_bad HR0.out hRR (by simp)
                have cb : (TL == dg2) = false := by simp [Ne.symm c5]
                have cb2 : (!TL == dg2) = true := by simp [Ne.symm c5]
                clear c5
                go_wp2_with fail
                go_region_held3 (fun w' => Below w7.heap.size w7 w')
                  (first | assumption | exact Below.refl _ _ | exact (Below.refl _ _).drew | (refine below_then ?_ hb'; assumption))
                  (first | ((with_reducible refine (HC6.out _).mono ?_); rintro e w' ⟨rfl, hb'⟩))
                all_goals
                  have hlow8 := (by assumption : Below w7.heap.size w7 w')
                  have HK8 := Lib.hid (HK7.out.later hlow8)
                  have Hb8 := Lib.hid (below_then Hb7.out hlow8)
                  clear hlow8
                  subst hRR
                  obtain ⟨p0, p1, p2, p3, p4, p5⟩ := HK8.out.six
                  have f0 := HK8.out.frozen 0
                  have f1 := HK8.out.frozen 1
                  have f2 := HK8.out.frozen 2
                  have f3 := HK8.out.frozen 3
                  have f4 := HK8.out.frozen 4
                  have f5 := HK8.out.frozen 5
                  go_wp2_with fail
                  have hst := six_stored (.int .i64 0) (.bool false) (.int .i64 0) (.slice none 0 0) (.slice none 0 0) (.string (S [])) HK8.out (Nat.le_refl _) Hb8.out
                  exact bodyPost_ret (v := .tuple #[pduV pd0 (.slice none 0 0) (.slice none 0 0), .int .i64 0, .int .i64 13]) (by simp [results, Tryz.results61, go_sem, pduV, pd0, hd0, p0, p1, p2, p3, p4, p5]) rfl ⟨_, _, rfl, pdu0_at _, hst.2⟩
          · have h3 := Hu3.out c4
            subst h3
            have hRR := HR3.out
            rw [if_pos (by simp)] at hRR
            have hRR := fin_bad HR0.out hRR (by simp)
            subst hRR
            clear HR3
            obtain ⟨p0, p1, p2, p3, p4, p5⟩ := HK7.out.six
            have f0 := HK7.out.frozen 0
            have f1 := HK7.out.frozen 1
            have f2 := HK7.out.frozen 2
            have f3 := HK7.out.frozen 3
            have f4 := HK7.out.frozen 4
            have f5 := HK7.out.frozen 5
            go_wp2_with fail
            have hst := six_stored (.int .i64 0) (.bool false) (.int .i64 0) (.slice none 0 0) (.slice none 0 0) (.string (S [])) HK7.out (Nat.le_refl _) Hb7.out
            exact bodyPost_ret (v := .tuple #[pduV pd0 (.slice none 0 0) (.slice none 0 0), .int .i64 0, .int .i64 3]) (by simp [results, Tryz.results61, go_sem, pduV, pd0, hd0, p0, p1, p2, p3, p4, p5]) rfl ⟨_, _, rfl, pdu0_at _, hst.2⟩
        · have hRR := HR2.out
          rw [if_pos z2] at hRR
          have hRR := fin_bad HR0.out hRR (z2)
          have Z2 := Lib.hid z2
          clear z2 HR2
          go_wp2_with fail
          refine (I1.out _ Z2.out).mono ?_
          rintro e w6 ⟨rfl, hb6⟩
          have HK6 := Lib.hid (HK5.out.later hb6)
          have Hb6 := Lib.hid (below_then Hb5.out hb6)
          obtain ⟨g0, g1⟩ := (HF5.out.later hb6).two
          clear f0 f1 hb6 HK5 Hb5 HV5 HH5 HA5 HF5
          subst hRR
          have hne5 : ¬ w5.heap.size = w.heap.size := by omega
          have hne6 : ¬ w.heap.size = w5.heap.size := by omega
          obtain ⟨p0, p1, p2, p3, p4, p5⟩ := HK6.out.six
          have f0 := HK6.out.frozen 0
          have f1 := HK6.out.frozen 1
          have f2 := HK6.out.frozen 2
          have f3 := HK6.out.frozen 3
          have f4 := HK6.out.frozen 4
          have f5 := HK6.out.frozen 5
          go_wp2_with fail
          go_region
          all_goals
            go_wp2_with fail
            have hst := six_stored (.int .i64 0) (.bool false) (.int .i64 0) (.slice none 0 0) (.slice none 0 0) (.string (S [])) HK6.out (Nat.le_refl _) Hb6.out
            exact bodyPost_ret (v := .tuple #[pduV pd0 (.slice none 0 0) (.slice none 0 0), .int .i64 0, .int .i64 n2]) (by simp [results, Tryz.results61, go_sem, pduV, pd0, hd0, p0, p1, p2, p3, p4, p5]) rfl ⟨_, _, rfl, pdu0_at _, hst.2.drew⟩
      · have hRR := HR1.out
        rw [if_pos z1] at hRR
        have hRR := fin_bad HR0.out hRR (z1)
        have zb : (n1 != 0) = true := by simp [z1]
        clear z1
        subst hRR
        obtain ⟨p0, p1, p2, p3, p4, p5⟩ := HK4.out.six
        have f0 := HK4.out.frozen 0
        have f1 := HK4.out.frozen 1
        have f2 := HK4.out.frozen 2
        have f3 := HK4.out.frozen 3
        have f4 := HK4.out.frozen 4
        have f5 := HK4.out.frozen 5
        go_wp2_with fail
        have hst := six_stored (.int .i64 0) (.bool false) (.int .i64 0) (.slice none 0 0) (.slice none 0 0) (.string (S [])) HK4.out (Nat.le_refl _) Hb4.out
        exact bodyPost_ret (v := .tuple #[pduV pd0 (.slice none 0 0) (.slice none 0 0), .int .i64 0, .int .i64 n1]) (by simp [results, Tryz.results61, go_sem, pduV, pd0, hd0, p0, p1, p2, p3, p4, p5]) rfl ⟨_, _, rfl, pdu0_at _, hst.2⟩
    · have hRR := HR.out
      rw [HG.out, Hx4.out, if_pos c1] at hRR
      have hRR := fin_bad HR0.out hRR (by simp)
      have cb : (!x4 == dg1) = true := by simp [Ne.symm c1]
      rw [cb]
      clear HR c1
      subst hRR
      obtain ⟨p0, p1, p2, p3, p4, p5⟩ := HK2.out.six
      have f0 := HK2.out.frozen 0
      have f1 := HK2.out.frozen 1
      have f2 := HK2.out.frozen 2
      have f3 := HK2.out.frozen 3
      have f4 := HK2.out.frozen 4
      have f5 := HK2.out.frozen 5
      go_wp2_with fail
      have hst := six_stored (.int .i64 0) (.bool false) (.int .i64 0) (.slice none 0 0) (.slice none 0 0) (.string (S [])) HK2.out (Nat.le_refl _) Hb2.out
      exact bodyPost_ret (v := .tuple #[pduV pd0 (.slice none 0 0) (.slice none 0 0), .int .i64 0, .int .i64 15]) (by simp [results, Tryz.results61, go_sem, pduV, pd0, hd0, p0, p1, p2, p3, p4, p5]) rfl ⟨_, _, rfl, pdu0_at _, hst.2⟩
  · have G := G2.out o1
    have oB : ((n : Int) % 2 == 1) = false := by rw [beq_eq_false_iff_ne]; omega
    have hrs0 : List.drop e1 t = rs := by rw [← Hrs.out]; congr 1; have := Hln.out; omega
    have hrs5 : List.take (t.length - e1) rs = rs := List.take_of_length_le (by rw [← hrs0, List.length_drop]; exact Nat.le_refl _)
    have hRR := HR.out
    rw [if_neg (by simp [G])] at hRR
    have HR1 := Lib.hid hRR
    clear hRR HR G1 G2 G o1 Hrs r1 HC1
    go_enter Tryz.func61, Tryz.ntmps61
    go_wp2_with fail
    refine (Z.out _).mono ?_
    rintro e w1 ⟨rfl, hb1⟩
    have HK1 := Lib.hid (HK0.out.later hb1)
    have Hb1 := Lib.hid (below_then Hb0.out hb1)
    clear hb1 HK0 Hb0 Z
    go_wp2_with fail
    refine (HC2.out _).mono ?_
    rintro e w4 ⟨vv, rfl, hvv, hb4'⟩
    obtain ⟨pv, cv, rfl⟩ : ∃ p c, vv = .slice p vs.length c := by obtain ⟨p, c, h, _⟩ := hvv; exact ⟨p, c, h⟩
    have hbn := (Below.refl w4.heap.size w4).alloc (Nat.le_refl _) (.cells #[.int .i64 op, .bool now, .int .i64 fl, .slice pv vs.length cv] 42)
    have HK4 := Lib.hid (HK1.out.later (below_then hb4' hbn))
    have Hb4 := Lib.hid (below_then Hb1.out (below_then hb4' hbn))
    have HV4 := Lib.hid (hvv.later hbn)
    have HH4 := Lib.hid (Blk.new w4 #[.int .i64 op, .bool now, .int .i64 fl, .slice pv vs.length cv] 42)
    clear hvv hb4' hbn HC2
    unfold headV
    simp only
    by_cases z1 : n1 = 0
    · subst z1
      have hr48 := HR48.out rfl
      simp only [Prod.mk.injEq, true_and] at hr48
      obtain ⟨rfl, rfl, _⟩ := hr48
      have hRR := HR1.out
      rw [if_neg (by simp)] at hRR
      have HR2 := Lib.hid hRR
      clear hRR HR1 HR48
      go_wp2_with fail
      refine (HC3.out _).mono ?_
      rintro e w5 ⟨va, rfl, hva, hb5⟩
      obtain ⟨pa, ca, rfl⟩ := hva.form
      have hbn := (Below.refl w5.heap.size w5).alloc (Nat.le_refl _) (.cells #[.int .i64 n2, .int .i64 p2] 176)
      have HK5 := Lib.hid (HK4.out.later (below_then hb5 hbn))
      have Hb5 := Lib.hid (below_then Hb4.out (below_then hb5 hbn))
      have HV5 := Lib.hid (HV4.out.later (below_then hb5 hbn))
      have HH5 := Lib.hid (HH4.out.later (below_then hb5 hbn))
      have HA5 := Lib.hid (hva.later hbn)
      have HF5 := Lib.hid (Blk.new w5 #[.int .i64 n2, .int .i64 p2] 176)
      obtain ⟨f0, f1⟩ := HF5.out.two
      have hlt5 := (HK4.out.later hb5).lt
      clear hva hb5 hbn HK4 Hb4 HV4 HH4 HC3
      by_cases z2 : n2 = 0
      · subst z2
        have hRR := HR2.out
        rw [if_neg (by simp)] at hRR
        have HR3 := Lib.hid hRR
        clear hRR HR2 I1
        go_wp2_with fail
        refine (I2.out _).mono ?_
        rintro e w6 ⟨rfl, hb6⟩
        have HK6 := Lib.hid (HK5.out.later hb6)
        have Hb6 := Lib.hid (below_then Hb5.out hb6)
        have HV6 := Lib.hid (HV5.out.later hb6)
        have HH6 := Lib.hid (HH5.out.later hb6)
        have HA6 := Lib.hid (HA5.out.later hb6)
        clear f0 f1 hb6 HK5 Hb5 HV5 HH5 HA5 HF5
        go_wp2_with fail
        refine (HC5.out _).mono ?_
        rintro e w7 ⟨rfl, hb7⟩
        have HK7 := Lib.hid (HK6.out.later hb7)
        have Hb7 := Lib.hid (below_then Hb6.out hb7)
        have HV7 := Lib.hid (HV6.out.later hb7)
        have HH7 := Lib.hid (HH6.out.later hb7)
        have HA7 := Lib.hid (HA6.out.later hb7)
        clear hb7 HK6 Hb6 HV6 HH6 HA6 HC5
        by_cases c4 : u = 0
        · have hS := HuS.out c4
          have hK := (Hk.out c4).trans Hkk.out
          subst c4 hS
          subst hK
          have hRR := HR3.out
          rw [if_neg (by simp)] at hRR
          have HR4 := Lib.hid hRR
          clear hRR HR3 Hu3 HuS
          rcases Hro.out with ⟨hr0, hdx⟩ | ⟨hr0, hdx⟩
          · have hRR := HR4.out
            have hdc := decide_eq_false (fun h : (kk : Int) < (rs.length : Int) => hdx (Int.ofNat_lt.1 h))
            have hdN := decide_eq_false hdx
            rw [if_neg (by rw [G4.out hr0]; simp), if_neg (by omega)] at hRR
            have hRR := fin_good HR0.out hRR
            clear hr0
            subst hRR
            obtain ⟨p0, p1, p2', p3, p4, p5⟩ := HK7.out.six
            have f0 := HK7.out.frozen 0
            have f1 := HK7.out.frozen 1
            have f2 := HK7.out.frozen 2
            have f3 := HK7.out.frozen 3
            have f4 := HK7.out.frozen 4
            have f5 := HK7.out.frozen 5
            obtain ⟨q0, q1, q2, q3⟩ := HH7.out.four
            go_wp2_with fail
            go_quiet (fail)
            go_wp2_with fail
            have hst := six_stored (.int .i64 op) (.bool now) (.int .i64 fl) (.slice pv vs.length cv) (.slice pa al.length ca) (.string (S uS)) (HK7.out.drewN nq) (Nat.le_refl _) (below_drewN Hb7.out nq)
            exact bodyPost_ret (v := .tuple #[pduV ⟨⟨op, now, fl, vs⟩, al, uS⟩ (.slice pv vs.length cv) (.slice pa al.length ca), .int .i64 (t.length : Int), .int .i64 0]) (by simp [results, Tryz.results61, go_sem, pduV, p0, p1, p2', p3, p4, p5]) rfl ⟨_, _, rfl, PduAt.set6 ⟨HV7.out.drewN nq, HA7.out.drewN nq⟩ (HK7.out.drewN nq) _ _ _ _ _ _, hst.2⟩
          · have g3 := G3.out hr0
            have hdc := decide_eq_true (show (kk : Int) < (rs.length : Int) by omega)
            have hdN := decide_eq_true hdx
            rw [g3] at HR4
            have HR5 := Lib.hid HR4.out
            clear hr0 g3 HR4
            by_cases c5 : dg2 = TL
            · have hRR := HR5.out
              rw [if_neg (by simp [c5]), if_neg (by omega)] at hRR
              have hRR := fin_good HR0.out hRR
              have cb : (TL == dg2) = true := by simp [c5]
              have cb2 : (!TL == dg2) = false := by simp [c5]
              clear c5
              go_wp2_with fail
              go_region_held3 (fun w' => Below w7.heap.size w7 w')
                (first | assumption | exact Below.refl _ _ | exact (Below.refl _ _).drew | (refine below_then ?_ hb'; assumption))
                (first | ((with_reducible refine (HC6.out _).mono ?_); rintro e w' ⟨rfl, hb'⟩))
              all_goals
                have hlow8 := (by assumption : Below w7.heap.size w7 w')
                have HK8 := Lib.hid (HK7.out.later hlow8)
                have Hb8 := Lib.hid (below_then Hb7.out hlow8)
                have HV8 := Lib.hid (HV7.out.later hlow8)
                have HH8 := Lib.hid (HH7.out.later hlow8)
                have HA8 := Lib.hid (HA7.out.later hlow8)
                clear hlow8
                subst hRR
                obtain ⟨p0, p1, p2', p3, p4, p5⟩ := HK8.out.six
                have f0 := HK8.out.frozen 0
                have f1 := HK8.out.frozen 1
                have f2 := HK8.out.frozen 2
                have f3 := HK8.out.frozen 3
                have f4 := HK8.out.frozen 4
                have f5 := HK8.out.frozen 5
                obtain ⟨q0, q1, q2, q3⟩ := HH8.out.four
                go_wp2_with fail
                have hst := six_stored (.int .i64 op) (.bool now) (.int .i64 fl) (.slice pv vs.length cv) (.slice pa al.length ca) (.string (S uS)) (HK8.out) (Nat.le_refl _) Hb8.out
                exact bodyPost_ret (v := .tuple #[pduV ⟨⟨op, now, fl, vs⟩, al, uS⟩ (.slice pv vs.length cv) (.slice pa al.length ca), .int .i64 (t.length : Int), .int .i64 0]) (by simp [results, Tryz.results61, go_sem, pduV, p0, p1, p2', p3, p4, p5]) rfl ⟨_, _, rfl, PduAt.set6 ⟨HV8.out, HA8.out⟩ (HK8.out) _ _ _ _ _ _, hst.2⟩
            · have hRR := HR5.out
              rw [if_pos c5] at hRR
              have hRR := fin_bad HR0.out hRR (by simp)
              have cb : (TL == dg2) = false := by simp [Ne.symm c5]
              have cb2 : (!TL == dg2) = true := by simp [Ne.symm c5]
              clear c5
              go_wp2_with fail
              go_region_held3 (fun w' => Below w7.heap.size w7 w')
                (first | assumption | exact Below.refl _ _ | exact (Below.refl _ _).drew | (refine below_then ?_ hb'; assumption))
                (first | ((with_reducible refine (HC6.out _).mono ?_); rintro e w' ⟨rfl, hb'⟩))
              all_goals
                have hlow8 := (by assumption : Below w7.heap.size w7 w')
                have HK8 := Lib.hid (HK7.out.later hlow8)
                have Hb8 := Lib.hid (below_then Hb7.out hlow8)
                clear hlow8
                subst hRR
                obtain ⟨p0, p1, p2, p3, p4, p5⟩ := HK8.out.six
                have f0 := HK8.out.frozen 0
                have f1 := HK8.out.frozen 1
                have f2 := HK8.out.frozen 2
                have f3 := HK8.out.frozen 3
                have f4 := HK8.out.frozen 4
                have f5 := HK8.out.frozen 5
                go_wp2_with fail
                have hst := six_stored (.int .i64 0) (.bool false) (.int .i64 0) (.slice none 0 0) (.slice none 0 0) (.string (S [])) HK8.out (Nat.le_refl _) Hb8.out
                exact bodyPost_ret (v := .tuple #[pduV pd0 (.slice none 0 0) (.slice none 0 0), .int .i64 0, .int .i64 13]) (by simp [results, Tryz.results61, go_sem, pduV, pd0, hd0, p0, p1, p2, p3, p4, p5]) rfl ⟨_, _, rfl, pdu0_at _, hst.2⟩
        · have h3 := Hu3.out c4
          subst h3
          have hRR := HR3.out
          rw [if_pos (by simp)] at hRR
          have hRR := fin_bad HR0.out hRR (by simp)
          subst hRR
          clear HR3
          obtain ⟨p0, p1, p2, p3, p4, p5⟩ := HK7.out.six
          have f0 := HK7.out.frozen 0
          have f1 := HK7.out.frozen 1
          have f2 := HK7.out.frozen 2
          have f3 := HK7.out.frozen 3
          have f4 := HK7.out.frozen 4
          have f5 := HK7.out.frozen 5
          go_wp2_with fail
          have hst := six_stored (.int .i64 0) (.bool false) (.int .i64 0) (.slice none 0 0) (.slice none 0 0) (.string (S [])) HK7.out (Nat.le_refl _) Hb7.out
          exact bodyPost_ret (v := .tuple #[pduV pd0 (.slice none 0 0) (.slice none 0 0), .int .i64 0, .int .i64 3]) (by simp [results, Tryz.results61, go_sem, pduV, pd0, hd0, p0, p1, p2, p3, p4, p5]) rfl ⟨_, _, rfl, pdu0_at _, hst.2⟩
      · have hRR := HR2.out
        rw [if_pos z2] at hRR
        have hRR := fin_bad HR0.out hRR (z2)
        have Z2 := Lib.hid z2
        clear z2 HR2
        go_wp2_with fail
        refine (I1.out _ Z2.out).mono ?_
        rintro e w6 ⟨rfl, hb6⟩
        have HK6 := Lib.hid (HK5.out.later hb6)
        have Hb6 := Lib.hid (below_then Hb5.out hb6)
        obtain ⟨g0, g1⟩ := (HF5.out.later hb6).two
        clear f0 f1 hb6 HK5 Hb5 HV5 HH5 HA5 HF5
        subst hRR
        have hne5 : ¬ w5.heap.size = w.heap.size := by omega
        have hne6 : ¬ w.heap.size = w5.heap.size := by omega
        obtain ⟨p0, p1, p2, p3, p4, p5⟩ := HK6.out.six
        have f0 := HK6.out.frozen 0
        have f1 := HK6.out.frozen 1
        have f2 := HK6.out.frozen 2
        have f3 := HK6.out.frozen 3
        have f4 := HK6.out.frozen 4
        have f5 := HK6.out.frozen 5
        go_wp2_with fail
        go_region
        all_goals
          go_wp2_with fail
          have hst := six_stored (.int .i64 0) (.bool false) (.int .i64 0) (.slice none 0 0) (.slice none 0 0) (.string (S [])) HK6.out (Nat.le_refl _) Hb6.out
          exact bodyPost_ret (v := .tuple #[pduV pd0 (.slice none 0 0) (.slice none 0 0), .int .i64 0, .int .i64 n2]) (by simp [results, Tryz.results61, go_sem, pduV, pd0, hd0, p0, p1, p2, p3, p4, p5]) rfl ⟨_, _, rfl, pdu0_at _, hst.2.drew⟩
    · have hRR := HR1.out
      rw [if_pos z1] at hRR
      have hRR := fin_bad HR0.out hRR (z1)
      have zb : (n1 != 0) = true := by simp [z1]
      clear z1
      subst hRR
      obtain ⟨p0, p1, p2, p3, p4, p5⟩ := HK4.out.six
      have f0 := HK4.out.frozen 0
      have f1 := HK4.out.frozen 1
      have f2 := HK4.out.frozen 2
      have f3 := HK4.out.frozen 3
      have f4 := HK4.out.frozen 4
      have f5 := HK4.out.frozen 5
      go_wp2_with fail
      have hst := six_stored (.int .i64 0) (.bool false) (.int .i64 0) (.slice none 0 0) (.slice none 0 0) (.string (S [])) HK4.out (Nat.le_refl _) Hb4.out
      exact bodyPost_ret (v := .tuple #[pduV pd0 (.slice none 0 0) (.slice none 0 0), .int .i64 0, .int .i64 n1]) (by simp [results, Tryz.results61, go_sem, pduV, pd0, hd0, p0, p1, p2, p3, p4, p5]) rfl ⟨_, _, rfl, pdu0_at _, hst.2⟩
end Go.Proofs.YtlkikkfbennmnaaGreatDoor
