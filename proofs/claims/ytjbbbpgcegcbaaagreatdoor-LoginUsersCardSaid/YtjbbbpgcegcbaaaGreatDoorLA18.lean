/- LA18: several texts in one. -/
import Derived.BigFrame
import Derived.BigRegion
import Derived.Deep.AppendSrc
import Derived.Laws.AppendOwnNone
import Derived.Lib.AppendZeros
import Derived.Test.YtjbbbpgcegcbaaaGreatDoorRows
import Derived.Test.YtjbbbpgcegcbaaaGreatDoorLA01
import Derived.Test.YtjbbbpgcegcbaaaGreatDoorLA02
import Derived.Test.YtjbbbpgcegcbaaaGreatDoorLA09
import Derived.Test.YtjbbbpgcegcbaaaGreatDoorLA17
namespace Go.Proofs.YtjbbbpgcegcbaaaGreatDoor
open Go.RowKit
set_option linter.unusedVariables false
theorem keep6a {W w w' : World} {a b c d e f : Addr} {x y z u v s : Value} (h : Below W.heap.size W w ∧ w.cell? a = some x ∧ w.cell? b = some y ∧ w.cell? c = some z ∧ w.cell? d = some u ∧ w.cell? e = some v ∧ w.cell? f = some s) (hb : Below w.heap.size w w') :
  Below W.heap.size W w' ∧ w'.cell? a = some x ∧ w'.cell? b = some y ∧ w'.cell? c = some z ∧ w'.cell? d = some u ∧ w'.cell? e = some v ∧ w'.cell? f = some s := by
 obtain ⟨h0, h1, h2, h3, h4, h5, h6⟩ := h
 have k : ∀ {a : Addr} {x : Value}, w.cell? a = some x → w'.cell? a = some x := fun {a} {x} h => by rw [hb.cell (block_lt_of_cell h)]; exact h
 exact ⟨below_then h0 hb, k h1, k h2, k h3, k h4, k h5, k h6⟩
structure InL (w W : World) (B lb : Nat) (m : LgM) (c : Cf) (d : Dw) (q : Lq) (pb : Nat) (C : Array Value) (t : TypeId) : Prop where
 blk : Blk W pb C t
 log : LogIn W B lb m c d q
 keep : Keeps w.heap.size w W (m.H lb) (m.H lb)
theorem InL.later {w W W' : World} {B lb : Nat} {m : LgM} {c : Cf} {d : Dw} {q : Lq} {pb : Nat} {C : Array Value} {t : TypeId} (h : InL w W B lb m c d q pb C t) (hb : Below W.heap.size W W') : InL w W' B lb m c d q pb C t :=
 ⟨h.blk.later hb, h.log.later hb, h.keep.then (Keeps.of hb _)⟩
section
variable {w : World} {B lb : Nat} {m : LgM} {c : Cf} {d : Dw} {q : Lq}
set_option maxRecDepth 100000 in
set_option maxHeartbeats 8000000 in
theorem admit_any (p : Pd) (vv va : Value) (h : LogIn w B lb m c d q) (hp : PduAt (offW (m.H lb) w) p vv va) (hE : EnvL (offW (m.H lb) w)) (h0 : 0 ≤ p.h.fl ∧ p.h.fl < 256) (hvl : p.h.vs.length ≤ 9223372036854775807) :
  Calls Tryz.prog 125 #[.pointer (some ⟨lb, 0, none⟩), pduV p vv va] w (RetStep w B lb m c d (admQ c p.h q)) := by
 obtain ⟨⟨op, now, fl, vs⟩, al, dt⟩ := p
 obtain ⟨pv, cv, hvv⟩ : ∃ p c, vv = .slice p vs.length c := by obtain ⟨p, c, h, _⟩ := hp.v; exact ⟨p, c, h⟩
 obtain ⟨pa, ca, hva⟩ : ∃ p c, va = .slice p al.length c := by obtain ⟨p, c, h, _⟩ := hp.a; exact ⟨p, c, h⟩
 subst hvv hva
 obtain ⟨hd, hhd⟩ : ∃ hd : Hd, (⟨op, now, fl, vs⟩ : Hd) = hd := ⟨_, rfl⟩
 have hA := (Below.refl w.heap.size w).alloc (Nat.le_refl _) (.cells #[.int .i64 op, .bool now, .int .i64 fl, .slice pv vs.length cv, .slice pa al.length ca, .string (S dt)] 41)
 have hK := Blk.new w #[.int .i64 op, .bool now, .int .i64 fl, .slice pv vs.length cv, .slice pa al.length ca, .string (S dt)] 41
 obtain ⟨pb, hpb⟩ : ∃ pb, w.heap.size = pb := ⟨_, rfl⟩
 rw [hpb] at hK
 obtain ⟨w0, hw0⟩ : ∃ w0, w.alloc (.cells #[.int .i64 op, .bool now, .int .i64 fl, .slice pv vs.length cv, .slice pa al.length ca, .string (S dt)] 41) = w0 := ⟨_, rfl⟩
 rw [hw0] at hA hK
 have hL0 := h.later hA
 have hne : pb ≠ lb := fun e => by have := h.blk.lt; omega
 have Hpl := Lib.hid hne
 -- a field, in any world behind
 have hKA := Keeps.of hA (m.H lb)
 have FD := fun (n : List UInt8) (W : World) (hk : Keeps w.heap.size w W (m.H lb) (m.H lb)) => field_any ⟨⟨op, now, fl, vs⟩, al, dt⟩ (.slice pv vs.length cv) (.slice pa al.length ca) n W (hp.later hk.off').off (hE.later hk.off').off.env.mc hvl
 unfold pduV at FD ⊢
 simp only at FD ⊢
 simp only [hhd] at FD
 have HA := Lib.hid hKA
 have HL0 := Lib.hid hL0
 have HK := Lib.hid hK
 obtain ⟨fb1, fb2, fb3, fb4⟩ := fl_and h0
 simp only [hhd] at fb1 fb2 fb3 fb4 ⊢
 have hcs := csgI_range hd
 have hns := nsgI_range hd
 obtain ⟨Q, hQ⟩ : ∃ Q, admQ c hd q = Q := ⟨_, rfl⟩
 rw [hQ]
 unfold admQ admE at hQ
 obtain ⟨i1, hi1⟩ : ∃ i, hv hd nISID = i := ⟨_, rfl⟩
 obtain ⟨i2, hi2⟩ : ∃ i, hv hd nCID = i := ⟨_, rfl⟩
 obtain ⟨i3, hi3⟩ : ∃ i, hv hd nVMin = i := ⟨_, rfl⟩
 obtain ⟨i4, hi4⟩ : ∃ i, hv hd nTSIH = i := ⟨_, rfl⟩
 have f1 := FD nISID
 have f2 := FD nCID
 have f3 := FD nVMin
 have f4 := FD nTSIH
 rw [hi1] at f1 hQ
 rw [hi2] at f2 hQ
 rw [hi3] at f3 hQ
 rw [hi4] at f4 hQ
 unfold nISID at f1
 unfold nCID at f2
 unfold nVMin at f3
 unfold nTSIH at f4
 have HQ := Lib.hid hQ
 have F1 := Lib.hid f1
 have F2 := Lib.hid f2
 have F3 := Lib.hid f3
 have F4 := Lib.hid f4
 have Hi1 := Lib.hid hi1
 have Hi2 := Lib.hid hi2
 obtain ⟨k0, k1, k2, k3, k4, k5⟩ := hK.six
 have GR := Lib.hid (fun (W : World) (q' : Lq) (h : LogIn W B lb m c d q') => grd_any h)
 have Hcs := Lib.hid hcs
 have Hns := Lib.hid hns
 have Hfb2 := Lib.hid fb2
 have Hfb3 := Lib.hid fb3
 have Hfb4 := Lib.hid fb4
 have Y0 := Lib.hid (fun W => needY 0 W)
 have N0 := Lib.hid (fun W => needN 0 W)
 have Y1 := Lib.hid (fun W => needY 1 W)
 have N1 := Lib.hid (fun W => needN 1 W)
 have Y5 := Lib.hid (fun W => needY 5 W)
 have N5 := Lib.hid (fun W => needN 5 W)
 have Y10 := Lib.hid (fun W => needY 10 W)
 have N10 := Lib.hid (fun W => needN 10 W)
 have Y11 := Lib.hid (fun W => needY 11 W)
 have N11 := Lib.hid (fun W => needN 11 W)
 clear hQ hi1 hi2 hi3 hi4 f1 f2 f3 f4 h hp hE hA hKA hL0 hK hne hcs hns fb2 fb3 fb4 FD hhd h0 hvl
 go_enter Tryz.func125, Tryz.ntmps125
 go_wp2_with fail
 clear hw0 hpb
 go_region_held3 (fun w' => Below w0.heap.size w0 w' ∧ w'.cell? ⟨pb, 0, none⟩ = some (.int .i64 op) ∧ w'.cell? ⟨pb, 1, none⟩ = some (.bool now) ∧ w'.cell? ⟨pb, 2, none⟩ = some (.int .i64 fl) ∧ w'.cell? ⟨pb, 3, none⟩ = some (.slice pv vs.length cv) ∧ w'.cell? ⟨pb, 4, none⟩ = some (.slice pa al.length ca) ∧ w'.cell? ⟨pb, 5, none⟩ = some (.string (S dt)))
  (first | assumption | exact ⟨Below.refl _ _, k0, k1, k2, k3, k4, k5⟩ | exact ⟨(Below.refl _ _).drew, k0, k1, k2, k3, k4, k5⟩ | exact keep6a (by assumption) hb')
  (first | ((with_reducible refine (F1.out _ (HA.out.then (Keeps.of (by first | assumption | exact (‹Below w0.heap.size w0 _ ∧ _›).1) _))).mono ?_); rintro e w' ⟨rfl, hb'⟩) | ((with_reducible refine (F2.out _ (HA.out.then (Keeps.of (by first | assumption | exact (‹Below w0.heap.size w0 _ ∧ _›).1) _))).mono ?_); rintro e w' ⟨rfl, hb'⟩))
 rename_i hHeld
 obtain ⟨hb1, g0, g1, g2, g3, g4, g5⟩ := hHeld
 have HS1 := Lib.hid (show InL w w' B lb m c d q pb #[.int .i64 op, .bool now, .int .i64 fl, .slice pv vs.length cv, .slice pa al.length ca, .string (S dt)] 41 from ⟨HK.out.later hb1, HL0.out.later hb1, HA.out.then (Keeps.of hb1 _)⟩)
 clear hb' hb1 k0 k1 k2 k3 k4 k5 HK HA HL0 F1 F2
 obtain ⟨w1, hw1⟩ : ∃ w1, w' = w1 := ⟨_, rfl⟩
 subst hw1
 have q13 := (pcells HS1.out.log.blk).q13
 obtain ⟨q1, hq1⟩ : ∃ q1, begQ hd q = q1 := ⟨_, rfl⟩
 have hq := HQ.out
 rw [hq1] at hq
 obtain ⟨bg, hbg⟩ : ∃ b, q.bgn = b := ⟨_, rfl⟩
 rw [hbg] at q13 hq
 have HQ1 := Lib.hid hq
 have Hbg := Lib.hid hbg
 have Hq1 := Lib.hid hq1
 clear hbg hq1 hq HQ
 cases bg
 case' true =>
  have e : begQ hd q = q := by unfold begQ; rw [if_pos Hbg.out]
  have e2 := Hq1.out.symm.trans e
  have HS2 := Lib.hid (show InL w w' B lb m c d q1 pb #[.int .i64 op, .bool now, .int .i64 fl, .slice pv vs.length cv, .slice pa al.length ca, .string (S dt)] 41 from by rw [e2]; exact HS1.out)
  clear e e2 HS1
  go_wp2_with fail
 case' false =>
  have e : begQ hd q = { q with bgn := true, isd := hv hd nISID, cid := hv hd nCID, stg := csgI hd } := by unfold begQ; rw [if_neg (by rw [Hbg.out]; decide)]
  have e1 := Hq1.out.symm.trans e
  rw [Hi1.out, Hi2.out] at e1
  obtain ⟨w2, hw2⟩ : ∃ w2, (((w'.setCell ⟨lb, 13, none⟩ (.bool true)).setCell ⟨lb, 14, none⟩ (.int .u64 (i1 : Nat))).setCell ⟨lb, 15, none⟩ (.int .u64 (i2 : Nat))).setCell ⟨lb, 16, none⟩ (.int .i64 (csgI hd)) = w2 := ⟨_, rfl⟩
  have hS2 : InL w w2 B lb m c d q1 pb #[.int .i64 op, .bool now, .int .i64 fl, .slice pv vs.length cv, .slice pa al.length ca, .string (S dt)] 41 := by
   obtain ⟨h1, h2, h3⟩ := HS1.out
   have hb2 : Blk w2 lb (proC m c d q1) 95 := by
    rw [← hw2, e1]
    exact (((h2.blk.set 13 (.bool true)).set 14 (.int .u64 (i1 : Nat))).set 15 (.int .u64 (i2 : Nat))).set 16 (.int .i64 (csgI hd))
   have hk2 : Keeps w'.heap.size w' w2 (fun k => k = lb) (fun k => k = lb) := by
    rw [← hw2]
    exact ((((Keeps.refl _ w' (fun k => k = lb)).putC rfl 13 (.bool true)).putC rfl 14 (.int .u64 (i1 : Nat))).putC rfl 15 (.int .u64 (i2 : Nat))).putC rfl 16 (.int .i64 (csgI hd))
   obtain ⟨hL, hK⟩ := h2.turn (q' := q1) hk2 hb2 (by rw [e1]) (by rw [e1]) (by rw [e1]) (by rw [e1]; exact ⟨rfl, rfl, rfl⟩)
   refine ⟨?_, hL, h3.then hK⟩
   rw [← hw2]
   exact (((h1.other Hpl.out _).other Hpl.out _).other Hpl.out _).other Hpl.out _
  have HS2 := Lib.hid hS2
  have f13 := HS1.out.log.blk.frozen 13
  have f14 := HS1.out.log.blk.frozen 14
  have f15 := HS1.out.log.blk.frozen 15
  have f16 := HS1.out.log.blk.frozen 16
  have q14 := (pcells HS1.out.log.blk).q14
  have q15 := (pcells HS1.out.log.blk).q15
  have q16 := (pcells HS1.out.log.blk).q16
  clear hS2 e e1 HS1 g0 g1 g2 g3 g4 g5
  obtain ⟨g0, g1, g2, g3, g4, g5⟩ := HS2.out.blk.six
  go_wp2_with fail
 all_goals
  refine (F3.out _ HS2.out.keep).mono ?_
  rintro e w3 ⟨rfl, hb⟩
  have HS3 := Lib.hid (HS2.out.later hb)
  clear hb HS2 g0 g1 g2 g3 g4 g5
  by_cases z3 : i3 = 0
  case neg =>
   have hq := HQ1.out
   rw [if_pos z3] at hq
   subst hq
   have e3 : ((i3 : Int) == 0) = false := by simp; omega
   clear z3
   go_wp2_with fail
   refine (N5.out _).mono ?_
   rintro e w4 ⟨rfl, rfl⟩
   unfold thrown
   go_wp2_with fail
   exact ⟨rfl, rfl, HS3.out.log, HS3.out.keep⟩
  have hq := HQ1.out
  rw [if_neg (fun h => h z3)] at hq
  have HQ3 := Lib.hid hq
  clear hq HQ1
  subst z3
  obtain ⟨g0, g1, g2, g3, g4, g5⟩ := HS3.out.blk.six
  go_wp2_with fail
  refine (Y5.out _).mono ?_
  rintro e w4 ⟨rfl, rfl⟩
  go_wp2_with fail
  refine (F4.out _ HS3.out.keep).mono ?_
  rintro e w4 ⟨rfl, hb⟩
  have HS4 := Lib.hid (HS3.out.later hb)
  clear hb HS3 g0 g1 g2 g3 g4 g5
  by_cases z4 : i4 = 0
  case neg =>
   have hq := HQ3.out
   rw [if_pos z4] at hq
   subst hq
   have e3 : ((i4 : Int) == 0) = false := by simp; omega
   clear z4
   go_wp2_with fail
   refine (N10.out _).mono ?_
   rintro e w5 ⟨rfl, rfl⟩
   unfold thrown
   go_wp2_with fail
   exact ⟨rfl, rfl, HS4.out.log, HS4.out.keep⟩
  have hq := HQ3.out
  rw [if_neg (fun h => h z4)] at hq
  have HQ4 := Lib.hid hq
  clear hq HQ3
  subst z4
  obtain ⟨g0, g1, g2, g3, g4, g5⟩ := HS4.out.blk.six
  go_wp2_with fail
  refine (Y10.out _).mono ?_
  rintro e w5 ⟨rfl, rfl⟩
  obtain ⟨T, hT⟩ : ∃ T, tB hd = T := ⟨_, rfl⟩
  obtain ⟨Cb, hC⟩ : ∃ b, cB hd = b := ⟨_, rfl⟩
  have hq := HQ4.out
  have fb3 := Hfb3.out
  have fb4 := Hfb4.out
  rw [hT] at hq fb3
  rw [hC] at hq fb4
  have HQ5 := Lib.hid hq
  have ways : (T = true ∧ Cb = true) ∨ T = false ∨ (T = true ∧ Cb = false) := by cases T <;> cases Cb <;> simp
  clear hT hC hq HQ4 Hfb3 Hfb4
  rcases ways with ⟨hT, hC⟩ | hT | ⟨hT, hC⟩
  ·have hq := HQ5.out
   rw [if_pos ⟨hT, hC⟩] at hq
   subst hq
   rw [if_pos hT] at fb3
   rw [if_pos hC] at fb4
   go_wp2_with fail
   refine (N0.out _).mono ?_
   rintro e w5 ⟨rfl, rfl⟩
   unfold thrown
   go_wp2_with fail
   exact ⟨rfl, rfl, HS4.out.log, HS4.out.keep⟩
  case' inr.inl => rw [if_neg (by rw [hT]; decide)] at fb3
  case' inr.inr => rw [if_pos hT] at fb3; rw [if_neg (by rw [hC]; decide)] at fb4
  all_goals
   have hq := HQ5.out
   rw [if_neg (by rintro ⟨a, b⟩; first | (rw [hT] at a; cases a; done) | (rw [hC] at b; cases b; done))] at hq
   have HQ6 := Lib.hid hq
   clear hq HQ5
   go_wp2_with fail
   refine (Y0.out _).mono ?_
   rintro e w5 ⟨rfl, rfl⟩
   have q16 := (pcells HS4.out.log.blk).q16
   have hways : (csgI hd ≠ q1.stg ∨ (csgI hd = q1.stg ∧ csgI hd ≠ 0 ∧ csgI hd ≠ 1)) ∨ (q1.stg = 0 ∧ csgI hd = 0) ∨ (q1.stg = 1 ∧ csgI hd = 1) := by omega
   rcases hways with hbad | hgood
   ·have hq := HQ6.out
    rw [if_pos (by omega)] at hq
    subst hq
    rcases hbad with hne | ⟨he, h1, h2⟩
    ·have e9 : (csgI hd == q1.stg) = false := beq_eq_false_iff_ne.2 hne
     go_wp2_with fail
     refine (N11.out _).mono ?_
     rintro e w5 ⟨rfl, rfl⟩
     unfold thrown
     go_wp2_with fail
     exact ⟨rfl, rfl, HS4.out.log, HS4.out.keep⟩
    ·rw [← he] at q16
     have e9 : (csgI hd == 0) = false := beq_eq_false_iff_ne.2 h1
     have e9b : (csgI hd == 1) = false := beq_eq_false_iff_ne.2 h2
     clear he h1 h2
     go_wp2_with fail
     refine (N11.out _).mono ?_
     rintro e w5 ⟨rfl, rfl⟩
     unfold thrown
     go_wp2_with fail
     exact ⟨rfl, rfl, HS4.out.log, HS4.out.keep⟩
   have hq := HQ6.out
   rw [if_neg (by omega)] at hq
   have HQ7 := Lib.hid hq
   clear hq HQ6
   rcases hgood with ⟨hst, hcs⟩ | ⟨hst, hcs⟩
   all_goals
    rw [hst] at q16
    go_wp2_with fail
    refine (Y11.out _).mono ?_
    rintro e w5 ⟨rfl, rfl⟩
    have q14 := (pcells HS4.out.log.blk).q14
    have q15 := (pcells HS4.out.log.blk).q15
    have fb2 := Hfb2.out
    by_cases h10 : T = false ∨ (csgI hd < nsgI hd ∧ nsgI hd ≠ 2)
    case neg =>
     have hq := HQ7.out
     rw [if_pos h10] at hq
     subst hq
     first
      | (exfalso; exact h10 (Or.inl hT))
      | (
        by_cases h11 : csgI hd < nsgI hd
        ·have h12 : nsgI hd = 2 := by
          by_cases h : nsgI hd = 2
          ·exact h
          ·exact absurd (Or.inr ⟨h11, h⟩) h10
         rw [h12] at fb2
         clear h10 h11 h12 hst
         go_wp2_with fail
         refine (N11.out _).mono ?_
         rintro e w5 ⟨rfl, rfl⟩
         unfold thrown
         go_wp2_with fail
         exact ⟨rfl, rfl, HS4.out.log, HS4.out.keep⟩
        ·rw [hcs] at h11
         clear h10 hst
         go_wp2_with fail
         refine (N11.out _).mono ?_
         rintro e w5 ⟨rfl, rfl⟩
         unfold thrown
         go_wp2_with fail
         exact ⟨rfl, rfl, HS4.out.log, HS4.out.keep⟩)
    have hq := HQ7.out
    rw [if_neg (fun h => h h10)] at hq
    have HQ8 := Lib.hid hq
    clear hq HQ7
    have h11 : T = true → csgI hd < nsgI hd ∧ (nsgI hd != 2) = true := fun e => ⟨(h10.resolve_left (fun e2 => Bool.noConfusion (e.symm.trans e2))).1, bne_iff_ne.2 (h10.resolve_left (fun e2 => Bool.noConfusion (e.symm.trans e2))).2⟩
    rw [hcs] at h11
    clear h10
    try replace h11 := h11 hT
    try obtain ⟨h12, h13⟩ := h11
    go_wp2_with fail
    refine (Y11.out _).mono ?_
    rintro e w5 ⟨rfl, rfl⟩
    by_cases h14 : i1 = q1.isd ∧ i2 = q1.cid
    case neg =>
     have hq := HQ8.out
     rw [if_pos h14] at hq
     subst hq
     by_cases h15 : i1 = q1.isd
     ·have h16 : ((i2 : Int) == (q1.cid : Int)) = false := by
       rw [beq_eq_false_iff_ne]
       intro h
       exact h14 ⟨h15, by omega⟩
      rw [← h15] at q14
      clear h14 h15 hst hcs
      go_wp2_with fail
      refine (N0.out _).mono ?_
      rintro e w5 ⟨rfl, rfl⟩
      unfold thrown
      go_wp2_with fail
      exact ⟨rfl, rfl, HS4.out.log, HS4.out.keep⟩
     ·have h16 : ((i1 : Int) == (q1.isd : Int)) = false := by
       rw [beq_eq_false_iff_ne]
       omega
      clear h14 h15 hst hcs
      go_wp2_with fail
      refine (N0.out _).mono ?_
      rintro e w5 ⟨rfl, rfl⟩
      unfold thrown
      go_wp2_with fail
      exact ⟨rfl, rfl, HS4.out.log, HS4.out.keep⟩
    have hq := HQ8.out
    rw [if_neg (fun h => h h14)] at hq
    have HQ9 := Lib.hid hq
    rw [← h14.1] at q14
    rw [← h14.2] at q15
    clear hq HQ8 h14
    go_wp2_with fail
    refine (Y0.out _).mono ?_
    rintro e w5 ⟨rfl, rfl⟩
    first
     | (
       have hq := HQ9.out
       rw [if_neg (fun h => h (Or.inl rfl))] at hq
       have Hq := Lib.hid hq
       clear hq HQ9 hst hcs
       go_wp2_with fail
       refine (Y1.out _).mono ?_
       rintro e w5 ⟨rfl, rfl⟩
       go_wp2_with fail
       go_end0
       rw [← Hq.out]
       exact ⟨rfl, HS4.out.log, HS4.out.keep⟩)
     | (
       have hq := HQ9.out
       rw [if_neg (fun h => h (Or.inr (Or.inl hcs)))] at hq
       have Hq := Lib.hid hq
       clear hq HQ9 hst
       go_wp2_with fail
       refine (Y1.out _).mono ?_
       rintro e w5 ⟨rfl, rfl⟩
       go_wp2_with fail
       go_end0
       rw [← Hq.out]
       exact ⟨rfl, HS4.out.log, HS4.out.keep⟩)
     | (
       have G := Lib.hid (GR.out _ _ HS4.out.log)
       have hcs2 : ¬ csgI hd = 0 := by omega
       have hq := HQ9.out
       generalize grdQ c = g at G hq
       have Hq := Lib.hid hq
       clear hq HQ9 hst
       go_wp2_with fail
       refine G.out.mono ?_
       rintro e w5 ⟨rfl, rfl⟩
       cases g with
       | false =>
        have hq := Hq.out
        rw [if_neg (fun h => h (Or.inr (Or.inr rfl)))] at hq
        subst hq
        clear hcs2
        go_wp2_with fail
        refine (Y1.out _).mono ?_
        rintro e w5 ⟨rfl, rfl⟩
        go_wp2_with fail
        go_end0
        exact ⟨rfl, HS4.out.log, HS4.out.keep⟩
       | true =>
        have hq := Hq.out
        rw [if_pos (by rintro (h | h | h); cases h; exact hcs2 h; cases h)] at hq
        subst hq
        clear hcs2
        go_wp2_with fail
        refine (N1.out _).mono ?_
        rintro e w5 ⟨rfl, rfl⟩
        unfold thrown
        go_wp2_with fail
        exact ⟨rfl, rfl, HS4.out.log, HS4.out.keep⟩)
end
end Go.Proofs.YtjbbbpgcegcbaaaGreatDoor
namespace Go.Proofs.YtjbbbpgcegcbaaaGreatDoor
open Go Go.RowKit
set_option linter.unusedVariables false
theorem appP_own {base : Nat} {v : Value} {l : List Pr} {x : Pr} {w : World} {a : Addr} (h : PrBuf base w v l) (ha : ∀ j u, ([.string (S x.k), .string (S x.v)] : List Value)[j]? = some u → w.cell? (a.add j) = some u) (hl : l.length ≤ 1000) (hb : base ≤ w.heap.size) :
  ∃ v' w', (Builtin.append_ #[27, 27] 27 #[v, .slice (some a) 1 1]).run Tryz.prog w = .ok v' w' ∧ PrBuf base w' v' (l ++ [x]) ∧ w.grownBy w' v.ownBlock ∧ ∀ k, v'.ownBlock = some k → v.ownBlock = some k ∨ w.heap.size ≤ k := by
 obtain ⟨i0, hi, hz0, hz1, hz2⟩ := infoPr
 obtain ⟨v5, w5, hrun, hown, hgrow, _⟩ := run_append_own (P := Tryz.prog) (w := w) base 27 27 60 i0 (.agg #[.string (S []), .string (S [])]) 2 32 Tryz.underlying27 hi hz0 hz1 hz2 rfl (by decide) v l.length (prsVs l) h a 1 1 [.string (S x.k), .string (S x.v)] rfl ha (prsVs_one [x]) (by unfold maxLen; omega) (by omega) hb
 refine ⟨v5, w5, hrun, ?_, hgrow, fun k hk => ?_⟩
 ·unfold PrBuf
  rw [prsVs_app, List.length_append]
  exact hown
 ·have h' := h
  rcases h'.2 with ⟨rfl, h0⟩ | ⟨g, cap, cur, rfl, hbg, hg, hnc, hcm, hcs, htake⟩
  ·obtain ⟨v6, w6, hrun6, hown6, _, _⟩ := run_append_own (P := Tryz.prog) (w := w) w.heap.size 27 27 60 i0 (.agg #[.string (S []), .string (S [])]) 2 32 Tryz.underlying27 hi hz0 hz1 hz2 rfl (by decide) (.slice none 0 0) 0 [] (World.ownsRow_nil _ _ _ _) a 1 1 [.string (S x.k), .string (S x.v)] rfl ha (prsVs_one [x]) (by unfold maxLen; omega) (by omega) (Nat.le_refl _)
   rw [hrun] at hrun6
   obtain ⟨rfl, rfl⟩ : v5 = v6 ∧ w5 = w6 := by injection hrun6 with h1 h2; exact ⟨h1, h2⟩
   exact .inr (World.ownsRow.lt hown6 k hk).1
  ·have hsrc : Src Tryz.prog i0.size 27 (.slice (some a) 1 1) 1 [.string (S x.k), .string (S x.v)] w := by
    rw [hz1]
    exact Src.ofSlice w Tryz.underlying27 a 1 1 [.string (S x.k), .string (S x.v)] rfl ha (prsVs_one [x])
   by_cases hroom : l.length + 1 ≤ cap
   ·have hr := run_append_room_src (P := Tryz.prog) (w := w) 27 27 27 60 i0 Tryz.underlying27 hi g 0 l.length cap (.slice (some a) 1 1) 1 [.string (S x.k), .string (S x.v)] hsrc hroom
     (fun j hj => by
      have hj0 : j = 0 ∨ j = 1 := by simp at hj; omega
      rw [cell_of_row w g _ cur 60 (0, 0) hg, hz1, Array.getElem?_eq_getElem (by rcases hj0 with rfl | rfl <;> omega)]
      rfl)
     (fun j hj => by
      unfold World.frozen?
      rw [hg]
      simp)
    rw [hrun] at hr
    have hv : v5 = .slice (some ⟨g, 0, none⟩) (l.length + 1) cap := by injection hr
    rw [hv] at hk
    exact .inl hk
   ·have hr := run_append_grow_src (P := Tryz.prog) (w := w) 27 27 27 60 i0 (.agg #[.string (S []), .string (S [])]) Tryz.underlying27 hi hz0 (some ⟨g, 0, none⟩) l.length cap (prsVs l)
     (by rw [hz1]; exact run_firstCells_some w.drew 2 l.length ⟨g, 0, none⟩ l.length cap (prsVs l) (prsVs_len l) (fun j u hu => World.ownsRow.cells h (g := g) rfl j u hu)) (.slice (some a) 1 1) 1 [.string (S x.k), .string (S x.v)] hsrc (by omega) (by omega)
     (by
      rw [hz2]
      have := nextslicecap_le (need := l.length + 1) (old := cap) (by omega)
      omega)
    rw [hrun] at hr
    have hv : v5 = .slice (some ⟨w.heap.size, 0, none⟩) (l.length + 1) (grownCap w (l.length + 1) cap 60) := by injection hr
    rw [hv] at hk
    have : w.heap.size = k := by simpa [Value.ownBlock] using hk
    exact .inr (by omega)
theorem wpList_append_ran {P : Program} (w : World) {ops : Array Oper} {rest : List Oper} {o : Oper} {a : Act} {Q : Exit → Act → World → Prop} (hw : Region.wanted o (yielded ops a.tmps) = true) (s x : Operand) (t tn : TypeId)
  (ho : o.op = .call { callee := .builtin .append, args := #[s, x], argTypes := #[t, tn] }) (vs vx : Value) (hs : a.eval s = vs) (hx : a.eval x = vx)
  (v' : Value) (w' : World) (hr : (Builtin.append_ #[t, tn] o.type #[vs, vx]).run P w = .ok v' w') (h : wpList P ops Q rest (a.put o.dst v') w') : wpList P ops Q (o :: rest) a w :=
 BigFrame.wpList_want hw fun _ hK => Lib.wp_append_run w s x t tn ho vs vx hs hx v' w' hr (hK _ _ h)
theorem PrBuf.lit {W : World} {base b : Nat} {l : List Pr} (h : W.heap[b]? = some (.cells (prsVs l).toArray 60 (0, 0))) (hb : base ≤ b) (hl : l.length ≤ 1000) : PrBuf base W (.slice (some ⟨b, 0, none⟩) l.length l.length) l :=
 ⟨prsVs_len l, .inr ⟨b, l.length, _, rfl, hb, h, Nat.le_refl _, by unfold maxLen; omega, by simp [prsVs_len], by rw [← prsVs_len]; simp⟩⟩
theorem appM_own {base b2 : Nat} {v v2 : Value} {l l2 : List Pr} {w : World} (h : PrBuf base w v l) (h2 : PrBuf b2 w v2 l2) (hl : l.length + l2.length ≤ 1000) (hb : base ≤ w.heap.size) :
  ∃ v' w', (Builtin.append_ #[27, 27] 27 #[v, v2]).run Tryz.prog w = .ok v' w' ∧ PrBuf base w' v' (l ++ l2) ∧ w.grownBy w' v.ownBlock ∧ ∀ k, v'.ownBlock = some k → v.ownBlock = some k ∨ w.heap.size ≤ k := by
 obtain ⟨i0, hi, hz0, hz1, hz2⟩ := infoPr
 rcases h2.2 with ⟨rfl, h20⟩ | ⟨g2, cap2, cur2, rfl, -⟩
 ·obtain rfl : l2 = [] := List.eq_nil_of_length_eq_zero h20
  refine ⟨v, w, run_append_owned_none (P := Tryz.prog) (w := w) base 27 27 60 i0 2 Tryz.underlying27 hi v l.length (prsVs l) h, by rw [List.append_nil]; exact h, ⟨rfl, rfl, rfl, Nat.le_refl _, fun _ _ _ => rfl⟩, fun k hk => .inl hk⟩
 have ha : ∀ j u, (prsVs l2)[j]? = some u → w.cell? ((⟨g2, 0, none⟩ : Addr).add j) = some u := World.ownsRow.cells h2 (g := g2) rfl
 obtain ⟨v5, w5, hrun, hown, hgrow, _⟩ := run_append_own (P := Tryz.prog) (w := w) base 27 27 60 i0 (.agg #[.string (S []), .string (S [])]) 2 32 Tryz.underlying27 hi hz0 hz1 hz2 rfl (by decide) v l.length (prsVs l) h ⟨g2, 0, none⟩ l2.length cap2 (prsVs l2) (prsVs_len l2) ha (prsVs_one l2) (by unfold maxLen; omega) (by omega) hb
 refine ⟨v5, w5, hrun, ?_, hgrow, fun k hk => ?_⟩
 ·unfold PrBuf
  rw [prsVs_app, List.length_append]
  exact hown
 ·have h' := h
  rcases h'.2 with ⟨rfl, h0⟩ | ⟨g, cap, cur, rfl, hbg, hg, hnc, hcm, hcs, htake⟩
  ·obtain ⟨v6, w6, hrun6, hown6, _, _⟩ := run_append_own (P := Tryz.prog) (w := w) w.heap.size 27 27 60 i0 (.agg #[.string (S []), .string (S [])]) 2 32 Tryz.underlying27 hi hz0 hz1 hz2 rfl (by decide) (.slice none 0 0) 0 [] (World.ownsRow_nil _ _ _ _) ⟨g2, 0, none⟩ l2.length cap2 (prsVs l2) (prsVs_len l2) ha (prsVs_one l2) (by unfold maxLen; omega) (by omega) (Nat.le_refl _)
   rw [hrun] at hrun6
   obtain ⟨rfl, rfl⟩ : v5 = v6 ∧ w5 = w6 := by injection hrun6 with h1 h2; exact ⟨h1, h2⟩
   exact .inr (World.ownsRow.lt hown6 k hk).1
  ·have hsrc : Src Tryz.prog i0.size 27 (.slice (some ⟨g2, 0, none⟩) l2.length cap2) l2.length (prsVs l2) w := by
    rw [hz1]
    exact Src.ofSlice w Tryz.underlying27 ⟨g2, 0, none⟩ l2.length cap2 (prsVs l2) (prsVs_len l2) ha (prsVs_one l2)
   by_cases hroom : l.length + l2.length ≤ cap
   ·have hr := run_append_room_src (P := Tryz.prog) (w := w) 27 27 27 60 i0 Tryz.underlying27 hi g 0 l.length cap (.slice (some ⟨g2, 0, none⟩) l2.length cap2) l2.length (prsVs l2) hsrc hroom
     (fun j hj => by
      rw [prsVs_len] at hj
      rw [cell_of_row w g _ cur 60 (0, 0) hg, hz1, Array.getElem?_eq_getElem (by omega)]
      rfl)
     (fun j hj => by
      unfold World.frozen?
      rw [hg]
      simp)
    rw [hrun] at hr
    have hv : v5 = .slice (some ⟨g, 0, none⟩) (l.length + l2.length) cap := by injection hr
    rw [hv] at hk
    exact .inl hk
   ·have hr := run_append_grow_src (P := Tryz.prog) (w := w) 27 27 27 60 i0 (.agg #[.string (S []), .string (S [])]) Tryz.underlying27 hi hz0 (some ⟨g, 0, none⟩) l.length cap (prsVs l)
     (by rw [hz1]; exact run_firstCells_some w.drew 2 l.length ⟨g, 0, none⟩ l.length cap (prsVs l) (prsVs_len l) (fun j u hu => World.ownsRow.cells h (g := g) rfl j u hu)) (.slice (some ⟨g2, 0, none⟩) l2.length cap2) l2.length (prsVs l2) hsrc (by omega) (by omega)
     (by
      rw [hz2]
      have := nextslicecap_le (need := l.length + l2.length) (old := cap) (by omega)
      omega)
    rw [hrun] at hr
    have hv : v5 = .slice (some ⟨w.heap.size, 0, none⟩) (l.length + l2.length) (grownCap w (l.length + l2.length) cap 60) := by injection hr
    rw [hv] at hk
    have : w.heap.size = k := by simpa [Value.ownBlock] using hk
    exact .inr (by omega)
theorem PrBuf.offM {base : Nat} {w w' : World} {H : Nat → Prop} {v v' : Value} {l l' : List Pr} (h : PrBuf base (offW H w) v l) (h' : PrBuf base w' v' l') (hk : ∀ k, v'.ownBlock = some k → v.ownBlock = some k ∨ w.heap.size ≤ k) (hH : ∀ k, H k → k < w.heap.size) : PrBuf base (offW H w') v' l' := by
 have hout := (off_row h).2
 refine row_off h' (fun k hk' hh => ?_)
 rcases hk k hk' with e | e
 ·exact hout k e hh
 ·have := hH k hh; omega
theorem PrBuf.off {base : Nat} {W : World} {H : Nat → Prop} {v : Value} {l : List Pr} (h : PrBuf base (offW H W) v l) : PrBuf base W v l := (off_row h).1
end Go.Proofs.YtjbbbpgcegcbaaaGreatDoor
namespace Go.Proofs.YtjbbbpgcegcbaaaGreatDoor
open Go.RowKit
theorem info8 : (Tryz.prog.info? 5).map (fun i => (i.zero, i.size, i.bytes)) = some (some (.int .u8 0), 1, 1) := by kernel_rfl
set_option maxRecDepth 100000 in
theorem hex_any (l : List UInt8) (w : World) (hl : l.length ≤ 34359738368) :
  Calls Tryz.prog 29 #[.string (S l)] w fun e w' => e = .returned (.string (S (hexL l))) ∧ Below w.heap.size w w' := by
 obtain ⟨i0, hi, hz0, hz1, hz2⟩ := info_parts info8
 have hmk := fun w => run_make_buf (P := Tryz.prog) w 116 5 i0 Tryz.underlying116 hi hz0 hz1 hz2 .i64 .i64 (2 + 2 * l.length) (by omega)
 simp only [Int.natCast_add, Int.natCast_mul, Int.cast_ofNat_Int] at hmk
 go_enter Tryz.func29, Tryz.ntmps29
 go_wp2_with (at_builtin; refine wpList_append_buf rfl _ _ _ _ rfl 5 i0 Tryz.underlying116 hi hz0 hz1 hz2 w.heap.size _ [] rfl (buf_made w _ _ (by omega) _ (Nat.le_refl _)) (by simp) _ [48, 120] rfl (src_string Tryz.underlying9 [48, 120] _) (by simp) ?_; intro v1 w1 hb1 hlo1 hsz1 _)
 have hlo : Below w.heap.size w w1 := ((Below.refl _ _).alloc (Nat.le_refl _) _).trans hlo1
 clear hlo1 hsz1 hmk
 go_loopg [3, 14] (l.length + 1) (fun g v c wr => ∃ k : Nat, k ≤ l.length ∧ g + k = l.length + 1 ∧ c = .int .i64 k ∧ Buf 5 w.heap.size wr v (hexL (l.take k)) ∧ Below w.heap.size w wr)
 case atStart => exact ⟨0, by omega, by omega, rfl, hb1, hlo⟩
 case round =>
  obtain ⟨k, hk, hg, rfl, hb, hlo⟩ := hrel
  have Hg := Lib.hid hg
  clear hg hb1
  by_cases hlt : k < l.length
  ·have hb16 : (l[k].toNat : Int) / 16 < 16 := by have := l[k].toNat_lt; omega
   have hm16 : (l[k].toNat : Int) % 16 < 16 := by omega
   have h016 : 0 ≤ (l[k].toNat : Int) / 16 := by omega
   have h0m16 : 0 ≤ (l[k].toNat : Int) % 16 := by omega
   have hand := and15 l[k].toNat l[k].toNat_lt
   have hd1 := hexDigits_at ((l[k].toNat : Int) / 16) (l[k].toNat / 16) (by omega)
   have hd2 := hexDigits_at ((l[k].toNat : Int) % 16) (l[k].toNat % 16) (by omega)
   have hki : (k : Int) < (l.length : Int) := by omega
   go_wp2_with fail
   have hln : (hexL (l.take k)).length ≤ 2 + 2 * l.length := by rw [hexL_len, List.length_take]; omega
   have hsz := hlo.size
   go_region_law (refine step_append_buf rfl (.tmp 17) (.tmp 28) 116 116 rfl 5 i0 Tryz.underlying116 hi hz0 hz1 hz2 w.heap.size u3 (hexL (l.take k)) (by simp [Act.eval]) (hb.drew.alloc _) (by simp; omega) _ [digC (l[k].toNat / 16), digC (l[k].toNat % 16)] (by simp [Act.eval]) (src_lit Tryz.underlying116 wr.drew [digC (l[k].toNat / 16), digC (l[k].toNat % 16)] 5 (0, 0) 2 2 rfl) (by simp; omega) ?_; intro v2 w2 hb2 hlo2 hsz2 _)
   all_goals
    have hst : hexL (l.take k) ++ [digC (l[k].toNat / 16), digC (l[k].toNat % 16)] = hexL (l.take (k + 1)) := by
     rw [List.take_succ_eq_append_getElem hlt]; unfold hexL; rw [hexOf_snoc]; rfl
    rw [hst] at hb2
    have hlo3 : Below w.heap.size w w2 := ((hlo.alloc hsz _).drew).trans hlo2
    clear hlo2 hsz2 hst hb hlo hand hd1 hd2 h016 h0m16 hb16 hm16
    go_wp2_with fail
    go_roundg (gk - 1)
    case measure => have := Hg.out; omega
    case rel => exact ⟨k + 1, by omega, by have := Hg.out; omega, by go_num, hb2, hlo3⟩
  ·have hkl : k = l.length := by omega
   subst hkl
   rw [List.take_length] at hb
   have hcv := run_string_buf (P := Tryz.prog) 116 9 5 Tryz.underlying116 Tryz.underlying5 Tryz.underlying9 hb
   go_wp2_with fail
   go_ret
   exact ⟨rfl, hlo⟩
end Go.Proofs.YtjbbbpgcegcbaaaGreatDoor
