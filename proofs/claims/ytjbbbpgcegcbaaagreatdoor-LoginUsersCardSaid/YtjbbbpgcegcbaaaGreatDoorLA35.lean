/- LA35: several texts in one. -/
import Derived.Deep.RegionHeld3
import Derived.Test.YtjbbbpgcegcbaaaGreatDoorLA01
import Derived.Test.YtjbbbpgcegcbaaaGreatDoorLA03
import Derived.Test.YtjbbbpgcegcbaaaGreatDoorLA12
import Derived.Test.YtjbbbpgcegcbaaaGreatDoorLA13
namespace Go.Proofs.YtjbbbpgcegcbaaaGreatDoor
open Go.RowKit
theorem idx2_0 (a b : Value) (w : World) : (Instr.index 163 (.agg #[a, b]) (.int .i64 0)).run Tryz.prog w = .ok a w := by kernel_rfl
theorem idx2_1 (a b : Value) (w : World) : (Instr.index 163 (.agg #[a, b]) (.int .i64 1)).run Tryz.prog w = .ok b w := by kernel_rfl
def Bare1 (v : Value) (n : Int) : Prop := (n = 0 ∧ v = .nilIface) ∨ (n ≠ 0 ∧ v = .iface 56 (.int .i64 n))
theorem Bare1.is {v : Value} {n : Int} (h : Bare1 v n) (W : World) : ErrIs W v n (-1) := by
 rcases h with ⟨rfl, rfl⟩ | ⟨hn, rfl⟩
 ·exact .good
 ·exact .bare n hn
theorem Bare1.v {v : Value} {n : Int} (h : Bare1 v n) : v = errV n := by
 rcases h with ⟨rfl, rfl⟩ | ⟨hn, rfl⟩
 ·rfl
 ·exact (errV_pos n hn).symm
theorem Bare1.zero {v : Value} (h : Bare1 v 0) : v = .nilIface := h.v
theorem Bare1.iface {v : Value} {n : Int} (h : Bare1 v n) (hn : n ≠ 0) : v = .iface 56 (.int .i64 n) := by rw [h.v, errV_pos n hn]
def fstE (a b : Int) : Int := if a ≠ 0 then a else b
set_option maxRecDepth 100000 in
theorem bare2_any {v1 v2 : Value} {n1 p1 n2 p2 : Int} (w : World) (h1 : ErrIs w v1 n1 p1) (h2 : ErrIs w v2 n2 p2) (hg : ErrCell w) :
  Calls Tryz.prog 87 #[.agg #[v1, v2]] w fun e w' => ∃ v, e = .returned v ∧ Bare1 v (fstE n1 n2) ∧ Below w.heap.size w w' := by
 have hb0 := (Below.refl w.heap.size w).alloc (Nat.le_refl _) (.cells #[v1, v2] 163)
 have T1 := Lib.hid (tell_is (h1.later hb0) (hg.later hb0))
 have T2 := Lib.hid (tell_is (h2.later hb0) (hg.later hb0))
 have Hb0 := Lib.hid hb0
 by_cases hn1 : n1 = 0
 ·subst hn1
  obtain rfl := h1.zero
  by_cases hn2 : n2 = 0
  ·subst hn2
   obtain rfl := h2.zero
   have i0 := idx2_0 .nilIface .nilIface
   have i1 := idx2_1 .nilIface .nilIface
   rw [show fstE 0 0 = 0 from rfl]
   clear h1 h2 hg hb0
   go_enter Tryz.func87, Tryz.ntmps87
   go_wp2_with fail
   refine wp_loop_rounds 3 ?_
   rw [rounds_succ]
   go_wp2_with fail
   rw [rounds_succ]
   go_wp2_with fail
   rw [rounds_succ]
   go_wp2_with fail
   go_ret
   exact ⟨_, rfl, .inl ⟨rfl, rfl⟩, Hb0.out⟩
  ·obtain ⟨t, x, rfl⟩ := h2.iface hn2
   have i0 := idx2_0 .nilIface (.iface t x)
   have i1 := idx2_1 .nilIface (.iface t x)
   rw [show fstE 0 n2 = n2 from rfl]
   have Hn := Lib.hid hn2
   clear h1 h2 hg hb0 hn2
   go_enter Tryz.func87, Tryz.ntmps87
   go_wp2_with fail
   refine wp_loop_rounds 3 ?_
   rw [rounds_succ]
   go_wp2_with fail
   rw [rounds_succ]
   go_wp2_with fail
   refine T2.out.mono ?_
   rintro e w1 ⟨rfl, hb1⟩
   go_wp2_with fail
   go_ret
   exact ⟨_, rfl, .inr ⟨Hn.out, rfl⟩, below_then Hb0.out hb1⟩
 ·obtain ⟨t, x, rfl⟩ := h1.iface hn1
  have i0 := idx2_0 (.iface t x) v2
  rw [show fstE n1 n2 = n1 from by unfold fstE; rw [if_pos hn1]]
  have Hn := Lib.hid hn1
  clear h1 h2 hg hb0 hn1
  go_enter Tryz.func87, Tryz.ntmps87
  go_wp2_with fail
  refine wp_loop_rounds 3 ?_
  rw [rounds_succ]
  go_wp2_with fail
  refine T1.out.mono ?_
  rintro e w1 ⟨rfl, hb1⟩
  go_wp2_with fail
  go_ret
  exact ⟨_, rfl, .inr ⟨Hn.out, rfl⟩, below_then Hb0.out hb1⟩
end Go.Proofs.YtjbbbpgcegcbaaaGreatDoor
namespace Go.Proofs.YtjbbbpgcegcbaaaGreatDoor
open Go.RowKit
set_option linter.unusedVariables false
theorem rightP_fst (p : Pd) : rightP p = if fstE (rightR p.h).1 (rightA p.a).1 ≠ 0 then fstE (rightR p.h).1 (rightA p.a).1 else if 100000 < p.d.length then 4 else 0 := by
 unfold rightP fstE
 by_cases h1 : (rightR p.h).1 = 0
 ·rw [h1]
  rfl
 ·rw [if_pos h1, if_pos h1, if_pos h1]
theorem keep5 {W w w' : World} {a b c d e : Addr} {x y z u v : Value} (h : Below W.heap.size W w ∧ w.cell? a = some x ∧ w.cell? b = some y ∧ w.cell? c = some z ∧ w.cell? d = some u ∧ w.cell? e = some v) (hb : Below w.heap.size w w') :
  Below W.heap.size W w' ∧ w'.cell? a = some x ∧ w'.cell? b = some y ∧ w'.cell? c = some z ∧ w'.cell? d = some u ∧ w'.cell? e = some v := by
 obtain ⟨h0, h1, h2, h3, h4, h5⟩ := h
 have k : ∀ {a : Addr} {x : Value}, w.cell? a = some x → w'.cell? a = some x := fun {a x} hx => (hb.cell (p := a) (block_lt_of_cell hx)).trans hx
 exact ⟨below_then h0 hb, k h1, k h2, k h3, k h4, k h5⟩
set_option maxRecDepth 100000 in
set_option maxHeartbeats 1000000 in
theorem rightP_any (p : Pd) (vv va : Value) (w : World) (hp : PduAt w p vv va) (hf : FitP p) (hm : MaxCell w) (hg : ErrCell w) :
  Calls Tryz.prog 57 #[pduV p vv va] w (RetE w (rightP p, -1)) := by
 have hfst := rightP_fst p
 have R1 := fun W (hb : Below w.heap.size w W) => right_any p.h vv W hf.fl (hm.later hb) (hp.v.later hb) hf.vs
 have R2 := fun W (hb : Below w.heap.size w W) => right_ahs p.a va W (hp.a.later hb) hf.a
 obtain ⟨⟨op, now, fl, vs⟩, al, d⟩ := p
 simp only at hfst R1 R2 ⊢
 obtain ⟨⟨n1, p1⟩, hr1⟩ : ∃ r, rightR ⟨op, now, fl, vs⟩ = r := ⟨_, rfl⟩
 obtain ⟨⟨n2, p2⟩, hr2⟩ : ∃ r, rightA al = r := ⟨_, rfl⟩
 obtain ⟨R, hR⟩ : ∃ R, rightP ⟨⟨op, now, fl, vs⟩, al, d⟩ = R := ⟨_, rfl⟩
 rw [hr1] at hfst R1
 rw [hr2] at hfst R2
 rw [hR] at hfst ⊢
 simp only at hfst
 obtain ⟨n3, hn3⟩ : ∃ n, fstE n1 n2 = n := ⟨_, rfl⟩
 have hb0 := (Below.refl w.heap.size w).alloc (Nat.le_refl _) (.cells #[.int .i64 op, .bool now, .int .i64 fl, vv, va, .string (S d)] 41)
 have hk := Blk.new w #[.int .i64 op, .bool now, .int .i64 fl, vv, va, .string (S d)] 41
 obtain ⟨pv, cv, rfl⟩ : ∃ p c, vv = .slice p vs.length c := by obtain ⟨p, c, h, _⟩ := hp.v; exact ⟨p, c, h⟩
 obtain ⟨pa, ca, rfl⟩ := hp.a.form
 have Hg := Lib.hid hg
 have B3 := Lib.hid (fun W v1 v2 (h1 : ErrIs W v1 n1 p1) (h2 : ErrIs W v2 n2 p2) (hb : Below w.heap.size w W) => bare2_any W h1 h2 (Hg.out.later hb))
 rw [hn3] at hfst
 simp only [hn3] at B3
 unfold headV at R1
 simp only at R1
 have HR1 := Lib.hid R1
 have HR2 := Lib.hid R2
 have Hfst := Lib.hid hfst
 clear hr1 hr2 hR R1 R2 hp hf hm hg hfst hn3
 unfold pduV
 simp only
 go_enter Tryz.func57, Tryz.ntmps57
 go_wp2_with fail
 generalize w.alloc (.cells #[.int .i64 op, .bool now, .int .i64 fl, .slice pv vs.length cv, .slice pa al.length ca, .string (S d)] 41) = W1 at hb0 hk ⊢
 obtain ⟨q0, q1, q2, q3, q4, q5⟩ := hk.six
 have HK := Lib.hid hk
 have H1 := Lib.hid (fun W (hb : Below W1.heap.size W1 W) => HR1.out W (hb0.trans (hb.mono hb0.size)))
 have H2 := Lib.hid (fun W (hb : Below W1.heap.size W1 W) => HR2.out W (hb0.trans (hb.mono hb0.size)))
 have H3 := Lib.hid (fun W v1 v2 h1 h2 (hb : Below W1.heap.size W1 W) => B3.out W v1 v2 h1 h2 (hb0.trans (hb.mono hb0.size)))
 have Hb0 := Lib.hid hb0
 clear hk hb0 B3 HR1 HR2 q5
 by_cases z1 : n1 = 0 <;> by_cases z2 : n2 = 0
 ·subst z1; subst z2
  go_region_held3 (fun w' => Below W1.heap.size W1 w' ∧ w'.cell? ⟨w.heap.size, 0, none⟩ = some (.int .i64 op) ∧ w'.cell? ⟨w.heap.size, 1, none⟩ = some (.bool now) ∧ w'.cell? ⟨w.heap.size, 2, none⟩ = some (.int .i64 fl) ∧ w'.cell? ⟨w.heap.size, 3, none⟩ = some (.slice pv vs.length cv) ∧ w'.cell? ⟨w.heap.size, 4, none⟩ = some (.slice pa al.length ca))
   (first | assumption | exact ⟨Below.refl _ _, q0, q1, q2, q3, q4⟩ | exact ⟨(Below.refl _ _).drew, q0, q1, q2, q3, q4⟩ | exact keep5 (by assumption) hb')
   (first | ((with_reducible refine (H1.out _ (by first | assumption | exact (‹Below W1.heap.size W1 _ ∧ _›).1)).mono ?_); rintro e w' ⟨ev1, rfl, he1, hb'⟩; obtain rfl := he1.zero) | ((with_reducible refine (H2.out _ (by first | assumption | exact (‹Below W1.heap.size W1 _ ∧ _›).1)).mono ?_); rintro e w' ⟨ev2, rfl, he2, hb'⟩; obtain rfl := he2.zero) | ((with_reducible refine (H3.out _ _ _ (by first | assumption | exact ErrIs.later (by assumption) (by assumption)) (by first | assumption | exact ErrIs.later (by assumption) (by assumption)) (by first | assumption | exact (‹Below W1.heap.size W1 _ ∧ _›).1)).mono ?_); rintro e w' ⟨ev3, rfl, he3, hb'⟩))
  all_goals
   have hk5 := (‹Below W1.heap.size W1 w' ∧ _›).1
   have g5 := (HK.out.later hk5).six.2.2.2.2.2
   have Hend := Lib.hid (below_then Hb0.out hk5)
   have He3 := Lib.hid he3
   by_cases h3 : n3 = 0
   ·subst h3
    obtain rfl := He3.out.zero
    have hR := Hfst.out
    rw [if_neg (by decide)] at hR
    by_cases hd : 100000 < d.length
    ·rw [if_pos hd] at hR
     have HRr := Lib.hid hR
     have hdI : (100000 : Int) < (d.length : Int) := by omega
     clear he3 hR hd q0 q1 q2 q3 q4 hk5
     go_wp2_with fail
     go_ret
     rw [HRr.out]
     exact ⟨_, rfl, .bare 4 (by decide), Hend.out⟩
    ·rw [if_neg hd] at hR
     have HRr := Lib.hid hR
     have hdI : (d.length : Int) ≤ 100000 := by omega
     clear he3 hR hd q0 q1 q2 q3 q4 hk5
     go_wp2_with fail
     go_ret
     rw [HRr.out]
     exact ⟨_, rfl, .good, Hend.out⟩
   ·obtain rfl := He3.out.iface h3
    have hR := Hfst.out
    rw [if_pos h3] at hR
    have HRr := Lib.hid hR
    clear he3 hR h3 q0 q1 q2 q3 q4 hk5 g5
    go_wp2_with fail
    go_ret
    rw [HRr.out]
    exact ⟨_, rfl, He3.out.is _, Hend.out⟩
 ·subst z1; have Z2 := Lib.hid z2; clear z2
  go_region_held3 (fun w' => Below W1.heap.size W1 w' ∧ w'.cell? ⟨w.heap.size, 0, none⟩ = some (.int .i64 op) ∧ w'.cell? ⟨w.heap.size, 1, none⟩ = some (.bool now) ∧ w'.cell? ⟨w.heap.size, 2, none⟩ = some (.int .i64 fl) ∧ w'.cell? ⟨w.heap.size, 3, none⟩ = some (.slice pv vs.length cv) ∧ w'.cell? ⟨w.heap.size, 4, none⟩ = some (.slice pa al.length ca))
   (first | assumption | exact ⟨Below.refl _ _, q0, q1, q2, q3, q4⟩ | exact ⟨(Below.refl _ _).drew, q0, q1, q2, q3, q4⟩ | exact keep5 (by assumption) hb')
   (first | ((with_reducible refine (H1.out _ (by first | assumption | exact (‹Below W1.heap.size W1 _ ∧ _›).1)).mono ?_); rintro e w' ⟨ev1, rfl, he1, hb'⟩; obtain rfl := he1.zero) | ((with_reducible refine (H2.out _ (by first | assumption | exact (‹Below W1.heap.size W1 _ ∧ _›).1)).mono ?_); rintro e w' ⟨ev2, rfl, he2, hb'⟩; obtain ⟨t2, x2, rfl⟩ := he2.iface Z2.out) | ((with_reducible refine (H3.out _ _ _ (by first | assumption | exact ErrIs.later (by assumption) (by assumption)) (by first | assumption | exact ErrIs.later (by assumption) (by assumption)) (by first | assumption | exact (‹Below W1.heap.size W1 _ ∧ _›).1)).mono ?_); rintro e w' ⟨ev3, rfl, he3, hb'⟩))
  all_goals
   have hk5 := (‹Below W1.heap.size W1 w' ∧ _›).1
   have g5 := (HK.out.later hk5).six.2.2.2.2.2
   have Hend := Lib.hid (below_then Hb0.out hk5)
   have He3 := Lib.hid he3
   by_cases h3 : n3 = 0
   ·subst h3
    obtain rfl := He3.out.zero
    have hR := Hfst.out
    rw [if_neg (by decide)] at hR
    by_cases hd : 100000 < d.length
    ·rw [if_pos hd] at hR
     have HRr := Lib.hid hR
     have hdI : (100000 : Int) < (d.length : Int) := by omega
     clear he3 hR hd q0 q1 q2 q3 q4 hk5
     go_wp2_with fail
     go_ret
     rw [HRr.out]
     exact ⟨_, rfl, .bare 4 (by decide), Hend.out⟩
    ·rw [if_neg hd] at hR
     have HRr := Lib.hid hR
     have hdI : (d.length : Int) ≤ 100000 := by omega
     clear he3 hR hd q0 q1 q2 q3 q4 hk5
     go_wp2_with fail
     go_ret
     rw [HRr.out]
     exact ⟨_, rfl, .good, Hend.out⟩
   ·obtain rfl := He3.out.iface h3
    have hR := Hfst.out
    rw [if_pos h3] at hR
    have HRr := Lib.hid hR
    clear he3 hR h3 q0 q1 q2 q3 q4 hk5 g5
    go_wp2_with fail
    go_ret
    rw [HRr.out]
    exact ⟨_, rfl, He3.out.is _, Hend.out⟩
 ·have Z1 := Lib.hid z1; clear z1; subst z2
  go_region_held3 (fun w' => Below W1.heap.size W1 w' ∧ w'.cell? ⟨w.heap.size, 0, none⟩ = some (.int .i64 op) ∧ w'.cell? ⟨w.heap.size, 1, none⟩ = some (.bool now) ∧ w'.cell? ⟨w.heap.size, 2, none⟩ = some (.int .i64 fl) ∧ w'.cell? ⟨w.heap.size, 3, none⟩ = some (.slice pv vs.length cv) ∧ w'.cell? ⟨w.heap.size, 4, none⟩ = some (.slice pa al.length ca))
   (first | assumption | exact ⟨Below.refl _ _, q0, q1, q2, q3, q4⟩ | exact ⟨(Below.refl _ _).drew, q0, q1, q2, q3, q4⟩ | exact keep5 (by assumption) hb')
   (first | ((with_reducible refine (H1.out _ (by first | assumption | exact (‹Below W1.heap.size W1 _ ∧ _›).1)).mono ?_); rintro e w' ⟨ev1, rfl, he1, hb'⟩; obtain ⟨t1, x1, rfl⟩ := he1.iface Z1.out) | ((with_reducible refine (H2.out _ (by first | assumption | exact (‹Below W1.heap.size W1 _ ∧ _›).1)).mono ?_); rintro e w' ⟨ev2, rfl, he2, hb'⟩; obtain rfl := he2.zero) | ((with_reducible refine (H3.out _ _ _ (by first | assumption | exact ErrIs.later (by assumption) (by assumption)) (by first | assumption | exact ErrIs.later (by assumption) (by assumption)) (by first | assumption | exact (‹Below W1.heap.size W1 _ ∧ _›).1)).mono ?_); rintro e w' ⟨ev3, rfl, he3, hb'⟩))
  all_goals
   have hk5 := (‹Below W1.heap.size W1 w' ∧ _›).1
   have g5 := (HK.out.later hk5).six.2.2.2.2.2
   have Hend := Lib.hid (below_then Hb0.out hk5)
   have He3 := Lib.hid he3
   by_cases h3 : n3 = 0
   ·subst h3
    obtain rfl := He3.out.zero
    have hR := Hfst.out
    rw [if_neg (by decide)] at hR
    by_cases hd : 100000 < d.length
    ·rw [if_pos hd] at hR
     have HRr := Lib.hid hR
     have hdI : (100000 : Int) < (d.length : Int) := by omega
     clear he3 hR hd q0 q1 q2 q3 q4 hk5
     go_wp2_with fail
     go_ret
     rw [HRr.out]
     exact ⟨_, rfl, .bare 4 (by decide), Hend.out⟩
    ·rw [if_neg hd] at hR
     have HRr := Lib.hid hR
     have hdI : (d.length : Int) ≤ 100000 := by omega
     clear he3 hR hd q0 q1 q2 q3 q4 hk5
     go_wp2_with fail
     go_ret
     rw [HRr.out]
     exact ⟨_, rfl, .good, Hend.out⟩
   ·obtain rfl := He3.out.iface h3
    have hR := Hfst.out
    rw [if_pos h3] at hR
    have HRr := Lib.hid hR
    clear he3 hR h3 q0 q1 q2 q3 q4 hk5 g5
    go_wp2_with fail
    go_ret
    rw [HRr.out]
    exact ⟨_, rfl, He3.out.is _, Hend.out⟩
 ·have Z1 := Lib.hid z1; clear z1; have Z2 := Lib.hid z2; clear z2
  go_region_held3 (fun w' => Below W1.heap.size W1 w' ∧ w'.cell? ⟨w.heap.size, 0, none⟩ = some (.int .i64 op) ∧ w'.cell? ⟨w.heap.size, 1, none⟩ = some (.bool now) ∧ w'.cell? ⟨w.heap.size, 2, none⟩ = some (.int .i64 fl) ∧ w'.cell? ⟨w.heap.size, 3, none⟩ = some (.slice pv vs.length cv) ∧ w'.cell? ⟨w.heap.size, 4, none⟩ = some (.slice pa al.length ca))
   (first | assumption | exact ⟨Below.refl _ _, q0, q1, q2, q3, q4⟩ | exact ⟨(Below.refl _ _).drew, q0, q1, q2, q3, q4⟩ | exact keep5 (by assumption) hb')
   (first | ((with_reducible refine (H1.out _ (by first | assumption | exact (‹Below W1.heap.size W1 _ ∧ _›).1)).mono ?_); rintro e w' ⟨ev1, rfl, he1, hb'⟩; obtain ⟨t1, x1, rfl⟩ := he1.iface Z1.out) | ((with_reducible refine (H2.out _ (by first | assumption | exact (‹Below W1.heap.size W1 _ ∧ _›).1)).mono ?_); rintro e w' ⟨ev2, rfl, he2, hb'⟩; obtain ⟨t2, x2, rfl⟩ := he2.iface Z2.out) | ((with_reducible refine (H3.out _ _ _ (by first | assumption | exact ErrIs.later (by assumption) (by assumption)) (by first | assumption | exact ErrIs.later (by assumption) (by assumption)) (by first | assumption | exact (‹Below W1.heap.size W1 _ ∧ _›).1)).mono ?_); rintro e w' ⟨ev3, rfl, he3, hb'⟩))
  all_goals
   have hk5 := (‹Below W1.heap.size W1 w' ∧ _›).1
   have g5 := (HK.out.later hk5).six.2.2.2.2.2
   have Hend := Lib.hid (below_then Hb0.out hk5)
   have He3 := Lib.hid he3
   by_cases h3 : n3 = 0
   ·subst h3
    obtain rfl := He3.out.zero
    have hR := Hfst.out
    rw [if_neg (by decide)] at hR
    by_cases hd : 100000 < d.length
    ·rw [if_pos hd] at hR
     have HRr := Lib.hid hR
     have hdI : (100000 : Int) < (d.length : Int) := by omega
     clear he3 hR hd q0 q1 q2 q3 q4 hk5
     go_wp2_with fail
     go_ret
     rw [HRr.out]
     exact ⟨_, rfl, .bare 4 (by decide), Hend.out⟩
    ·rw [if_neg hd] at hR
     have HRr := Lib.hid hR
     have hdI : (d.length : Int) ≤ 100000 := by omega
     clear he3 hR hd q0 q1 q2 q3 q4 hk5
     go_wp2_with fail
     go_ret
     rw [HRr.out]
     exact ⟨_, rfl, .good, Hend.out⟩
   ·obtain rfl := He3.out.iface h3
    have hR := Hfst.out
    rw [if_pos h3] at hR
    have HRr := Lib.hid hR
    clear he3 hR h3 q0 q1 q2 q3 q4 hk5 g5
    go_wp2_with fail
    go_ret
    rw [HRr.out]
    exact ⟨_, rfl, He3.out.is _, Hend.out⟩
end Go.Proofs.YtjbbbpgcegcbaaaGreatDoor
