/- LA36: several texts in one. -/
import Derived.ChangeSame
import Derived.Deep.SlicePairs
import Derived.Deep.Slices
import Derived.Deep.Strs
import Derived.Lib.SmallJoins
import Derived.SizedLaws
import Derived.SliceStrings
import Derived.Test.YtjbbbpgcegcbaaaGreatDoorRows
import Derived.WideShapes
import Derived.Test.YtjbbbpgcegcbaaaGreatDoorLA01
import Derived.Test.YtjbbbpgcegcbaaaGreatDoorLA03
import Derived.Test.YtjbbbpgcegcbaaaGreatDoorLA10
import Derived.Test.YtjbbbpgcegcbaaaGreatDoorLA16
import Derived.Test.YtjbbbpgcegcbaaaGreatDoorLA23
import Derived.Test.YtjbbbpgcegcbaaaGreatDoorLA32
import Derived.Test.YtjbbbpgcegcbaaaGreatDoorLA34
import Derived.Test.YtjbbbpgcegcbaaaGreatDoorLA35
namespace Go.Proofs.YtjbbbpgcegcbaaaGreatDoor
open Go Go.RowKit
set_option linter.unusedVariables false
def RetLTake (w : World) (B lb : Nat) (m0 : LgM) (c : Cf) (d : Dw) (q0 : Lq) (r : (Pd × Int) × Lq) (e : Ending) (w' : World) : Prop :=
 ∃ m vv' va' ev, e = .returned (.tuple #[pduV r.1.1 vv' va', ev]) ∧ PduAt (offW (m.H lb) w') r.1.1 vv' va' ∧ ErrIs w' ev r.1.2 (-1) ∧ LogIn w' B lb m c d r.2 ∧ Keeps w.heap.size w w' (m0.H lb) (m.H lb) ∧ (m.mv = m0.mv ∧ m.vt = m0.vt ∧ m.vu = m0.vu ∧ r.2.mine = q0.mine)
def RetLTakeO (w : World) (B lb : Nat) (m0 : LgM) (c : Cf) (d : Dw) (q0 : Lq) (r : (Pd × Int) × Lq) (e : Ending) (w' : World) : Prop :=
 ∃ m vv' va' ev, e = .returned (.tuple #[pduV r.1.1 vv' va', ev]) ∧ PduAt (offW (m.H lb) w') r.1.1 vv' va' ∧ ErrIs w' ev r.1.2 (-1) ∧ LogIn w' B lb m c d r.2 ∧ Keeps w.heap.size w w' (m0.H lb) (m.H lb) ∧ (m.mv = m0.mv ∧ m.vt = m0.vt ∧ m.vu = m0.vu ∧ r.2.mine = q0.mine) ∧ (OwnV w vv' ∧ r.1.1.a = [] ∧ va' = .slice none 0 0)
theorem judge_ok {c : Cf} {d : Dw} {p : Pd} {q : Lq} (hc : CfOk c) (hx : ∀ x ∈ p.h.vs, x < 18446744073709551616) (Q : QOk c q) : QOk c (judgeQ c d p q).2 := by
 have H := hear_ok (d := d) hc hx Q
 unfold judgeQ
 cases h : hearQ c d p q with
 | mk a q1 =>
  obtain ⟨e, l, f⟩ := a
  rw [h] at H
  simp only at H ⊢
  split
  ·exact ⟨H.mine, H.recd, H.came, H.stg, H.sta, H.cmd, H.wN, H.new, H.isd⟩
  ·exact H
theorem ErrIs.apart6 {W W' : World} {b : Nat} {v : Value} {n p : Int} {x0 : Value} {x1 : Bool} {x2 x3 x4 x5 : Value} {t : TypeId} (h : ErrIs W v n p) (hb : Blk W b #[x0, .bool x1, x2, x3, x4, x5] t) (hk : Keeps W.heap.size W W' (fun k => k = b) (fun k => k = b)) : ErrIs W' v n p := by
 cases h with
 | good => exact .good
 | bare _ hn => exact .bare _ hn
 | placed g _ _ hn h0 h1 =>
  have hne : g ≠ b := fun e => by
   have h2 := hb.six.2.1
   rw [e, h2] at h1
   cases h1
  have hlt : g < W.heap.size := block_lt_of_cell (w := W) (a := ⟨g, 0, none⟩) h0
  exact .placed g _ _ hn (by rw [World.cell?_of_block (w := W) (a := ⟨g, 0, none⟩) (hk.block g hlt hne)]; exact h0) (by rw [World.cell?_of_block (w := W) (a := ⟨g, 1, none⟩) (hk.block g hlt hne)]; exact h1)
section
variable {w : World} {B lb : Nat} {m0 : LgM} {c : Cf} {d : Dw} {q : Lq}
set_option maxRecDepth 100000 in
set_option maxHeartbeats 8000000 in
theorem loginTake_own (p : Pd) (vv va : Value) (h : LogIn w B lb m0 c d q) (hp : PduAt (offW (m0.H lb) w) p vv va) (hE : EnvL (offW (m0.H lb) w)) (hf : FitP p) (hc : CfOk c) (hM : MineOk c.own) (hQk : QOk c q) (hd : 0 ≤ d.id ∧ d.id ≤ 255 ∧ d.ch.length ≤ 100) :
  Calls Tryz.prog 12 #[.pointer (some ⟨lb, 0, none⟩), pduV p vv va] w (RetLTakeO w B lb m0 c d q (takeQ c d q p)) := by
 have hxv : ∀ x ∈ p.h.vs, x < 18446744073709551616 := by obtain ⟨_, _, _, hx, _⟩ := hp.v; exact hx
 have RP := fun (W : World) (hb : Below w.heap.size w W) => rightP_any p vv va W (hp.off.later hb) hf (hE.off.env.mc.later hb) (hE.off.err.later hb)
 have FA := fun (W : World) (hb : Below w.heap.size w W) => field_any p vv va nCmd W (hp.off.later hb) (hE.off.env.mc.later hb) hf.vs
 have hvl := hf.vs
 have hdl := hf.d
 obtain ⟨P, hP⟩ : ∃ P, p = P := ⟨_, rfl⟩
 have JU := fun (W : World) (m : LgM) (q' : Lq) (hl : LogIn W B lb m c d q') (hk : Keeps w.heap.size w W (m0.H lb) (m.H lb)) (hq : QOk c q') (h0 : 0 ≤ p.h.fl ∧ p.h.fl < 256) => judge_any p vv va hl (hp.later hk.off') (hE.later hk.off') h0 hvl hdl hxv hc hM hq hd
 have WR := fun (W : World) (m : LgM) (q' : Lq) (v : Value) (l : List Pr) (f cl det : Int) (hl : LogIn W B lb m c d q') (hk : Keeps w.heap.size w W (m0.H lb) (m.H lb)) (hq : QOk c q') (h0 : 0 ≤ p.h.fl ∧ p.h.fl < 256) (ho : p.h.op = 3) (hr : rightR p.h = (0, -1)) (hsv : PrsV W v l) (hfl : SFit 66 600 l) (hof : OnFl f) (hcl : 0 ≤ cl ∧ cl ≤ 2) (hdet : 0 ≤ det ∧ det ≤ 11) => write_any p vv va v l f cl det hl (hp.later hk.off') (hE.later hk.off') h0 hvl ho hr hsv hfl hof hcl hdet hq
 obtain ⟨pv, cv, hvv⟩ : ∃ a c, vv = .slice a p.h.vs.length c := by obtain ⟨a, c, h, _⟩ := hp.v; exact ⟨a, c, h⟩
 obtain ⟨pa, ca, hva⟩ : ∃ a c, va = .slice a p.a.length c := by obtain ⟨a, c, h, _⟩ := hp.a; exact ⟨a, c, h⟩
 obtain ⟨⟨op, now, fl, vs⟩, al, dt⟩ := p
 simp only at hvv hva
 subst hvv hva
 rw [hP] at RP FA JU WR hxv ⊢
 obtain ⟨w0, hw0⟩ : ∃ w0, w.alloc (.cells #[.int .i64 op, .bool now, .int .i64 fl, .slice pv vs.length cv, .slice pa al.length ca, .string (S dt)] 41) = w0 := ⟨_, rfl⟩
 obtain ⟨w1, hw1⟩ : ∃ w1, w0.alloc (.cells #[.int .i64 0, .bool false, .int .i64 0, .slice none 0 0, .slice none 0 0, .string (S [])] 41) = w1 := ⟨_, rfl⟩
 have b0 : Below w.heap.size w w0 := by rw [← hw0]; exact (Below.refl _ _).alloc (Nat.le_refl _) _
 have b1 : Below w0.heap.size w0 w1 := by rw [← hw1]; exact (Below.refl _ _).alloc (Nat.le_refl _) _
 have k0 : Blk w0 w.heap.size #[.int .i64 op, .bool now, .int .i64 fl, .slice pv vs.length cv, .slice pa al.length ca, .string (S dt)] 41 := by rw [← hw0]; exact Blk.new w _ _
 have k1 : Blk w1 w0.heap.size #[.int .i64 0, .bool false, .int .i64 0, .slice none 0 0, .slice none 0 0, .string (S [])] 41 := by rw [← hw1]; exact Blk.new w0 _ _
 have b := below_then b0 b1
 have j0 := k0.later b1
 have hS1 := InB.begin h b k1 b0.size
 have hn0 : ¬ m0.H lb w.heap.size := fun hh => by have := (h.ge _ hh).2; omega
 obtain ⟨pb, hpb⟩ : ∃ pb, w.heap.size = pb := ⟨_, rfl⟩
 obtain ⟨rb, hrb⟩ : ∃ rb, w0.heap.size = rb := ⟨_, rfl⟩
 rw [hpb] at j0 hn0
 rw [hrb] at hS1
 have hne : pb ≠ rb := by have := k0.lt; omega
 obtain ⟨Q, hQ⟩ : ∃ Q, takeQ c d q P = Q := ⟨_, rfl⟩
 rw [hQ]
 unfold takeQ at hQ
 have hop : P.h.op = op := by rw [← hP]
 rw [hop] at hQ
 have hpV : pduV P (.slice pv vs.length cv) (.slice pa al.length ca) = .agg #[.int .i64 op, .bool now, .int .i64 fl, .slice pv vs.length cv, .slice pa al.length ca, .string (S dt)] := by rw [← hP]; rfl
 rw [hpV] at RP FA JU WR ⊢
 have q21 := (pcells hS1.log.blk).q21
 have q22 := (pcells hS1.log.blk).q22
 obtain ⟨don, hdon⟩ : ∃ b, q.don = b := ⟨_, rfl⟩
 obtain ⟨fld, hfld⟩ : ∃ b, q.fld = b := ⟨_, rfl⟩
 rw [hdon] at q21
 rw [hfld] at q22
 have Hdon := Lib.hid hdon
 have Hfld := Lib.hid hfld
 have HQ := Lib.hid hQ
 have RP := Lib.hid RP
 have FA := Lib.hid FA
 have JU := Lib.hid JU
 have WR := Lib.hid WR
 have HS1 := Lib.hid hS1
 have J0 := Lib.hid j0
 have Hb1 := Lib.hid b
 have Hn0 := Lib.hid hn0
 have Hne := Lib.hid hne
 have HC := Lib.hid hc
 have HQk := Lib.hid hQk
 have HX := Lib.hid hxv
 have HD := Lib.hid hd
 have Hop := Lib.hid hop
 have HpV := Lib.hid hpV
 clear h hp hE hf hc hM hQk hd b0 b1 k0 k1 b j0 hS1 hn0 hne hQ hxv hvl hdl hop hP hdon hfld hpV
 cases don
 case true =>
  obtain ⟨r0, r1, r2, r3, r4, r5⟩ := HS1.out.rbk.six
  have f0 := HS1.out.rbk.frozen 0
  have f1 := HS1.out.rbk.frozen 1
  have f2 := HS1.out.rbk.frozen 2
  have f3 := HS1.out.rbk.frozen 3
  have f4 := HS1.out.rbk.frozen 4
  have f5 := HS1.out.rbk.frozen 5
  obtain ⟨wz, hwz⟩ : ∃ wz, (((((w1.setCell ⟨rb, 0, none⟩ (.int .i64 0)).setCell ⟨rb, 1, none⟩ (.bool false)).setCell ⟨rb, 2, none⟩ (.int .i64 0)).setCell ⟨rb, 3, none⟩ (.slice none 0 0)).setCell ⟨rb, 4, none⟩ (.slice none 0 0)).setCell ⟨rb, 5, none⟩ (.string (S [])) = wz := ⟨_, rfl⟩
  have hBz : Blk wz rb #[.int .i64 0, .bool false, .int .i64 0, .slice none 0 0, .slice none 0 0, .string (S [])] 41 := by rw [← hwz]; exact ((((((HS1.out.rbk.set 0 (.int .i64 0)).set 1 (.bool false)).set 2 (.int .i64 0)).set 3 (.slice none 0 0)).set 4 (.slice none 0 0)).set 5 (.string (S [])))
  have hKz : Keeps w1.heap.size w1 wz (fun k => k = rb) (fun k => k = rb) := by rw [← hwz]; exact (((((((Keeps.refl _ w1 (fun k => k = rb)).putC rfl 0 _).putC rfl 1 _).putC rfl 2 _).putC rfl 3 _).putC rfl 4 _).putC rfl 5 _)
  have hSz := HS1.out.laid hKz hBz
  obtain ⟨s0, s1, s2, s3, s4, s5⟩ := hBz.six
  go_enter Tryz.func12, Tryz.ntmps12
  go_wp2_with fail
  refine bodyPost_ret (v := .tuple #[.agg #[.int .i64 0, .bool false, .int .i64 0, .slice none 0 0, .slice none 0 0, .string (S [])], .iface 56 (.int .i64 6)]) (by simp [results, Tryz.results12, go_sem, s0, s1, s2, s3, s4, s5]) rfl ?_
  have hq := HQ.out
  rw [if_pos (Or.inl Hdon.out)] at hq
  subst hq
  exact ⟨m0, _, _, _, rfl, pdu0_at _, .bare 6 (by decide), hSz.log, hSz.keep, hSz.same, own_nil _, rfl, rfl⟩
 case false =>
  cases fld
  case true =>
   obtain ⟨r0, r1, r2, r3, r4, r5⟩ := HS1.out.rbk.six
   have f0 := HS1.out.rbk.frozen 0
   have f1 := HS1.out.rbk.frozen 1
   have f2 := HS1.out.rbk.frozen 2
   have f3 := HS1.out.rbk.frozen 3
   have f4 := HS1.out.rbk.frozen 4
   have f5 := HS1.out.rbk.frozen 5
   obtain ⟨wz, hwz⟩ : ∃ wz, (((((w1.setCell ⟨rb, 0, none⟩ (.int .i64 0)).setCell ⟨rb, 1, none⟩ (.bool false)).setCell ⟨rb, 2, none⟩ (.int .i64 0)).setCell ⟨rb, 3, none⟩ (.slice none 0 0)).setCell ⟨rb, 4, none⟩ (.slice none 0 0)).setCell ⟨rb, 5, none⟩ (.string (S [])) = wz := ⟨_, rfl⟩
   have hBz : Blk wz rb #[.int .i64 0, .bool false, .int .i64 0, .slice none 0 0, .slice none 0 0, .string (S [])] 41 := by rw [← hwz]; exact ((((((HS1.out.rbk.set 0 (.int .i64 0)).set 1 (.bool false)).set 2 (.int .i64 0)).set 3 (.slice none 0 0)).set 4 (.slice none 0 0)).set 5 (.string (S [])))
   have hKz : Keeps w1.heap.size w1 wz (fun k => k = rb) (fun k => k = rb) := by rw [← hwz]; exact (((((((Keeps.refl _ w1 (fun k => k = rb)).putC rfl 0 _).putC rfl 1 _).putC rfl 2 _).putC rfl 3 _).putC rfl 4 _).putC rfl 5 _)
   have hSz := HS1.out.laid hKz hBz
   obtain ⟨s0, s1, s2, s3, s4, s5⟩ := hBz.six
   go_enter Tryz.func12, Tryz.ntmps12
   go_wp2_with fail
   refine bodyPost_ret (v := .tuple #[.agg #[.int .i64 0, .bool false, .int .i64 0, .slice none 0 0, .slice none 0 0, .string (S [])], .iface 56 (.int .i64 6)]) (by simp [results, Tryz.results12, go_sem, s0, s1, s2, s3, s4, s5]) rfl ?_
   have hq := HQ.out
   rw [if_pos (Or.inr Hfld.out)] at hq
   subst hq
   exact ⟨m0, _, _, _, rfl, pdu0_at _, .bare 6 (by decide), hSz.log, hSz.keep, hSz.same, own_nil _, rfl, rfl⟩
  case false =>
   have hq := HQ.out
   rw [if_neg (by rw [Hdon.out, Hfld.out]; simp)] at hq
   obtain ⟨i0, i1, i2, i3, i4, i5⟩ := J0.out.six
   by_cases hop : op = 3
   case neg =>
    rw [if_pos hop] at hq
    obtain ⟨r0, r1, r2, r3, r4, r5⟩ := HS1.out.rbk.six
    have f0 := HS1.out.rbk.frozen 0
    have f1 := HS1.out.rbk.frozen 1
    have f2 := HS1.out.rbk.frozen 2
    have f3 := HS1.out.rbk.frozen 3
    have f4 := HS1.out.rbk.frozen 4
    have f5 := HS1.out.rbk.frozen 5
    obtain ⟨wz, hwz⟩ : ∃ wz, (((((w1.setCell ⟨rb, 0, none⟩ (.int .i64 0)).setCell ⟨rb, 1, none⟩ (.bool false)).setCell ⟨rb, 2, none⟩ (.int .i64 0)).setCell ⟨rb, 3, none⟩ (.slice none 0 0)).setCell ⟨rb, 4, none⟩ (.slice none 0 0)).setCell ⟨rb, 5, none⟩ (.string (S [])) = wz := ⟨_, rfl⟩
    have hBz : Blk wz rb #[.int .i64 0, .bool false, .int .i64 0, .slice none 0 0, .slice none 0 0, .string (S [])] 41 := by rw [← hwz]; exact ((((((HS1.out.rbk.set 0 (.int .i64 0)).set 1 (.bool false)).set 2 (.int .i64 0)).set 3 (.slice none 0 0)).set 4 (.slice none 0 0)).set 5 (.string (S [])))
    have hKz : Keeps w1.heap.size w1 wz (fun k => k = rb) (fun k => k = rb) := by rw [← hwz]; exact (((((((Keeps.refl _ w1 (fun k => k = rb)).putC rfl 0 _).putC rfl 1 _).putC rfl 2 _).putC rfl 3 _).putC rfl 4 _).putC rfl 5 _)
    have hSz := HS1.out.laid hKz hBz
    obtain ⟨s0, s1, s2, s3, s4, s5⟩ := hBz.six
    go_enter Tryz.func12, Tryz.ntmps12
    go_wp2_with fail
    refine bodyPost_ret (v := .tuple #[.agg #[.int .i64 0, .bool false, .int .i64 0, .slice none 0 0, .slice none 0 0, .string (S [])], .iface 56 (.int .i64 1)]) (by simp [results, Tryz.results12, go_sem, s0, s1, s2, s3, s4, s5]) rfl ?_
    subst hq
    exact ⟨m0, _, _, _, rfl, pdu0_at _, .bare 1 (by decide), hSz.log, hSz.keep, hSz.same, own_nil _, rfl, rfl⟩
   rw [if_neg (fun h => h hop)] at hq
   have HQ2 := Lib.hid hq
   clear hq HQ
   subst hop
   have RP1 := RP.out _ Hb1.out
   go_enter Tryz.func12, Tryz.ntmps12
   go_wp2_with fail
   clear hw0 hw1
   refine RP1.mono ?_
   rintro e w2 ⟨ev, rfl, herr, hb2⟩
   have HS2 := Lib.hid (HS1.out.later hb2)
   have J2 := Lib.hid (J0.out.later hb2)
   have Hb2 := Lib.hid (below_then Hb1.out hb2)
   clear hb2 HS1 J0 Hb1 RP1 RP i0 i1 i2 i3 i4 i5
   obtain ⟨i0, i1, i2, i3, i4, i5⟩ := J2.out.six
   by_cases hn : rightP P = 0
   case neg =>
    have hq := HQ2.out
    rw [if_pos hn] at hq
    obtain ⟨ty, xv, rfl⟩ := herr.iface hn
    obtain ⟨r0, r1, r2, r3, r4, r5⟩ := HS2.out.rbk.six
    have f0 := HS2.out.rbk.frozen 0
    have f1 := HS2.out.rbk.frozen 1
    have f2 := HS2.out.rbk.frozen 2
    have f3 := HS2.out.rbk.frozen 3
    have f4 := HS2.out.rbk.frozen 4
    have f5 := HS2.out.rbk.frozen 5
    obtain ⟨wz, hwz⟩ : ∃ wz, (((((w2.setCell ⟨rb, 0, none⟩ (.int .i64 0)).setCell ⟨rb, 1, none⟩ (.bool false)).setCell ⟨rb, 2, none⟩ (.int .i64 0)).setCell ⟨rb, 3, none⟩ (.slice none 0 0)).setCell ⟨rb, 4, none⟩ (.slice none 0 0)).setCell ⟨rb, 5, none⟩ (.string (S [])) = wz := ⟨_, rfl⟩
    have hBz : Blk wz rb #[.int .i64 0, .bool false, .int .i64 0, .slice none 0 0, .slice none 0 0, .string (S [])] 41 := by rw [← hwz]; exact ((((((HS2.out.rbk.set 0 (.int .i64 0)).set 1 (.bool false)).set 2 (.int .i64 0)).set 3 (.slice none 0 0)).set 4 (.slice none 0 0)).set 5 (.string (S [])))
    have hKz : Keeps w2.heap.size w2 wz (fun k => k = rb) (fun k => k = rb) := by rw [← hwz]; exact (((((((Keeps.refl _ w2 (fun k => k = rb)).putC rfl 0 _).putC rfl 1 _).putC rfl 2 _).putC rfl 3 _).putC rfl 4 _).putC rfl 5 _)
    have hSz := HS2.out.laid hKz hBz
    obtain ⟨s0, s1, s2, s3, s4, s5⟩ := hBz.six
    have Herr := Lib.hid (herr.apart6 HS2.out.rbk hKz)
    clear herr
    go_wp2_with fail
    refine bodyPost_ret (v := .tuple #[.agg #[.int .i64 0, .bool false, .int .i64 0, .slice none 0 0, .slice none 0 0, .string (S [])], .iface ty xv]) (by simp [results, Tryz.results12, go_sem, s0, s1, s2, s3, s4, s5]) rfl ?_
    subst hq
    exact ⟨m0, _, _, _, rfl, pdu0_at _, Herr.out, hSz.log, hSz.keep, hSz.same, own_nil _, rfl, rfl⟩
   have hq := HQ2.out
   rw [if_neg (fun h => h hn)] at hq
   simp only at hq herr
   rw [hn] at herr
   obtain rfl := herr.zero
   have HQ3 := Lib.hid hq
   have HRP := Lib.hid hn
   clear hq HQ2 hn herr
   have F3 := FA.out _ Hb2.out
   obtain ⟨cn, hcn⟩ : ∃ n, hv P.h nCmd = n := ⟨_, rfl⟩
   have hq := HQ3.out
   rw [hcn] at F3 hq
   have HQ3 := Lib.hid hq
   clear hq hcn
   unfold nCmd at F3
   go_wp2_with fail
   refine F3.mono ?_
   rintro e w3 ⟨rfl, hb3⟩
   have HS3 := Lib.hid (HS2.out.later hb3)
   have J3 := Lib.hid (J2.out.later hb3)
   have Hb3 := Lib.hid (below_then Hb2.out hb3)
   obtain ⟨q1, hq1⟩ : ∃ q1, ({ q with cmd := u32 cn } : Lq) = q1 := ⟨_, rfl⟩
   obtain ⟨cm, hcm0⟩ : ∃ cm, (cn : Int) % 4294967296 = cm := ⟨_, rfl⟩
   have hcm : u32 cn = cm := by unfold u32; omega
   obtain ⟨w4, hw4⟩ : ∃ w4, w3.setCell ⟨lb, 12, none⟩ (.int .u32 cm) = w4 := ⟨_, rfl⟩
   have hK3 : Keeps w3.heap.size w3 w4 (fun k => k = lb) (fun k => k = lb) := by rw [← hw4]; exact (Keeps.refl _ w3 (fun k => k = lb)).putC rfl 12 _
   have hB4 := HS3.out.log.blk.set 12 (.int .u32 cm)
   rw [hw4, ← hcm] at hB4
   obtain ⟨hL4, hK4⟩ := HS3.out.log.turn (q' := { q with cmd := u32 cn }) hK3 hB4 rfl rfl rfl ⟨rfl, rfl, rfl⟩
   have hS4 := HS3.out.step hL4 hK4 ⟨rfl, rfl, rfl, rfl⟩
   have hQ1 : QOk c ({ q with cmd := u32 cn } : Lq) := by
    have H := HQk.out
    exact ⟨H.mine, H.recd, H.came, H.stg, H.sta, by unfold u32; simp only; omega, H.wN, H.new, H.isd⟩
   have hm1 : q1.mine = q.mine := by rw [← hq1]
   rw [hq1] at hS4 hQ1
   have hq := HQ3.out
   rw [hq1] at hq
   have c12 := (pcells HS3.out.log.blk).q12
   have fz12 := HS3.out.log.blk.frozen 12
   have J4 : Hid (Blk w4 pb #[.int .i64 3, .bool now, .int .i64 fl, .slice pv vs.length cv, .slice pa al.length ca, .string (S dt)] 41) := Lib.hid ((hK3.block pb J3.out.lt (fun e => Hn0.out (by rw [e]; exact .lb))).trans J3.out)
   have HS4 := Lib.hid hS4
   have HQ1 := Lib.hid hQ1
   have HQ4 := Lib.hid hq
   have hR := rightP_is HRP.out
   have HrR := Lib.hid hR.h
   have Hfl := Lib.hid (fl_range HRP.out)
   clear hb3 hK3 hB4 hL4 hK4 hS4 hQ1 hq hR HQ3 HS2 J2 Hb2 i0 i1 i2 i3 i4 i5 hq1 F3 HRP hcm
   obtain ⟨i0, i1, i2, i3, i4, i5⟩ := J3.out.six
   go_wp2_with fail
   clear hw4 hcm0 i0 i1 i2 i3 i4 i5 c12 fz12
   refine wp_region_held (S := (fun w' => w'.cell? ⟨pb, 0, none⟩ = some (.int .i64 3) ∧ w'.cell? ⟨pb, 1, none⟩ = some (.bool now) ∧ w'.cell? ⟨pb, 2, none⟩ = some (.int .i64 fl) ∧ w'.cell? ⟨pb, 3, none⟩ = some (.slice pv vs.length cv) ∧ w'.cell? ⟨pb, 4, none⟩ = some (.slice pa al.length ca) ∧ w'.cell? ⟨pb, 5, none⟩ = some (.string (S dt)))) (by kernel_rfl) ?_
   have e5 : Below w4.heap.size w4 { w4 with drawn := w4.drawn + 1 } := (Below.refl _ _).drew
   generalize ({ w4 with drawn := w4.drawn + 1 } : World) = w5 at e5 ⊢
   have hS5 := HS4.out.later e5
   have hJ5 := J4.out.later e5
   have hS := hJ5.six
   refine takeN (.pointer (some ⟨lb, 0, none⟩)) (some 37) (i := 0) rfl rfl (by kernel_rfl) (by kernel_rfl) (by kernel_rfl) (fun _ _ _ h => h) (Or.inl ⟨by rfl, fun w' hw' => ?_⟩) hS ?_
   ·obtain ⟨x0, x1, x2, x3, x4, x5⟩ := hw'
    go_simp
   simp only [Act.put, iA, iB, iC]
   refine takeN (.agg #[.int .i64 3, .bool now, .int .i64 fl, .slice pv vs.length cv, .slice pa al.length ca, .string (S dt)]) (some 38) (i := 1) rfl rfl (by kernel_rfl) (by kernel_rfl) (by kernel_rfl) (fun _ _ _ h => h) (Or.inl ⟨by rfl, fun w' hw' => ?_⟩) hS ?_
   ·obtain ⟨x0, x1, x2, x3, x4, x5⟩ := hw'
    go_simp
   simp only [Act.put, iA, iB, iC]
   refine takeN (.pointer (some ⟨lb, 0, none⟩)) (some 39) (i := 2) rfl rfl (by kernel_rfl) (by kernel_rfl) (by kernel_rfl) (fun _ _ _ h => h) (Or.inl ⟨by rfl, fun w' hw' => ?_⟩) hS ?_
   ·obtain ⟨x0, x1, x2, x3, x4, x5⟩ := hw'
    go_simp
   simp only [Act.put, iA, iB, iC]
   refine takeN (.agg #[.int .i64 3, .bool now, .int .i64 fl, .slice pv vs.length cv, .slice pa al.length ca, .string (S dt)]) (some 40) (i := 3) rfl rfl (by kernel_rfl) (by kernel_rfl) (by kernel_rfl) (fun _ _ _ h => h) (Or.inl ⟨by rfl, fun w' hw' => ?_⟩) hS ?_
   ·obtain ⟨x0, x1, x2, x3, x4, x5⟩ := hw'
    go_simp
   simp only [Act.put, iA, iB, iC]
   refine wpAnyH_all (rs := [4]) (by kernel_rfl) (by simp) (fun i hi => ?_)
   obtain rfl : i = 4 := by simpa using hi
   refine wantN (i := 4) rfl (by rfl) (callN (f := 60) (some 41) rfl Tryz.func60 (by kernel_rfl) (by kernel_rfl) rfl rfl ?_)
   simp only [List.map_toArray, List.map_cons, List.map_nil]
   refine (JU.out w5 m0 q1 hS5.log hS5.keep HQ1.out Hfl.out).mono ?_
   rintro e w6 ⟨m, v, rfl, hv, hL, hK, hsame⟩
   have hq := HQ4.out
   have hfit := judge_fit (c := c) (d := d) (p := P) (q := q1) HC.out HD.out
   have hQ2 := judge_ok (d := d) HC.out HX.out HQ1.out
   obtain ⟨⟨l, f, cl, det⟩, q2, hju⟩ : ∃ a q2, judgeQ c d P q1 = (a, q2) := ⟨_, _, rfl⟩
   rw [hju] at hv hL hsame hq hfit hQ2
   simp only at hv hL hsame hq hfit hQ2
   have hS6 := hS5.step hL hK hsame
   have hSS : Blk w6 pb #[.int .i64 3, .bool now, .int .i64 fl, .slice pv vs.length cv, .slice pa al.length ca, .string (S dt)] 41 := (hK.block pb hJ5.lt Hn0.out).trans hJ5
   have hS' := hSS.six
   rw [hju]
   simp only
   refine ⟨_, rfl, hS', ?_⟩
   try dsimp only
   simp only [Act.put, iA, iB, iC]
   refine wpAnyH_all (rs := [5]) (by kernel_rfl) (by simp) (fun i hi => ?_)
   obtain rfl : i = 5 := by simpa using hi
   refine wantN (i := 5) rfl (by rfl) (callN (f := 59) (some 42) rfl Tryz.func59 (by kernel_rfl) (by kernel_rfl) rfl rfl ?_)
   simp only [List.map_toArray, List.map_cons, List.map_nil]
   refine (WR.out w6 m q2 v l f cl det hS6.log hS6.keep hQ2 Hfl.out Hop.out HrR.out hv.off.prs hfit.1 hfit.2.1 hfit.2.2.1 (by have := hfit.2.2.2; omega)).mono ?_
   rintro e w7 ⟨vv', rfl, hvals, hown, hL7, hK7⟩
   obtain ⟨wp, q3, hwr⟩ : ∃ wp q3, writeQ P (l, f, cl, det) q2 = (wp, q3) := ⟨_, _, rfl⟩
   have hwa : wp.a = [] := by have := congrArg (fun x => x.1.a) hwr; exact this.symm
   have hwm : q3.mine = q2.mine := by have := congrArg (fun x => x.2.mine) hwr; exact this.symm
   rw [hwr] at hvals hL7 hq
   simp only at hvals hL7 hq
   rw [hwr]
   obtain ⟨ph, ch, rfl⟩ : ∃ p c, vv' = .slice p wp.h.vs.length c := by obtain ⟨p, c, h, _⟩ := hvals; exact ⟨p, c, h⟩
   have hS7 := hS6.step hL7 hK7 ⟨rfl, rfl, rfl, hwm⟩
   have hJ7 : Blk w7 pb #[.int .i64 3, .bool now, .int .i64 fl, .slice pv vs.length cv, .slice pa al.length ca, .string (S dt)] 41 := (hK7.block pb hSS.lt (fun hh => by
    rcases hK.old pb hh with h1 | h1
    ·exact Hn0.out h1
    ·have := hJ5.lt; omega)).trans hSS
   have hS'' := hJ7.six
   refine ⟨_, rfl, hS'', ?_⟩
   try dsimp only
   simp only [Act.put, iA, iB, iC]
   have hB8 := hS7.rbk.whole (D := #[.int .i64 wp.h.op, .bool wp.h.now, .int .i64 wp.h.fl, .slice ph wp.h.vs.length ch, .slice none 0 0, .string (S wp.d)]) rfl
   have hK8 := Keeps.cells w7 rb (#[.int .i64 wp.h.op, .bool wp.h.now, .int .i64 wp.h.fl, .slice ph wp.h.vs.length ch, .slice none 0 0, .string (S wp.d)] : Array Value).toList 0
   have hg8 := setCells_grownB rb (#[.int .i64 wp.h.op, .bool wp.h.now, .int .i64 wp.h.fl, .slice ph wp.h.vs.length ch, .slice none 0 0, .string (S wp.d)] : Array Value).toList 0 w7
   have hSR := hS7.rbk.there
   obtain ⟨w8, hw8⟩ : ∃ w8, w7.setCells rb 0 (#[.int .i64 wp.h.op, .bool wp.h.now, .int .i64 wp.h.fl, .slice ph wp.h.vs.length ch, .slice none 0 0, .string (S wp.d)] : Array Value).toList = w8 := ⟨_, rfl⟩
   rw [hw8] at hB8 hK8 hg8
   have hS8 := hS7.laid hK8 hB8
   have hJ8 : Blk w8 pb #[.int .i64 3, .bool now, .int .i64 fl, .slice pv vs.length cv, .slice pa al.length ca, .string (S dt)] 41 := (hK8.block pb hJ7.lt Hne.out).trans hJ7
   have hSU := hJ8.six
   have hv8 := hvals.laid hown hS6.rbk.lt hg8
   have hv8m := hv8.offO (H := m.H lb) hown (fun k hh => (hS6.log.ge k hh).2)
   refine wpAnyH_all (rs := [6]) (by kernel_rfl) (by simp) (fun i hi => ?_)
   obtain rfl : i = 6 := by simpa using hi
   refine wantN (i := 6) rfl (by rfl) (storeN none rfl _ _ _ rfl rb 0 #[.int .i64 wp.h.op, .bool wp.h.now, .int .i64 wp.h.fl, .slice ph wp.h.vs.length ch, .slice none 0 0, .string (S wp.d)] rfl rfl hSR (by kernel_rfl) (by simp [Value.oneCell']) ?_)
   rw [hw8]
   refine ⟨hSU, ?_⟩
   simp only [Act.put]
   refine takeN (.nilIface) (some 5) (i := 7) rfl rfl (by kernel_rfl) (by kernel_rfl) (by kernel_rfl) (fun _ _ _ h => h) (Or.inl ⟨by rfl, fun w' hw' => ?_⟩) hSU ?_
   ·obtain ⟨x0, x1, x2, x3, x4, x5⟩ := hw'
    go_simp
   simp only [Act.put, iA, iB, iC]
   refine wpAnyH_done (by kernel_rfl) ?_ _
   obtain ⟨s0, s1, s2, s3, s4, s5⟩ := hB8.six
   go_wp2_with fail
   refine bodyPost_ret (v := .tuple #[.agg #[.int .i64 wp.h.op, .bool wp.h.now, .int .i64 wp.h.fl, .slice ph wp.h.vs.length ch, .slice none 0 0, .string (S wp.d)], .nilIface]) (by simp [results, Tryz.results12, go_sem, s0, s1, s2, s3, s4, s5]) rfl ?_
   subst hq
   have hs8 := hS8.same
   exact ⟨m, _, _, _, rfl, ⟨hv8m, by rw [hwa]; exact AhsV.nil _⟩, .good, hS8.log, hS8.keep, hs8, fun k hk => Nat.le_trans hS6.keep.size (hown k hk), hwa, rfl⟩
theorem loginTake_any (p : Pd) (vv va : Value) (h : LogIn w B lb m0 c d q) (hp : PduAt (offW (m0.H lb) w) p vv va) (hE : EnvL (offW (m0.H lb) w)) (hf : FitP p) (hc : CfOk c) (hM : MineOk c.own) (hQk : QOk c q) (hd : 0 ≤ d.id ∧ d.id ≤ 255 ∧ d.ch.length ≤ 100) :
  Calls Tryz.prog 12 #[.pointer (some ⟨lb, 0, none⟩), pduV p vv va] w (RetLTake w B lb m0 c d q (takeQ c d q p)) := by
 refine (loginTake_own p vv va h hp hE hf hc hM hQk hd).mono ?_
 rintro e w' ⟨m, vv', va', ev, h1, h2, h3, h4, h5, h6, -⟩
 exact ⟨m, vv', va', ev, h1, h2, h3, h4, h5, h6⟩
end
end Go.Proofs.YtjbbbpgcegcbaaaGreatDoor
namespace Go.Proofs.YtjbbbpgcegcbaaaGreatDoor
open Go.RowKit Go.Maps
set_option linter.unusedVariables false
set_option maxRecDepth 100000 in
set_option maxHeartbeats 4000000 in
theorem wrongT_any (l : List (List UInt8)) (v : Value) (w : World) (hv : StrV w v l) (hl : l.length ≤ 1000) (hs : ∀ s ∈ l, s.length ≤ 140737488355328) :
  Calls Tryz.prog 104 #[v] w (RetE w (tsBad 0 [] l)) := by
 have HV := Lib.hid hv
 have HS := Lib.hid hs
 obtain ⟨p, c, rfl⟩ := hv.form
 obtain ⟨mb, hmb⟩ : ∃ mb, w.heap.size = mb := ⟨_, rfl⟩
 have hM := BMap.made 9 w
 have hA := (Below.refl w.heap.size w).alloc (Nat.le_refl _) (.map #[] 0)
 obtain ⟨w1, hw1⟩ : ∃ w1, w.alloc (.map #[] 0) = w1 := ⟨_, rfl⟩
 rw [hw1, hmb] at hM
 rw [hw1] at hA
 have HM := Lib.hid (hM.as (g := keyIn (l.take 0)) (fun x => ⟨fun h => h.elim, fun ⟨y, hy, _⟩ => absurd hy List.not_mem_nil⟩))
 have HA := Lib.hid hA
 have Hmb := Lib.hid hmb
 obtain ⟨R, hR⟩ : ∃ R, tsBad 0 [] l = R := ⟨_, rfl⟩
 rw [hR]
 have HR := Lib.hid hR
 have hmm := @run_makeMap Tryz.prog
 clear hv hs hM hA hR
 go_enter Tryz.func104, Tryz.ntmps104
 go_wp2_with fail
 clear hmm
 go_loopw [9] (fun i wr => ∃ j : Nat, j ≤ l.length ∧ i = .int .i64 j ∧ Hid (BMap 9 wr mb j (keyIn (l.take j))) ∧ Hid (tsBad j (l.take j) (l.drop j) = R) ∧ Below w.heap.size w wr) (fun i _ => l.length - (intOf i).toNat)
 case atStart => exact ⟨0, by omega, rfl, HM, Lib.hid HR.out, HA.out⟩
 case round =>
  obtain ⟨j, hj, rfl, Hm, Hr, hb⟩ := hrel
  by_cases hlt : j < l.length
  ·obtain ⟨b, o, rfl, q0⟩ := (HV.out.later hb).cell hlt
   have hstep := Hr.out
   rw [List.drop_eq_getElem_cons hlt, tsBad_cons] at hstep
   have hfl := HS.out l[j] (List.getElem_mem hlt)
   have hcat : l.take (j + 1) = l.take j ++ [l[j]] := by rw [List.take_add_one, List.getElem?_eq_getElem hlt]; rfl
   obtain ⟨a, ha⟩ : ∃ a, l[j] = a := ⟨_, rfl⟩
   rw [ha] at q0 hstep hfl hcat
   have EN := Lib.hid (enter_any a mb j (keyIn (l.take j)) wr Hm.out (by omega) hfl)
   have hji : (j : Int) < (l.length : Int) := by omega
   have Hb := Lib.hid hb
   have Hst := Lib.hid hstep
   have Hcat := Lib.hid hcat
   clear hb ha Hm Hr hstep hcat
   go_wp2_with fail
   refine EN.out.mono ?_
   rintro e w2 (⟨hno, rfl, hm2, hg2⟩ | ⟨hyes, rfl, rfl⟩)
   ·have hstep := Hst.out
    rw [if_neg (by rintro (h | h); exact hno (.inl h); exact hno (.inr (keyIn_iff.2 h))), ← Hcat.out] at hstep
    have HM2 := Lib.hid (show BMap 9 w2 mb (j + 1) (keyIn (l.take (j + 1))) by rw [Hcat.out]; exact hm2.as (fun x => keyIn_snoc x))
    have Hb2 := Lib.hid (Below.grownB Hb.out hg2 (by have := Hmb.out; omega) Hb.out.size)
    have Hs2 := Lib.hid hstep
    clear hm2 hg2 hno hstep
    go_wp2_with fail
    go_roundw
    case rel => exact ⟨j + 1, by omega, by go_num, HM2, Hs2, Hb2.out⟩
    case measure => simp [intOf]; omega
   ·have hstep := Hst.out
    rw [if_pos (by rcases hyes with h | h; exact .inl h; exact .inr (keyIn_iff.1 h))] at hstep
    subst hstep
    clear hyes
    go_wp2_with fail
    go_ret
    exact ⟨_, rfl, .placed _ 5 j (by decide) (by simp) (by simp), Hb.out.alloc Hb.out.size _⟩
  ·obtain rfl : j = l.length := by omega
   have hstep := Hr.out
   rw [List.drop_length] at hstep
   subst hstep
   have Hb := Lib.hid hb
   clear hb Hr Hm
   go_wp2_with fail
   go_ret
   exact ⟨_, rfl, .good, Hb.out⟩
set_option maxRecDepth 100000 in
set_option maxHeartbeats 4000000 in
theorem wrongP_any (l : List Po) (v : Value) (w : World) (hv : PosV w v l) (hf : fitPo l) :
  Calls Tryz.prog 105 #[v] w (RetE w (poBad 0 l)) := by
 have HV := Lib.hid hv
 have Hf := Lib.hid hf
 have hl := hf.1
 obtain ⟨p, c, rfl⟩ := hv.form
 obtain ⟨R, hR⟩ : ∃ R, poBad 0 l = R := ⟨_, rfl⟩
 rw [hR]
 have HR := Lib.hid hR
 clear hv hf hR
 go_enter Tryz.func105, Tryz.ntmps105
 go_wp2_with fail
 go_loopw [7] (fun i wr => ∃ j : Nat, j ≤ l.length ∧ i = .int .i64 j ∧ Hid (poBad j (l.drop j) = R) ∧ Below w.heap.size w wr) (fun i _ => l.length - (intOf i).toNat)
 case atStart => exact ⟨0, by omega, rfl, Lib.hid HR.out, Below.refl _ _⟩
 case round =>
  obtain ⟨j, hj, rfl, Hr, hb⟩ := hrel
  by_cases hlt : j < l.length
  ·obtain ⟨b, o, rfl, q0, q1⟩ := (HV.out.later hb).cell hlt
   have hstep := Hr.out
   rw [List.drop_eq_getElem_cons hlt, poBad_cons] at hstep
   have hfl := Hf.out.2 l[j] (List.getElem_mem hlt)
   obtain ⟨⟨a, g⟩, ha⟩ : ∃ a, l[j] = a := ⟨_, rfl⟩
   rw [ha] at q0 q1 hstep hfl
   simp only at q0 q1 hstep hfl
   obtain ⟨hf1, hf2, hf3⟩ := hfl
   have NM := Lib.hid (fun W => tnamed_any a W (by omega))
   have Hbl := Lib.hid (Blk.new wr #[.string (S a), .int .i64 g] 136)
   have Hb := Lib.hid (hb.alloc hb.size (.cells #[.string (S a), .int .i64 g] 136))
   have hji : (j : Int) < (l.length : Int) := by omega
   have Hst := Lib.hid hstep
   clear hb ha Hr hstep
   obtain ⟨u0, u1⟩ := Hbl.out.two
   cases hnm : nameOk a with
   | false =>
    rw [hnm] at NM
    have hstep := Hst.out
    rw [if_pos hnm] at hstep
    subst hstep
    go_wp2_with fail
    refine (NM.out _).mono ?_
    rintro e w' ⟨rfl, rfl⟩
    go_wp2_with fail
    go_ret
    exact ⟨_, rfl, .placed _ 5 j (by decide) (by simp) (by simp), Hb.out.alloc Hb.out.size _⟩
   | true =>
    rw [hnm] at NM
    have hstep := Hst.out
    rw [if_neg (by rw [hnm]; decide)] at hstep
    by_cases hg : g < 0 ∨ 65535 < g
    ·rw [if_pos hg] at hstep
     subst hstep
     rcases hg with hg | hg
     case' inr => have hg0 : ¬ g < 0 := by omega
     all_goals
      go_wp2_with fail
      refine (NM.out _).mono ?_
      rintro e w' ⟨rfl, rfl⟩
      go_wp2_with fail
      go_ret
      exact ⟨_, rfl, .placed _ 2 j (by decide) (by simp) (by simp), Hb.out.alloc Hb.out.size _⟩
    ·rw [if_neg hg] at hstep
     have Hs2 := Lib.hid hstep
     have hg0 : ¬ g < 0 := by omega
     have hg1 : ¬ 65535 < g := by omega
     clear hstep hg
     go_wp2_with fail
     refine (NM.out _).mono ?_
     rintro e w' ⟨rfl, rfl⟩
     go_wp2_with fail
     go_roundw
     case rel => exact ⟨j + 1, by omega, by go_num, Hs2, Hb.out⟩
     case measure => simp [intOf]; omega
  ·obtain rfl : j = l.length := by omega
   have hstep := Hr.out
   rw [List.drop_length] at hstep
   subst hstep
   have Hb := Lib.hid hb
   clear hb Hr
   go_wp2_with fail
   go_ret
   exact ⟨_, rfl, .good, Hb.out⟩
set_option maxRecDepth 100000 in
set_option maxHeartbeats 4000000 in
theorem wrongU_any (l : List Us) (v : Value) (w : World) (hv : UsV w v l) (hl : l.length ≤ 1000) (hs : ∀ u ∈ l, u.nm.length ≤ 140737488355328 ∧ u.sc.length ≤ 140737488355328) :
  Calls Tryz.prog 106 #[v] w (RetE w (usBad 0 [] l)) := by
 have HV := Lib.hid hv
 have HS := Lib.hid hs
 obtain ⟨p, c, rfl⟩ := hv.form
 obtain ⟨mb, hmb⟩ : ∃ mb, w.heap.size = mb := ⟨_, rfl⟩
 have hM := BMap.made 9 w
 have hA := (Below.refl w.heap.size w).alloc (Nat.le_refl _) (.map #[] 0)
 obtain ⟨w1, hw1⟩ : ∃ w1, w.alloc (.map #[] 0) = w1 := ⟨_, rfl⟩
 rw [hw1, hmb] at hM
 rw [hw1] at hA
 have HM := Lib.hid (hM.as (g := keyIn ((l.map (·.nm)).take 0)) (fun x => ⟨fun h => h.elim, fun ⟨y, hy, _⟩ => absurd hy List.not_mem_nil⟩))
 have HA := Lib.hid hA
 have Hmb := Lib.hid hmb
 obtain ⟨R, hR⟩ : ∃ R, usBad 0 [] l = R := ⟨_, rfl⟩
 rw [hR]
 have HR := Lib.hid hR
 have hmm := @run_makeMap Tryz.prog
 clear hv hs hM hA hR
 go_enter Tryz.func106, Tryz.ntmps106
 go_wp2_with fail
 clear hmm
 go_loopw [9] (fun i wr => ∃ j : Nat, j ≤ l.length ∧ i = .int .i64 j ∧ Hid (BMap 9 wr mb j (keyIn ((l.map (·.nm)).take j))) ∧ Hid (usBad j ((l.map (·.nm)).take j) (l.drop j) = R) ∧ Below w.heap.size w wr) (fun i _ => l.length - (intOf i).toNat)
 case atStart => exact ⟨0, by omega, rfl, HM, Lib.hid HR.out, HA.out⟩
 case round =>
  obtain ⟨j, hj, rfl, Hm, Hr, hb⟩ := hrel
  by_cases hlt : j < l.length
  ·obtain ⟨b, o, rfl, q0, q1⟩ := (HV.out.later hb).cell hlt
   have hnl : (l.map (·.nm)).length = l.length := List.length_map ..
   have hstep := Hr.out
   rw [List.drop_eq_getElem_cons hlt, usBad_cons] at hstep
   have hfl := HS.out l[j] (List.getElem_mem hlt)
   have hcat : (l.map (·.nm)).take (j + 1) = (l.map (·.nm)).take j ++ [l[j].nm] := by rw [List.take_add_one, List.getElem?_eq_getElem (by rw [hnl]; exact hlt), List.getElem_map]; rfl
   obtain ⟨⟨a, g⟩, ha⟩ : ∃ a, l[j] = a := ⟨_, rfl⟩
   rw [ha] at q0 q1 hstep hfl hcat
   simp only at q0 q1 hstep hfl hcat
   obtain ⟨hf1, hf2⟩ := hfl
   obtain ⟨seen, hseen⟩ : ∃ seen, (l.map (·.nm)).take j = seen := ⟨_, rfl⟩
   rw [hseen] at Hm hstep hcat
   have hA2 := (Below.refl wr.heap.size wr).alloc (Nat.le_refl _) (.cells #[.string (S a), .string (S g)] 26)
   have hK := Blk.new wr #[.string (S a), .string (S g)] 26
   obtain ⟨w2, hw2⟩ : ∃ w2, wr.alloc (.cells #[.string (S a), .string (S g)] 26) = w2 := ⟨_, rfl⟩
   obtain ⟨ub, hub⟩ : ∃ ub, wr.heap.size = ub := ⟨_, rfl⟩
   have hne : ub ≠ mb := fun e => by have := Hm.out.lt; omega
   have EN := enter_any a mb j (keyIn seen) _ (Hm.out.later hA2) (by omega) hf1
   rw [hw2] at hK hA2 EN
   rw [hub] at hK
   have NM := Lib.hid (fun W => tnamed_any g W hf2)
   have EN := Lib.hid EN
   have HK := Lib.hid hK
   have Hne := Lib.hid hne
   have hji : (j : Int) < (l.length : Int) := by omega
   have Hb := Lib.hid (below_then hb hA2)
   have Hst := Lib.hid hstep
   have Hcat := Lib.hid hcat
   obtain ⟨u0, u1⟩ := hK.two
   clear hb ha Hm Hr hstep hcat hA2 hK hne hseen hnl
   go_wp2_with fail
   refine EN.out.mono ?_
   rintro e w3 (⟨hno, rfl, hm3, hg3⟩ | ⟨hyes, rfl, rfl⟩)
   ·have hK3 : Blk w3 ub #[.string (S a), .string (S g)] 26 := HK.out.otherB hg3 Hne.out
    have HM3 := Lib.hid (show BMap 9 w3 mb (j + 1) (keyIn ((l.map (·.nm)).take (j + 1))) by rw [Hcat.out]; exact hm3.as (fun x => keyIn_snoc x))
    have Hb3 := Lib.hid (Below.grownB Hb.out hg3 (by have := Hmb.out; omega) Hb.out.size)
    have Hno := Lib.hid hno
    clear u0 u1 hm3 hg3 hno
    obtain ⟨u0, u1⟩ := hK3.two
    clear hK3
    cases hnm : nameOk g with
    | false =>
     rw [hnm] at NM
     have hstep := Hst.out
     rw [if_pos (.inr (.inr hnm))] at hstep
     subst hstep
     go_wp2_with fail
     refine (NM.out _).mono ?_
     rintro e w' ⟨rfl, rfl⟩
     go_wp2_with fail
     go_ret
     exact ⟨_, rfl, .placed _ 5 j (by decide) (by simp) (by simp), Hb3.out.alloc Hb3.out.size _⟩
    | true =>
     rw [hnm] at NM
     have hstep := Hst.out
     rw [if_neg (by rintro (h | h | h); exact Hno.out (.inr (keyIn_iff.2 h)); exact Hno.out (.inl h); (rw [hnm] at h; cases h)), ← Hcat.out] at hstep
     have Hs3 := Lib.hid hstep
     clear hstep
     go_wp2_with fail
     refine (NM.out _).mono ?_
     rintro e w' ⟨rfl, rfl⟩
     clear u0 u1
     go_wp2_with fail
     go_roundw
     case rel => exact ⟨j + 1, by omega, by go_num, HM3, Hs3, Hb3.out⟩
     case measure => simp [intOf]; omega
   ·have hstep := Hst.out
    rw [if_pos (by rcases hyes with h | h; exact .inr (.inl h); exact .inl (keyIn_iff.1 h))] at hstep
    subst hstep
    clear hyes
    go_wp2_with fail
    go_ret
    exact ⟨_, rfl, .placed _ 5 j (by decide) (by simp) (by simp), Hb.out.alloc Hb.out.size _⟩
  ·obtain rfl : j = l.length := by omega
   have hstep := Hr.out
   rw [List.drop_length] at hstep
   subst hstep
   have Hb := Lib.hid hb
   clear hb Hr Hm
   go_wp2_with fail
   go_ret
   exact ⟨_, rfl, .good, Hb.out⟩
end Go.Proofs.YtjbbbpgcegcbaaaGreatDoor
namespace Go.Proofs.YtjbbbpgcegcbaaaGreatDoor
open Go.RowKit Go.ChangeShapes Go.WideShapes Go.Deep
def WideU (l : List Us) : Prop := fitUs l ∧ l.length * 32 ≤ 140737488351232
end Go.Proofs.YtjbbbpgcegcbaaaGreatDoor
namespace Go.Proofs.YtjbbbpgcegcbaaaGreatDoor
open Go.RowKit Go.ChangeShapes Go.WideShapes Go.Deep
set_option linter.unusedVariables false
def fitS (l : List (List UInt8)) : Prop := l.length ≤ 140737488355328 ∧ ∀ s ∈ l, s.length ≤ 140737488351232
structure FitCf (c : Cf) : Prop where
 ts : fitS c.ts
 ps : fitPo c.ps
 us : WideU c.us
 sn : c.sn.length ≤ 140737488351232
 ss : c.ss.length ≤ 140737488351232
 lim : -9223372036854775808 ≤ c.lim ∧ c.lim ≤ 9223372036854775807
 own : WideP c.own
 tb : c.ts.length * 16 ≤ 140737488351232
end Go.Proofs.YtjbbbpgcegcbaaaGreatDoor
