/- FeedSpoilt: where data are spoilt it goes on: its head comes alone, and then what is behind it. -/
import Derived.Test.YtlkikkfbennmnaaGreatDoorFeedTwo
import Derived.Test.YtlkikkfbennmnaaGreatDoorSpoiltMath
import Derived.Test.YtlkikkfbennmnaaGreatDoorWrapped
import Derived.Test.YtlkikkfbennmnaaGreatDoorGE
import Derived.Test.YtlkikkfbennmnaaGreatDoorPduFit
import Derived.Deep.RegionHeld3
namespace Go.Proofs.YtlkikkfbennmnaaGreatDoor
open Go.RowKit
set_option linter.unusedVariables false
theorem cells8_at' (l : List UInt8) (i : Nat) (y : UInt8) (h : l[i]? = some y) : (cells8 l)[i]? = some (.int .u8 (y.toNat : Int)) := by simp [cells8, h]
theorem xor_u8 (x y : UInt8) : bits .xor .u8 (x.toNat : Int) (y.toNat : Int) = ((x ^^^ y).toNat : Int) := by
  rw [u8_xor_nat _ _ x.toNat_lt y.toNat_lt, UInt8.toNat_xor]
theorem bytesAt_set {W : World} {b : Nat} {l : List UInt8} (h : BytesAt W b l) (i : Nat) (y : UInt8) (hi : i < l.length) : BytesAt (W.setCell ⟨b, i, none⟩ (.int .u8 (y.toNat : Int))) b (l.set i y) := fun j => by
  have hc := bytesAt_get h i hi
  by_cases hj : j = i
  · subst hj
    exact (World.cell?_setCell_same' W ⟨b, j, none⟩ _ (by rw [hc]; rfl)).trans (cells8_at' _ _ y (List.getElem?_set_self hi)).symm
  · refine (World.cell?_setCell_other W ⟨b, i, none⟩ ⟨b, j, none⟩ _ (fun e => hj (by cases e; rfl))).trans ?_
    rw [h j]
    simp [cells8, List.getElem?_set_ne (Ne.symm hj)]
theorem keepZ {Wz W' w'' : World} {b1 o1 b2 : Nat} {x0 x1 x2 x3 x4 x5 x6 y0 y1 y2 y3 y4 y5 y6 z0 z1 z2 z3 z4 z5 : Value}
    (h : Below Wz.heap.size Wz W' ∧ W'.cell? ⟨b1, o1, none⟩ = some x0 ∧ W'.cell? ⟨b1, o1 + 1, none⟩ = some x1 ∧ W'.cell? ⟨b1, o1 + 2, none⟩ = some x2 ∧ W'.cell? ⟨b1, o1 + 3, none⟩ = some x3 ∧ W'.cell? ⟨b1, o1 + 4, none⟩ = some x4 ∧ W'.cell? ⟨b1, o1 + 5, none⟩ = some x5 ∧ W'.cell? ⟨b1, o1 + 6, none⟩ = some x6 ∧
      W'.cell? ⟨b1, o1 + 7, none⟩ = some y0 ∧ W'.cell? ⟨b1, o1 + 7 + 1, none⟩ = some y1 ∧ W'.cell? ⟨b1, o1 + 7 + 2, none⟩ = some y2 ∧ W'.cell? ⟨b1, o1 + 7 + 3, none⟩ = some y3 ∧ W'.cell? ⟨b1, o1 + 7 + 4, none⟩ = some y4 ∧ W'.cell? ⟨b1, o1 + 7 + 5, none⟩ = some y5 ∧ W'.cell? ⟨b1, o1 + 7 + 6, none⟩ = some y6 ∧
      W'.cell? ⟨b2, 0, none⟩ = some z0 ∧ W'.cell? ⟨b2, 1, none⟩ = some z1 ∧ W'.cell? ⟨b2, 2, none⟩ = some z2 ∧ W'.cell? ⟨b2, 3, none⟩ = some z3 ∧ W'.cell? ⟨b2, 4, none⟩ = some z4 ∧ W'.cell? ⟨b2, 5, none⟩ = some z5)
    (hb : Below W'.heap.size W' w'') : Below Wz.heap.size Wz w'' ∧ w''.cell? ⟨b1, o1, none⟩ = some x0 ∧ w''.cell? ⟨b1, o1 + 1, none⟩ = some x1 ∧ w''.cell? ⟨b1, o1 + 2, none⟩ = some x2 ∧ w''.cell? ⟨b1, o1 + 3, none⟩ = some x3 ∧ w''.cell? ⟨b1, o1 + 4, none⟩ = some x4 ∧ w''.cell? ⟨b1, o1 + 5, none⟩ = some x5 ∧ w''.cell? ⟨b1, o1 + 6, none⟩ = some x6 ∧
      w''.cell? ⟨b1, o1 + 7, none⟩ = some y0 ∧ w''.cell? ⟨b1, o1 + 7 + 1, none⟩ = some y1 ∧ w''.cell? ⟨b1, o1 + 7 + 2, none⟩ = some y2 ∧ w''.cell? ⟨b1, o1 + 7 + 3, none⟩ = some y3 ∧ w''.cell? ⟨b1, o1 + 7 + 4, none⟩ = some y4 ∧ w''.cell? ⟨b1, o1 + 7 + 5, none⟩ = some y5 ∧ w''.cell? ⟨b1, o1 + 7 + 6, none⟩ = some y6 ∧
      w''.cell? ⟨b2, 0, none⟩ = some z0 ∧ w''.cell? ⟨b2, 1, none⟩ = some z1 ∧ w''.cell? ⟨b2, 2, none⟩ = some z2 ∧ w''.cell? ⟨b2, 3, none⟩ = some z3 ∧ w''.cell? ⟨b2, 4, none⟩ = some z4 ∧ w''.cell? ⟨b2, 5, none⟩ = some z5 := by
  obtain ⟨h, a0, a1, a2, a3, a4, a5, a6, c0, c1, c2, c3, c4, c5, c6, d0, d1, d2, d3, d4, d5⟩ := h
  exact ⟨below_then h hb, later_cell hb a0, later_cell hb a1, later_cell hb a2, later_cell hb a3, later_cell hb a4, later_cell hb a5, later_cell hb a6, later_cell hb c0, later_cell hb c1, later_cell hb c2, later_cell hb c3, later_cell hb c4, later_cell hb c5, later_cell hb c6, later_cell hb d0, later_cell hb d1, later_cell hb d2, later_cell hb d3, later_cell hb d4, later_cell hb d5⟩
set_option maxRecDepth 100000 in
set_option maxHeartbeats 4000000 in
theorem feedSpoilt_any (p : Pd) (vv va : Value) (q : Pd) (vv2 va2 : Value) (a x : Int) (w : World) (hp : PduAt w p vv va) (hfp : FitP p) (hq : PduAt w q vv2 va2) (hfq : FitP q) (_ha : (Lit.int .i64 a).wf = true) (hx : (Lit.int .u8 x).wf = true) (hg : ErrCell w) (hm : MaxCell w) :
    Calls Tryz.prog 6 #[pduV p vv va, pduV q vv2 va2, .int .i64 a, .int .u8 x] w fun e w' => e = .returned (.bool true) ∧ Below w.heap.size w w' := by
  obtain ⟨xb, rfl⟩ : ∃ xb : UInt8, x = (xb.toNat : Int) := by
    have h' : 0 ≤ x ∧ x ≤ 255 := by simpa [Lit.wf, IntKind.min, IntKind.max, IntKind.signed, IntKind.bits] using hx
    exact ⟨UInt8.ofNat x.toNat, by rw [UInt8.toNat_ofNat']; omega⟩
  obtain ⟨p1, c1, rfl⟩ := hp.v.form
  obtain ⟨p2, c2, rfl⟩ := hp.a.form
  obtain ⟨p3, c3, rfl⟩ := hq.v.form
  obtain ⟨p4, c4, rfl⟩ := hq.a.form
  have hb0 := ((Below.refl w.heap.size w).alloc (Nat.le_refl _) (.cells #[.int .i64 p.h.op, .bool p.h.now, .int .i64 p.h.fl, .slice p1 p.h.vs.length c1, .slice p2 p.a.length c2, .string (S p.d)] 45)).alloc (by simp) (.cells #[.int .i64 q.h.op, .bool q.h.now, .int .i64 q.h.fl, .slice p3 q.h.vs.length c3, .slice p4 q.a.length c4, .string (S q.d)] 45)
  have hkP := (Blk.new w #[.int .i64 p.h.op, .bool p.h.now, .int .i64 p.h.fl, .slice p1 p.h.vs.length c1, .slice p2 p.a.length c2, .string (S p.d)] 45).alloc (.cells #[.int .i64 q.h.op, .bool q.h.now, .int .i64 q.h.fl, .slice p3 q.h.vs.length c3, .slice p4 q.a.length c4, .string (S q.d)] 45)
  have hkQ := Blk.new (w.alloc (.cells #[.int .i64 p.h.op, .bool p.h.now, .int .i64 p.h.fl, .slice p1 p.h.vs.length c1, .slice p2 p.a.length c2, .string (S p.d)] 45)) #[.int .i64 q.h.op, .bool q.h.now, .int .i64 q.h.fl, .slice p3 q.h.vs.length c3, .slice p4 q.a.length c4, .string (S q.d)] 45
  rw [World.size_alloc] at hkQ
  generalize hW0 : (w.alloc (.cells #[.int .i64 p.h.op, .bool p.h.now, .int .i64 p.h.fl, .slice p1 p.h.vs.length c1, .slice p2 p.a.length c2, .string (S p.d)] 45)).alloc (.cells #[.int .i64 q.h.op, .bool q.h.now, .int .i64 q.h.fl, .slice p3 q.h.vs.length c3, .slice p4 q.a.length c4, .string (S q.d)] 45) = W0 at hb0 hkP hkQ
  generalize hQb : w.heap.size + 1 = Qb at hkQ
  have hp0 := hp.later hb0
  have hq0 := hq.later hb0
  have hm0 := hm.later hb0
  have hg0 := hg.later hb0
  have M := Lib.hid (fed_any W0 hm0 hg0)
  have Wd := Lib.hid (fun W (h : Below W0.heap.size W0 W) => wrapped_any W (hm0.later h) (hg0.later h))
  have Lp := Lib.hid (fun W (h : Below W0.heap.size W0 W) => large_any p _ _ W (hp0.later h) hfp)
  have Lq := Lib.hid (fun W (h : Below W0.heap.size W0 W) => large_any q _ _ W (hq0.later h) hfq)
  have Rp := Lib.hid (fun W (h : Below W0.heap.size W0 W) => rightP_any p _ _ W (hp0.later h) hfp (hm0.later h) (hg0.later h))
  have Rq := Lib.hid (fun W (h : Below W0.heap.size W0 W) => rightP_any q _ _ W (hq0.later h) hfq (hm0.later h) (hg0.later h))
  have Wp := Lib.hid (fun W (h : Below W0.heap.size W0 W) => writeP_any p _ _ 2 W (by unfold I64; decide) (hp0.later h) hfp (hm0.later h) (hg0.later h))
  have Wq := Lib.hid (fun W (h : Below W0.heap.size W0 W) => writeP_any q _ _ 2 W (by unfold I64; decide) (hq0.later h) hfq (hm0.later h) (hg0.later h))
  have Wa := Lib.hid (fun W (h : Below W0.heap.size W0 W) => write_ahs p.a _ W (hp0.later h).a hfp.a)
  have N := fun W => Lib.hid (new_ok 100000 W (Nat.le_refl _))
  have Hm := Lib.hid hm0
  have Hg := Lib.hid hg0
  have HkP := Lib.hid hkP
  have HkQ := Lib.hid hkQ
  have Hb0 := Lib.hid hb0
  have Hq0 := Lib.hid hq0
  have Hfp := Lib.hid hfp
  unfold pduV at Lp Lq Rp Rq Wp Wq ⊢
  clear hp hfp hq hfq hx hg hm hb0 hkP hkQ hp0 hq0 hm0 hg0
  go_enter Tryz.func6, Tryz.ntmps6
  go_wp2_with fail
  refine M.out.mono ?_
  rintro e w1 ⟨rfl, hb1⟩
  have Hb1 := Lib.hid hb1
  clear hb1 M
  go_wp2_with fail
  refine (Wd.out _ Hb1.out).mono ?_
  rintro e w2 ⟨rfl, hb⟩
  have Hb2 := Lib.hid (below_then Hb1.out hb)
  clear hb Hb1 Wd
  obtain ⟨q0, q1, q2, q3, q4, q5⟩ := (HkP.out.later Hb2.out).six
  obtain ⟨r0, r1, r2, r3, r4, r5⟩ := (HkQ.out.later Hb2.out).six
  go_wp2_with fail
  refine (Lp.out _ Hb2.out).mono ?_
  rintro e w3 ⟨bb, rfl, hlp, hb⟩
  have Hb3 := Lib.hid (below_then Hb2.out hb)
  clear q0 q1 q2 q3 q4 q5 r0 r1 r2 r3 r4 r5 hb Hb2 Lp
  obtain ⟨r0, r1, r2, r3, r4, r5⟩ := (HkQ.out.later Hb3.out).six
  cases bb with
  | true =>
    go_wp2_with fail
    go_ret
    exact ⟨rfl, Hb0.out.trans (Hb3.out.mono Hb0.out.size)⟩
  | false =>
    have Hlp := Lib.hid (hlp rfl)
    clear hlp
    go_wp2_with fail
    refine (Lq.out _ Hb3.out).mono ?_
    rintro e w4 ⟨bb, rfl, hlq, hb⟩
    have Hb4 := Lib.hid (below_then Hb3.out hb)
    clear r0 r1 r2 r3 r4 r5 hb Hb3 Lq
    obtain ⟨q0, q1, q2, q3, q4, q5⟩ := (HkP.out.later Hb4.out).six
    cases bb with
    | true =>
      go_wp2_with fail
      go_ret
      exact ⟨rfl, Hb0.out.trans (Hb4.out.mono Hb0.out.size)⟩
    | false =>
      have Hlq := Lib.hid (hlq rfl)
      clear hlq
      go_wp2_with fail
      refine (Rp.out _ Hb4.out).mono ?_
      rintro e w5 ⟨ev, rfl, he, hb⟩
      have Hb5 := Lib.hid (below_then Hb4.out hb)
      have he' : ErrIs w5 ev (rightP p) (-1) := he
      clear q0 q1 q2 q3 q4 q5 hb Hb4 Rp he
      by_cases hr : rightP p = 0
      · rw [hr] at he'
        obtain rfl := he'.zero
        obtain ⟨r0, r1, r2, r3, r4, r5⟩ := (HkQ.out.later Hb5.out).six
        have Hr := Lib.hid hr
        clear hr he'
        go_wp2_with fail
        refine (Rq.out _ Hb5.out).mono ?_
        rintro e w6 ⟨ev, rfl, he, hb⟩
        have Hb6 := Lib.hid (below_then Hb5.out hb)
        have he' : ErrIs w6 ev (rightP q) (-1) := he
        clear r0 r1 r2 r3 r4 r5 hb Hb5 Rq he
        by_cases hrq : rightP q = 0
        · rw [hrq] at he'
          obtain rfl := he'.zero
          have Hrq := Lib.hid hrq
          clear hrq he'
          obtain ⟨q0, q1, q2, q3, q4, q5⟩ := (HkP.out.later Hb6.out).six
          by_cases hd : p.d = []
          · have hde : p.d.isEmpty = true := by rw [hd]; rfl
            have hdS : S p.d = S [] := by rw [hd]
            clear hd
            go_wp2_with fail
            go_ret
            exact ⟨rfl, Hb0.out.trans (Hb6.out.mono Hb0.out.size)⟩
          · have hde : p.d.isEmpty = false := by cases h : p.d with
              | nil => exact absurd h hd
              | cons => rfl
            by_cases hx0 : xb = 0
            · subst hx0
              clear hd
              go_wp2_with fail
              go_ret
              exact ⟨rfl, Hb0.out.trans (Hb6.out.mono Hb0.out.size)⟩
            · have hxI : decide ((xb.toNat : Int) = 0) = false := decide_eq_false (fun h => hx0 (by apply UInt8.toNat.inj; simp; omega))
              have hxB : ((xb.toNat : Int) == 0) = false := by simpa using hxI
              -- the plain side
              have RP := rightP_is Hr.out
              have RQ := rightP_is Hrq.out
              have hWp : writeP p 2 = (bytesP p 2, 0) := by unfold writeP; rw [if_neg (by decide), if_neg (by simp [Hr.out])]; rfl
              have hWq : writeP q 2 = (bytesP q 2, 0) := by unfold writeP; rw [if_neg (by decide), if_neg (by simp [Hrq.out])]; rfl
              have hWa := writeA_ok RP.k RP.a
              have hdl : 0 < p.d.length := List.length_pos_iff.2 hd
              have hk := pickI_lt a p.d.length hdl
              have Kp : ∀ W, Hid (Calls Tryz.prog 11 #[.int .i64 a, .int .i64 (p.d.length : Int)] W fun e w' => e = .returned (.int .i64 (pickI a p.d.length : Nat)) ∧ W = w') := fun W => Lib.hid (pick_any a p.d.length W hdl (by have := Hlp.out.2; omega))
              generalize pickI a p.d.length = k at hk Kp
              have hget := bytes2_get RP hd hk
              have hset := bytes2_set RP hd hk (p.d[k] ^^^ xb)
              have hall := all_spoilt Hr.out Hrq.out hd (d := p.d.set k (p.d[k] ^^^ xb)) (by rw [List.length_set]) (spoilt_digest p.d hk hx0)
              rw [← hset] at hall
              have hln := bytesP_len RP 2
              have hlq := bytesP_ge RQ 2
              have hwl := RP.a
              have hpad := pad_le p.d.length
              rw [if_neg (by decide), if_pos ⟨by decide, by omega⟩] at hln
              have Wpp := Wp.out
              have Wqq := Wq.out
              have Waa := Wa.out
              rw [hWp] at Wpp
              rw [hWq] at Wqq
              rw [hWa] at Waa
              generalize hs : bytesP p 2 = s at *
              generalize ht : bytesP q 2 = t at *
              generalize hwlr : wrL p.a = more at *
              obtain ⟨i, hi⟩ : ∃ i, 48 + more.length + k = i := ⟨_, rfl⟩
              rw [hi] at hget hset hall
              have hd25 := Hlp.out.2
              have hq25 := Hlq.out.2
              have i1 : (48 : Int) + (more.length : Int) + (k : Int) = (i : Int) := by omega
              have i2 : (i : Int) < (s.length : Int) := by omega
              have i3 : (48 : Int) + (p.d.length : Int) ≤ (s.length : Int) := by omega
              have i4 : (s.length : Int) ≤ 6000 := by omega
              have i5 : (t.length : Int) ≤ 6000 := by omega
              generalize hy : p.d[k] = y at *
              have hxor := xor_u8 y xb
              generalize hz : y ^^^ xb = z at *
              obtain ⟨u, hu⟩ : ∃ u, s.set i z = u := ⟨_, rfl⟩
              rw [hu] at hall
              have hul : (u.length : Int) = (s.length : Int) := by rw [← hu, List.length_set]
              have Wpp := Lib.hid Wpp
              have Wqq := Lib.hid Wqq
              have Waa := Lib.hid Waa
              have Hall := Lib.hid hall
              have Hget := Lib.hid hget
              have Hu := Lib.hid hu
              have HRQ := Lib.hid RQ
              have Hd := Lib.hid hd
              clear hWp hWq hWa hget hset hall hln hlq hwl hpad RP RQ hs ht hwlr hi hd25 hq25 hy hz hu hd hk hdl hx0 Wp Wq Wa
              go_wp2_with fail
              refine (Wpp.out _ Hb6.out).mono ?_
              rintro e w7 ⟨ev, rfl, he, hb⟩
              obtain rfl := he.zero
              have Hb7 := Lib.hid (below_then Hb6.out hb)
              clear q0 q1 q2 q3 q4 q5 hb Hb6 Wpp he
              obtain ⟨r0, r1, r2, r3, r4, r5⟩ := (HkQ.out.later Hb7.out).six
              go_wp2_with fail
              refine (Wqq.out _ Hb7.out).mono ?_
              rintro e w8 ⟨ev, rfl, he, hb⟩
              obtain rfl := he.zero
              have Hb8 := Lib.hid (below_then Hb7.out hb)
              clear r0 r1 r2 r3 r4 r5 hb Hb7 Wqq he
              go_wp2_with fail
              refine (N _).out.mono ?_
              rintro e w9 ⟨fb, H, rfl, hF, hb⟩
              have HF9 := Lib.hid (hF.mono Hb8.out.size)
              have Hb9 := Lib.hid (below_then Hb8.out hb)
              have O9 := Lib.hid (mode_good 2 (by decide) HF9.out)
              obtain ⟨q0, q1, q2, q3, q4, q5⟩ := (HkP.out.later Hb9.out).six
              clear hF hb Hb8 N
              go_wp2_with fail
              refine O9.out.mono ?_
              rintro e w10 ⟨ev, H10, rfl, hE, hF, hK⟩
              obtain rfl := hE.zero
              have HF10 := Lib.hid hF
              have Hb10 := Lib.hid (below_op Hb9.out HF9.out hK)
              clear q0 q1 q2 q3 q4 q5 hE hF hK O9 HF9 Hb9
              obtain ⟨cap, hc1, hc2, hrun⟩ := run_bytes_S (P := Tryz.prog) 9 63 5 Tryz.underlying9 Tryz.underlying63 Tryz.underlying5 w10 s
              have hc2' := hc2 (by unfold maxLen; omega)
              have hb11 := ((Below.refl w10.heap.size w10).alloc (Nat.le_refl _) (.cells (cells8 (s ++ List.replicate (cap - s.length) 0)) 5 (cap, cap + 1))).drew
              have hB11 := bytesAt_drew (bytesAt_new w10 (s ++ List.replicate (cap - s.length) 0) 5 (cap, cap + 1))
              have hfr11 : ((w10.alloc (.cells (cells8 (s ++ List.replicate (cap - s.length) 0)) 5 (cap, cap + 1))).drew).frozen? ⟨w10.heap.size, i, none⟩ = false := by
                show (w10.alloc (.cells (cells8 (s ++ List.replicate (cap - s.length) 0)) 5 (cap, cap + 1))).frozen? ⟨w10.heap.size, i, none⟩ = false
                rw [World.frozen?_alloc_mark]; simp; omega
              have hsz11 : w10.heap.size < ((w10.alloc (.cells (cells8 (s ++ List.replicate (cap - s.length) 0)) 5 (cap, cap + 1))).drew).heap.size := by show _ < (w10.alloc _).heap.size; simp
              generalize hW11 : (w10.alloc (.cells (cells8 (s ++ List.replicate (cap - s.length) 0)) 5 (cap, cap + 1))).drew = W11 at hrun hb11 hB11 hfr11 hsz11
              have Hb11 := Lib.hid (below_then Hb10.out hb11)
              have HF11 := Lib.hid (HF10.out.later hb11)
              have HB11 := Lib.hid hB11
              have Hfr11 := Lib.hid hfr11
              have Hsz11 := Lib.hid hsz11
              have Hc1 := Lib.hid hc1
              have hbb := fun k hk => Lib.hid (HF10.out.base k hk).2
              have hW0b := Hb10.out.size
              obtain ⟨q0, q1, q2, q3, q4, q5⟩ := (HkP.out.later Hb11.out).six
              clear hc1 hc2 hc2' hb11 hB11 hfr11 hsz11 hW11 HF10 Hb10
              go_wp2_with fail
              refine (Waa.out _ Hb11.out).mono ?_
              rintro e w12 ⟨ev, rfl, he, hb⟩
              obtain rfl := he.zero
              have Hb12 := Lib.hid (below_then Hb11.out hb)
              have HF12 := Lib.hid (HF11.out.later hb)
              have hB12 := bytesAt_later HB11.out hb Hsz11.out
              have hfr12 := ((bcell hb).2 w10.heap.size i Hsz11.out).trans Hfr11.out
              have hget12 : (s ++ List.replicate (cap - s.length) 0)[i]? = some y := by rw [List.getElem?_append_left (by omega)]; exact Hget.out
              have hcell12 : w12.cell? ⟨w10.heap.size, i, none⟩ = some (.int .u8 (y.toNat : Int)) := (hB12 i).trans (cells8_at' _ _ y hget12)
              have hB13 := bytesAt_set hB12 i z (by rw [List.length_append]; omega)
              rw [List.set_append_left _ _ (by omega), Hu.out] at hB13
              have hcv := run_string_cells (P := Tryz.prog) 63 9 5 Tryz.underlying63 Tryz.underlying5 Tryz.underlying9 hB13 s.length cap (by rw [List.length_append]; omega)
              rw [List.take_append_of_le_length (by omega), List.take_of_length_le (by omega)] at hcv
              have hF13 : FeedAt (w12.setCell ⟨w10.heap.size, i, none⟩ (.int .u8 (z.toNat : Int))) W0.heap.size H10 fb ⟨100000, 2, [], false⟩ := HF12.out.kept (fun k hk => setCell_heap_other (by have := (hbb k hk).out; omega) _) (by simp [World.setCell])
              have hb13 : Below W0.heap.size W0 (w12.setCell ⟨w10.heap.size, i, none⟩ (.int .u8 (z.toNat : Int))) := Hb12.out.setCell (p := ⟨w10.heap.size, i, none⟩) hW0b _
              generalize hW13 : w12.setCell ⟨w10.heap.size, i, none⟩ (.int .u8 (z.toNat : Int)) = W13 at hcv hF13 hb13
              have HF13 := Lib.hid hF13
              have Hb13 := Lib.hid hb13
              have P13 := Lib.hid (put_good (u ++ t) (u ++ t) rfl (by rw [List.length_append]; omega) hF13)
              clear q0 q1 q2 q3 q4 q5 hrun hb he hB12 hget12 hB13 hF13 hb13 Waa HF11 HB11 Hfr11 Hsz11 HF12 Hget hbb hW0b
              obtain ⟨q0, q1, q2, q3, q4, q5⟩ := (HkP.out.later Hb12.out).six
              go_wp2_with fail
              refine (Kp _).out.mono ?_
              rintro e w14 ⟨rfl, rfl⟩
              go_wp2_with fail
              refine P13.out.mono ?_
              rintro e w14 ⟨ev, H14, rfl, hE, hF, hK⟩
              obtain rfl := hE.zero
              have Hb14 := Lib.hid (below_op Hb13.out HF13.out hK)
              have HF14 := Lib.hid hF
              have A14 := fall_any (by simp only [List.length_append]; omega) (hF.gl Hb14.out Hm.out Hg.out) hF
              rw [Hall.out] at A14
              have A14 := Lib.hid A14
              clear hE hF hK P13 HF13 Hb13 q0 q1 q2 q3 q4 q5 hcv hcell12 hfr12 hW13
              go_wp2_with fail
              refine A14.out.mono ?_
              rintro e w15 ⟨v, ev, H15, rfl, hV, hE, hF, hK⟩
              obtain rfl := hE.zero
              have hb15 := below_op Hb14.out HF14.out hK
              obtain ⟨pl, cl, rfl, hlc, hc⟩ := hV.off.1.pcs
              obtain ⟨b, o, rfl, hcell⟩ := hc (by simp)
              obtain ⟨v0, a0, hP0, x0, x1, x2, x3, x4, x5, x6⟩ := hcell 0 (by simp)
              obtain ⟨v1, a1, hP1, y0, y1, y2, y3, y4, y5, y6⟩ := hcell 1 (by simp)
              obtain ⟨pa, ca, rfl⟩ := hP0.v.form
              obtain ⟨pb, cb, rfl⟩ := hP0.a.form
              obtain ⟨pc, cc, rfl⟩ := hP1.v.form
              obtain ⟨pe, ce, rfl⟩ := hP1.a.form
              obtain ⟨z0, z1, z2, z3, z4, z5⟩ := (HkQ.out.later hb15).six
              have SA := Lib.hid (fun W (h : Below w15.heap.size w15 W) => same_same pd0 _ _ _ _ W (hP0.later h) (pdu0_at W) (by decide) (by decide))
              have SB := Lib.hid (fun W (h : Below w15.heap.size w15 W) => same_same q _ _ _ _ W (hP1.later h) ((Hq0.out.later hb15).later h) (by have := HRQ.out.vs; omega) (HRQ.out.ok []).a)
              have Hend := Lib.hid (Hb0.out.trans (hb15.mono Hb0.out.size))
              have hend' := Lib.hid hb15.size
              have i48 : (48 : Int) ≤ (s.length : Int) := by omega
              have hlc2 : (2 : Int) ≤ (cl : Int) := by simp only [List.length_cons, List.length_nil] at hlc; omega
              simp only [Nat.zero_mul, Nat.one_mul, Nat.add_zero, List.getElem_cons_zero, List.getElem_cons_succ, pcOf, List.length_cons, List.length_nil, Nat.zero_add, Nat.reduceAdd] at x0 x1 x2 x3 x4 x5 x6 y0 y1 y2 y3 y4 y5 y6 SA SB ⊢
              unfold pduV pd0 hd0 at SA
              unfold pduV at SB
              unfold pd0 hd0 at x0 x1 x2 x3 x4 x5
              simp only [List.length_nil] at SA SB x0 x1 x2 x3 x4 x5
              clear hV hE hF hK hb15 hc hcell hP0 hP1 A14 hlc
              go_wp2_with fail
              go_region_held3 (fun w' => Below w15.heap.size w15 w' ∧ w'.cell? ⟨b, o, none⟩ = some (.int .i64 0) ∧ w'.cell? ⟨b, o + 1, none⟩ = some (.bool false) ∧ w'.cell? ⟨b, o + 2, none⟩ = some (.int .i64 0) ∧ w'.cell? ⟨b, o + 3, none⟩ = some (.slice pa 0 ca) ∧ w'.cell? ⟨b, o + 4, none⟩ = some (.slice pb 0 cb) ∧ w'.cell? ⟨b, o + 5, none⟩ = some (.string (S [])) ∧ w'.cell? ⟨b, o + 6, none⟩ = some (.string (S (List.take 48 s))) ∧ w'.cell? ⟨b, o + 7, none⟩ = some (.int .i64 q.h.op) ∧ w'.cell? ⟨b, o + 7 + 1, none⟩ = some (.bool q.h.now) ∧ w'.cell? ⟨b, o + 7 + 2, none⟩ = some (.int .i64 q.h.fl) ∧ w'.cell? ⟨b, o + 7 + 3, none⟩ = some (.slice pc q.h.vs.length cc) ∧ w'.cell? ⟨b, o + 7 + 4, none⟩ = some (.slice pe q.a.length ce) ∧ w'.cell? ⟨b, o + 7 + 5, none⟩ = some (.string (S q.d)) ∧ w'.cell? ⟨b, o + 7 + 6, none⟩ = some (.string (S [])) ∧ w'.cell? ⟨Qb, 0, none⟩ = some (.int .i64 q.h.op) ∧ w'.cell? ⟨Qb, 1, none⟩ = some (.bool q.h.now) ∧ w'.cell? ⟨Qb, 2, none⟩ = some (.int .i64 q.h.fl) ∧ w'.cell? ⟨Qb, 3, none⟩ = some (.slice p3 q.h.vs.length c3) ∧ w'.cell? ⟨Qb, 4, none⟩ = some (.slice p4 q.a.length c4) ∧ w'.cell? ⟨Qb, 5, none⟩ = some (.string (S q.d)))
                (first | assumption | exact ⟨Below.refl _ _, x0, x1, x2, x3, x4, x5, x6, y0, y1, y2, y3, y4, y5, y6, z0, z1, z2, z3, z4, z5⟩ | exact ⟨(Below.refl _ _).drew, x0, x1, x2, x3, x4, x5, x6, y0, y1, y2, y3, y4, y5, y6, z0, z1, z2, z3, z4, z5⟩ | exact keepZ (by assumption) hb')
                (first | ((with_reducible refine (SA.out _ (by first | assumption | exact (‹Below w15.heap.size w15 _ ∧ _›).1)).mono ?_); rintro e w' ⟨rfl, hb'⟩) | ((with_reducible refine (SB.out _ (by first | assumption | exact (‹Below w15.heap.size w15 _ ∧ _›).1)).mono ?_); rintro e w' ⟨rfl, hb'⟩))
              all_goals
                have hlow := (‹Below w15.heap.size w15 w' ∧ _›).1
                have Hfin := Lib.hid (Hend.out.trans (hlow.mono (Nat.le_trans Hb0.out.size (by have := hend'.out; exact this))))
                go_wp2_with fail
                go_ret
                exact ⟨rfl, Hfin.out⟩
        · obtain ⟨te, xe, rfl⟩ := he'.iface hrq
          clear hrq he'
          go_wp2_with fail
          go_ret
          exact ⟨rfl, Hb0.out.trans (Hb6.out.mono Hb0.out.size)⟩
      · obtain ⟨te, xe, rfl⟩ := he'.iface hr
        clear hr he'
        go_wp2_with fail
        go_ret
        exact ⟨rfl, Hb0.out.trans (Hb5.out.mono Hb0.out.size)⟩
end Go.Proofs.YtlkikkfbennmnaaGreatDoor
