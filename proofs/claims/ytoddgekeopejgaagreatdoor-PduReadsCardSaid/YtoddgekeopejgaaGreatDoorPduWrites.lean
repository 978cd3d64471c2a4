/- PduWrites: any PDU as bytes is the document's. -/
import Derived.Test.YtoddgekeopejgaaGreatDoorRefPduW
import Derived.Test.YtoddgekeopejgaaGreatDoorPduWrite
import Derived.Test.YtoddgekeopejgaaGreatDoorWideL
import Derived.Test.YtoddgekeopejgaaGreatDoorGC
import Derived.Test.YtoddgekeopejgaaGreatDoorLawOps
namespace Go.Proofs.YtoddgekeopejgaaGreatDoor
open Go.RowKit
set_option linter.unusedVariables false
theorem bare_is {w : World} {v : Value} {n : Int} (h : ErrIs w v n (-1)) (hg : ErrCell w) :
    Calls Tryz.prog 14 #[v, .int .i64 n] w fun e w' => e = .returned (.bool true) ∧ Below w.heap.size w w' := by
  have P := Lib.hid (place_is h hg)
  clear h hg
  go_enter Tryz.func14, Tryz.ntmps14
  go_wp2_with fail
  refine P.out.mono ?_
  rintro e w1 ⟨rfl, hb1⟩
  go_wp2_with fail
  go_ret
  exact ⟨rfl, hb1⟩
theorem keep6w {W w w' : World} {a b c d e f : Addr} {x y z u v s : Value} (h : Below W.heap.size W w ∧ w.cell? a = some x ∧ w.cell? b = some y ∧ w.cell? c = some z ∧ w.cell? d = some u ∧ w.cell? e = some v ∧ w.cell? f = some s) (hb : Below w.heap.size w w') :
    Below W.heap.size W w' ∧ w'.cell? a = some x ∧ w'.cell? b = some y ∧ w'.cell? c = some z ∧ w'.cell? d = some u ∧ w'.cell? e = some v ∧ w'.cell? f = some s := by
  obtain ⟨h0, h1, h2, h3, h4, h5, h6⟩ := h
  have k : ∀ {a : Addr} {x : Value}, w.cell? a = some x → w'.cell? a = some x := fun {a x} hx => (hb.cell (p := a) (block_lt_of_cell hx)).trans hx
  exact ⟨below_then h0 hb, k h1, k h2, k h3, k h4, k h5, k h6⟩
/-- the answer of large, and what it means -/
def RetLarge (w : World) (p : Pd) (e : Ending) (w' : World) : Prop := ∃ b, e = .returned (.bool b) ∧ (b = false → p.h.vs.length ≤ 50 ∧ (p.d.length ≤ 2500 ∨ 100000 < p.d.length)) ∧ Below w.heap.size w w'
set_option maxRecDepth 100000 in
theorem largeL_any (p : Pd) (vv va : Value) (w : World) (h : PduAt w p vv va) (hf : FitP p) :
    Calls Tryz.prog 11 #[pduV p vv va] w (RetLarge w p) := by
  obtain ⟨⟨op, now, fl, vs⟩, al, d⟩ := p
  obtain ⟨pv, cv, rfl⟩ : ∃ p c, vv = .slice p vs.length c := by obtain ⟨p, c, h, _⟩ := h.v; exact ⟨p, c, h⟩
  obtain ⟨pa, ca, rfl⟩ := h.a.form
  have hb1 := (Below.refl w.heap.size w).alloc (Nat.le_refl _) (.cells #[.int .i64 op, .bool now, .int .i64 fl, .slice pv vs.length cv, .slice pa al.length ca, .string (S d)] 27)
  have HK1 := Lib.hid (Blk.new w #[.int .i64 op, .bool now, .int .i64 fl, .slice pv vs.length cv, .slice pa al.length ca, .string (S d)] 27)
  have C1 := Lib.hid (wideL_any al _ _ (h.a.later hb1) hf.a)
  have hvl := hf.vs
  have hdl := hf.d
  have Hb1 := Lib.hid hb1
  simp only at hvl hdl ⊢
  clear h hf hb1
  unfold pduV
  simp only
  go_enter Tryz.func11, Tryz.ntmps11
  go_wp2_with fail
  refine C1.out.mono ?_
  rintro e w3 ⟨bb, rfl, hb3⟩
  have HK2 := Lib.hid (HK1.out.later hb3)
  have Hb3 := Lib.hid (below_then Hb1.out hb3)
  obtain ⟨q0, q1, q2, q3, q4, q5⟩ := HK2.out.six
  clear hb3 C1 HK1 Hb1
  cases bb with
  | true =>
    go_wp2_with fail
    go_ret
    exact ⟨_, rfl, fun h => absurd h (by decide), Hb3.out⟩
  | false =>
    have D : ∃ b1 b2 b3 b4 : Bool, decide ((50 : Int) < (vs.length : Int)) = b1 ∧ decide ((2500 : Int) < (d.length : Int)) = b2 ∧ decide ((d.length : Int) ≤ 100000) = b3 ∧ decide ((100009 : Int) < (d.length : Int)) = b4 := ⟨_, _, _, _, rfl, rfl, rfl, rfl⟩
    obtain ⟨b1, b2, b3, b4, e1, e2, e3, e4⟩ := D
    have E1 := Lib.hid e1
    have E2 := Lib.hid e2
    have E3 := Lib.hid e3
    have hpost : (b1 || (b2 && b3) || b4) = false → vs.length ≤ 50 ∧ (d.length ≤ 2500 ∨ 100000 < d.length) := fun h => by
      have h1 := E1.out
      have h2 := E2.out
      have h3 := E3.out
      cases b1 with
      | true => simp at h
      | false =>
        have k1 := of_decide_eq_false h1
        refine ⟨by omega, ?_⟩
        cases b2 with
        | false => have k2 := of_decide_eq_false h2; exact .inl (by omega)
        | true =>
          cases b3 with
          | true => simp at h
          | false => have k3 := of_decide_eq_false h3; exact .inr (by omega)
    have Hpost := Lib.hid hpost
    clear hpost E1 E2 E3
    cases b1 <;> cases b2 <;> cases b3 <;> cases b4
    all_goals
      go_wp2_with fail
      go_ret
      exact ⟨_, rfl, Hpost.out, Hb3.out⟩
set_option maxRecDepth 100000 in
set_option maxHeartbeats 2000000 in
theorem pduWrites_any (p : Pd) (vv va : Value) (a : Int) (w : World) (hp : PduAt w p vv va) (hf : FitP p) (ha : (Lit.int .i64 a).wf = true) (hg : ErrCell w) (hm : MaxCell w) :
    Calls Tryz.prog 3 #[pduV p vv va, .int .i64 a] w fun e w' => e = .returned (.bool true) ∧ Below w.heap.size w w' := by
  have hI : I64 a := by
    simp [Lit.wf, IntKind.min, IntKind.max, IntKind.signed, IntKind.bits] at ha
    unfold I64; omega
  have hb0 := (Below.refl w.heap.size w).alloc (Nat.le_refl _) (.cells (cells6 p vv va) 27)
  have HK := Lib.hid (Blk.new w (cells6 p vv va) 27)
  have HP := Lib.hid (hp.later hb0)
  have Hb0 := Lib.hid hb0
  have L := fun W (h : PduAt W p vv va) => Lib.hid (largeL_any p vv va W h hf)
  have Wr := fun W (h : PduAt W p vv va) hc hg => Lib.hid (writeP_any p vv va a W hI h hf hc hg)
  have Wf := fun W (h : PduAt W p vv va) hs => Lib.hid (refWriteP_any p vv va a W hI h hf hs)
  have Rt := fun W (h : PduAt W p vv va) hc hg => Lib.hid (rightP_any p vv va W h hf hc hg)
  have Rf := fun W (h : PduAt W p vv va) => Lib.hid (refRightP_any p vv va W h hf)
  have M := fun W => modes_any a W hI
  have hcase : (decide (0 ≤ a) = true ∧ decide (a ≤ 3) = true ∧ decide (okM a) = true) ∨ ((0 ≤ a) = False ∧ a < 0 ∧ decide (okM a) = false) ∨ (decide (0 ≤ a) = true ∧ decide (a ≤ 3) = false ∧ decide (okM a) = false) := by
    unfold okM
    by_cases h0 : 0 ≤ a
    · by_cases h3 : a ≤ 3
      · exact .inl ⟨decide_eq_true h0, decide_eq_true h3, decide_eq_true ⟨h0, h3⟩⟩
      · exact .inr (.inr ⟨decide_eq_true h0, decide_eq_false h3, decide_eq_false (fun h => h3 h.2)⟩)
    · exact .inr (.inl ⟨eq_false h0, by omega, decide_eq_false (fun h => h0 h.1)⟩)
  obtain ⟨⟨bs, er⟩, hW⟩ : ∃ r, writeP p a = r := ⟨_, rfl⟩
  obtain ⟨rr, hR⟩ : ∃ r, rightP p = r := ⟨_, rfl⟩
  simp only [hW] at Wr Wf
  simp only [hR] at Rt Rf
  have HP0 := Lib.hid hp
  have Hg := Lib.hid hg
  have Hm := Lib.hid hm
  obtain ⟨⟨op, now, fl, vs⟩, al, d⟩ := p
  obtain ⟨pv, cv, rfl⟩ : ∃ p c, vv = .slice p vs.length c := by obtain ⟨p, c, h, _⟩ := hp.v; exact ⟨p, c, h⟩
  obtain ⟨pa, ca, rfl⟩ := hp.a.form
  unfold cells6 at HK Hb0 HP
  unfold pduV at L Wr Wf Rt Rf ⊢
  simp only at HK Hb0 HP L Wr Wf Rt Rf ⊢
  clear hb0 hp hf hW hR hI ha hg hm
  rcases hcase with ⟨c1, c2, c3⟩ | ⟨c1, c2, c3⟩ | ⟨c1, c2, c3⟩
  · have M' := M
    simp only [c3] at M'
    have HM := Lib.hid M'
    clear M M' c3
    go_enter Tryz.func3, Tryz.ntmps3
    obtain ⟨q0, q1, q2, q3, q4, q5⟩ := HK.out.six
    go_wp2_with fail
    refine (L _ HP.out).out.mono ?_
    rintro e w1 ⟨bb, rfl, hbb, hb1⟩
    have HK1 := Lib.hid (HK.out.later hb1)
    have Hb1 := Lib.hid (below_then Hb0.out hb1)
    clear q0 q1 q2 q3 q4 q5 hb1 HK HP Hb0 L
    obtain ⟨q0, q1, q2, q3, q4, q5⟩ := HK1.out.six
    cases bb with
    | true =>
      clear hbb
      go_wp2_with fail
      go_ret
      exact ⟨rfl, Hb1.out⟩
    | false =>
      have Hs := Lib.hid (hbb rfl).2
      clear hbb
      go_wp2_with fail
      refine (Wf _ (HP0.out.later Hb1.out) Hs.out).out.mono ?_
      rintro e w2 ⟨rfl, hb2⟩
      have HK2 := Lib.hid (HK1.out.later hb2)
      have Hb2 := Lib.hid (below_then Hb1.out hb2)
      clear q0 q1 q2 q3 q4 q5 hb2 HK1 Hb1 Wf
      obtain ⟨q0, q1, q2, q3, q4, q5⟩ := HK2.out.six
      go_wp2_with fail
      refine (Wr _ (HP0.out.later Hb2.out) (Hm.out.later Hb2.out) (Hg.out.later Hb2.out)).out.mono ?_
      rintro e w3 ⟨ev, rfl, he, hb3⟩
      have HK3 := Lib.hid (HK2.out.later hb3)
      have Hb3 := Lib.hid (below_then Hb2.out hb3)
      have He := Lib.hid he
      clear q0 q1 q2 q3 q4 q5 hb3 HK2 Hb2 Wr he
      obtain ⟨q0, q1, q2, q3, q4, q5⟩ := HK3.out.six
      have HB3 := Lib.hid (fun W (h : Below w3.heap.size w3 W) => below_then Hb3.out h)
      have P1 := Lib.hid (fun W (h : Below w3.heap.size w3 W) => bare_is (He.out.later h) (Hg.out.later (HB3.out W h)))
      have P2 := Lib.hid (fun W ev2 (he2 : ErrIs W ev2 rr (-1)) (h : Below w3.heap.size w3 W) => bare_is he2 (Hg.out.later (HB3.out W h)))
      have P3 := Lib.hid (fun W (h : Below w3.heap.size w3 W) => (Rt W (HP0.out.later (HB3.out W h)) (Hm.out.later (HB3.out W h)) (Hg.out.later (HB3.out W h))).out)
      have P4 := Lib.hid (fun W (h : Below w3.heap.size w3 W) => (Rf W (HP0.out.later (HB3.out W h))).out)
      clear Rt Rf
      simp only at *
      go_wp2_with fail
      go_region_held3 (fun w' => Below w3.heap.size w3 w' ∧ w'.cell? ⟨w.heap.size, 0, none⟩ = some (.int .i64 op) ∧ w'.cell? ⟨w.heap.size, 1, none⟩ = some (.bool now) ∧ w'.cell? ⟨w.heap.size, 2, none⟩ = some (.int .i64 fl) ∧ w'.cell? ⟨w.heap.size, 3, none⟩ = some (.slice pv vs.length cv) ∧ w'.cell? ⟨w.heap.size, 4, none⟩ = some (.slice pa al.length ca) ∧ w'.cell? ⟨w.heap.size, 5, none⟩ = some (.string (S d)))
        (first | assumption | exact ⟨Below.refl _ _, q0, q1, q2, q3, q4, q5⟩ | exact ⟨(Below.refl _ _).drew, q0, q1, q2, q3, q4, q5⟩ | exact keep6w (by assumption) hb')
        (first | ((with_reducible refine (P1.out _ (by first | assumption | exact (‹Below w3.heap.size w3 _ ∧ _›).1)).mono ?_); rintro e w' ⟨rfl, hb'⟩) | ((with_reducible refine (P3.out _ (by first | assumption | exact (‹Below w3.heap.size w3 _ ∧ _›).1)).mono ?_); rintro e w' ⟨ev2, rfl, he2, hb'⟩) | ((with_reducible refine (P4.out _ (by first | assumption | exact (‹Below w3.heap.size w3 _ ∧ _›).1)).mono ?_); rintro e w' ⟨rfl, hb'⟩) | ((with_reducible refine (P2.out _ _ (by first | assumption | exact ErrIs.later (by assumption) (by assumption)) (by first | assumption | exact (‹Below w3.heap.size w3 _ ∧ _›).1)).mono ?_); rintro e w' ⟨rfl, hb'⟩) | ((with_reducible refine (HM.out _).mono ?_); rintro e w' ⟨rfl, rfl⟩))
      all_goals
        have Hend := Lib.hid (below_then Hb3.out (‹Below w3.heap.size w3 _ ∧ _›).1)
        clear q0 q1 q2 q3 q4 q5
        go_wp2_with fail
        go_ret
        exact ⟨rfl, Hend.out⟩
  · have M' := M
    simp only [c3] at M'
    have HM := Lib.hid M'
    clear M M' c3
    go_enter Tryz.func3, Tryz.ntmps3
    obtain ⟨q0, q1, q2, q3, q4, q5⟩ := HK.out.six
    go_wp2_with fail
    refine (L _ HP.out).out.mono ?_
    rintro e w1 ⟨bb, rfl, hbb, hb1⟩
    have HK1 := Lib.hid (HK.out.later hb1)
    have Hb1 := Lib.hid (below_then Hb0.out hb1)
    clear q0 q1 q2 q3 q4 q5 hb1 HK HP Hb0 L
    obtain ⟨q0, q1, q2, q3, q4, q5⟩ := HK1.out.six
    cases bb with
    | true =>
      clear hbb
      go_wp2_with fail
      go_ret
      exact ⟨rfl, Hb1.out⟩
    | false =>
      have Hs := Lib.hid (hbb rfl).2
      clear hbb
      go_wp2_with fail
      refine (Wf _ (HP0.out.later Hb1.out) Hs.out).out.mono ?_
      rintro e w2 ⟨rfl, hb2⟩
      have HK2 := Lib.hid (HK1.out.later hb2)
      have Hb2 := Lib.hid (below_then Hb1.out hb2)
      clear q0 q1 q2 q3 q4 q5 hb2 HK1 Hb1 Wf
      obtain ⟨q0, q1, q2, q3, q4, q5⟩ := HK2.out.six
      go_wp2_with fail
      refine (Wr _ (HP0.out.later Hb2.out) (Hm.out.later Hb2.out) (Hg.out.later Hb2.out)).out.mono ?_
      rintro e w3 ⟨ev, rfl, he, hb3⟩
      have HK3 := Lib.hid (HK2.out.later hb3)
      have Hb3 := Lib.hid (below_then Hb2.out hb3)
      have He := Lib.hid he
      clear q0 q1 q2 q3 q4 q5 hb3 HK2 Hb2 Wr he
      obtain ⟨q0, q1, q2, q3, q4, q5⟩ := HK3.out.six
      have HB3 := Lib.hid (fun W (h : Below w3.heap.size w3 W) => below_then Hb3.out h)
      have P1 := Lib.hid (fun W (h : Below w3.heap.size w3 W) => bare_is (He.out.later h) (Hg.out.later (HB3.out W h)))
      have P2 := Lib.hid (fun W ev2 (he2 : ErrIs W ev2 rr (-1)) (h : Below w3.heap.size w3 W) => bare_is he2 (Hg.out.later (HB3.out W h)))
      have P3 := Lib.hid (fun W (h : Below w3.heap.size w3 W) => (Rt W (HP0.out.later (HB3.out W h)) (Hm.out.later (HB3.out W h)) (Hg.out.later (HB3.out W h))).out)
      have P4 := Lib.hid (fun W (h : Below w3.heap.size w3 W) => (Rf W (HP0.out.later (HB3.out W h))).out)
      clear Rt Rf
      simp only at *
      go_wp2_with fail
      refine wp_region_held (S := fun w' => Below w3.heap.size w3 w' ∧ w'.cell? ⟨w.heap.size, 0, none⟩ = some (.int .i64 op) ∧ w'.cell? ⟨w.heap.size, 1, none⟩ = some (.bool now) ∧ w'.cell? ⟨w.heap.size, 2, none⟩ = some (.int .i64 fl) ∧ w'.cell? ⟨w.heap.size, 3, none⟩ = some (.slice pv vs.length cv) ∧ w'.cell? ⟨w.heap.size, 4, none⟩ = some (.slice pa al.length ca) ∧ w'.cell? ⟨w.heap.size, 5, none⟩ = some (.string (S d))) (by kernel_rfl) ?_
      have e9 : Below w3.heap.size w3 { w3 with drawn := w3.drawn + 1 } := (Below.refl _ _).drew
      generalize ({ w3 with drawn := w3.drawn + 1 } : World) = w4 at e9 ⊢
      have hS : Below w3.heap.size w3 w4 ∧ w4.cell? ⟨w.heap.size, 0, none⟩ = some (.int .i64 op) ∧ w4.cell? ⟨w.heap.size, 1, none⟩ = some (.bool now) ∧ w4.cell? ⟨w.heap.size, 2, none⟩ = some (.int .i64 fl) ∧ w4.cell? ⟨w.heap.size, 3, none⟩ = some (.slice pv vs.length cv) ∧ w4.cell? ⟨w.heap.size, 4, none⟩ = some (.slice pa al.length ca) ∧ w4.cell? ⟨w.heap.size, 5, none⟩ = some (.string (S d)) := keep6w ⟨Below.refl _ _, q0, q1, q2, q3, q4, q5⟩ e9
      refine take_of (ev) (some 23) (i := 0) rfl rfl (by kernel_rfl) (by kernel_rfl) (by kernel_rfl) (fun _ _ _ h => h) (Or.inl ⟨by rfl, fun w' hw' => ?_⟩) hS ?_
      · obtain ⟨_, k0, k1, k2, k3, k4, k5⟩ := hw'
        go_simp
      simp only [Act.put, List.setIfInBounds_toArray, List.set_cons_succ, List.set_cons_zero]
      refine take_of (.int .i64 er) (some 24) (i := 1) rfl rfl (by kernel_rfl) (by kernel_rfl) (by kernel_rfl) (fun _ _ _ h => h) (Or.inl ⟨by rfl, fun w' hw' => ?_⟩) hS ?_
      · obtain ⟨_, k0, k1, k2, k3, k4, k5⟩ := hw'
        go_simp
      simp only [Act.put, List.setIfInBounds_toArray, List.set_cons_succ, List.set_cons_zero]
      refine wpAnyH_all (rs := [2]) (by kernel_rfl) (by simp) (fun i hi => ?_)
      obtain rfl : i = 2 := by simpa using hi
      refine wpOp_want (i := 2) rfl (by rfl) (opw_callT (f := 14) (some 25) rfl Tryz.func14 (by kernel_rfl) (by kernel_rfl) rfl rfl ?_)
      simp only [List.map_toArray, List.map_cons, List.map_nil]
      refine (P1.out _ hS.1).mono ?_
      rintro e wn ⟨rfl, hbn⟩
      have hS1 := keep6w hS hbn
      refine ⟨_, rfl, hS1, ?_⟩
      try dsimp only
      simp only [Act.put, List.setIfInBounds_toArray, List.set_cons_succ, List.set_cons_zero]
      refine take_of (.bool true) (some 26) (i := 3) rfl rfl (by kernel_rfl) (by kernel_rfl) (by kernel_rfl) (fun _ _ _ h => h) (Or.inl ⟨by rfl, fun w' hw' => ?_⟩) hS1 ?_
      · obtain ⟨_, k0, k1, k2, k3, k4, k5⟩ := hw'
        go_simp
      simp only [Act.put, List.setIfInBounds_toArray, List.set_cons_succ, List.set_cons_zero]
      refine take_of (.string (S bs)) (some 27) (i := 4) rfl rfl (by kernel_rfl) (by kernel_rfl) (by kernel_rfl) (fun _ _ _ h => h) (Or.inl ⟨by rfl, fun w' hw' => ?_⟩) hS1 ?_
      · obtain ⟨_, k0, k1, k2, k3, k4, k5⟩ := hw'
        go_simp
      simp only [Act.put, List.setIfInBounds_toArray, List.set_cons_succ, List.set_cons_zero]
      refine take_of (.string (S bs)) (some 28) (i := 5) rfl rfl (by kernel_rfl) (by kernel_rfl) (by kernel_rfl) (fun _ _ _ h => h) (Or.inl ⟨by rfl, fun w' hw' => ?_⟩) hS1 ?_
      · obtain ⟨_, k0, k1, k2, k3, k4, k5⟩ := hw'
        go_simp
      simp only [Act.put, List.setIfInBounds_toArray, List.set_cons_succ, List.set_cons_zero]
      refine take_of (.bool true) (some 29) (i := 6) rfl rfl (by kernel_rfl) (by kernel_rfl) (by kernel_rfl) (fun _ _ _ h => h) (Or.inl ⟨by rfl, fun w' hw' => ?_⟩) hS1 ?_
      · obtain ⟨_, k0, k1, k2, k3, k4, k5⟩ := hw'
        go_simp
      simp only [Act.put, List.setIfInBounds_toArray, List.set_cons_succ, List.set_cons_zero]
      refine take_of (.bool true) (some 30) (i := 7) rfl rfl (by kernel_rfl) (by kernel_rfl) (by kernel_rfl) (fun _ _ _ h => h) (Or.inl ⟨by rfl, fun w' hw' => ?_⟩) hS1 ?_
      · obtain ⟨_, k0, k1, k2, k3, k4, k5⟩ := hw'
        go_simp
      simp only [Act.put, List.setIfInBounds_toArray, List.set_cons_succ, List.set_cons_zero]
      refine take_of (.bool true) (some 31) (i := 8) rfl rfl (by kernel_rfl) (by kernel_rfl) (by kernel_rfl) (fun _ _ _ h => h) (Or.inl ⟨by rfl, fun w' hw' => ?_⟩) hS1 ?_
      · obtain ⟨_, k0, k1, k2, k3, k4, k5⟩ := hw'
        go_simp
      simp only [Act.put, List.setIfInBounds_toArray, List.set_cons_succ, List.set_cons_zero]
      refine take_of (.agg #[.int .i64 op, .bool now, .int .i64 fl, .slice pv vs.length cv, .slice pa al.length ca, .string (S d)]) (some 32) (i := 9) rfl rfl (by kernel_rfl) (by kernel_rfl) (by kernel_rfl) (fun _ _ _ h => h) (Or.inl ⟨by rfl, fun w' hw' => ?_⟩) hS1 ?_
      · obtain ⟨_, k0, k1, k2, k3, k4, k5⟩ := hw'
        go_simp
      simp only [Act.put, List.setIfInBounds_toArray, List.set_cons_succ, List.set_cons_zero]
      refine take_of (.agg #[.int .i64 op, .bool now, .int .i64 fl, .slice pv vs.length cv, .slice pa al.length ca, .string (S d)]) (some 34) (i := 11) rfl rfl (by kernel_rfl) (by kernel_rfl) (by kernel_rfl) (fun _ _ _ h => h) (Or.inl ⟨by rfl, fun w' hw' => ?_⟩) hS1 ?_
      · obtain ⟨_, k0, k1, k2, k3, k4, k5⟩ := hw'
        go_simp
      simp only [Act.put, List.setIfInBounds_toArray, List.set_cons_succ, List.set_cons_zero]
      refine wpAnyH_all (rs := [10]) (by kernel_rfl) (by simp) (fun i hi => ?_)
      obtain rfl : i = 10 := by simpa using hi
      refine wpOp_want (i := 10) rfl (by rfl) (opw_callT (f := 15) (some 33) rfl Tryz.func15 (by kernel_rfl) (by kernel_rfl) rfl rfl ?_)
      simp only [List.map_toArray, List.map_cons, List.map_nil]
      refine (P3.out _ hS1.1).mono ?_
      rintro e wn ⟨ev2, rfl, he2, hbn⟩
      have hS2 := keep6w hS1 hbn
      refine ⟨_, rfl, hS2, ?_⟩
      try dsimp only
      simp only [Act.put, List.setIfInBounds_toArray, List.set_cons_succ, List.set_cons_zero]
      refine wpAnyH_all (rs := [12]) (by kernel_rfl) (by simp) (fun i hi => ?_)
      obtain rfl : i = 12 := by simpa using hi
      refine wpOp_want (i := 12) rfl (by rfl) (opw_callT (f := 16) (some 35) rfl Tryz.func16 (by kernel_rfl) (by kernel_rfl) rfl rfl ?_)
      simp only [List.map_toArray, List.map_cons, List.map_nil]
      refine (P4.out _ hS2.1).mono ?_
      rintro e wn ⟨rfl, hbn⟩
      have hS3 := keep6w hS2 hbn
      refine ⟨_, rfl, hS3, ?_⟩
      try dsimp only
      simp only [Act.put, List.setIfInBounds_toArray, List.set_cons_succ, List.set_cons_zero]
      refine wpAnyH_all (rs := [13]) (by kernel_rfl) (by simp) (fun i hi => ?_)
      obtain rfl : i = 13 := by simpa using hi
      refine wpOp_want (i := 13) rfl (by rfl) (opw_callT (f := 14) (some 36) rfl Tryz.func14 (by kernel_rfl) (by kernel_rfl) rfl rfl ?_)
      simp only [List.map_toArray, List.map_cons, List.map_nil]
      refine (P2.out _ _ (he2.later hbn) hS3.1).mono ?_
      rintro e wn ⟨rfl, hbn⟩
      have hS4 := keep6w hS3 hbn
      refine ⟨_, rfl, hS4, ?_⟩
      try dsimp only
      simp only [Act.put, List.setIfInBounds_toArray, List.set_cons_succ, List.set_cons_zero]
      refine take_of (.bool true) (some 37) (i := 14) rfl rfl (by kernel_rfl) (by kernel_rfl) (by kernel_rfl) (fun _ _ _ h => h) (Or.inl ⟨by rfl, fun w' hw' => ?_⟩) hS4 ?_
      · obtain ⟨_, k0, k1, k2, k3, k4, k5⟩ := hw'
        go_simp
      simp only [Act.put, List.setIfInBounds_toArray, List.set_cons_succ, List.set_cons_zero]
      refine take_of (.bool true) (some 38) (i := 15) rfl rfl (by kernel_rfl) (by kernel_rfl) (by kernel_rfl) (fun _ _ _ h => h) (Or.inl ⟨by rfl, fun w' hw' => ?_⟩) hS4 ?_
      · obtain ⟨_, k0, k1, k2, k3, k4, k5⟩ := hw'
        go_simp
      simp only [Act.put, List.setIfInBounds_toArray, List.set_cons_succ, List.set_cons_zero]
      refine take_of (.int .i64 a) (some 39) (i := 16) rfl rfl (by kernel_rfl) (by kernel_rfl) (by kernel_rfl) (fun _ _ _ h => h) (Or.inl ⟨by rfl, fun w' hw' => ?_⟩) hS4 ?_
      · obtain ⟨_, k0, k1, k2, k3, k4, k5⟩ := hw'
        go_simp
      simp only [Act.put, List.setIfInBounds_toArray, List.set_cons_succ, List.set_cons_zero]
      refine take_of (.int .i64 a) (some 41) (i := 18) rfl rfl (by kernel_rfl) (by kernel_rfl) (by kernel_rfl) (fun _ _ _ h => h) (Or.inl ⟨by rfl, fun w' hw' => ?_⟩) hS4 ?_
      · obtain ⟨_, k0, k1, k2, k3, k4, k5⟩ := hw'
        go_simp
      simp only [Act.put, List.setIfInBounds_toArray, List.set_cons_succ, List.set_cons_zero]
      refine take_of (.bool false) (some 42) (i := 19) rfl rfl (by kernel_rfl) (by kernel_rfl) (by kernel_rfl) (fun _ _ _ h => h) (Or.inl ⟨by rfl, fun w' hw' => ?_⟩) hS4 ?_
      · obtain ⟨_, k0, k1, k2, k3, k4, k5⟩ := hw'
        go_simp
      simp only [Act.put, List.setIfInBounds_toArray, List.set_cons_succ, List.set_cons_zero]
      refine wpAnyH_all (rs := [17]) (by kernel_rfl) (by simp) (fun i hi => ?_)
      obtain rfl : i = 17 := by simpa using hi
      refine wpOp_want (i := 17) rfl (by rfl) (opw_callT (f := 17) (some 40) rfl Tryz.func17 (by kernel_rfl) (by kernel_rfl) rfl rfl ?_)
      simp only [List.map_toArray, List.map_cons, List.map_nil]
      refine (HM.out _).mono ?_
      rintro e wn ⟨rfl, rfl⟩
      refine ⟨_, rfl, hS4, ?_⟩
      try dsimp only
      simp only [Act.put, List.setIfInBounds_toArray, List.set_cons_succ, List.set_cons_zero]
      refine take_of (.bool false) (some 43) (i := 20) rfl rfl (by kernel_rfl) (by kernel_rfl) (by kernel_rfl) (fun _ _ _ h => h) (Or.inl ⟨by rfl, fun w' hw' => ?_⟩) hS4 ?_
      · obtain ⟨_, k0, k1, k2, k3, k4, k5⟩ := hw'
        go_simp
      simp only [Act.put, List.setIfInBounds_toArray, List.set_cons_succ, List.set_cons_zero]
      refine take_of undef (some 44) (i := 21) rfl rfl (by kernel_rfl) (by kernel_rfl) (by kernel_rfl) (fun _ _ _ h => h) (Or.inr ⟨by rfl, rfl⟩) hS4 ?_
      simp only [Act.put, List.setIfInBounds_toArray, List.set_cons_succ, List.set_cons_zero]
      refine take_of undef (some 45) (i := 22) rfl rfl (by kernel_rfl) (by kernel_rfl) (by kernel_rfl) (fun _ _ _ h => h) (Or.inr ⟨by rfl, rfl⟩) hS4 ?_
      simp only [Act.put, List.setIfInBounds_toArray, List.set_cons_succ, List.set_cons_zero]
      refine take_of (.bool false) (some 46) (i := 23) rfl rfl (by kernel_rfl) (by kernel_rfl) (by kernel_rfl) (fun _ _ _ h => h) (Or.inl ⟨by rfl, fun w' hw' => ?_⟩) hS4 ?_
      · obtain ⟨_, k0, k1, k2, k3, k4, k5⟩ := hw'
        go_simp
      simp only [Act.put, List.setIfInBounds_toArray, List.set_cons_succ, List.set_cons_zero]
      refine take_of (.bool true) (some 47) (i := 24) rfl rfl (by kernel_rfl) (by kernel_rfl) (by kernel_rfl) (fun _ _ _ h => h) (Or.inl ⟨by rfl, fun w' hw' => ?_⟩) hS4 ?_
      · obtain ⟨_, k0, k1, k2, k3, k4, k5⟩ := hw'
        go_simp
      simp only [Act.put, List.setIfInBounds_toArray, List.set_cons_succ, List.set_cons_zero]
      refine take_of (.bool true) (some 48) (i := 25) rfl rfl (by kernel_rfl) (by kernel_rfl) (by kernel_rfl) (fun _ _ _ h => h) (Or.inl ⟨by rfl, fun w' hw' => ?_⟩) hS4 ?_
      · obtain ⟨_, k0, k1, k2, k3, k4, k5⟩ := hw'
        go_simp
      simp only [Act.put, List.setIfInBounds_toArray, List.set_cons_succ, List.set_cons_zero]
      refine take_of (.bool true) (some 4) (i := 26) rfl rfl (by kernel_rfl) (by kernel_rfl) (by kernel_rfl) (fun _ _ _ h => h) (Or.inl ⟨by rfl, fun w' hw' => ?_⟩) hS4 ?_
      · obtain ⟨_, k0, k1, k2, k3, k4, k5⟩ := hw'
        go_simp
      simp only [Act.put, List.setIfInBounds_toArray, List.set_cons_succ, List.set_cons_zero]
      refine wpAnyH_done (by kernel_rfl) ?_ _
      have Hend := Lib.hid (below_then Hb3.out hS4.1)
      clear q0 q1 q2 q3 q4 q5
      go_wp2_with fail
      go_ret
      exact ⟨rfl, Hend.out⟩
  · have M' := M
    simp only [c3] at M'
    have HM := Lib.hid M'
    clear M M' c3
    go_enter Tryz.func3, Tryz.ntmps3
    obtain ⟨q0, q1, q2, q3, q4, q5⟩ := HK.out.six
    go_wp2_with fail
    refine (L _ HP.out).out.mono ?_
    rintro e w1 ⟨bb, rfl, hbb, hb1⟩
    have HK1 := Lib.hid (HK.out.later hb1)
    have Hb1 := Lib.hid (below_then Hb0.out hb1)
    clear q0 q1 q2 q3 q4 q5 hb1 HK HP Hb0 L
    obtain ⟨q0, q1, q2, q3, q4, q5⟩ := HK1.out.six
    cases bb with
    | true =>
      clear hbb
      go_wp2_with fail
      go_ret
      exact ⟨rfl, Hb1.out⟩
    | false =>
      have Hs := Lib.hid (hbb rfl).2
      clear hbb
      go_wp2_with fail
      refine (Wf _ (HP0.out.later Hb1.out) Hs.out).out.mono ?_
      rintro e w2 ⟨rfl, hb2⟩
      have HK2 := Lib.hid (HK1.out.later hb2)
      have Hb2 := Lib.hid (below_then Hb1.out hb2)
      clear q0 q1 q2 q3 q4 q5 hb2 HK1 Hb1 Wf
      obtain ⟨q0, q1, q2, q3, q4, q5⟩ := HK2.out.six
      go_wp2_with fail
      refine (Wr _ (HP0.out.later Hb2.out) (Hm.out.later Hb2.out) (Hg.out.later Hb2.out)).out.mono ?_
      rintro e w3 ⟨ev, rfl, he, hb3⟩
      have HK3 := Lib.hid (HK2.out.later hb3)
      have Hb3 := Lib.hid (below_then Hb2.out hb3)
      have He := Lib.hid he
      clear q0 q1 q2 q3 q4 q5 hb3 HK2 Hb2 Wr he
      obtain ⟨q0, q1, q2, q3, q4, q5⟩ := HK3.out.six
      have HB3 := Lib.hid (fun W (h : Below w3.heap.size w3 W) => below_then Hb3.out h)
      have P1 := Lib.hid (fun W (h : Below w3.heap.size w3 W) => bare_is (He.out.later h) (Hg.out.later (HB3.out W h)))
      have P2 := Lib.hid (fun W ev2 (he2 : ErrIs W ev2 rr (-1)) (h : Below w3.heap.size w3 W) => bare_is he2 (Hg.out.later (HB3.out W h)))
      have P3 := Lib.hid (fun W (h : Below w3.heap.size w3 W) => (Rt W (HP0.out.later (HB3.out W h)) (Hm.out.later (HB3.out W h)) (Hg.out.later (HB3.out W h))).out)
      have P4 := Lib.hid (fun W (h : Below w3.heap.size w3 W) => (Rf W (HP0.out.later (HB3.out W h))).out)
      clear Rt Rf
      simp only at *
      go_wp2_with fail
      go_region_held3 (fun w' => Below w3.heap.size w3 w' ∧ w'.cell? ⟨w.heap.size, 0, none⟩ = some (.int .i64 op) ∧ w'.cell? ⟨w.heap.size, 1, none⟩ = some (.bool now) ∧ w'.cell? ⟨w.heap.size, 2, none⟩ = some (.int .i64 fl) ∧ w'.cell? ⟨w.heap.size, 3, none⟩ = some (.slice pv vs.length cv) ∧ w'.cell? ⟨w.heap.size, 4, none⟩ = some (.slice pa al.length ca) ∧ w'.cell? ⟨w.heap.size, 5, none⟩ = some (.string (S d)))
        (first | assumption | exact ⟨Below.refl _ _, q0, q1, q2, q3, q4, q5⟩ | exact ⟨(Below.refl _ _).drew, q0, q1, q2, q3, q4, q5⟩ | exact keep6w (by assumption) hb')
        (first | ((with_reducible refine (P1.out _ (by first | assumption | exact (‹Below w3.heap.size w3 _ ∧ _›).1)).mono ?_); rintro e w' ⟨rfl, hb'⟩) | ((with_reducible refine (P3.out _ (by first | assumption | exact (‹Below w3.heap.size w3 _ ∧ _›).1)).mono ?_); rintro e w' ⟨ev2, rfl, he2, hb'⟩) | ((with_reducible refine (P4.out _ (by first | assumption | exact (‹Below w3.heap.size w3 _ ∧ _›).1)).mono ?_); rintro e w' ⟨rfl, hb'⟩) | ((with_reducible refine (P2.out _ _ (by first | assumption | exact ErrIs.later (by assumption) (by assumption)) (by first | assumption | exact (‹Below w3.heap.size w3 _ ∧ _›).1)).mono ?_); rintro e w' ⟨rfl, hb'⟩) | ((with_reducible refine (HM.out _).mono ?_); rintro e w' ⟨rfl, rfl⟩))
      all_goals
        have Hend := Lib.hid (below_then Hb3.out (‹Below w3.heap.size w3 _ ∧ _›).1)
        clear q0 q1 q2 q3 q4 q5
        go_wp2_with fail
        go_ret
        exact ⟨rfl, Hend.out⟩
end Go.Proofs.YtoddgekeopejgaaGreatDoor
