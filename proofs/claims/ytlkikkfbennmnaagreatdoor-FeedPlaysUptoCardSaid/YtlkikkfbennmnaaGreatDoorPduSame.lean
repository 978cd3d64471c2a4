/- quaymasterkeep.same, large. -/
import Derived.Test.YtlkikkfbennmnaaGreatDoorPduV
import Derived.Test.YtlkikkfbennmnaaGreatDoorGD
import Derived.Test.YtlkikkfbennmnaaGreatDoorGE
namespace Go.Proofs.YtlkikkfbennmnaaGreatDoor
open Go.RowKit
set_option linter.unusedVariables false
set_option maxRecDepth 100000 in
theorem same_same (p : Pd) (vv va vv' va' : Value) (w : World) (h : PduAt w p vv va) (h' : PduAt w p vv' va') (hvs : p.h.vs.length ≤ 140737488355328) (hal : p.a.length ≤ 140737488355328) :
    Calls Tryz.prog 20 #[pduV p vv va, pduV p vv' va'] w fun e w' => e = .returned (.bool true) ∧ Below w.heap.size w w' := by
  obtain ⟨⟨op, now, fl, vs⟩, al, d⟩ := p
  simp only at hvs hal
  obtain ⟨pv, cv, rfl⟩ : ∃ p c, vv = .slice p vs.length c := by obtain ⟨p, c, h, _⟩ := h.v; exact ⟨p, c, h⟩
  obtain ⟨pa, ca, rfl⟩ := h.a.form
  obtain ⟨pv', cv', rfl⟩ : ∃ p c, vv' = .slice p vs.length c := by obtain ⟨p, c, h, _⟩ := h'.v; exact ⟨p, c, h⟩
  obtain ⟨pa', ca', rfl⟩ := h'.a.form
  have hb1 := (Below.refl w.heap.size w).alloc (Nat.le_refl _) (.cells #[.int .i64 op, .bool now, .int .i64 fl, .slice pv vs.length cv, .slice pa al.length ca, .string (S d)] 45)
  have hb2 := hb1.alloc hb1.size (.cells #[.int .i64 op, .bool now, .int .i64 fl, .slice pv' vs.length cv', .slice pa' al.length ca', .string (S d)] 45)
  have hk1 := (Blk.new w #[.int .i64 op, .bool now, .int .i64 fl, .slice pv vs.length cv, .slice pa al.length ca, .string (S d)] 45).alloc (.cells #[.int .i64 op, .bool now, .int .i64 fl, .slice pv' vs.length cv', .slice pa' al.length ca', .string (S d)] 45)
  have hk2 := Blk.new (w.alloc (.cells #[.int .i64 op, .bool now, .int .i64 fl, .slice pv vs.length cv, .slice pa al.length ca, .string (S d)] 45)) #[.int .i64 op, .bool now, .int .i64 fl, .slice pv' vs.length cv', .slice pa' al.length ca', .string (S d)] 45
  have C1 := Lib.hid (sameK_same ⟨op, now, fl, vs⟩ _ _ _ (h.v.later hb2) (h'.v.later hb2) hvs)
  have C2 := Lib.hid (fun W (hb : Below w.heap.size w W) => equalA_same al _ _ W hal (h.a.later hb) (h'.a.later hb))
  unfold headV at C1
  simp only at C1
  have HK1 := Lib.hid hk1
  have HK2 := Lib.hid hk2
  have Hb2 := Lib.hid hb2
  clear h h' hvs hal hb1 hb2 hk1 hk2
  unfold pduV
  simp only
  go_enter Tryz.func20, Tryz.ntmps20
  go_wp2_with fail
  refine C1.out.mono ?_
  rintro e w3 ⟨rfl, hb3⟩
  have HK1' := Lib.hid (HK1.out.later hb3)
  have HK2' := Lib.hid (HK2.out.later hb3)
  have Hb3 := Lib.hid (below_then Hb2.out hb3)
  obtain ⟨q0, q1, q2, q3, q4, q5⟩ := HK1'.out.six
  obtain ⟨r0, r1, r2, r3, r4, r5⟩ := HK2'.out.six
  simp only [World.size_alloc] at r0 r1 r2 r3 r4 r5
  clear hb3 C1 HK1 HK2 Hb2
  go_wp2_with fail
  refine (C2.out _ Hb3.out).mono ?_
  rintro e w4 ⟨rfl, hb4⟩
  have HK1 := Lib.hid (HK1'.out.later hb4)
  have HK2 := Lib.hid (HK2'.out.later hb4)
  have Hb4 := Lib.hid (below_then Hb3.out hb4)
  clear q0 q1 q2 q3 q4 q5 r0 r1 r2 r3 r4 r5 hb4 C2
  obtain ⟨q0, q1, q2, q3, q4, q5⟩ := HK1.out.six
  obtain ⟨r0, r1, r2, r3, r4, r5⟩ := HK2.out.six
  simp only [World.size_alloc] at r0 r1 r2 r3 r4 r5
  go_wp2_with fail
  go_ret
  exact ⟨rfl, Hb4.out⟩
set_option maxRecDepth 100000 in
theorem large_any (p : Pd) (vv va : Value) (w : World) (h : PduAt w p vv va) (hf : FitP p) :
    Calls Tryz.prog 26 #[pduV p vv va] w fun e w' => ∃ b, e = .returned (.bool b) ∧ (b = false → p.h.vs.length ≤ 50 ∧ p.d.length ≤ 2500) ∧ Below w.heap.size w w' := by
  obtain ⟨⟨op, now, fl, vs⟩, al, d⟩ := p
  obtain ⟨pv, cv, rfl⟩ : ∃ p c, vv = .slice p vs.length c := by obtain ⟨p, c, h, _⟩ := h.v; exact ⟨p, c, h⟩
  obtain ⟨pa, ca, rfl⟩ := h.a.form
  have hb1 := (Below.refl w.heap.size w).alloc (Nat.le_refl _) (.cells #[.int .i64 op, .bool now, .int .i64 fl, .slice pv vs.length cv, .slice pa al.length ca, .string (S d)] 45)
  have HK1 := Lib.hid (Blk.new w #[.int .i64 op, .bool now, .int .i64 fl, .slice pv vs.length cv, .slice pa al.length ca, .string (S d)] 45)
  have C1 := Lib.hid (wideK_any al _ _ (h.a.later hb1) hf.a)
  have hvl := hf.vs
  have hdl := hf.d
  have Hb1 := Lib.hid hb1
  simp only at hvl hdl ⊢
  clear h hf hb1
  unfold pduV
  simp only
  go_enter Tryz.func26, Tryz.ntmps26
  go_wp2_with fail
  refine C1.out.mono ?_
  rintro e w3 ⟨bb, rfl, hb3⟩
  have HK2 := Lib.hid (HK1.out.later hb3)
  have Hb3 := Lib.hid (below_then Hb1.out hb3)
  obtain ⟨q0, q1, q2, q3, q4, q5⟩ := HK2.out.six
  clear hb3 C1 HK1 Hb1
  cases bb with
  | true =>
    go_wp2_with fail
    go_ret
    exact ⟨_, rfl, fun h => absurd h (by decide), Hb3.out⟩
  | false =>
    by_cases h50 : vs.length ≤ 50
    · by_cases h25 : d.length ≤ 2500
      · have i1 : (vs.length : Int) ≤ 50 := by omega
        have i2 : (d.length : Int) ≤ 2500 := by omega
        go_wp2_with fail
        go_ret
        exact ⟨_, rfl, fun _ => ⟨h50, h25⟩, Hb3.out⟩
      · have i1 : (vs.length : Int) ≤ 50 := by omega
        have i2 : (2500 : Int) < (d.length : Int) := by omega
        clear h25
        go_wp2_with fail
        go_ret
        exact ⟨true, by go_simp, fun h => absurd h (by decide), Hb3.out⟩
    · have i1 : (50 : Int) < (vs.length : Int) := by omega
      clear h50
      go_wp2_with fail
      go_ret
      exact ⟨true, by go_simp, fun h => absurd h (by decide), Hb3.out⟩
end Go.Proofs.YtlkikkfbennmnaaGreatDoor
