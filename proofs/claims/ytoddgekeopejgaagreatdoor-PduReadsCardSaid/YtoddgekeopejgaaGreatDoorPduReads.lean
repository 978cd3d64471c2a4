/- PduReads: any bytes as a PDU are the document's. -/
import Derived.Test.YtoddgekeopejgaaGreatDoorRefPduP
import Derived.Test.YtoddgekeopejgaaGreatDoorRefSame
import Derived.Test.YtoddgekeopejgaaGreatDoorPduRead
import Derived.Test.YtoddgekeopejgaaGreatDoorPduFit
import Derived.Test.YtoddgekeopejgaaGreatDoorPduWrites
namespace Go.Proofs.YtoddgekeopejgaaGreatDoor
open Go.RowKit
set_option linter.unusedVariables false
theorem readP_small (s : List UInt8) (m : Int) : (readP s m).1.h.vs.length ≤ 10 ∧ (readP s m).1.a.length ≤ 1020 := by
  by_cases h : (readP s m).2.2 = 0
  · obtain ⟨_, p, n, hR, hr, _⟩ := readP_is h
    have RP := rightP_is hr
    have hg := wrL_ge p.a
    have ha := RP.a
    rw [hR]
    exact ⟨RP.vs, by simp only; omega⟩
  · rw [readP_err h]
    exact ⟨Nat.zero_le _, Nat.zero_le _⟩
set_option maxRecDepth 100000 in
set_option maxHeartbeats 4000000 in
theorem pduReads_any (s : List UInt8) (m : Int) (w : World) (hs : s.length ≤ 140737488351232) (hm : (Lit.int .i64 m).wf = true) (hg : ErrCell w) (hx : MaxCell w) :
    Calls Tryz.prog 4 #[.string (S s), .int .i64 m] w fun e w' => e = .returned (.bool true) ∧ Below w.heap.size w w' := by
  have hI : I64 m := by
    simp [Lit.wf, IntKind.min, IntKind.max, IntKind.signed, IntKind.bits] at hm
    unfold I64; omega
  by_cases h3 : 3000 < s.length
  · have i1 : (3000 : Int) < (s.length : Int) := by omega
    clear h3 hs hm hg hx hI
    go_enter Tryz.func4, Tryz.ntmps4
    go_wp2_with fail
    go_ret
    exact ⟨rfl, Below.refl _ _⟩
  · have i1 : (s.length : Int) ≤ 3000 := by omega
    have Sm := readP_small s m
    have A := Lib.hid (fun W => refReadP_any s m W (by omega))
    have B := Lib.hid (fun W hc hg => readP_any s m W hI hs hc hg)
    have X := Lib.hid (fun W => refSize_any s m W hs)
    have Y := Lib.hid (fun W => size_any2 s m W hI hs)
    generalize readP s m = r at *
    generalize sizeP s m = z at *
    obtain ⟨⟨⟨op, now, fl, vs⟩, al, d⟩, nn, er⟩ := r
    obtain ⟨zz, ez⟩ := z
    simp only at Sm X Y
    have Hs := Lib.hid Sm
    have Hg := Lib.hid hg
    have Hx := Lib.hid hx
    clear Sm h3 hs hm hg hx hI
    go_enter Tryz.func4, Tryz.ntmps4
    go_wp2_with fail
    refine (A.out _).mono ?_
    rintro e w1 ⟨vv, va, rfl, hP, hb1⟩
    obtain ⟨pv, cv, rfl⟩ : ∃ p c, vv = .slice p vs.length c := by obtain ⟨p, c, h, _⟩ := hP.v; exact ⟨p, c, h⟩
    obtain ⟨pa, ca, rfl⟩ := hP.a.form
    have hbn := (Below.refl w1.heap.size w1).alloc (Nat.le_refl _) (.cells #[.int .i64 op, .bool now, .int .i64 fl, .slice pv vs.length cv, .slice pa al.length ca, .string (S d)] 27)
    have HK1 := Lib.hid (Blk.new w1 #[.int .i64 op, .bool now, .int .i64 fl, .slice pv vs.length cv, .slice pa al.length ca, .string (S d)] 27)
    have Hb1 := Lib.hid (below_then hb1 hbn)
    have HP1 := Lib.hid (hP.later hbn)
    clear hP hb1 hbn A
    unfold pduV
    simp only
    go_wp2_with fail
    refine (B.out _ (Hx.out.later Hb1.out) (Hg.out.later Hb1.out)).mono ?_
    rintro e w2 ⟨vv, va, ev, rfl, hP, hE, hb2⟩
    obtain ⟨pv', cv', rfl⟩ : ∃ p c, vv = .slice p vs.length c := by obtain ⟨p, c, h, _⟩ := hP.v; exact ⟨p, c, h⟩
    obtain ⟨pa', ca', rfl⟩ := hP.a.form
    have hbn := (Below.refl w2.heap.size w2).alloc (Nat.le_refl _) (.cells #[.int .i64 op, .bool now, .int .i64 fl, .slice pv' vs.length cv', .slice pa' al.length ca', .string (S d)] 27)
    have HL2 := Lib.hid (Blk.new w2 #[.int .i64 op, .bool now, .int .i64 fl, .slice pv' vs.length cv', .slice pa' al.length ca', .string (S d)] 27)
    have HK2 := Lib.hid (HK1.out.later (below_then hb2 hbn))
    have Hb2 := Lib.hid (below_then Hb1.out (below_then hb2 hbn))
    have HP2 := Lib.hid (HP1.out.later (below_then hb2 hbn))
    have HQ2 := Lib.hid (hP.later hbn)
    have HE := Lib.hid hE
    clear hP hb2 hbn B HK1 Hb1 HP1 hE
    unfold pduV
    simp only
    go_wp2_with fail
    refine (X.out _).mono ?_
    rintro e w3 ⟨rfl, hb3⟩
    have HL3 := Lib.hid (HL2.out.later hb3)
    have HK3 := Lib.hid (HK2.out.later hb3)
    have Hb3 := Lib.hid (below_then Hb2.out hb3)
    have HP3 := Lib.hid (HP2.out.later hb3)
    have HQ3 := Lib.hid (HQ2.out.later hb3)
    clear hb3 X HK2 HL2 Hb2 HP2 HQ2
    go_wp2_with fail
    refine (Y.out _).mono ?_
    rintro e w4 ⟨ey, rfl, hY, hb4⟩
    have HL4 := Lib.hid (HL3.out.later hb4)
    have HK4 := Lib.hid (HK3.out.later hb4)
    have Hb4 := Lib.hid (below_then Hb3.out hb4)
    have HP4 := Lib.hid (HP3.out.later hb4)
    have HQ4 := Lib.hid (HQ3.out.later hb4)
    have HY := Lib.hid hY
    clear hb4 Y HK3 HL3 Hb3 HP3 HQ3 hY
    obtain ⟨p0, p1, p2, p3, p4, p5⟩ := HK4.out.six
    obtain ⟨q0, q1, q2, q3, q4, q5⟩ := HL4.out.six
    go_wp2_with fail
    refine (bare_is (HE.out.is _) (Hg.out.later Hb4.out)).mono ?_
    rintro e w5 ⟨rfl, hb5⟩
    have HL5 := Lib.hid (HL4.out.later hb5)
    have HK5 := Lib.hid (HK4.out.later hb5)
    have Hb5 := Lib.hid (below_then Hb4.out hb5)
    have HP5 := Lib.hid (HP4.out.later hb5)
    have HQ5 := Lib.hid (HQ4.out.later hb5)
    clear p0 p1 p2 p3 p4 p5 q0 q1 q2 q3 q4 q5 hb5 HK4 HL4 Hb4 HP4 HQ4
    obtain ⟨p0, p1, p2, p3, p4, p5⟩ := HK5.out.six
    obtain ⟨q0, q1, q2, q3, q4, q5⟩ := HL5.out.six
    go_wp2_with fail
    refine (refSame_same ⟨⟨op, now, fl, vs⟩, al, d⟩ _ _ _ _ _ HP5.out HQ5.out (by have := Hs.out.1; simp only; omega) (by have := Hs.out.2; simp only; omega)).mono ?_
    rintro e w6 ⟨rfl, hb6⟩
    have Hb6 := Lib.hid (below_then Hb5.out hb6)
    clear p0 p1 p2 p3 p4 p5 q0 q1 q2 q3 q4 q5 hb6 HK5 HL5 Hb5 HP5 HQ5
    go_wp2_with fail
    refine (bare_is (HY.out.is _) (Hg.out.later Hb6.out)).mono ?_
    rintro e w7 ⟨rfl, hb7⟩
    have Hb7 := Lib.hid (below_then Hb6.out hb7)
    clear hb7 Hb6
    go_wp2_with fail
    go_ret
    exact ⟨rfl, Hb7.out⟩
end Go.Proofs.YtoddgekeopejgaaGreatDoor
