/- PduOnly: what is read is right, and is written so. -/
import Derived.Test.YtoddgekeopejgaaGreatDoorPduBack
import Derived.Test.YtoddgekeopejgaaGreatDoorPduFit
namespace Go.Proofs.YtoddgekeopejgaaGreatDoor
open Go.RowKit
set_option linter.unusedVariables false
set_option maxRecDepth 100000 in
theorem pduOnly_any (s : List UInt8) (a : Int) (w : World) (hl : s.length ≤ 140737488351232) (_ha : (Lit.int .i64 a).wf = true) (hg : ErrCell w) (hm : MaxCell w) :
    Calls Tryz.prog 6 #[.string (S s), .int .i64 a] w fun e w' => e = .returned (.bool true) ∧ Below w.heap.size w w' := by
  have M := Lib.hid (wrapped_any w hm hg)
  have K : ∀ W, Hid (Calls Tryz.prog 25 #[.int .i64 a, .int .i64 4] W fun e w' => e = .returned (.int .i64 (pickI a 4 : Nat)) ∧ W = w') := fun W => Lib.hid (pick_any a 4 W (by decide) (by decide))
  have Rd := fun W hc hg => Lib.hid (readP_any s (pickI a 4 : Nat) W (I64_pick a) hl hc hg)
  have hok := okM_pick a
  have hI := I64_pick a
  have Hg := Lib.hid hg
  have Hm := Lib.hid hm
  by_cases h3 : 3000 < s.length
  · have i1 : (3000 : Int) < (s.length : Int) := by omega
    clear Rd K hg hm hok hI h3 hl
    go_enter Tryz.func6, Tryz.ntmps6
    go_wp2_with fail
    refine M.out.mono ?_
    rintro e w1 ⟨rfl, hb1⟩
    go_wp2_with fail
    go_ret
    exact ⟨rfl, hb1⟩
  · have i1 : (s.length : Int) ≤ 3000 := by omega
    by_cases hr : (readP s (pickI a 4 : Nat)).2.2 = 0
    · obtain ⟨_, p, n, hR, hright, hn, h48, hb, hne⟩ := readP_is hr
      clear hne
      rw [hR] at Rd
      rw [Int.toNat_natCast] at hb
      have RP := rightP_is hright
      have hW : writeP p (pickI a 4 : Nat) = (bytesP p (pickI a 4), 0) := by unfold writeP; rw [if_neg (by simp [hok]), if_neg (by simp [hright])]; rfl
      have Wr := fun vv va W (h : PduAt W p vv va) hc hg => Lib.hid (writeP_any p vv va (pickI a 4 : Nat) W (I64_pick a) h RP.fit hc hg)
      have Rt := fun vv va W (h : PduAt W p vv va) hc hg => Lib.hid (rightP_any p vv va W h RP.fit hc hg)
      rw [hW] at Wr
      rw [hright] at Rt
      simp only [hb] at Wr
      generalize pickI a 4 = m at *
      have i2 : (n : Int) ≤ (s.length : Int) := by omega
      have i3 : (48 : Int) ≤ (n : Int) := by omega
      obtain ⟨⟨op, now, fl, vs⟩, al, d⟩ := p
      unfold pduV at Wr Rt
      simp only at Wr Rt
      clear hg hm hok hI h3 hl hr hR hright hb RP hW hn h48
      go_enter Tryz.func6, Tryz.ntmps6
      go_wp2_with fail
      refine M.out.mono ?_
      rintro e w1 ⟨rfl, hb1⟩
      have Hb1 := Lib.hid hb1
      clear hb1 M
      go_wp2_with fail
      refine (K _).out.mono ?_
      rintro e w2 ⟨rfl, rfl⟩
      go_wp2_with fail
      refine (Rd _ (Hm.out.later Hb1.out) (Hg.out.later Hb1.out)).out.mono ?_
      rintro e w2 ⟨vv, va, ev, rfl, hP, he, hb2⟩
      obtain rfl := he.zero
      obtain ⟨pv, cv, rfl⟩ : ∃ p c, vv = .slice p vs.length c := by obtain ⟨p, c, h, _⟩ := hP.v; exact ⟨p, c, h⟩
      obtain ⟨pa, ca, rfl⟩ := hP.a.form
      have hbn := (Below.refl w2.heap.size w2).alloc (Nat.le_refl _) (.cells #[.int .i64 op, .bool now, .int .i64 fl, .slice pv vs.length cv, .slice pa al.length ca, .string (S d)] 27)
      have HK2 := Lib.hid (Blk.new w2 #[.int .i64 op, .bool now, .int .i64 fl, .slice pv vs.length cv, .slice pa al.length ca, .string (S d)] 27)
      have Hb2 := Lib.hid (below_then Hb1.out (below_then hb2 hbn))
      have HP2 := Lib.hid (hP.later hbn)
      have W2 := Wr _ _ _ HP2.out (Hm.out.later Hb2.out) (Hg.out.later Hb2.out)
      obtain ⟨q0, q1, q2, q3, q4, q5⟩ := HK2.out.six
      clear he hb2 hP hbn Hb1 Rd Wr
      unfold pduV
      simp only
      go_wp2_with fail
      refine W2.out.mono ?_
      rintro e w3 ⟨ev, rfl, he, hb3⟩
      obtain rfl := he.zero
      have HK3 := Lib.hid (HK2.out.later hb3)
      have HP3 := Lib.hid (HP2.out.later hb3)
      have Hb3 := Lib.hid (below_then Hb2.out hb3)
      have R3 := Rt _ _ _ HP3.out (Hm.out.later Hb3.out) (Hg.out.later Hb3.out)
      clear q0 q1 q2 q3 q4 q5 he hb3 HK2 HP2 Hb2 W2 Rt
      obtain ⟨q0, q1, q2, q3, q4, q5⟩ := HK3.out.six
      go_wp2_with fail
      refine R3.out.mono ?_
      rintro e w4 ⟨ev, rfl, he, hb4⟩
      obtain rfl := he.zero
      have Hb4 := Lib.hid (below_then Hb3.out hb4)
      clear q0 q1 q2 q3 q4 q5 he hb4
      go_wp2_with fail
      go_ret
      exact ⟨rfl, Hb4.out⟩
    · have hR := readP_err hr
      obtain ⟨er, her⟩ : ∃ er, (readP s (pickI a 4 : Nat)).2.2 = er := ⟨_, rfl⟩
      rw [her] at hR hr
      rw [hR] at Rd
      have Hr := Lib.hid hr
      generalize pickI a 4 = m at *
      have Sm := fun v1 v2 v3 v4 W h h' => Lib.hid (same_same pd0 v1 v2 v3 v4 W h h' (by decide) (by decide))
      unfold pduV pd0 hd0 at Sm
      simp only at Sm
      clear hg hm hok hI h3 hl hr hR her
      go_enter Tryz.func6, Tryz.ntmps6
      go_wp2_with fail
      refine M.out.mono ?_
      rintro e w1 ⟨rfl, hb1⟩
      have Hb1 := Lib.hid hb1
      clear hb1 M
      go_wp2_with fail
      refine (K _).out.mono ?_
      rintro e w2 ⟨rfl, rfl⟩
      go_wp2_with fail
      refine (Rd _ (Hm.out.later Hb1.out) (Hg.out.later Hb1.out)).out.mono ?_
      rintro e w2 ⟨vv, va, ev, rfl, hP, he, hb2⟩
      obtain rfl := he.iface Hr.out
      obtain ⟨pv, cv, rfl⟩ : ∃ p c, vv = .slice p 0 c := by obtain ⟨p, c, h, _⟩ := hP.v; exact ⟨p, c, h⟩
      obtain ⟨pa, ca, rfl⟩ : ∃ p c, va = .slice p 0 c := hP.a.form
      have hbn := (Below.refl w2.heap.size w2).alloc (Nat.le_refl _) (.cells #[.int .i64 0, .bool false, .int .i64 0, .slice pv 0 cv, .slice pa 0 ca, .string (S [])] 27)
      have HK2 := Lib.hid (Blk.new w2 #[.int .i64 0, .bool false, .int .i64 0, .slice pv 0 cv, .slice pa 0 ca, .string (S [])] 27)
      have Hb2 := Lib.hid (below_then Hb1.out (below_then hb2 hbn))
      have S2 := Sm _ _ _ _ _ (hP.later hbn) (pdu0_at _)
      obtain ⟨q0, q1, q2, q3, q4, q5⟩ := HK2.out.six
      clear he hb2 hP hbn Hb1 Rd Sm
      unfold pduV pd0 hd0
      simp only
      go_wp2_with fail
      refine S2.out.mono ?_
      rintro e w3 ⟨rfl, hb3⟩
      have Hb3 := Lib.hid (below_then Hb2.out hb3)
      clear q0 q1 q2 q3 q4 q5 hb3
      go_wp2_with fail
      go_ret
      exact ⟨rfl, Hb3.out⟩
end Go.Proofs.YtoddgekeopejgaaGreatDoor
