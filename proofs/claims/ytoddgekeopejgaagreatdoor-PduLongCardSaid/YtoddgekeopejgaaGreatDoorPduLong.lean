/- PduLong: a digest has four bytes, that of data just if there are some. -/
import Derived.Test.YtoddgekeopejgaaGreatDoorPduBack
import Derived.Test.YtoddgekeopejgaaGreatDoorMore
import Derived.BigQuiet
namespace Go.Proofs.YtoddgekeopejgaaGreatDoor
open Go.RowKit
set_option linter.unusedVariables false
set_option maxRecDepth 100000 in
set_option maxHeartbeats 2000000 in
theorem pduLong_any (p : Pd) (vv va : Value) (w : World) (hp : PduAt w p vv va) (hf : FitP p) (hg : ErrCell w) (hm : MaxCell w) :
    Calls Tryz.prog 9 #[pduV p vv va] w fun e w' => e = .returned (.bool true) ∧ Below w.heap.size w w' := by
  have hb0 := (Below.refl w.heap.size w).alloc (Nat.le_refl _) (.cells (cells6 p vv va) 27)
  have hk := Blk.new w (cells6 p vv va) 27
  have M := Lib.hid (wrapped_any _ (hm.later hb0) (hg.later hb0))
  have L := fun W (h : PduAt W p vv va) => Lib.hid (large_any p vv va W h hf)
  have Rt := fun W (h : PduAt W p vv va) hc hg => Lib.hid (rightP_any p vv va W h hf hc hg)
  have HP := Lib.hid (hp.later hb0)
  have Hb0 := Lib.hid hb0
  have HK := Lib.hid hk
  have Hg := Lib.hid hg
  have Hm := Lib.hid hm
  have Mo := fun W hg => Lib.hid (more_fact W hg)
  by_cases hr : rightP p = 0
  · have RP := rightP_is hr
    have hd := RP.d
    have ha := RP.a
    have Wx : ∀ m : Nat, m ≤ 3 → ∀ W, PduAt W p vv va → MaxCell W → ErrCell W → Calls Tryz.prog 13 #[pduV p vv va, .int .i64 (m : Int)] W (RetSE W (bytesP p m, 0, -1)) := fun m h3 W h hc hg => by
      have hW : writeP p (m : Int) = (bytesP p m, 0) := by unfold writeP; rw [if_neg (by unfold okM; omega), if_neg (by simp [hr])]; rfl
      have := writeP_any p vv va (m : Int) W (by unfold I64; omega) h hf hc hg
      rw [hW] at this
      exact this
    have l0 := bytesP_len RP 0
    have l1 := bytesP_len RP 1
    have l2 := bytesP_len RP 2
    have l3 := bytesP_len RP 3
    rw [if_neg (by decide), if_neg (by rintro ⟨h, _⟩; exact absurd h (by decide)), ← padded_length] at l0
    rw [if_pos (by decide), if_neg (by rintro ⟨h, _⟩; exact absurd h (by decide)), ← padded_length] at l1
    rw [if_neg (by decide), ← padded_length] at l2
    rw [if_pos (by decide), ← padded_length] at l3
    obtain ⟨dt, hdt⟩ : ∃ dt, (if p.d.length ≠ 0 then 4 else 0) = dt := ⟨_, rfl⟩
    have e2 : (if 2 / 2 % 2 = 1 ∧ p.d.length ≠ 0 then 4 else 0) = dt := by rw [← hdt]; simp
    have e3 : (if 3 / 2 % 2 = 1 ∧ p.d.length ≠ 0 then 4 else 0) = dt := by rw [← hdt]; simp
    rw [e2] at l2
    rw [e3] at l3
    have W0 : ∀ W, PduAt W p vv va → MaxCell W → ErrCell W → Hid (Calls Tryz.prog 13 #[pduV p vv va, .int .i64 0] W (RetSE W (bytesP p 0, 0, -1))) := fun W h hc hg => Lib.hid (Wx 0 (by decide) W h hc hg)
    have W1 : ∀ W, PduAt W p vv va → MaxCell W → ErrCell W → Hid (Calls Tryz.prog 13 #[pduV p vv va, .int .i64 1] W (RetSE W (bytesP p 1, 0, -1))) := fun W h hc hg => Lib.hid (Wx 1 (by decide) W h hc hg)
    have W2 : ∀ W, PduAt W p vv va → MaxCell W → ErrCell W → Hid (Calls Tryz.prog 13 #[pduV p vv va, .int .i64 2] W (RetSE W (bytesP p 2, 0, -1))) := fun W h hc hg => Lib.hid (Wx 2 (by decide) W h hc hg)
    have W3 : ∀ W, PduAt W p vv va → MaxCell W → ErrCell W → Hid (Calls Tryz.prog 13 #[pduV p vv va, .int .i64 3] W (RetSE W (bytesP p 3, 0, -1))) := fun W h hc hg => Lib.hid (Wx 3 (by decide) W h hc hg)
    have Wa := fun W (h : PduAt W p vv va) => write_ahs p.a va W h.a hf.a
    rw [writeA_ok RP.k RP.a] at Wa
    have Pd : ∀ W, Hid (Calls Tryz.prog 31 #[.string (S p.d)] W fun e w' => e = .returned (.string (S (padded p.d))) ∧ Below W.heap.size W w') := fun W => Lib.hid ((padded_any p.d W (by omega)).mono fun e w' ⟨h1, h2⟩ => ⟨h1, h2 ▸ Below.refl _ _⟩)
    have hpl := padded_length p.d
    have hp3 := pad_le p.d.length
    have hdt4 : dt ≤ 4 := by rw [← hdt]; split <;> omega
    have hdd : (p.d.isEmpty = true ∧ dt = 0) ∨ (p.d.isEmpty = false ∧ dt = 4) := by
      rw [← hdt]
      cases hpd : p.d with
      | nil => exact .inl ⟨rfl, rfl⟩
      | cons x l => exact .inr ⟨rfl, rfl⟩
    rw [hr] at Rt
    have HP0 := Lib.hid hp
    obtain ⟨⟨op, now, fl, vs⟩, al, d⟩ := p
    obtain ⟨pv, cv, rfl⟩ : ∃ p c, vv = .slice p vs.length c := by obtain ⟨p, c, h, _⟩ := hp.v; exact ⟨p, c, h⟩
    obtain ⟨pa, ca, rfl⟩ := hp.a.form
    unfold cells6 at HK Hb0 M HP
    simp only at *
    generalize bytesP ⟨⟨op, now, fl, vs⟩, al, d⟩ 0 = s0 at *
    generalize bytesP ⟨⟨op, now, fl, vs⟩, al, d⟩ 1 = s1 at *
    generalize bytesP ⟨⟨op, now, fl, vs⟩, al, d⟩ 2 = s2 at *
    generalize bytesP ⟨⟨op, now, fl, vs⟩, al, d⟩ 3 = s3 at *
    generalize wrL al = sa at *
    generalize padded d = pd at *
    have k0 : (48 : Int) + (sa.length : Int) + (pd.length : Int) = (s0.length : Int) := by omega
    have k1 : (s0.length : Int) + 4 = (s1.length : Int) := by omega
    have k2 : (s0.length : Int) + (dt : Int) = (s2.length : Int) := by omega
    have k3 : (s1.length : Int) + (dt : Int) = (s3.length : Int) := by omega
    have HK01 := Lib.hid k0
    have HK02 := Lib.hid k1
    have HK03 := Lib.hid k2
    have HK04 := Lib.hid k3
    have b0 : s0.length ≤ 200000 := by omega
    have b1 : s1.length ≤ 200000 := by omega
    have b2 : s2.length ≤ 200000 := by omega
    have b3 : s3.length ≤ 200000 := by omega
    have bp : pd.length ≤ 100003 := by omega
    have HWa := Lib.hid Wa
    have Hdd := Lib.hid hdd
    unfold pduV at L Rt W0 W1 W2 W3 ⊢
    simp only at HK Hb0 M HP L Rt W0 W1 W2 W3 ⊢
    clear hb0 hk RP hr hp hf hg hm hd Wx l0 l1 l2 l3 hdt e2 e3 Wa hpl hp3 k0 k1 k2 k3 hdd
    go_enter Tryz.func9, Tryz.ntmps9
    go_wp2_with fail
    refine M.out.mono ?_
    rintro e w1 ⟨rfl, hb1⟩
    have HK1 := Lib.hid (HK.out.later hb1)
    have HP1 := Lib.hid (HP.out.later hb1)
    have Hb1 := Lib.hid (below_then Hb0.out hb1)
    clear hb1 HK HP Hb0 M
    go_wp2_with fail
    refine (Mo _ (Hg.out.later Hb1.out)).out.mono ?_
    rintro e w1' ⟨rfl, hb1⟩
    have HK1' := Lib.hid (HK1.out.later hb1)
    have HP1' := Lib.hid (HP1.out.later hb1)
    have Hb1' := Lib.hid (below_then Hb1.out hb1)
    clear hb1 HK1 HP1 Hb1 Mo
    have HK1 := Lib.hid HK1'.out
    have HP1 := Lib.hid HP1'.out
    have Hb1 := Lib.hid Hb1'.out
    clear HK1' HP1' Hb1'
    obtain ⟨q0, q1, q2, q3, q4, q5⟩ := HK1.out.six
    go_wp2_with fail
    refine (L _ HP1.out).out.mono ?_
    rintro e w2 ⟨bb, rfl, hlg, hb2⟩
    have HK2 := Lib.hid (HK1.out.later hb2)
    have HP2 := Lib.hid (HP1.out.later hb2)
    have Hb2 := Lib.hid (below_then Hb1.out hb2)
    clear q0 q1 q2 q3 q4 q5 hb2 HK1 HP1 Hb1 L
    obtain ⟨q0, q1, q2, q3, q4, q5⟩ := HK2.out.six
    cases bb with
    | true =>
      go_wp2_with fail
      go_ret
      exact ⟨rfl, Hb2.out⟩
    | false =>
      go_wp2_with fail
      refine (Rt _ HP2.out (Hm.out.later Hb2.out) (Hg.out.later Hb2.out)).out.mono ?_
      rintro e w3 ⟨ev, rfl, he, hb3⟩
      have HK3 := Lib.hid (HK2.out.later hb3)
      have HP3 := Lib.hid (HP2.out.later hb3)
      have Hb3 := Lib.hid (below_then Hb2.out hb3)
      clear q0 q1 q2 q3 q4 q5 hb3 HK2 HP2 Hb2 Rt
      obtain rfl := he.zero
      clear he
      obtain ⟨q0, q1, q2, q3, q4, q5⟩ := HK3.out.six
      go_wp2_with fail
      have hbn := (Below.refl w3.heap.size w3).alloc (Nat.le_refl _) (.cells #[.int .i64 0, .int .i64 0, .int .i64 0, .int .i64 0] 59)
      have HN0 := Lib.hid (Blk.new w3 #[.int .i64 0, .int .i64 0, .int .i64 0, .int .i64 0] 59)
      have HKa := Lib.hid (HK3.out.later hbn)
      have HL0 := Lib.hid (below_then Hb3.out hbn)
      have hz3 := HK3.out.lt
      clear q0 q1 q2 q3 q4 q5 HK3 HP3 Hb3 hbn hlg
      generalize w3.alloc (.cells #[.int .i64 0, .int .i64 0, .int .i64 0, .int .i64 0] 59) = U0 at HN0 HKa HL0 ⊢
      obtain ⟨nb, hnb⟩ : ∃ nb, w3.heap.size = nb := ⟨_, rfl⟩
      simp only [hnb] at HN0 hz3 ⊢
      have hnz : w.heap.size ≠ nb := by omega
      have hnl : w.heap.size ≤ nb := by omega
      clear hnb
      refine wp_loop_rounds 5 ?_
      rw [rounds_succ]
      obtain ⟨q0, q1, q2, q3, q4, q5⟩ := HKa.out.six
      go_wp2_with fail
      refine (W0 U0 (HP0.out.later HL0.out) (Hm.out.later HL0.out) (Hg.out.later HL0.out)).out.mono ?_
      rintro e V0 ⟨ev, rfl, he, hbv⟩
      obtain rfl := he.zero
      have HNv := Lib.hid (HN0.out.later hbv)
      have HKv := Lib.hid (HKa.out.later hbv)
      have HLv := Lib.hid (below_then HL0.out hbv)
      clear q0 q1 q2 q3 q4 q5 he hbv HN0 HKa HL0 W0
      obtain ⟨n0, n1, n2, n3⟩ := HNv.out.four
      have fr := HNv.out.frozen 0
      go_wp2_with fail
      have HN1 : Hid (Blk (V0.setCell ⟨nb, 0, none⟩ (.int .i64 (s0.length : Int))) nb #[.int .i64 (s0.length : Int), .int .i64 0, .int .i64 0, .int .i64 0] 59) := Lib.hid (HNv.out.set 0 _)
      have HKa := Lib.hid (HKv.out.other (i := 0) hnz (.int .i64 (s0.length : Int)))
      have HL1 := Lib.hid (HLv.out.setCell (p := ⟨nb, 0, none⟩) hnl (.int .i64 (s0.length : Int)))
      clear n0 n1 n2 n3 fr HNv HKv HLv
      generalize V0.setCell ⟨nb, 0, none⟩ (.int .i64 (s0.length : Int)) = U1 at HN1 HKa HL1 ⊢
      rw [rounds_succ]
      obtain ⟨q0, q1, q2, q3, q4, q5⟩ := HKa.out.six
      go_wp2_with fail
      refine (W1 U1 (HP0.out.later HL1.out) (Hm.out.later HL1.out) (Hg.out.later HL1.out)).out.mono ?_
      rintro e V1 ⟨ev, rfl, he, hbv⟩
      obtain rfl := he.zero
      have HNv := Lib.hid (HN1.out.later hbv)
      have HKv := Lib.hid (HKa.out.later hbv)
      have HLv := Lib.hid (below_then HL1.out hbv)
      clear q0 q1 q2 q3 q4 q5 he hbv HN1 HKa HL1 W1
      obtain ⟨n0, n1, n2, n3⟩ := HNv.out.four
      have fr := HNv.out.frozen 1
      go_wp2_with fail
      have HN2 : Hid (Blk (V1.setCell ⟨nb, 1, none⟩ (.int .i64 (s1.length : Int))) nb #[.int .i64 (s0.length : Int), .int .i64 (s1.length : Int), .int .i64 0, .int .i64 0] 59) := Lib.hid (HNv.out.set 1 _)
      have HKa := Lib.hid (HKv.out.other (i := 1) hnz (.int .i64 (s1.length : Int)))
      have HL2 := Lib.hid (HLv.out.setCell (p := ⟨nb, 1, none⟩) hnl (.int .i64 (s1.length : Int)))
      clear n0 n1 n2 n3 fr HNv HKv HLv
      generalize V1.setCell ⟨nb, 1, none⟩ (.int .i64 (s1.length : Int)) = U2 at HN2 HKa HL2 ⊢
      rw [rounds_succ]
      obtain ⟨q0, q1, q2, q3, q4, q5⟩ := HKa.out.six
      go_wp2_with fail
      refine (W2 U2 (HP0.out.later HL2.out) (Hm.out.later HL2.out) (Hg.out.later HL2.out)).out.mono ?_
      rintro e V2 ⟨ev, rfl, he, hbv⟩
      obtain rfl := he.zero
      have HNv := Lib.hid (HN2.out.later hbv)
      have HKv := Lib.hid (HKa.out.later hbv)
      have HLv := Lib.hid (below_then HL2.out hbv)
      clear q0 q1 q2 q3 q4 q5 he hbv HN2 HKa HL2 W2
      obtain ⟨n0, n1, n2, n3⟩ := HNv.out.four
      have fr := HNv.out.frozen 2
      go_wp2_with fail
      have HN3 : Hid (Blk (V2.setCell ⟨nb, 2, none⟩ (.int .i64 (s2.length : Int))) nb #[.int .i64 (s0.length : Int), .int .i64 (s1.length : Int), .int .i64 (s2.length : Int), .int .i64 0] 59) := Lib.hid (HNv.out.set 2 _)
      have HKa := Lib.hid (HKv.out.other (i := 2) hnz (.int .i64 (s2.length : Int)))
      have HL3 := Lib.hid (HLv.out.setCell (p := ⟨nb, 2, none⟩) hnl (.int .i64 (s2.length : Int)))
      clear n0 n1 n2 n3 fr HNv HKv HLv
      generalize V2.setCell ⟨nb, 2, none⟩ (.int .i64 (s2.length : Int)) = U3 at HN3 HKa HL3 ⊢
      rw [rounds_succ]
      obtain ⟨q0, q1, q2, q3, q4, q5⟩ := HKa.out.six
      go_wp2_with fail
      refine (W3 U3 (HP0.out.later HL3.out) (Hm.out.later HL3.out) (Hg.out.later HL3.out)).out.mono ?_
      rintro e V3 ⟨ev, rfl, he, hbv⟩
      obtain rfl := he.zero
      have HNv := Lib.hid (HN3.out.later hbv)
      have HKv := Lib.hid (HKa.out.later hbv)
      have HLv := Lib.hid (below_then HL3.out hbv)
      clear q0 q1 q2 q3 q4 q5 he hbv HN3 HKa HL3 W3
      obtain ⟨n0, n1, n2, n3⟩ := HNv.out.four
      have fr := HNv.out.frozen 3
      go_wp2_with fail
      have HN4 : Hid (Blk (V3.setCell ⟨nb, 3, none⟩ (.int .i64 (s3.length : Int))) nb #[.int .i64 (s0.length : Int), .int .i64 (s1.length : Int), .int .i64 (s2.length : Int), .int .i64 (s3.length : Int)] 59) := Lib.hid (HNv.out.set 3 _)
      have HKa := Lib.hid (HKv.out.other (i := 3) hnz (.int .i64 (s3.length : Int)))
      have HL4 := Lib.hid (HLv.out.setCell (p := ⟨nb, 3, none⟩) hnl (.int .i64 (s3.length : Int)))
      clear n0 n1 n2 n3 fr HNv HKv HLv
      generalize V3.setCell ⟨nb, 3, none⟩ (.int .i64 (s3.length : Int)) = U4 at HN4 HKa HL4 ⊢
      rw [rounds_succ]
      obtain ⟨q0, q1, q2, q3, q4, q5⟩ := HKa.out.six
      go_wp2_with fail
      refine (HWa.out U4 (HP0.out.later HL4.out)).mono ?_
      rintro e w8 ⟨ev, rfl, he, hb8⟩
      obtain rfl := he.zero
      have HN8 := Lib.hid (HN4.out.later hb8)
      have HK8 := Lib.hid (HKa.out.later hb8)
      have HL8 := Lib.hid (below_then HL4.out hb8)
      clear q0 q1 q2 q3 q4 q5 he hb8 HN4 HKa HL4 HWa
      obtain ⟨q0, q1, q2, q3, q4, q5⟩ := HK8.out.six
      obtain ⟨n0, n1, n2, n3⟩ := HN8.out.four
      have F1 : IntKind.i64.wrap (48 + (sa.length : Int)) = 48 + (sa.length : Int) := IntWalk.i64_in _ (by omega)
      have F2 : IntKind.i64.wrap (48 + (sa.length : Int) + (pd.length : Int)) = (s0.length : Int) := by rw [HK01.out]; exact IntWalk.i64_in _ (by omega)
      have F3 : IntKind.i64.wrap ((s0.length : Int) + 4) = (s1.length : Int) := by rw [HK02.out]; exact IntWalk.i64_in _ (by omega)
      have F4 : IntKind.i64.wrap (s0.length : Int) = (s0.length : Int) := IntWalk.i64_in _ (by omega)
      have F5 : IntKind.i64.wrap (s1.length : Int) = (s1.length : Int) := IntWalk.i64_in _ (by omega)
      have i0 : (s0.length : Int) ≤ 200000 := by omega
      have i1 : (s1.length : Int) ≤ 200000 := by omega
      have i2 : (s2.length : Int) ≤ 200000 := by omega
      have i3 : (s3.length : Int) ≤ 200000 := by omega
      have i4 : (sa.length : Int) ≤ 1020 := by omega
      have i5 : (pd.length : Int) ≤ 100003 := by omega
      have hB : ((d.isEmpty = true) ∧ dt = 0 ∧ ((s2.length : Int) == (s0.length : Int)) = true ∧ ((s3.length : Int) == (s1.length : Int)) = true) ∨ (d.isEmpty = false ∧ dt = 4 ∧ ((s2.length : Int) == (s1.length : Int)) = true ∧ ((s3.length : Int) == IntKind.i64.wrap ((s1.length : Int) + 4)) = true) := by
        have k1 := HK02.out
        have k2 := HK03.out
        have k3 := HK04.out
        rcases Hdd.out with ⟨d1, d2⟩ | ⟨d1, d2⟩
        · exact .inl ⟨d1, d2, by rw [beq_iff_eq]; omega, by rw [beq_iff_eq]; omega⟩
        · exact .inr ⟨d1, d2, by rw [beq_iff_eq]; omega, by rw [beq_iff_eq, IntWalk.i64_in _ (by omega)]; omega⟩
      clear HK01 HK02 HK03 HK04 Hdd b0 b1 b2 b3 bp ha hdt4
      rcases hB with ⟨d1, d2, B2, B3⟩ | ⟨d1, d2, B2, B3⟩
      all_goals
        clear d2
        go_wp2_with fail
        go_region_held3 (fun w' => Below w8.heap.size w8 w' ∧ w'.cell? ⟨nb, 0, none⟩ = some (.int .i64 (s0.length : Int)) ∧ w'.cell? ⟨nb, 1, none⟩ = some (.int .i64 (s1.length : Int)) ∧ w'.cell? ⟨nb, 2, none⟩ = some (.int .i64 (s2.length : Int)) ∧ w'.cell? ⟨nb, 3, none⟩ = some (.int .i64 (s3.length : Int)) ∧ w'.cell? ⟨w.heap.size, 5, none⟩ = some (.string (S d)))
          (first | assumption | exact ⟨Below.refl _ _, n0, n1, n2, n3, q5⟩ | exact ⟨(Below.refl _ _).drew, n0, n1, n2, n3, q5⟩ | exact keep5 (by assumption) hb')
          (first | ((with_reducible refine (Pd _).out.mono ?_); rintro e w' ⟨rfl, hb'⟩))
        all_goals
          have Hend := Lib.hid (below_then HL8.out (‹Below w8.heap.size w8 w' ∧ _›).1)
          clear q0 q1 q2 q3 q4 q5 n0 n1 n2 n3
          go_wp2_with fail
          go_ret
          exact ⟨rfl, Hend.out⟩
  · have Hr := Lib.hid hr
    obtain ⟨⟨op, now, fl, vs⟩, al, d⟩ := p
    obtain ⟨pv, cv, rfl⟩ : ∃ p c, vv = .slice p vs.length c := by obtain ⟨p, c, h, _⟩ := hp.v; exact ⟨p, c, h⟩
    obtain ⟨pa, ca, rfl⟩ := hp.a.form
    unfold cells6 at HK Hb0 M HP
    unfold pduV at L Rt ⊢
    simp only at HK Hb0 M HP L Rt ⊢
    clear hb0 hk hr hp hf hg hm
    go_enter Tryz.func9, Tryz.ntmps9
    go_wp2_with fail
    refine M.out.mono ?_
    rintro e w1 ⟨rfl, hb1⟩
    have HK1 := Lib.hid (HK.out.later hb1)
    have HP1 := Lib.hid (HP.out.later hb1)
    have Hb1 := Lib.hid (below_then Hb0.out hb1)
    clear hb1 HK HP Hb0 M
    go_wp2_with fail
    refine (Mo _ (Hg.out.later Hb1.out)).out.mono ?_
    rintro e w1' ⟨rfl, hb1⟩
    have HK1' := Lib.hid (HK1.out.later hb1)
    have HP1' := Lib.hid (HP1.out.later hb1)
    have Hb1' := Lib.hid (below_then Hb1.out hb1)
    clear hb1 HK1 HP1 Hb1 Mo
    have HK1 := Lib.hid HK1'.out
    have HP1 := Lib.hid HP1'.out
    have Hb1 := Lib.hid Hb1'.out
    clear HK1' HP1' Hb1'
    obtain ⟨q0, q1, q2, q3, q4, q5⟩ := HK1.out.six
    go_wp2_with fail
    refine (L _ HP1.out).out.mono ?_
    rintro e w2 ⟨bb, rfl, hlg, hb2⟩
    have HK2 := Lib.hid (HK1.out.later hb2)
    have HP2 := Lib.hid (HP1.out.later hb2)
    have Hb2 := Lib.hid (below_then Hb1.out hb2)
    clear q0 q1 q2 q3 q4 q5 hb2 HK1 HP1 Hb1 L
    obtain ⟨q0, q1, q2, q3, q4, q5⟩ := HK2.out.six
    cases bb with
    | true =>
      go_wp2_with fail
      go_ret
      exact ⟨rfl, Hb2.out⟩
    | false =>
      go_wp2_with fail
      refine (Rt _ HP2.out (Hm.out.later Hb2.out) (Hg.out.later Hb2.out)).out.mono ?_
      rintro e w3 ⟨ev, rfl, he, hb3⟩
      have HK3 := Lib.hid (HK2.out.later hb3)
      have HP3 := Lib.hid (HP2.out.later hb3)
      have Hb3 := Lib.hid (below_then Hb2.out hb3)
      clear q0 q1 q2 q3 q4 q5 hb3 HK2 HP2 Hb2 Rt
      obtain ⟨t, x, rfl⟩ := he.iface Hr.out
      go_wp2_with fail
      go_ret
      exact ⟨rfl, Hb3.out⟩
end Go.Proofs.YtoddgekeopejgaaGreatDoor
