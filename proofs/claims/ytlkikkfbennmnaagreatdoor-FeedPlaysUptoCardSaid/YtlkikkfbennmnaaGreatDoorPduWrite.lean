/- pdu.Write. -/
import Derived.Test.YtlkikkfbennmnaaGreatDoorPduRight
import Derived.Test.YtlkikkfbennmnaaGreatDoorPduSmall
import Derived.Test.YtlkikkfbennmnaaGreatDoorGD
import Derived.Test.YtlkikkfbennmnaaGreatDoorGE
import Derived.Test.YtlkikkfbennmnaaGreatDoorPduSeen
namespace Go.Proofs.YtlkikkfbennmnaaGreatDoor
open Go.RowKit
set_option linter.unusedVariables false
set_option maxRecDepth 100000 in
theorem writeP_any (p : Pd) (vv va : Value) (m : Int) (w : World) (hm : I64 m) (hp : PduAt w p vv va) (hf : FitP p) (hc : MaxCell w) (hg : ErrCell w) :
    Calls Tryz.prog 28 #[pduV p vv va, .int .i64 m] w (RetSE w ((writeP p m).1, (writeP p m).2, -1)) := by
  have M := fun w => Lib.hid (modes_any m w hm)
  have hb0 := (Below.refl w.heap.size w).alloc (Nat.le_refl _) (.cells (cells6 p vv va) 45)
  have hk := Blk.new w (cells6 p vv va) 45
  have hp1 := hp.later hb0
  have R := Lib.hid (rightP_any p vv va _ hp1 hf (hc.later hb0) (hg.later hb0))
  have hfa := hf.a
  have hfl := hf.fl
  have hvs := hf.vs
  by_cases hk3 : okM m
  · simp only [decide_eq_true hk3] at M
    by_cases hr : rightP p = 0
    · have e : writeP p m = (bytesP p m.toNat, 0) := by unfold writeP; rw [if_neg (by simp [hk3]), if_neg (by simp [hr])]
      rw [e]
      have RP := rightP_is hr
      have BP := bytesP_is RP
      have hd := RP.d
      have ha := RP.a
      have hhl := hdrs_len RP
      have hpl := padded_length p.d
      have hp3 := pad_le p.d.length
      rw [hr] at R
      obtain ⟨n, rfl⟩ : ∃ n : Nat, m = n := ⟨m.toNat, by have := hk3.1; omega⟩
      have hn3 : n ≤ 3 := by have := hk3.2; omega
      rw [Int.toNat_natCast]
      have W1 := fun W (h : PduAt W p vv va) => write_ahs p.a va W h.a hfa
      rw [writeA_ok RP.k RP.a] at W1
      have W2 := fun W (h : PduAt W p vv va) (hc : MaxCell W) => write_any p.h vv (((wrL p.a).length / 4 : Nat) : Int) (p.d.length : Int) W hfl hc h.v hvs
      have e2 : writeR p.h (((wrL p.a).length / 4 : Nat) : Int) (p.d.length : Int) = (headB p.h ((wrL p.a).length / 4) p.d.length, 0, -1) := by
        unfold writeR
        simp only [RP.h]
        rw [if_neg (by decide), if_neg (by omega)]
        simp only [Int.toNat_natCast]
      rw [e2] at W2
      have W3 := fun W => padded_any p.d W (by omega)
      have W4 : ∀ W, Calls Tryz.prog 50 #[.string (S (hdrs p)), .int .i64 (n : Int), .int .i64 1] W fun e w' => e = .returned (.string (S (dig n 1 (hdrs p)))) ∧ Below W.heap.size W w' := fun W => digest_dig (hdrs p) n 1 W (by omega) hn3 (.inl rfl)
      have W5 : ∀ W, Calls Tryz.prog 50 #[.string (S (padded p.d)), .int .i64 (n : Int), .int .i64 2] W fun e w' => e = .returned (.string (S (dig n 2 (padded p.d)))) ∧ Below W.heap.size W w' := fun W => digest_dig (padded p.d) n 2 W (by omega) hn3 (.inr rfl)
      have hg1 := dig_le n 1 (hdrs p)
      have hg2 := dig_le n 2 (padded p.d)
      have hh1 : headB p.h ((wrL p.a).length / 4) p.d.length ++ wrL p.a = hdrs p := rfl
      have hl1 := BP.hb
      have eb : bytesP p n = hdrs p ++ dig n 1 (hdrs p) ++ padded p.d ++ dig n 2 (padded p.d) := rfl
      have hq : ((wrL p.a).length : Int) / 4 = (((wrL p.a).length / 4 : Nat) : Int) := by omega
      rw [eb]
      clear e2 RP BP hk3 hr hm e eb
      obtain ⟨⟨op, now, fl, vs⟩, al, d⟩ := p
      simp only at *
      generalize (wrL al).length / 4 = wn at *
      generalize dig n 1 (hdrs ⟨⟨op, now, fl, vs⟩, al, d⟩) = g1 at *
      generalize dig n 2 (padded d) = g2 at *
      generalize padded d = pd at *
      generalize hdrs ⟨⟨op, now, fl, vs⟩, al, d⟩ = hd1 at *
      generalize headB ⟨op, now, fl, vs⟩ wn d.length = hb1 at *
      generalize wrL al = wl at *
      obtain ⟨pv, cv, rfl⟩ : ∃ p c, vv = .slice p vs.length c := by obtain ⟨p, c, h, _⟩ := hp.v; exact ⟨p, c, h⟩
      obtain ⟨pa, ca, rfl⟩ := hp.a.form
      unfold headV at W2
      unfold cells6 at hb0 hk hp1 R
      simp only at *
      have HW1 := Lib.hid W1
      have HW2 := Lib.hid W2
      have HW3 := Lib.hid W3
      have HW4 := Lib.hid W4
      have HW5 := Lib.hid W5
      have HK := Lib.hid hk
      have HP := Lib.hid hp1
      have HC := Lib.hid (hc.later hb0)
      have Hb0 := Lib.hid hb0
      have hsz := hk.lt
      unfold pduV at R ⊢
      simp only at R ⊢
      clear hfa hfl hvs hf hp hc hg W1 W2 W3 W4 W5 hk hp1 hb0
      go_enter Tryz.func28, Tryz.ntmps28
      go_wp2_with fail
      refine (M _).out.mono ?_
      rintro e w1 ⟨rfl, rfl⟩
      go_wp2_with fail
      refine R.out.mono ?_
      rintro e w1 ⟨ev, rfl, he, hb1'⟩
      obtain rfl := he.zero
      have HK1 := Lib.hid (HK.out.later hb1')
      have HP1 := Lib.hid (HP.out.later hb1')
      have HC1 := Lib.hid (HC.out.later hb1')
      have Hb1 := Lib.hid (below_then Hb0.out hb1')
      obtain ⟨q0, q1, q2, q3, q4, q5⟩ := HK1.out.six
      clear hb1' he R HK HP HC Hb0
      go_wp2_with fail
      refine (HW1.out _ HP1.out).mono ?_
      rintro e w2 ⟨ev, rfl, he, hb2'⟩
      obtain rfl := he.zero
      have HK2 := Lib.hid (HK1.out.later hb2')
      have HP2 := Lib.hid (HP1.out.later hb2')
      have HC2 := Lib.hid (HC1.out.later hb2')
      have Hb2 := Lib.hid (below_then Hb1.out hb2')
      clear hb2' he HW1 HK1 HP1 HC1 Hb1 q0 q1 q2 q3 q4 q5
      obtain ⟨q0, q1, q2, q3, q4, q5⟩ := HK2.out.six
      go_wp2_with fail
      refine (HW2.out _ HP2.out HC2.out).mono ?_
      rintro e w3 ⟨ev, rfl, he, hb3'⟩
      obtain rfl := he.zero
      have HK3 := Lib.hid (HK2.out.later hb3')
      have Hb3 := Lib.hid (below_then Hb2.out hb3')
      clear hb3' he HW2 HK2 HP2 HC2 Hb2 q0 q1 q2 q3 q4 q5
      obtain ⟨q0, q1, q2, q3, q4, q5⟩ := HK3.out.six
      go_wp2_with fail
      refine (HW3.out _).mono ?_
      rintro e w4 ⟨rfl, rfl⟩
      clear q0 q1 q2 q3 q4 q5
      go_wp2_with fail
      refine (HW4.out _).mono ?_
      rintro e w4 ⟨rfl, hb4⟩
      go_wp2_with fail
      refine (HW5.out _).mono ?_
      rintro e w5 ⟨rfl, hb5⟩
      have Hb5 := Lib.hid (below_then Hb3.out (below_then hb4 hb5))
      clear hb4 hb5
      go_wp2_with fail
      go_ret2
      rw [List.append_assoc, List.append_assoc]
      exact ⟨_, rfl, .good, Hb5.out⟩
    · have e : writeP p m = ([], rightP p) := by unfold writeP; rw [if_neg (by simp [hk3]), if_pos hr]
      rw [e]
      obtain ⟨r, hr'⟩ : ∃ r, rightP p = r := ⟨_, rfl⟩
      rw [hr'] at R hr ⊢
      have Hr := Lib.hid hr
      have Hb0 := Lib.hid hb0
      obtain ⟨⟨op, now, fl, vs⟩, al, d⟩ := p
      obtain ⟨pv, cv, rfl⟩ : ∃ p c, vv = .slice p vs.length c := by obtain ⟨p, c, h, _⟩ := hp.v; exact ⟨p, c, h⟩
      obtain ⟨pa, ca, rfl⟩ := hp.a.form
      unfold cells6 at Hb0 R
      unfold pduV at R ⊢
      simp only at Hb0 R ⊢
      clear e hr hr' hk3 hm hb0 hk hp hp1 hf hc hg hfa hfl hvs
      go_enter Tryz.func28, Tryz.ntmps28
      go_wp2_with fail
      refine (M _).out.mono ?_
      rintro e w1 ⟨rfl, rfl⟩
      go_wp2_with fail
      refine R.out.mono ?_
      rintro e w1 ⟨ev, rfl, he, hb1'⟩
      obtain ⟨t, x, rfl⟩ := he.iface Hr.out
      have He := Lib.hid he
      have Hb1 := Lib.hid (below_then Hb0.out hb1')
      clear he hb1'
      go_wp2_with fail
      go_ret2
      exact ⟨_, rfl, He.out, Hb1.out⟩
  · have e : writeP p m = ([], 1) := by unfold writeP; rw [if_pos hk3]
    rw [e]
    simp only [decide_eq_false hk3] at M
    have Hb0 := Lib.hid hb0
    obtain ⟨⟨op, now, fl, vs⟩, al, d⟩ := p
    obtain ⟨pv, cv, rfl⟩ : ∃ p c, vv = .slice p vs.length c := by obtain ⟨p, c, h, _⟩ := hp.v; exact ⟨p, c, h⟩
    obtain ⟨pa, ca, rfl⟩ := hp.a.form
    unfold cells6 at Hb0
    unfold pduV
    simp only at Hb0 ⊢
    clear e hk3 hm hb0 hk hp hp1 hf hc hg hfa hfl hvs R
    go_enter Tryz.func28, Tryz.ntmps28
    go_wp2_with fail
    refine (M _).out.mono ?_
    rintro e w1 ⟨rfl, rfl⟩
    go_wp2_with fail
    go_ret2
    exact ⟨_, rfl, .bare 1 (by decide), Hb0.out⟩
end Go.Proofs.YtlkikkfbennmnaaGreatDoor
