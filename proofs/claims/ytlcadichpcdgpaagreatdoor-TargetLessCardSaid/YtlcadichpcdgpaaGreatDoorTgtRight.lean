/- target.Right. -/
import Derived.Test.YtlcadichpcdgpaaGreatDoorTgtWrong
import Derived.Test.YtlcadichpcdgpaaGreatDoorGO
import Derived.Test.YtlcadichpcdgpaaGreatDoorGJ
import Derived.Laws.StructEq
namespace Go.Proofs.YtlcadichpcdgpaaGreatDoor
open Go Go.RowKit
set_option linter.unusedVariables false
theorem run_eqUs (w : World) (k k' d d' : List UInt8) : (binOp .eql 26 (.agg #[.string (S k), .string (S d)]) (.agg #[.string (S k'), .string (S d')])).run Tryz.prog w = .ok (.bool (decide (k = k') && decide (d = d'))) w := by
  have hS : Tryz.prog.underlying 26 = some (.struct (Tryz.prog.fieldsOf 26)) := by kernel_rfl
  have hp : Tryz.prog.stoodInHeld 26 = false := by kernel_rfl
  rw [run_eql_struct, show (10000 : Nat) = 9999 + 1 from rfl, run_equalIn_agg w 9999 26 _ _ hS hp]
  simp only [Program.fieldsOf, Tryz.underlying26]
  go_simp
  by_cases h1 : k = k' <;> by_cases h2 : d = d' <;> simp [h1, h2]
set_option maxRecDepth 100000 in
set_option maxHeartbeats 8000000 in
theorem tright_any (c : Cf) (vt vp vu vo : Value) (w : World) (hv : ConfAt w c vt vp vu vo) (hf : FitCf c) (hE : Env w) (hg : ErrCell w) :
    Calls Tryz.prog 10 #[confV c vt vp vu vo] w (RetE w (tgtR c)) := by
  obtain ⟨ts, ps, us, sn, ss, lim, own⟩ := c
  obtain ⟨pt, ct, et, -⟩ := hv.ts
  obtain ⟨pp, cp, ep⟩ := hv.ps.form
  obtain ⟨pu, cu, eu⟩ := hv.us.form
  obtain ⟨po, co, eo⟩ := hv.own.form
  simp only at et ep eu eo
  subst et ep eu eo
  have hA := (Below.refl w.heap.size w).alloc (Nat.le_refl _) (.cells #[.slice pt ts.length ct, .slice pp ps.length cp, .slice pu us.length cu, .string (S sn), .string (S ss), .int .i64 lim, .slice po own.length co] 29)
  have hK := Blk.new w #[.slice pt ts.length ct, .slice pp ps.length cp, .slice pu us.length cu, .string (S sn), .string (S ss), .int .i64 lim, .slice po own.length co] 29
  obtain ⟨w0, hw0⟩ : ∃ w0, w.alloc (.cells #[.slice pt ts.length ct, .slice pp ps.length cp, .slice pu us.length cu, .string (S sn), .string (S ss), .int .i64 lim, .slice po own.length co] 29) = w0 := ⟨_, rfl⟩
  rw [hw0] at hA hK
  have HV := Lib.hid (hv.later hA)
  have HK := Lib.hid hK
  have HA := Lib.hid hA
  have HE := Lib.hid (hE.later hA)
  have Hg := Lib.hid (hg.later hA)
  have Hf := Lib.hid hf
  obtain ⟨R, hR⟩ : ∃ R, tgtR ⟨ts, ps, us, sn, ss, lim, own⟩ = R := ⟨_, rfl⟩
  rw [hR]
  have HR := Lib.hid hR
  have hts := hf.ts.1
  have hps := hf.ps.1
  have hus := hf.us.1.1
  simp only at hts hps hus
  clear hv hf hA hK hE hg hR
  unfold confV
  simp only
  obtain ⟨k0, k1, k2, k3, k4, k5, k6⟩ := HK.out.seven
  by_cases hmuch : 8 < ts.length ∨ 4 < ps.length ∨ 8 < us.length
  · have hr4 := (tgtR_much (c := ⟨ts, ps, us, sn, ss, lim, own⟩) hmuch).symm.trans HR.out
    subst hr4
    by_cases m1 : (8 : Int) < (ts.length : Int)
    · go_enter Tryz.func10, Tryz.ntmps10
      go_wp2_with fail
      go_ret
      exact ⟨_, rfl, .bare 4 (by decide), HA.out⟩
    · by_cases m2 : (4 : Int) < (ps.length : Int)
      · go_enter Tryz.func10, Tryz.ntmps10
        go_wp2_with fail
        go_ret
        exact ⟨_, rfl, .bare 4 (by decide), HA.out⟩
      · have m3 : (8 : Int) < (us.length : Int) := by omega
        go_enter Tryz.func10, Tryz.ntmps10
        go_wp2_with fail
        go_ret
        exact ⟨_, rfl, .bare 4 (by decide), HA.out⟩
  · have hr0 := (tgtR_few (c := ⟨ts, ps, us, sn, ss, lim, own⟩) hmuch).symm.trans HR.out
    simp only at hr0
    have m1 : ¬ (8 : Int) < (ts.length : Int) := by omega
    have m2 : ¬ (4 : Int) < (ps.length : Int) := by omega
    have m3 : ¬ (8 : Int) < (us.length : Int) := by omega
    have hvt := HV.out.ts
    simp only at hvt
    have T := wrongT_any ts _ w0 hvt (by omega) (fun s hs => by have := Hf.out.ts.2 s hs; omega)
    have HR0 := Lib.hid hr0
    obtain ⟨t1, t2, htt⟩ : ∃ t1 t2, tsBad 0 [] ts = (t1, t2) := ⟨_, _, rfl⟩
    rw [htt] at HR0 T
    have T := Lib.hid T
    clear hr0 hvt hmuch HR htt
    go_enter Tryz.func10, Tryz.ntmps10
    go_wp2_with fail
    refine T.out.mono ?_
    rintro e w1 ⟨ev, rfl, he, hb1⟩
    simp only at he
    have Hb1 := Lib.hid hb1
    clear hb1 T k0 k1 k2 k3 k4 k5 k6
    obtain ⟨k0, k1, k2, k3, k4, k5, k6⟩ := (HK.out.later Hb1.out).seven
    by_cases h1 : t1 = 0
    case neg =>
      have hr0 := HR0.out
      rw [if_pos h1] at hr0
      subst hr0
      obtain ⟨tt, xx, rfl⟩ := he.iface h1
      have He := Lib.hid he
      clear he
      go_wp2_with fail
      go_ret
      exact ⟨_, rfl, He.out, below_then HA.out Hb1.out⟩
    have hr0 := HR0.out
    rw [if_neg (fun h => h h1)] at hr0
    subst h1
    obtain rfl := he.zero
    have hvp := (HV.out.later Hb1.out).ps
    simp only at hvp
    have T := wrongP_any ps _ w1 hvp Hf.out.ps
    unfold tgtR2 at hr0
    simp only at hr0
    obtain ⟨p1, p2, hpp⟩ : ∃ p1 p2, poBad 0 ps = (p1, p2) := ⟨_, _, rfl⟩
    rw [hpp] at hr0 T
    have T := Lib.hid T
    have HR2 := Lib.hid hr0
    clear hr0 hvp hpp HR0 he
    go_wp2_with fail
    refine T.out.mono ?_
    rintro e w2 ⟨ev, rfl, he, hb2⟩
    simp only at he
    have Hb2 := Lib.hid (below_then Hb1.out hb2)
    clear hb2 T k0 k1 k2 k3 k4 k5 k6
    obtain ⟨k0, k1, k2, k3, k4, k5, k6⟩ := (HK.out.later Hb2.out).seven
    by_cases h1 : p1 = 0
    case neg =>
      have hr0 := HR2.out
      rw [if_pos h1] at hr0
      subst hr0
      obtain ⟨tt, xx, rfl⟩ := he.iface h1
      have He := Lib.hid he
      clear he
      go_wp2_with fail
      go_ret
      exact ⟨_, rfl, He.out, below_then HA.out Hb2.out⟩
    have hr0 := HR2.out
    rw [if_neg (fun h => h h1)] at hr0
    subst h1
    obtain rfl := he.zero
    have hvu := (HV.out.later Hb2.out).us
    simp only at hvu
    have T := wrongU_any us _ w2 hvu (by omega) (fun u hu => Hf.out.us.1.2 u hu)
    unfold tgtR3 at hr0
    simp only at hr0
    obtain ⟨u1, u2, huu⟩ : ∃ u1 u2, usBad 0 [] us = (u1, u2) := ⟨_, _, rfl⟩
    rw [huu] at hr0 T
    have T := Lib.hid T
    have HR3 := Lib.hid hr0
    clear hr0 hvu huu HR2 he
    go_wp2_with fail
    refine T.out.mono ?_
    rintro e w3 ⟨ev, rfl, he, hb3⟩
    simp only at he
    have Hb3 := Lib.hid (below_then Hb2.out hb3)
    clear hb3 T k0 k1 k2 k3 k4 k5 k6
    obtain ⟨k0, k1, k2, k3, k4, k5, k6⟩ := (HK.out.later Hb3.out).seven
    by_cases h1 : u1 = 0
    case neg =>
      have hr0 := HR3.out
      rw [if_pos h1] at hr0
      subst hr0
      obtain ⟨tt, xx, rfl⟩ := he.iface h1
      have He := Lib.hid he
      clear he
      go_wp2_with fail
      go_ret
      exact ⟨_, rfl, He.out, below_then HA.out Hb3.out⟩
    have hr0 := HR3.out
    rw [if_neg (fun h => h h1)] at hr0
    subst h1
    obtain rfl := he.zero
    have EQ := fun W => run_eqUs W sn [] ss []
    have hsn := Hf.out.sn
    have hss := Hf.out.ss
    simp only at hsn hss
    have N1 := Lib.hid (fun W => named_any sn W (by omega))
    have N2 := Lib.hid (fun W => named_any ss W (by omega))
    unfold restR at hr0
    simp only at hr0
    have HR4 := Lib.hid hr0
    have Hbe := Lib.hid (below_then HA.out Hb3.out)
    clear hr0 HR3 he Hb1 Hb2 m1 m2 m3
    by_cases hself : selfBad sn ss
    · have hr0 := HR4.out
      rw [if_pos hself] at hr0
      subst hr0
      obtain ⟨hs1, hs2⟩ := hself
      have hx : (decide (sn = []) && decide (ss = [])) = false := by
        rw [Bool.and_eq_false_iff]
        by_cases h : sn = []
        · exact .inr (decide_eq_false (fun h2 => hs1 ⟨h, h2⟩))
        · exact .inl (decide_eq_false h)
      rw [hx] at EQ
      have EQ := EQ w3
      cases hn1 : nameOk sn with
      | false =>
        rw [hn1] at N1
        clear hs1 hs2 hx hn1 HR4
        go_wp2_with fail
        refine (N1.out _).mono ?_
        rintro e w' ⟨rfl, rfl⟩
        go_wp2_with fail
        go_ret
        exact ⟨_, rfl, .bare 3 (by decide), Hbe.out⟩
      | true =>
        have hn2 : nameOk ss = false := by
          cases h : nameOk ss with
          | false => rfl
          | true => exact absurd ⟨hn1, h⟩ hs2
        rw [hn1] at N1
        rw [hn2] at N2
        clear hs1 hs2 hx hn1 hn2 HR4
        go_wp2_with fail
        refine (N1.out _).mono ?_
        rintro e w' ⟨rfl, rfl⟩
        go_wp2_with fail
        refine (N2.out _).mono ?_
        rintro e w' ⟨rfl, rfl⟩
        go_wp2_with fail
        go_ret
        exact ⟨_, rfl, .bare 3 (by decide), Hbe.out⟩
    · have hr0 := HR4.out
      rw [if_neg hself] at hr0
      have HR5 := Lib.hid hr0
      have hways : (sn = [] ∧ ss = []) ∨ ((decide (sn = []) && decide (ss = [])) = false ∧ nameOk sn = true ∧ nameOk ss = true) := by
        by_cases h : sn = [] ∧ ss = []
        · exact .inl h
        · refine .inr ⟨?_, ?_⟩
          · rw [Bool.and_eq_false_iff]
            by_cases h3 : sn = []
            · exact .inr (decide_eq_false (fun h2 => h ⟨h3, h2⟩))
            · exact .inl (decide_eq_false h3)
          · by_cases h4 : nameOk sn = true ∧ nameOk ss = true
            · exact h4
            · exact absurd ⟨h, h4⟩ hself
      have hvo := (HV.out.later Hb3.out).own
      simp only at hvo
      have NEW := newN_any own _ w3 hvo Hf.out.own.1 (HE.out.later Hb3.out) (Hg.out.later Hb3.out)
      unfold RetNewN at NEW
      have NEW := Lib.hid NEW
      clear hr0 HR4 hself hvo
      rcases hways with ⟨h1, h2⟩ | ⟨h1, h2, h3⟩
      · subst h1 h2
        have EQ := EQ w3
        rw [show (decide (([] : List UInt8) = []) && decide (([] : List UInt8) = [])) = true by decide] at EQ
        by_cases hl : lim < 512 ∨ 100000 < lim
        · have hr0 := HR5.out
          rw [if_pos hl] at hr0
          subst hr0
          rcases hl with hl | hl
          · go_wp2_with fail
            go_ret
            exact ⟨_, rfl, .bare 2 (by decide), Hbe.out⟩
          · have hl0 : ¬ lim < 512 := by omega
            go_wp2_with fail
            go_ret
            exact ⟨_, rfl, .bare 2 (by decide), Hbe.out⟩
        · have hr0 := HR5.out
          rw [if_neg hl] at hr0
          have HR6 := Lib.hid hr0
          have hl0 : ¬ lim < 512 := by omega
          have hl1 : ¬ 100000 < lim := by omega
          clear hr0 hl HR5
          go_wp2_with fail
          refine NEW.out.mono ?_
          rintro e w5 (⟨hz, nb, mv, rfl, -, -, hb5⟩ | ⟨hz, ev, rfl, he, hb5⟩)
          · go_wp2_with fail
            go_ret
            rw [← HR6.out, (newN_is hz).2]
            exact ⟨_, rfl, .good, below_then Hbe.out hb5⟩
          · go_wp2_with fail
            go_ret
            rw [← HR6.out]
            exact ⟨_, rfl, he, below_then Hbe.out hb5⟩
      · rw [h1] at EQ
        have EQ := EQ w3
        rw [h2] at N1
        rw [h3] at N2
        clear h1 h2 h3
        by_cases hl : lim < 512 ∨ 100000 < lim
        · have hr0 := HR5.out
          rw [if_pos hl] at hr0
          subst hr0
          rcases hl with hl | hl
          · go_wp2_with fail
            refine (N1.out _).mono ?_
            rintro e w' ⟨rfl, rfl⟩
            go_wp2_with fail
            refine (N2.out _).mono ?_
            rintro e w' ⟨rfl, rfl⟩
            go_wp2_with fail
            go_ret
            exact ⟨_, rfl, .bare 2 (by decide), Hbe.out⟩
          · have hl0 : ¬ lim < 512 := by omega
            go_wp2_with fail
            refine (N1.out _).mono ?_
            rintro e w' ⟨rfl, rfl⟩
            go_wp2_with fail
            refine (N2.out _).mono ?_
            rintro e w' ⟨rfl, rfl⟩
            go_wp2_with fail
            go_ret
            exact ⟨_, rfl, .bare 2 (by decide), Hbe.out⟩
        · have hr0 := HR5.out
          rw [if_neg hl] at hr0
          have HR6 := Lib.hid hr0
          have hl0 : ¬ lim < 512 := by omega
          have hl1 : ¬ 100000 < lim := by omega
          clear hr0 hl HR5
          go_wp2_with fail
          refine (N1.out _).mono ?_
          rintro e w' ⟨rfl, rfl⟩
          go_wp2_with fail
          refine (N2.out _).mono ?_
          rintro e w' ⟨rfl, rfl⟩
          go_wp2_with fail
          refine NEW.out.mono ?_
          rintro e w5 (⟨hz, nb, mv, rfl, -, -, hb5⟩ | ⟨hz, ev, rfl, he, hb5⟩)
          · go_wp2_with fail
            go_ret
            rw [← HR6.out, (newN_is hz).2]
            exact ⟨_, rfl, .good, below_then Hbe.out hb5⟩
          · go_wp2_with fail
            go_ret
            rw [← HR6.out]
            exact ⟨_, rfl, he, below_then Hbe.out hb5⟩
end Go.Proofs.YtlcadichpcdgpaaGreatDoor
