/- LA37: several texts in one. -/
import Derived.BigQuiet
import Derived.BigRegion
import Derived.Deep.QuietTactic
import Derived.Laws.StructEq
import Derived.Lib.SliceRun
import Derived.Test.YtjbbbpgcegcbaaaGreatDoorLA10
import Derived.Test.YtjbbbpgcegcbaaaGreatDoorLA22
import Derived.Test.YtjbbbpgcegcbaaaGreatDoorLA32
import Derived.Test.YtjbbbpgcegcbaaaGreatDoorLA33
import Derived.Test.YtjbbbpgcegcbaaaGreatDoorLA36
namespace Go.Proofs.YtjbbbpgcegcbaaaGreatDoor
open Go Go.RowKit
set_option linter.unusedVariables false
theorem run_eqUs (w : World) (k k' d d' : List UInt8) : (binOp .eql 26 (.agg #[.string (S k), .string (S d)]) (.agg #[.string (S k'), .string (S d')])).run Tryz.prog w = .ok (.bool (decide (k = k') && decide (d = d'))) w := by
 have hS : Tryz.prog.underlying 26 = some (.struct (Tryz.prog.fieldsOf 26)) := by kernel_rfl
 have hp : Tryz.prog.stoodInHeld 26 = false := by kernel_rfl
 rw [run_eql_struct, show (10000 : Nat) = 9999 + 1 from rfl, run_equalIn_agg w 9999 26 _ _ hS hp]
 simp only [Program.fieldsOf, Tryz.underlying26]
 go_simp
 by_cases h1 : k = k' <;> by_cases h2 : d = d' <;> simp [h1, h2]
set_option maxRecDepth 100000 in
set_option maxHeartbeats 8000000 in
theorem tright_any (c : Cf) (vt vp vu vo : Value) (w : World) (hv : ConfAt w c vt vp vu vo) (hf : FitCf c) (hE : Env w) (hg : ErrCell w) :
  Calls Tryz.prog 69 #[confV c vt vp vu vo] w (RetE w (tgtR c)) := by
 obtain ⟨ts, ps, us, sn, ss, lim, own⟩ := c
 obtain ⟨pt, ct, et, -⟩ := hv.ts
 obtain ⟨pp, cp, ep⟩ := hv.ps.form
 obtain ⟨pu, cu, eu⟩ := hv.us.form
 obtain ⟨po, co, eo⟩ := hv.own.form
 simp only at et ep eu eo
 subst et ep eu eo
 have hA := (Below.refl w.heap.size w).alloc (Nat.le_refl _) (.cells #[.slice pt ts.length ct, .slice pp ps.length cp, .slice pu us.length cu, .string (S sn), .string (S ss), .int .i64 lim, .slice po own.length co] 29)
 have hK := Blk.new w #[.slice pt ts.length ct, .slice pp ps.length cp, .slice pu us.length cu, .string (S sn), .string (S ss), .int .i64 lim, .slice po own.length co] 29
 obtain ⟨w0, hw0⟩ : ∃ w0, w.alloc (.cells #[.slice pt ts.length ct, .slice pp ps.length cp, .slice pu us.length cu, .string (S sn), .string (S ss), .int .i64 lim, .slice po own.length co] 29) = w0 := ⟨_, rfl⟩
 rw [hw0] at hA hK
 have HV := Lib.hid (hv.later hA)
 have HK := Lib.hid hK
 have HA := Lib.hid hA
 have HE := Lib.hid (hE.later hA)
 have Hg := Lib.hid (hg.later hA)
 have Hf := Lib.hid hf
 obtain ⟨R, hR⟩ : ∃ R, tgtR ⟨ts, ps, us, sn, ss, lim, own⟩ = R := ⟨_, rfl⟩
 rw [hR]
 have HR := Lib.hid hR
 have hts := hf.ts.1
 have hps := hf.ps.1
 have hus := hf.us.1.1
 simp only at hts hps hus
 clear hv hf hA hK hE hg hR
 unfold confV
 simp only
 obtain ⟨k0, k1, k2, k3, k4, k5, k6⟩ := HK.out.seven
 by_cases hmuch : 8 < ts.length ∨ 4 < ps.length ∨ 8 < us.length
 ·have hr4 := (tgtR_much (c := ⟨ts, ps, us, sn, ss, lim, own⟩) hmuch).symm.trans HR.out
  subst hr4
  by_cases m1 : (8 : Int) < (ts.length : Int)
  ·go_enter Tryz.func69, Tryz.ntmps69
   go_wp2_with fail
   go_ret
   exact ⟨_, rfl, .bare 4 (by decide), HA.out⟩
  ·by_cases m2 : (4 : Int) < (ps.length : Int)
   ·go_enter Tryz.func69, Tryz.ntmps69
    go_wp2_with fail
    go_ret
    exact ⟨_, rfl, .bare 4 (by decide), HA.out⟩
   ·have m3 : (8 : Int) < (us.length : Int) := by omega
    go_enter Tryz.func69, Tryz.ntmps69
    go_wp2_with fail
    go_ret
    exact ⟨_, rfl, .bare 4 (by decide), HA.out⟩
 ·have hr0 := (tgtR_few (c := ⟨ts, ps, us, sn, ss, lim, own⟩) hmuch).symm.trans HR.out
  simp only at hr0
  have m1 : ¬ (8 : Int) < (ts.length : Int) := by omega
  have m2 : ¬ (4 : Int) < (ps.length : Int) := by omega
  have m3 : ¬ (8 : Int) < (us.length : Int) := by omega
  have hvt := HV.out.ts
  simp only at hvt
  have T := wrongT_any ts _ w0 hvt (by omega) (fun s hs => by have := Hf.out.ts.2 s hs; omega)
  have HR0 := Lib.hid hr0
  obtain ⟨t1, t2, htt⟩ : ∃ t1 t2, tsBad 0 [] ts = (t1, t2) := ⟨_, _, rfl⟩
  rw [htt] at HR0 T
  have T := Lib.hid T
  clear hr0 hvt hmuch HR htt
  go_enter Tryz.func69, Tryz.ntmps69
  go_wp2_with fail
  refine T.out.mono ?_
  rintro e w1 ⟨ev, rfl, he, hb1⟩
  simp only at he
  have Hb1 := Lib.hid hb1
  clear hb1 T k0 k1 k2 k3 k4 k5 k6
  obtain ⟨k0, k1, k2, k3, k4, k5, k6⟩ := (HK.out.later Hb1.out).seven
  by_cases h1 : t1 = 0
  case neg =>
   have hr0 := HR0.out
   rw [if_pos h1] at hr0
   subst hr0
   obtain ⟨tt, xx, rfl⟩ := he.iface h1
   have He := Lib.hid he
   clear he
   go_wp2_with fail
   go_ret
   exact ⟨_, rfl, He.out, below_then HA.out Hb1.out⟩
  have hr0 := HR0.out
  rw [if_neg (fun h => h h1)] at hr0
  subst h1
  obtain rfl := he.zero
  have hvp := (HV.out.later Hb1.out).ps
  simp only at hvp
  have T := wrongP_any ps _ w1 hvp Hf.out.ps
  unfold tgtR2 at hr0
  simp only at hr0
  obtain ⟨p1, p2, hpp⟩ : ∃ p1 p2, poBad 0 ps = (p1, p2) := ⟨_, _, rfl⟩
  rw [hpp] at hr0 T
  have T := Lib.hid T
  have HR2 := Lib.hid hr0
  clear hr0 hvp hpp HR0 he
  go_wp2_with fail
  refine T.out.mono ?_
  rintro e w2 ⟨ev, rfl, he, hb2⟩
  simp only at he
  have Hb2 := Lib.hid (below_then Hb1.out hb2)
  clear hb2 T k0 k1 k2 k3 k4 k5 k6
  obtain ⟨k0, k1, k2, k3, k4, k5, k6⟩ := (HK.out.later Hb2.out).seven
  by_cases h1 : p1 = 0
  case neg =>
   have hr0 := HR2.out
   rw [if_pos h1] at hr0
   subst hr0
   obtain ⟨tt, xx, rfl⟩ := he.iface h1
   have He := Lib.hid he
   clear he
   go_wp2_with fail
   go_ret
   exact ⟨_, rfl, He.out, below_then HA.out Hb2.out⟩
  have hr0 := HR2.out
  rw [if_neg (fun h => h h1)] at hr0
  subst h1
  obtain rfl := he.zero
  have hvu := (HV.out.later Hb2.out).us
  simp only at hvu
  have T := wrongU_any us _ w2 hvu (by omega) (fun u hu => Hf.out.us.1.2 u hu)
  unfold tgtR3 at hr0
  simp only at hr0
  obtain ⟨u1, u2, huu⟩ : ∃ u1 u2, usBad 0 [] us = (u1, u2) := ⟨_, _, rfl⟩
  rw [huu] at hr0 T
  have T := Lib.hid T
  have HR3 := Lib.hid hr0
  clear hr0 hvu huu HR2 he
  go_wp2_with fail
  refine T.out.mono ?_
  rintro e w3 ⟨ev, rfl, he, hb3⟩
  simp only at he
  have Hb3 := Lib.hid (below_then Hb2.out hb3)
  clear hb3 T k0 k1 k2 k3 k4 k5 k6
  obtain ⟨k0, k1, k2, k3, k4, k5, k6⟩ := (HK.out.later Hb3.out).seven
  by_cases h1 : u1 = 0
  case neg =>
   have hr0 := HR3.out
   rw [if_pos h1] at hr0
   subst hr0
   obtain ⟨tt, xx, rfl⟩ := he.iface h1
   have He := Lib.hid he
   clear he
   go_wp2_with fail
   go_ret
   exact ⟨_, rfl, He.out, below_then HA.out Hb3.out⟩
  have hr0 := HR3.out
  rw [if_neg (fun h => h h1)] at hr0
  subst h1
  obtain rfl := he.zero
  have EQ := fun W => run_eqUs W sn [] ss []
  have hsn := Hf.out.sn
  have hss := Hf.out.ss
  simp only at hsn hss
  have N1 := Lib.hid (fun W => tnamed_any sn W (by omega))
  have N2 := Lib.hid (fun W => tnamed_any ss W (by omega))
  unfold restR at hr0
  simp only at hr0
  have HR4 := Lib.hid hr0
  have Hbe := Lib.hid (below_then HA.out Hb3.out)
  clear hr0 HR3 he Hb1 Hb2 m1 m2 m3
  by_cases hself : selfBad sn ss
  ·have hr0 := HR4.out
   rw [if_pos hself] at hr0
   subst hr0
   obtain ⟨hs1, hs2⟩ := hself
   have hx : (decide (sn = []) && decide (ss = [])) = false := by
    rw [Bool.and_eq_false_iff]
    by_cases h : sn = []
    ·exact .inr (decide_eq_false (fun h2 => hs1 ⟨h, h2⟩))
    ·exact .inl (decide_eq_false h)
   rw [hx] at EQ
   have EQ := EQ w3
   cases hn1 : nameOk sn with
   | false =>
    rw [hn1] at N1
    clear hs1 hs2 hx hn1 HR4
    go_wp2_with fail
    refine (N1.out _).mono ?_
    rintro e w' ⟨rfl, rfl⟩
    go_wp2_with fail
    go_ret
    exact ⟨_, rfl, .bare 3 (by decide), Hbe.out⟩
   | true =>
    have hn2 : nameOk ss = false := by
     cases h : nameOk ss with
     | false => rfl
     | true => exact absurd ⟨hn1, h⟩ hs2
    rw [hn1] at N1
    rw [hn2] at N2
    clear hs1 hs2 hx hn1 hn2 HR4
    go_wp2_with fail
    refine (N1.out _).mono ?_
    rintro e w' ⟨rfl, rfl⟩
    go_wp2_with fail
    refine (N2.out _).mono ?_
    rintro e w' ⟨rfl, rfl⟩
    go_wp2_with fail
    go_ret
    exact ⟨_, rfl, .bare 3 (by decide), Hbe.out⟩
  ·have hr0 := HR4.out
   rw [if_neg hself] at hr0
   have HR5 := Lib.hid hr0
   have hways : (sn = [] ∧ ss = []) ∨ ((decide (sn = []) && decide (ss = [])) = false ∧ nameOk sn = true ∧ nameOk ss = true) := by
    by_cases h : sn = [] ∧ ss = []
    ·exact .inl h
    ·refine .inr ⟨?_, ?_⟩
     ·rw [Bool.and_eq_false_iff]
      by_cases h3 : sn = []
      ·exact .inr (decide_eq_false (fun h2 => h ⟨h3, h2⟩))
      ·exact .inl (decide_eq_false h3)
     ·by_cases h4 : nameOk sn = true ∧ nameOk ss = true
      ·exact h4
      ·exact absurd ⟨h, h4⟩ hself
   have hvo := (HV.out.later Hb3.out).own
   simp only at hvo
   have NEW := newN_any own _ w3 hvo Hf.out.own.1 (HE.out.later Hb3.out) (Hg.out.later Hb3.out)
   unfold RetNewN at NEW
   have NEW := Lib.hid NEW
   clear hr0 HR4 hself hvo
   rcases hways with ⟨h1, h2⟩ | ⟨h1, h2, h3⟩
   ·subst h1 h2
    have EQ := EQ w3
    rw [show (decide (([] : List UInt8) = []) && decide (([] : List UInt8) = [])) = true by decide] at EQ
    by_cases hl : lim < 512 ∨ 100000 < lim
    ·have hr0 := HR5.out
     rw [if_pos hl] at hr0
     subst hr0
     rcases hl with hl | hl
     ·go_wp2_with fail
      go_ret
      exact ⟨_, rfl, .bare 2 (by decide), Hbe.out⟩
     ·have hl0 : ¬ lim < 512 := by omega
      go_wp2_with fail
      go_ret
      exact ⟨_, rfl, .bare 2 (by decide), Hbe.out⟩
    ·have hr0 := HR5.out
     rw [if_neg hl] at hr0
     have HR6 := Lib.hid hr0
     have hl0 : ¬ lim < 512 := by omega
     have hl1 : ¬ 100000 < lim := by omega
     clear hr0 hl HR5
     go_wp2_with fail
     refine NEW.out.mono ?_
     rintro e w5 (⟨hz, nb, mv, rfl, -, -, hb5⟩ | ⟨hz, ev, rfl, he, hb5⟩)
     ·go_wp2_with fail
      go_ret
      rw [← HR6.out, (newN_is hz).2]
      exact ⟨_, rfl, .good, below_then Hbe.out hb5⟩
     ·go_wp2_with fail
      go_ret
      rw [← HR6.out]
      exact ⟨_, rfl, he, below_then Hbe.out hb5⟩
   ·rw [h1] at EQ
    have EQ := EQ w3
    rw [h2] at N1
    rw [h3] at N2
    clear h1 h2 h3
    by_cases hl : lim < 512 ∨ 100000 < lim
    ·have hr0 := HR5.out
     rw [if_pos hl] at hr0
     subst hr0
     rcases hl with hl | hl
     ·go_wp2_with fail
      refine (N1.out _).mono ?_
      rintro e w' ⟨rfl, rfl⟩
      go_wp2_with fail
      refine (N2.out _).mono ?_
      rintro e w' ⟨rfl, rfl⟩
      go_wp2_with fail
      go_ret
      exact ⟨_, rfl, .bare 2 (by decide), Hbe.out⟩
     ·have hl0 : ¬ lim < 512 := by omega
      go_wp2_with fail
      refine (N1.out _).mono ?_
      rintro e w' ⟨rfl, rfl⟩
      go_wp2_with fail
      refine (N2.out _).mono ?_
      rintro e w' ⟨rfl, rfl⟩
      go_wp2_with fail
      go_ret
      exact ⟨_, rfl, .bare 2 (by decide), Hbe.out⟩
    ·have hr0 := HR5.out
     rw [if_neg hl] at hr0
     have HR6 := Lib.hid hr0
     have hl0 : ¬ lim < 512 := by omega
     have hl1 : ¬ 100000 < lim := by omega
     clear hr0 hl HR5
     go_wp2_with fail
     refine (N1.out _).mono ?_
     rintro e w' ⟨rfl, rfl⟩
     go_wp2_with fail
     refine (N2.out _).mono ?_
     rintro e w' ⟨rfl, rfl⟩
     go_wp2_with fail
     refine NEW.out.mono ?_
     rintro e w5 (⟨hz, nb, mv, rfl, -, -, hb5⟩ | ⟨hz, ev, rfl, he, hb5⟩)
     ·go_wp2_with fail
      go_ret
      rw [← HR6.out, (newN_is hz).2]
      exact ⟨_, rfl, .good, below_then Hbe.out hb5⟩
     ·go_wp2_with fail
      go_ret
      rw [← HR6.out]
      exact ⟨_, rfl, he, below_then Hbe.out hb5⟩
def RetSB2 (w : World) (l : List (List UInt8)) (e : Ending) (w' : World) : Prop := ∃ v, e = .returned v ∧ StBuf w.heap.size w' v l ∧ Below w.heap.size w w'
set_option maxRecDepth 100000 in
theorem cloneS_any (l : List (List UInt8)) (v : Value) (w : World) (hv : StrV w v l) (hl : l.length * 16 ≤ 140737488351232) :
  Calls Tryz.prog 71 #[v] w (RetSB2 w l) := by
 obtain ⟨i0, hi, hz0, hz1, hz2⟩ := infoSt
 have EN : ∀ (p : Option Addr) (n c : Nat) (W : World), (binOp .eql 22 (.slice p n c) (.slice none 0 0)).run Tryz.prog W = .ok (.bool p.isNone) W := fun p n c W => by
  exact Lib.run_eql_slice_nil W 22 9 p n c 0 0 Tryz.underlying22
 obtain ⟨p, c, rfl, hc⟩ := hv
 cases p with
 | none =>
  have h0 : l = [] := by
   rcases Nat.eq_zero_or_pos l.length with h | h
   ·exact List.eq_nil_of_length_eq_zero h
   ·obtain ⟨b, o, hp, _⟩ := hc h; cases hp
  subst h0
  clear hc
  go_enter Tryz.func71, Tryz.ntmps71
  go_wp2_with fail
  go_ret
  exact ⟨_, rfl, StBuf.nil _ _, Below.refl _ _⟩
 | some a =>
  have hb0 := (Below.refl w.heap.size w).alloc (Nat.le_refl _) (.cells #[] 9)
  have hbuf : StBuf w.heap.size (w.alloc (.cells #[] 9)) (.slice (some ⟨w.heap.size, 0, none⟩) 0 0) [] :=
   ⟨rfl, .inr ⟨w.heap.size, 0, #[], rfl, Nat.le_refl _, heap_alloc_new w _, Nat.le_refl _, Nat.zero_le _, rfl, rfl⟩⟩
  have HB := Lib.hid hbuf
  have Hb0 := Lib.hid hb0
  have h1 : ∀ j u, (strVs l)[j]? = some u → (w.alloc (.cells #[] 9)).cell? (a.add j) = some u := fun j u hu => by
   have hlt : j < (strVs l).length := by
    rcases Nat.lt_or_ge j (strVs l).length with h | h
    ·exact h
    ·rw [List.getElem?_eq_none h] at hu; cases hu
   rw [strVs_len] at hlt
   obtain ⟨b, o, hp, hcell⟩ := hc (by omega)
   cases hp
   have c0 := hcell j hlt
   have e0 : (⟨b, o, none⟩ : Addr).add j = ⟨b, o + j, none⟩ := by rw [Addr.add_lit]
   have hg : (strVs l)[j]? = some (.string (S l[j])) := by unfold strVs; rw [List.getElem?_map, List.getElem?_eq_getElem hlt]; rfl
   rw [e0, hb0.cell (p := ⟨b, o + j, none⟩) (block_lt_of_cell c0), c0, ← hg]; exact hu
  have H1 := Lib.hid h1
  have H2 := Lib.hid (strVs_one l)
  have H3 := Lib.hid (show 0 + l.length ≤ maxLen by unfold maxLen; omega)
  have H4 := Lib.hid (show (0 + l.length) * 16 ≤ 140737488355328 by omega)
  have H5 := Lib.hid (show w.heap.size ≤ (w.alloc (.cells #[] 9)).heap.size by simp)
  have H6 := Lib.hid (show (strVs l).length = l.length * 1 by rw [strVs_len, Nat.mul_one])
  clear hb0 hbuf h1 hc hl
  go_enter Tryz.func71, Tryz.ntmps71
  go_wp2_with (at_builtin; refine wpList_append_own _ rfl _ _ 22 rfl w.heap.size 9 i0 (.string (S [])) 1 16 Tryz.underlying22 hi hz0 hz1 hz2 rfl (by decide) (.slice (some ⟨w.heap.size, 0, none⟩) 0 0) 0 [] rfl HB.out a l.length c (strVs l) rfl H6.out H1.out H2.out H3.out H4.out H5.out ?_)
  intro v' wa hown hgrow hnil
  have hown' : StBuf w.heap.size wa v' l := by
   unfold StBuf
   exact hown
  have Hlow := Lib.hid (Hb0.out.grown hgrow (by simp) (fun k hk => by simp [Value.ownBlock] at hk; omega))
  have Hown := Lib.hid hown'
  clear hown hown' hgrow hnil
  go_wp2_with fail
  go_ret
  exact ⟨_, rfl, Hown.out, Hlow.out⟩
def RetUB (w : World) (l : List Us) (e : Ending) (w' : World) : Prop := ∃ v, e = .returned v ∧ UsBuf w.heap.size w' v l ∧ Below w.heap.size w w'
set_option maxRecDepth 100000 in
theorem cloneU_any (l : List Us) (v : Value) (w : World) (hv : UsV w v l) (hl : l.length * 32 ≤ 140737488351232) :
  Calls Tryz.prog 72 #[v] w (RetUB w l) := by
 obtain ⟨i0, hi, hz0, hz1, hz2⟩ := infoUs
 have EN : ∀ (p : Option Addr) (n c : Nat) (W : World), (binOp .eql 24 (.slice p n c) (.slice none 0 0)).run Tryz.prog W = .ok (.bool p.isNone) W := fun p n c W => by
  exact Lib.run_eql_slice_nil W 24 26 p n c 0 0 Tryz.underlying24
 obtain ⟨p, c, rfl, hlc, hc⟩ := hv
 cases p with
 | none =>
  have h0 : l = [] := by
   rcases Nat.eq_zero_or_pos l.length with h | h
   ·exact List.eq_nil_of_length_eq_zero h
   ·obtain ⟨b, o, hp, _⟩ := hc h; cases hp
  subst h0
  clear hc
  go_enter Tryz.func72, Tryz.ntmps72
  go_wp2_with fail
  go_ret
  exact ⟨_, rfl, UsBuf.nil _ _, Below.refl _ _⟩
 | some a =>
  have hb0 := (Below.refl w.heap.size w).alloc (Nat.le_refl _) (.cells #[] 26)
  have hbuf : UsBuf w.heap.size (w.alloc (.cells #[] 26)) (.slice (some ⟨w.heap.size, 0, none⟩) 0 0) [] :=
   ⟨rfl, .inr ⟨w.heap.size, 0, #[], rfl, Nat.le_refl _, heap_alloc_new w _, Nat.le_refl _, Nat.zero_le _, rfl, rfl⟩⟩
  have HB := Lib.hid hbuf
  have Hb0 := Lib.hid hb0
  have h1 : ∀ j u, (usVs l)[j]? = some u → (w.alloc (.cells #[] 26)).cell? (a.add j) = some u := fun j u hu => by
   have hlt : j < (usVs l).length := by
    rcases Nat.lt_or_ge j (usVs l).length with h | h
    ·exact h
    ·rw [List.getElem?_eq_none h] at hu; cases hu
   rw [usVs_len] at hlt
   obtain ⟨b, o, hp, hcell⟩ := hc (by omega)
   cases hp
   obtain ⟨i, q, rfl, hq⟩ : ∃ i q, j = i * 2 + q ∧ q < 2 := ⟨j / 2, j % 2, by omega, by omega⟩
   obtain ⟨g0, g1⟩ := usVs_get l i (by omega)
   obtain ⟨c0, c1⟩ := hcell i (by omega)
   have e0 : (⟨b, o, none⟩ : Addr).add (i * 2 + q) = ⟨b, o + i * 2 + q, none⟩ := by rw [Addr.add_lit, Nat.add_assoc]
   rw [e0]
   have hq' : q = 0 ∨ q = 1 := by omega
   rcases hq' with rfl | rfl
   ·rw [Nat.add_zero] at hu ⊢
    rw [g0] at hu
    rw [hb0.cell (p := ⟨b, o + i * 2, none⟩) (block_lt_of_cell c0), c0]; exact hu
   ·rw [g1] at hu
    rw [hb0.cell (p := ⟨b, o + i * 2 + 1, none⟩) (block_lt_of_cell c1), c1]; exact hu
  have H1 := Lib.hid h1
  have H2 := Lib.hid (usVs_one l)
  have H3 := Lib.hid (show 0 + l.length ≤ maxLen by unfold maxLen; omega)
  have H4 := Lib.hid (show (0 + l.length) * 32 ≤ 140737488355328 by omega)
  have H5 := Lib.hid (show w.heap.size ≤ (w.alloc (.cells #[] 26)).heap.size by simp)
  have H6 := Lib.hid (usVs_len l)
  clear hb0 hbuf h1 hc hl
  go_enter Tryz.func72, Tryz.ntmps72
  go_wp2_with (at_builtin; refine wpList_append_own _ rfl _ _ 24 rfl w.heap.size 26 i0 (.agg #[.string (S []), .string (S [])]) 2 32 Tryz.underlying24 hi hz0 hz1 hz2 rfl (by decide) (.slice (some ⟨w.heap.size, 0, none⟩) 0 0) 0 [] rfl HB.out a l.length c (usVs l) rfl H6.out H1.out H2.out H3.out H4.out H5.out ?_)
  intro v' wa hown hgrow hnil
  have hown' : UsBuf w.heap.size wa v' l := by
   unfold UsBuf
   exact hown
  have Hlow := Lib.hid (Hb0.out.grown hgrow (by simp) (fun k hk => by simp [Value.ownBlock] at hk; omega))
  have Hown := Lib.hid hown'
  clear hown hown' hgrow hnil
  go_wp2_with fail
  go_ret
  exact ⟨_, rfl, Hown.out, Hlow.out⟩
def mk0 (nb gb mb : Nat) (mv vt vu : Value) (HG : Nat → Prop) : LgM := ⟨nb, gb, mb, mv, vt, vu, fun k => k = nb, HG⟩
theorem SMap.notRowS {W : World} {b n base : Nat} {f : List UInt8 → Option (List UInt8)} (h : SMap W b n f) {e : TypeId} {size : Nat} {v : Value} {m : Nat} {xs : List Value} (hv : W.ownsRow base e size v m xs) : ∀ k, v.ownBlock = some k → k ≠ b := fun k hk he => by
 subst he
 obtain ⟨D, ⟨es, clock, h1, _⟩, _⟩ := h
 rcases hv.2 with ⟨rfl, _⟩ | ⟨g, cap, cur, rfl, _, hgc, _⟩
 ·simp [Value.ownBlock] at hk
 ·have : g = k := by simpa [Value.ownBlock] using hk
  subst this
  rw [h1] at hgc
  cases hgc
theorem LogIn.made {w w3 w4 w5 W : World} {c : Cf} {d : Dw} {nb gb mb : Nat} {mv vS vU : Value} {HG : Nat → Prop} (hw3 : w.heap.size ≤ w3.heap.size) (h34 : w3.heap.size ≤ w4.heap.size) (hNeg : NegAt w4 w3.heap.size (fun k => k = nb) nb mv c.own []) (hMv : PrBuf w3.heap.size w4 mv c.own) (hG : GatAt w5 w4.heap.size HG gb ⟨8192, []⟩) (b45 : Below w4.heap.size w4 w5) (b5 : Below w5.heap.size w5 W) (hS : StBuf w5.heap.size W vS c.ts) (hU : UsBuf w5.heap.size W vU c.us) (hM : SMap W mb 0 (fun _ => none)) (hmb : w5.heap.size ≤ mb) :
  LogIn (W.alloc (.cells (proC (mk0 nb gb mb mv vS vU HG) c d (lq0 c)) 95)) w.heap.size W.heap.size (mk0 nb gb mb mv vS vU HG) c d (lq0 c) ∧ (OwnV w mv ∧ OwnV w vS ∧ OwnV w vU) := by
 obtain ⟨W', hW'⟩ : ∃ W', W.alloc (.cells (proC (mk0 nb gb mb mv vS vU HG) c d (lq0 c)) 95) = W' := ⟨_, rfl⟩
 have bA : Below W.heap.size W W' := by rw [← hW']; exact (Below.refl _ _).alloc (Nat.le_refl _) _
 have kA : Blk W' W.heap.size (proC (mk0 nb gb mb mv vS vU HG) c d (lq0 c)) 95 := by rw [← hW']; exact Blk.new W _ _
 rw [hW']
 have b4 := below_then b45 (below_then b5 bA)
 have b5A := below_then b5 bA
 have hnb := hNeg.base nb rfl
 have hgk := hG.base
 have s45 := b45.size
 have s5 := b5.size
 have hmlt := hM.lt
 have hSge := hS.ge
 have hUge := hU.ge
 have hSm := hM.notRowS hS
 have hUm := hM.notRowS hU
 have hSlt : ∀ k, vS.ownBlock = some k → k < W.heap.size := fun k hk => (World.ownsRow.lt hS k hk).2
 have hUlt : ∀ k, vU.ownBlock = some k → k < W.heap.size := fun k hk => (World.ownsRow.lt hU k hk).2
 have hMge := hMv.ge
 have hMlt : ∀ k, mv.ownBlock = some k → k < w4.heap.size := fun k hk => (World.ownsRow.lt hMv k hk).2
 have hMnb : mv.ownBlock ≠ some nb := by
  obtain ⟨rv, h1, _⟩ := hNeg.at_
  exact hMv.notBlk h1 (by decide)
 have hmine : PrsV (offW ((mk0 nb gb mb mv vS vU HG).H W.heap.size) W') mv c.own := by
  have h1 : PrBuf w3.heap.size W' mv c.own := hMv.later b4
  refine PrBuf.prs (base := w3.heap.size) (row_off h1 (fun k hk hh => ?_))
  have h2 := hMlt k hk
  rcases hh with rfl | rfl | rfl | hh
  ·omega
  ·have h4 : w5.heap.size ≤ _ := hmb
   exact absurd h2 (Nat.not_lt.2 (Nat.le_trans s45 h4))
  ·exact hMnb hk
  ·have := (hgk k hh).1; omega
 have hts : StrV (offW ((mk0 nb gb mb mv vS vU HG).H W.heap.size) W') vS c.ts := by
  have h1 : StBuf w5.heap.size W' vS c.ts := hS.later bA
  refine StBuf.strs (base := w5.heap.size) (row_off h1 (fun k hk hh => ?_))
  have h2 := hSge k hk
  have h3 := hSlt k hk
  rcases hh with rfl | rfl | rfl | hh
  ·omega
  ·exact hSm _ hk rfl
  ·omega
  ·have := (hgk k hh).2; omega
 have hus : UsV (offW ((mk0 nb gb mb mv vS vU HG).H W.heap.size) W') vU c.us := by
  have h1 : UsBuf w5.heap.size W' vU c.us := hU.later bA
  refine UsBuf.us (base := w5.heap.size) (row_off h1 (fun k hk hh => ?_))
  have h2 := hUge k hk
  have h3 := hUlt k hk
  rcases hh with rfl | rfl | rfl | hh
  ·omega
  ·exact hUm _ hk rfl
  ·omega
  ·have := (hgk k hh).2; omega
 refine ⟨⟨kA, (hNeg.mono hw3).later b4, (hG.mono (Nat.le_trans hw3 h34)).later b5A, ?_, hmine, hts, hus, ⟨by omega, by change _ ≤ mb; omega⟩, ?_, ⟨?_, ?_⟩, ⟨?_, ?_⟩, ?_⟩, fun k hk => Nat.le_trans hw3 (hMge k hk), fun k hk => by have := hSge k hk; omega, fun k hk => by have := hUge k hk; omega⟩
 ·exact (hM.later bA).as (g := whoF (lq0 c)) (fun k => by unfold whoF lq0; simp)
 ·change W.heap.size ≠ mb; omega
 ·change W.heap.size ≠ nb; omega
 ·intro hh; have := (hgk _ hh).2; omega
 ·change mb ≠ nb; omega
 ·intro hh; have := (hgk _ hh).2; change mb < _ at this; omega
 ·rintro k rfl hh; have := (hgk _ hh).1; omega
end Go.Proofs.YtjbbbpgcegcbaaaGreatDoor
