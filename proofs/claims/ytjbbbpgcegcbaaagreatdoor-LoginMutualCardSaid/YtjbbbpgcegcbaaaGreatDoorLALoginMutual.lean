/- LoginMutual: for every input the law's function returns true, and what came in reads as it did. -/
import Derived.Carry
import Derived.ChangeOld
import Derived.Deep.DeepHandedRow
import Derived.Deep.DeepWitnessRowRef
import Derived.Lib.LaidU8
import Derived.OpenShut
import Derived.ProofKit
import Derived.SevenTiedAt
import Derived.ShapedOpen
import Derived.ShutString
import Derived.SizedLaws
import Derived.Test.YtjbbbpgcegcbaaaGreatDoorCards
import Derived.Test.YtjbbbpgcegcbaaaGreatDoorTie
import GoSem.PinnedTables
import Derived.Test.YtjbbbpgcegcbaaaGreatDoorLA30
import Derived.Test.YtjbbbpgcegcbaaaGreatDoorLA41
import Derived.Test.YtjbbbpgcegcbaaaGreatDoorLA42
import Derived.Test.YtjbbbpgcegcbaaaGreatDoorLA44
namespace Go.Proofs.YtjbbbpgcegcbaaaGreatDoor
open Go Go.RowKit
set_option linter.unusedVariables false
theorem pickI_lt0 (a : Int) (n : Nat) (h : 0 < n) : ∃ k : Nat, pickI a n = k ∧ k < n := ⟨_, rfl, pickI_lt a n h⟩
set_option maxRecDepth 100000 in
set_option maxHeartbeats 8000000 in
theorem loginMutual_any (n s : List UInt8) (u : Us) (d : Dw) (id : Int) (cc : List UInt8) (w : World) (hn : n.length ≤ 140737488351232) (hs : s.length ≤ 140737488351232) (hu : u.nm.length ≤ 140737488351232 ∧ u.sc.length ≤ 140737488351232) (hd : (Lit.int .i64 d.id).wf = true ∧ d.ch.length ≤ 140737488351232) (hid : (Lit.int .i64 id).wf = true) (hcl : cc.length ≤ 140737488351232) (hE : EnvL w) :
  Calls Tryz.prog 8 #[.string (S n), .string (S s), .agg #[.string (S u.nm), .string (S u.sc)], .agg #[.int .i64 d.id, .string (S d.ch)], .int .i64 id, .string (S cc)] w fun e w' => e = .returned (.bool true) ∧ Below w.heap.size w w' := by
 have HFN := Lib.hid hn
 have HFS := Lib.hid hs
 have HFU := Lib.hid hu
 have hcI : (cc.length : Int) ≤ 140737488351232 := by omega
 have L_0 := Lib.hid (Below.refl w.heap.size w)
 have E_0 := Lib.hid (hE)
 clear hE hd hn hs hu
 obtain ⟨w1, hw1⟩ : ∃ x, w.alloc (.cells #[.string (S u.nm), .string (S u.sc)] 26) = x := ⟨_, rfl⟩
 have hb : Below w.heap.size w w1 := by rw [← hw1]; exact (Below.refl _ _).alloc (Nat.le_refl _) _
 have hk : Blk w1 w.heap.size #[.string (S u.nm), .string (S u.sc)] 26 := by rw [← hw1]; exact Blk.new w _ _
 obtain ⟨ub, hub⟩ : ∃ x, w.heap.size = x := ⟨_, rfl⟩
 rw [hub] at hk
 have L_1 := Lib.hid (below_then L_0.out hb)
 have E_1 := Lib.hid (E_0.out.later hb)
 clear L_0 E_0
 clear hb
 have U_0 := Lib.hid (hk)
 clear hk
 obtain ⟨w2, hw2⟩ : ∃ x, w1.alloc (.cells #[.int .i64 d.id, .string (S d.ch)] 31) = x := ⟨_, rfl⟩
 have hb : Below w1.heap.size w1 w2 := by rw [← hw2]; exact (Below.refl _ _).alloc (Nat.le_refl _) _
 have hk : Blk w2 w1.heap.size #[.int .i64 d.id, .string (S d.ch)] 31 := by rw [← hw2]; exact Blk.new w1 _ _
 obtain ⟨db, hdb⟩ : ∃ x, w1.heap.size = x := ⟨_, rfl⟩
 rw [hdb] at hk
 have L_2 := Lib.hid (below_then L_1.out hb)
 have E_2 := Lib.hid (E_1.out.later hb)
 have U_1 := Lib.hid (U_0.out.later hb)
 clear L_1 E_1 U_0
 clear hb
 have D_0 := Lib.hid (hk)
 clear hk
 go_enter Tryz.func8, Tryz.ntmps8
 have EN := entered_any w2 E_2.out
 replace EN := Lib.hid EN
 go_wp2_with fail
 clear hw1 hw2
 refine EN.out.mono ?_
 rintro e w3 ⟨rfl, hb⟩
 clear EN
 have L_3 := Lib.hid (below_then L_2.out hb)
 have E_3 := Lib.hid (E_2.out.later hb)
 have U_2 := Lib.hid (U_1.out.later hb)
 have D_1 := Lib.hid (D_0.out.later hb)
 clear L_2 E_2 U_1 D_0
 clear hb
 have FA := proved_fact w3 E_3.out.md E_3.out.err
 replace FA := Lib.hid FA
 go_wp2_with fail
 refine FA.out.mono ?_
 rintro e w4 ⟨rfl, hb⟩
 clear FA
 have L_4 := Lib.hid (below_then L_3.out hb)
 have E_4 := Lib.hid (E_3.out.later hb)
 have U_3 := Lib.hid (U_2.out.later hb)
 have D_2 := Lib.hid (D_1.out.later hb)
 clear L_3 E_3 U_2 D_1
 clear hb
 have FA := valued_fact w4 E_4.out.err
 replace FA := Lib.hid FA
 go_wp2_with fail
 refine FA.out.mono ?_
 rintro e w5 ⟨rfl, hb⟩
 clear FA
 have L_5 := Lib.hid (below_then L_4.out hb)
 have E_5 := Lib.hid (E_4.out.later hb)
 have U_4 := Lib.hid (U_3.out.later hb)
 have D_3 := Lib.hid (D_2.out.later hb)
 clear L_4 E_4 U_3 D_2
 clear hb
 by_cases h110 : (110 : Int) < (cc.length : Int)
 ·go_wp2_with fail
  go_ret
  exact ⟨rfl, L_5.out⟩
 have HCC := Lib.hid (show cc.length ≤ 110 by omega)
 have GD := guarded_any n s w5
 unfold RetGrd confV at GD
 replace GD := Lib.hid GD
 go_wp2_with fail
 clear h110
 refine GD.out.mono ?_
 rintro e w6 ⟨vt, vp, vu, rfl, hvc, -, -, hb⟩
 clear GD
 obtain ⟨pt, ct, rfl, -⟩ := hvc.ts
 obtain ⟨pp, cp, rfl, -⟩ := hvc.ps
 obtain ⟨pu, cu, rfl, -⟩ := hvc.us
 have L_6 := Lib.hid (below_then L_5.out hb)
 have E_6 := Lib.hid (E_5.out.later hb)
 have U_5 := Lib.hid (U_4.out.later hb)
 have D_4 := Lib.hid (D_3.out.later hb)
 clear L_5 E_5 U_4 D_3
 clear hb
 obtain ⟨cb, hcb⟩ : ∃ x, w6.heap.size = x := ⟨_, rfl⟩
 obtain ⟨wz, hwz⟩ : ∃ x, w6.alloc (.cells #[.slice none 0 0, .slice none 0 0, .slice none 0 0, .string (S []), .string (S []), .int .i64 0, .slice none 0 0] 29) = x := ⟨_, rfl⟩
 have bz : Below w6.heap.size w6 wz := by rw [← hwz]; exact (Below.refl _ _).alloc (Nat.le_refl _) _
 have kz : Blk wz w6.heap.size #[.slice none 0 0, .slice none 0 0, .slice none 0 0, .string (S []), .string (S []), .int .i64 0, .slice none 0 0] 29 := by rw [← hwz]; exact Blk.new w6 _ _
 rw [hcb] at kz
 have HCBW := Lib.hid kz.lt
 obtain ⟨y0, y1, y2, y3, y4, y5, y6⟩ := kz.seven
 have v0 := kz.frozen 0
 have v1 := kz.frozen 1
 have v2 := kz.frozen 2
 have v3 := kz.frozen 3
 have v4 := kz.frozen 4
 have v5 := kz.frozen 5
 have v6 := kz.frozen 6
 obtain ⟨wx, hwx⟩ : ∃ x, (((((((wz.setCell ⟨cb, 0, none⟩ (.slice pt (confG n s).ts.length ct)).setCell ⟨cb, 1, none⟩ (.slice pp (confG n s).ps.length cp)).setCell ⟨cb, 2, none⟩ (.slice pu (confG n s).us.length cu)).setCell ⟨cb, 3, none⟩ (.string (S (confG n s).sn))).setCell ⟨cb, 4, none⟩ (.string (S (confG n s).ss))).setCell ⟨cb, 5, none⟩ (.int .i64 (confG n s).lim)).setCell ⟨cb, 6, none⟩ (.slice none 0 0)) = x := ⟨_, rfl⟩
 have bx : Below w6.heap.size w6 wx := by rw [← hwx]; exact blk_seven kz (by omega) bz
 have kx : Blk wx cb #[.slice pt (confG n s).ts.length ct, .slice pp (confG n s).ps.length cp, .slice pu (confG n s).us.length cu, .string (S (confG n s).sn), .string (S (confG n s).ss), .int .i64 (confG n s).lim, .slice none 0 0] 29 := by rw [← hwx]; exact (((((((kz.set 0 (.slice pt (confG n s).ts.length ct)).set 1 (.slice pp (confG n s).ps.length cp)).set 2 (.slice pu (confG n s).us.length cu)).set 3 (.string (S (confG n s).sn))).set 4 (.string (S (confG n s).ss))).set 5 (.int .i64 (confG n s).lim)).set 6 (.slice none 0 0))
 obtain ⟨x0, x1, x2, x3, x4, x5, x6⟩ := kx.seven
 have t3 := kx.frozen 3
 have t4 := kx.frozen 4
 obtain ⟨u0, u1⟩ := (U_5.out.later bx).two
 obtain ⟨w7, hw7⟩ : ∃ x, ((wx.setCell ⟨cb, 3, none⟩ (.string (S u.nm))).setCell ⟨cb, 4, none⟩ (.string (S u.sc))) = x := ⟨_, rfl⟩
 have hb : Below w6.heap.size w6 w7 := by rw [← hw7]; exact (bx.setCell (by show _ ≤ cb; omega) _).setCell (by show _ ≤ cb; omega) _
 have hk : Blk w7 cb #[.slice pt (confG n s).ts.length ct, .slice pp (confG n s).ps.length cp, .slice pu (confG n s).us.length cu, .string (S u.nm), .string (S u.sc), .int .i64 (confG n s).lim, .slice none 0 0] 29 := by rw [← hw7]; exact ((kx.set 3 (.string (S u.nm))).set 4 (.string (S u.sc)))
 have hvc2 : ConfAt w7 (confM n s u.nm u.sc) (.slice pt (confG n s).ts.length ct) (.slice pp (confG n s).ps.length cp) (.slice pu (confG n s).us.length cu) (.slice none 0 0) := ⟨hvc.ts.later hb, hvc.ps.later hb, hvc.us.later hb, hvc.own.later hb, hvc.tc⟩
 clear bz kz bx kx hvc
 have L_7 := Lib.hid (below_then L_6.out hb)
 have E_7 := Lib.hid (E_6.out.later hb)
 have U_6 := Lib.hid (U_5.out.later hb)
 have D_5 := Lib.hid (D_4.out.later hb)
 clear L_6 E_6 U_5 D_4
 clear hb
 have VC_0 := Lib.hid (hvc2)
 clear hvc2
 have HKC := Lib.hid hk
 clear hk
 have LB_0 := Lib.hid (L_7.out)
 have EB_0 := Lib.hid (E_7.out)
 have HLTD := Lib.hid D_5.out.lt
 have HLTU := Lib.hid U_6.out.lt
 have NW := new_either (confM n s u.nm u.sc) d _ _ _ _ w7 VC_0.out (confM_fit HFN.out HFS.out HFU.out.1 HFU.out.2 (confG_fit HFN.out HFS.out)) E_7.out
 unfold confV at NW
 replace NW := Lib.hid NW
 obtain ⟨q0, q1, q2, q3, q4, q5, q6⟩ := HKC.out.seven
 obtain ⟨dd0, dd1⟩ := D_5.out.two
 go_wp2_with fail
 clear hwz hwx hw7 y0 y1 y2 y3 y4 y5 y6 v0 v1 v2 v3 v4 v5 v6 x0 x1 x2 x3 x4 x5 x6 u0 u1 t3 t4
 clear q0 q1 q2 q3 q4 q5 q6 dd0 dd1 HKC
 refine NW.out.mono ?_
 rintro e w8 ⟨pv, ev, rfl, hNE, hb⟩
 clear NW
 clear VC_0
 have L_8 := Lib.hid (below_then L_7.out hb)
 have E_8 := Lib.hid (E_7.out.later hb)
 have U_7 := Lib.hid (U_6.out.later hb)
 have D_6 := Lib.hid (D_5.out.later hb)
 clear L_7 E_7 U_6 D_5
 clear hb
 rcases hNE with ⟨h0, lb, m, rfl, rfl, hL, -⟩ | ⟨h0, rfl, t, x, rfl⟩
 rotate_left
 ·clear h0
  go_wp2_with fail
  go_ret
  exact ⟨rfl, L_8.out⟩
 obtain ⟨x, hM⟩ := madeM_of h0
 obtain ⟨hco, hdo, -⟩ := newL_is h0
 have HCO := Lib.hid hco
 have HDO := Lib.hid hdo
 have HM := Lib.hid hM
 clear h0 hM hco hdo
 have S_0 := Lib.hid (hL)
 clear hL
 have ND_0 := Lib.hid ((fun hh => by have := (S_0.out.log.ge _ hh).1; have := HLTD.out; omega : ¬ m.H lb db))
 have NU_0 := Lib.hid ((fun hh => by have := (S_0.out.log.ge _ hh).1; have := HLTU.out; omega : ¬ m.H lb ub))
 have PK := pick_any id 300 w8 (by decide) (by decide)
 obtain ⟨k, hk, hk3⟩ := pickI_lt0 id 300 (by decide)
 rw [hk] at PK
 replace PK := Lib.hid PK
 have HK3 := Lib.hid hk3
 clear hk hk3
 go_wp2_with fail
 refine PK.out.mono ?_
 rintro e w' ⟨rfl, rfl⟩
 clear PK
 have R1 := response_any d.id s d.ch w8 E_8.out.md
 rw [HM.out.one.resp] at R1
 rw [show errV (x, (0 : Int)).2 = .nilIface from rfl] at R1
 replace R1 := Lib.hid R1
 obtain ⟨dd0, dd1⟩ := D_6.out.two
 go_wp2_with fail
 clear dd0 dd1
 refine R1.out.mono ?_
 rintro e w9 ⟨rfl, hb⟩
 clear R1
 have L_9 := Lib.hid (below_then L_8.out hb)
 have E_9 := Lib.hid (E_8.out.later hb)
 have U_8 := Lib.hid (U_7.out.later hb)
 have D_7 := Lib.hid (D_6.out.later hb)
 have S_1 := Lib.hid (S_0.out.later hb)
 clear L_8 E_8 U_7 D_6 S_0
 clear hb
 have R2 := response_any (k : Int) u.sc cc w9 E_9.out.md
 have hmt := mut_three (cc := cc) HM.out HK3.out HCC.out
 obtain ⟨⟨y, er⟩, hr⟩ : ∃ r, respL (k : Int) u.sc cc = r := ⟨_, rfl⟩
 rw [hr] at R2 hmt
 simp only at R2 hmt
 have HMT := Lib.hid hmt
 replace R2 := Lib.hid R2
 clear hmt hr
 obtain ⟨u0, u1⟩ := U_8.out.two
 go_wp2_with fail
 clear u0 u1
 refine R2.out.mono ?_
 rintro e w10 ⟨rfl, hb⟩
 clear R2
 have L_10 := Lib.hid (below_then L_9.out hb)
 have E_10 := Lib.hid (E_9.out.later hb)
 have U_9 := Lib.hid (U_8.out.later hb)
 have D_8 := Lib.hid (D_7.out.later hb)
 have S_2 := Lib.hid (S_1.out.later hb)
 clear L_9 E_9 U_8 D_7 S_1
 clear hb
 have HX := hex_any x w10 (by have := HM.out.one.len; omega)
 replace HX := Lib.hid HX
 go_wp2_with fail
 refine HX.out.mono ?_
 rintro e w11 ⟨rfl, hb⟩
 clear HX
 have L_11 := Lib.hid (below_then L_10.out hb)
 have E_11 := Lib.hid (E_10.out.later hb)
 have U_10 := Lib.hid (U_9.out.later hb)
 have D_9 := Lib.hid (D_8.out.later hb)
 have S_3 := Lib.hid (S_2.out.later hb)
 clear L_10 E_10 U_9 D_8 S_2
 clear hb
 have NB := numberT_any k k (Nat.le_refl _) (by have := HK3.out; omega) w11
 replace NB := Lib.hid NB
 go_wp2_with fail
 refine NB.out.mono ?_
 rintro e w12 ⟨rfl, hb⟩
 clear NB
 have L_12 := Lib.hid (below_then L_11.out hb)
 have E_12 := Lib.hid (E_11.out.later hb)
 have U_11 := Lib.hid (U_10.out.later hb)
 have D_10 := Lib.hid (D_9.out.later hb)
 have S_4 := Lib.hid (S_3.out.later hb)
 clear L_11 E_11 U_10 D_9 S_3
 clear hb
 have Q1 := pair_any [67, 72, 65, 80, 95, 73] (Lib.decDigits k) w12
 replace Q1 := Lib.hid Q1
 go_wp2_with fail
 refine Q1.out.mono ?_
 rintro e w13 ⟨rfl, hb⟩
 clear Q1
 have L_13 := Lib.hid (below_then L_12.out hb)
 have E_13 := Lib.hid (E_12.out.later hb)
 have U_12 := Lib.hid (U_11.out.later hb)
 have D_11 := Lib.hid (D_10.out.later hb)
 have S_5 := Lib.hid (S_4.out.later hb)
 clear L_12 E_12 U_11 D_10 S_4
 clear hb
 have HX := hex_any cc w13 (by have := HCC.out; omega)
 replace HX := Lib.hid HX
 go_wp2_with fail
 refine HX.out.mono ?_
 rintro e w14 ⟨rfl, hb⟩
 clear HX
 have L_14 := Lib.hid (below_then L_13.out hb)
 have E_14 := Lib.hid (E_13.out.later hb)
 have U_13 := Lib.hid (U_12.out.later hb)
 have D_12 := Lib.hid (D_11.out.later hb)
 have S_6 := Lib.hid (S_5.out.later hb)
 clear L_13 E_13 U_12 D_11 S_5
 clear hb
 have Q2 := pair_any [67, 72, 65, 80, 95, 67] (hexL cc) w14
 replace Q2 := Lib.hid Q2
 go_wp2_with fail
 refine Q2.out.mono ?_
 rintro e w15 ⟨rfl, hb⟩
 clear Q2
 have L_15 := Lib.hid (below_then L_14.out hb)
 have E_15 := Lib.hid (E_14.out.later hb)
 have U_14 := Lib.hid (U_13.out.later hb)
 have D_13 := Lib.hid (D_12.out.later hb)
 have S_7 := Lib.hid (S_6.out.later hb)
 clear L_14 E_14 U_13 D_12 S_6
 clear hb
 obtain ⟨w16, hw16⟩ : ∃ x, w15.alloc (.cells #[.string (S [67, 72, 65, 80, 95, 73]), .string (S (Lib.decDigits k)), .string (S [67, 72, 65, 80, 95, 67]), .string (S (hexL cc))] 60) = x := ⟨_, rfl⟩
 have hb : Below w15.heap.size w15 w16 := by rw [← hw16]; exact (Below.refl _ _).alloc (Nat.le_refl _) _
 have hk : Blk w16 w15.heap.size #[.string (S [67, 72, 65, 80, 95, 73]), .string (S (Lib.decDigits k)), .string (S [67, 72, 65, 80, 95, 67]), .string (S (hexL cc))] 60 := by rw [← hw16]; exact Blk.new w15 _ _
 have hp : PrsV w16 (.slice (some ⟨w15.heap.size, 0, none⟩) 2 2) [⟨kCI, Lib.decDigits k⟩, ⟨kCC, hexL cc⟩] := by rw [← hw16]; exact prs_new w15 [⟨kCI, Lib.decDigits k⟩, ⟨kCC, hexL cc⟩] _
 clear hk
 have L_16 := Lib.hid (below_then L_15.out hb)
 have E_16 := Lib.hid (E_15.out.later hb)
 have U_15 := Lib.hid (U_14.out.later hb)
 have D_14 := Lib.hid (D_13.out.later hb)
 have S_8 := Lib.hid (S_7.out.later hb)
 clear L_15 E_15 U_14 D_13 S_7
 clear hb
 have HFR := Lib.hid S_8.out.fresh
 obtain ⟨PA, hPA⟩ : ∃ P : Pd, (⟨reqA, [], prBytes [pIni, pSes, pMth]⟩ : Pd) = P := ⟨_, rfl⟩
 obtain ⟨PB, hPB⟩ : ∃ P : Pd, (⟨reqA, [], prBytes [pAsk]⟩ : Pd) = P := ⟨_, rfl⟩
 obtain ⟨PD, hPD⟩ : ∃ P : Pd, (⟨reqE, [], []⟩ : Pd) = P := ⟨_, rfl⟩
 have hvx := hexL_val (l := x) (by have := HM.out.one.len; omega)
 have hvc := hexL_val (l := cc) (by have := HCC.out; omega)
 have hpo := proof_ok (u := n) (v := hexL x) (o := some (Lib.decDigits k, hexL cc)) (nameOk_is HM.out.one.nm).2.2 hvx (more_val (dec_val HK3.out) hvc)
 have hsc := stepC_is (n := n) (v := hexL x) (o := some (Lib.decDigits k, hexL cc)) (nameOk_is HM.out.one.nm).2.2 hvx (more_val (dec_val HK3.out) hvc)
 obtain ⟨PC, hPC⟩ : ∃ P : Pd, (⟨reqC, [], prBytes (proofP n (hexL x) (some (Lib.decDigits k, hexL cc)))⟩ : Pd) = P := ⟨_, rfl⟩
 rw [show moreP (some (Lib.decDigits k, hexL cc)) = [⟨kCI, Lib.decDigits k⟩, ⟨kCC, hexL cc⟩] from rfl, hPC] at hsc
 have hmt2 := HMT.out
 rw [hPA, hPB, hPC] at hmt2
 have HMT2 := Lib.hid hmt2
 have HF := Lib.hid (show ∀ p ∈ [PA, PB, PC], FitP p from fun p hp => by
  rcases List.mem_cons.1 hp with rfl | hp
  ·rw [← hPA]; exact say_fit (by decide +kernel)
  ·rcases List.mem_cons.1 hp with rfl | hp
   ·rw [← hPB]; exact say_fit (by decide +kernel)
   ·rw [List.mem_singleton.1 hp, ← hPC]; exact reqC_fit hpo.2.2)
 have hkl := (dec_lenT 3 k (by have := HK3.out; omega))
 have ST := steps_any n (hexL x) [⟨kCI, Lib.decDigits k⟩, ⟨kCC, hexL cc⟩] _ w16 HFN.out (by rw [hexL_len]; have := HM.out.one.len; omega) hp ⟨by simp, fun p hp => by
  rcases List.mem_cons.1 hp with rfl | hp
  ·exact ⟨(by show kCI.length ≤ _; decide), (by show (Lib.decDigits k).length ≤ _; omega)⟩
  ·rw [List.mem_singleton.1 hp]; exact ⟨(by show kCC.length ≤ _; decide), (by show (hexL cc).length ≤ _; rw [hexL_len]; have := HCC.out; omega)⟩⟩ (by simp) E_16.out.env.mc
 rw [hsc] at ST
 unfold RetSteps stepsL at ST
 rw [hPA, hPB, hPD] at ST
 simp only at ST
 replace ST := Lib.hid ST
 clear hsc hPA hPB hPC hPD hvx hvc hpo hkl hmt2 HMT hp
 go_wp2_with fail
 clear hw16
 refine ST.out.mono ?_
 rintro e w17 ⟨sb, rfl, hrow, hb⟩
 clear ST
 have L_17 := Lib.hid (below_then L_16.out hb)
 have E_17 := Lib.hid (E_16.out.later hb)
 have U_16 := Lib.hid (U_15.out.later hb)
 have D_15 := Lib.hid (D_14.out.later hb)
 have S_9 := Lib.hid (S_8.out.later hb)
 clear L_16 E_16 U_15 D_14 S_8
 clear hb
 have hr3 : PdusV (offW (m.H lb) w17) (.slice (some ⟨sb, 0, none⟩) 3 4) [PA, PB, PC] := hrow.pdus HFR.out (n := 3) (c := 4) (show 3 ≤ 4 by decide)
 have R3_0 := Lib.hid (hr3)
 clear hr3
 clear hrow
 by_cases hbad : er ≠ 0 ∨ cc = d.ch ∨ u.nm = []
 ·
  have hkn := HMT2.out.1 hbad
  obtain ⟨A, hA⟩ : ∃ P : Pd, (⟨ansH reqC 0 0 2 77 2 1, [], []⟩ : Pd) = P := ⟨_, rfl⟩
  rw [hA] at hkn
  have HKQ := Lib.hid hkn
  have LENA := Lib.hid (show A.h.vs.length = 10 by rw [← hA]; rfl)
  have STA := Lib.hid (show statR A = (0, 2, 1) by rw [← hA]; kernel_rfl)
  have HBAD := Lib.hid hbad
  clear hkn hA HMT2 hbad
  have KN := knock_any [PA, PB, PC] _ S_9.out R3_0.out HF.out (by simp) EB_0.out HCO.out HDO.out
  rw [HKQ.out] at KN
  unfold RetKnock pduV at KN
  simp only at KN
  replace KN := Lib.hid KN
  go_wp2_with fail
  refine KN.out.mono ?_
  rintro e w18 ⟨m', qA, vv, va, rfl, hPA, hLS, hKK⟩
  clear KN
  have U_17 := Lib.hid (U_16.out.kp hKK NU_0.out)
  have D_16 := Lib.hid (D_15.out.kp hKK ND_0.out)
  have R3_1 := Lib.hid (R3_0.out.later hKK.off')
  have L_18 := Lib.hid (below_then LB_0.out hLS.low)
  have E_18 := Lib.hid (EB_0.out.later hLS.low)
  have S_10 := Lib.hid (hLS)
  have ND_1 := Lib.hid (fun hh => (hKK.old _ hh).elim ND_0.out (fun h => by have := D_15.out.lt; omega))
  have NU_1 := Lib.hid (fun hh => (hKK.old _ hh).elim NU_0.out (fun h => by have := U_16.out.lt; omega))
  clear U_16 D_15 R3_0 L_17 E_17 S_9 ND_0 NU_0
  obtain ⟨p3A, c3A, rfl⟩ : ∃ p c, vv = .slice p A.h.vs.length c := by obtain ⟨p, c, h, _⟩ := hPA.v; exact ⟨p, c, h⟩
  obtain ⟨p4A, c4A, rfl⟩ := hPA.a.form
  have PA_0 := Lib.hid (hPA)
  clear hPA hLS hKK
  clear R3_1
  have hn : ¬ m'.H lb w18.heap.size := fun hh => by have := S_10.out.fresh _ hh; omega
  obtain ⟨w19, hw19⟩ : ∃ x, w18.alloc (.cells #[.int .i64 A.h.op, .bool A.h.now, .int .i64 A.h.fl, .slice p3A A.h.vs.length c3A, .slice p4A A.a.length c4A, .string (S A.d)] 41) = x := ⟨_, rfl⟩
  have hb : Below w18.heap.size w18 w19 := by rw [← hw19]; exact (Below.refl _ _).alloc (Nat.le_refl _) _
  have hk : Blk w19 w18.heap.size #[.int .i64 A.h.op, .bool A.h.now, .int .i64 A.h.fl, .slice p3A A.h.vs.length c3A, .slice p4A A.a.length c4A, .string (S A.d)] 41 := by rw [← hw19]; exact Blk.new w18 _ _
  obtain ⟨bA, hbA⟩ : ∃ x, w18.heap.size = x := ⟨_, rfl⟩
  rw [hbA] at hk hn
  have L_19 := Lib.hid (below_then L_18.out hb)
  have E_19 := Lib.hid (E_18.out.later hb)
  have U_18 := Lib.hid (U_17.out.later hb)
  have D_17 := Lib.hid (D_16.out.later hb)
  have S_11 := Lib.hid (S_10.out.later hb)
  have PA_1 := Lib.hid (PA_0.out.later (Keeps.of hb _).off')
  clear L_18 E_18 U_17 D_16 S_10 PA_0
  clear hb
  have KA_0 := Lib.hid (hk)
  have NA_0 := Lib.hid (hn)
  clear hk hn
  have ST := status_any A _ _ w19 PA_1.out.off E_19.out.env.mc (by rw [LENA.out]; decide)
  rw [STA.out] at ST
  unfold pduV at ST
  replace ST := Lib.hid ST
  obtain ⟨cU0, cU1⟩ := U_18.out.two
  obtain ⟨cD0, cD1⟩ := D_17.out.two
  obtain ⟨cKA0, cKA1, cKA2, cKA3, cKA4, cKA5⟩ := KA_0.out.six
  go_wp2_with fail
  clear hw19
  clear cU0 cU1 cD0 cD1 cKA0 cKA1 cKA2 cKA3 cKA4 cKA5
  refine ST.out.mono ?_
  rintro e w20 ⟨rfl, hb⟩
  clear ST
  have L_20 := Lib.hid (below_then L_19.out hb)
  have E_20 := Lib.hid (E_19.out.later hb)
  have U_19 := Lib.hid (U_18.out.later hb)
  have D_18 := Lib.hid (D_17.out.later hb)
  have S_12 := Lib.hid (S_11.out.later hb)
  have PA_2 := Lib.hid (PA_1.out.later (Keeps.of hb _).off')
  have KA_1 := Lib.hid (KA_0.out.later hb)
  clear L_19 E_19 U_18 D_17 S_11 PA_1 KA_0
  clear hb
  have OV := S_12.out.overS
  rw [show ({ stMB n s u.nm u.sc with knw := true, usr := n, sta := 3, fld := true } : Lg).fld = true from rfl] at OV
  rw [show ({ stMB n s u.nm u.sc with knw := true, usr := n, sta := 3, fld := true } : Lg).don = false from rfl] at OV
  replace OV := Lib.hid OV
  go_wp2_with fail
  refine OV.out.mono ?_
  rintro e w21 ⟨rfl, hb⟩
  clear OV
  have L_21 := Lib.hid (below_then L_20.out hb)
  have E_21 := Lib.hid (E_20.out.later hb)
  have U_20 := Lib.hid (U_19.out.later hb)
  have D_19 := Lib.hid (D_18.out.later hb)
  have S_13 := Lib.hid (S_12.out.later hb)
  have PA_3 := Lib.hid (PA_2.out.later (Keeps.of hb _).off')
  have KA_2 := Lib.hid (KA_1.out.later hb)
  clear L_20 E_20 U_19 D_18 S_12 PA_2 KA_1
  clear hb
  obtain ⟨dd0, dd1⟩ := D_19.out.two
  obtain ⟨u0, u1⟩ := U_20.out.two
  have hbad := HBAD.out
  clear HBAD
  by_cases he0 : er = 0
  ·subst he0
   rw [show errV (0 : Int) = .nilIface from rfl]
   by_cases hc : cc = d.ch
   ·rw [← hc] at dd1 ⊢
    go_wp2_with fail
    go_ret
    exact ⟨rfl, L_21.out⟩
   ·have hnm : u.nm = [] := by
     rcases hbad with h | h | h
     ·exact absurd rfl h
     ·exact absurd h hc
     ·exact h
    have hcb : (cc == d.ch) = false := by simpa using hc
    rw [hnm] at u0
    go_wp2_with fail
    go_ret
    exact ⟨rfl, L_21.out⟩
  ·rw [errV_pos er he0]
   go_wp2_with fail
   go_ret
   exact ⟨rfl, L_21.out⟩
 ·
  obtain ⟨hkn, hva, hyl⟩ := HMT2.out.2 hbad
  obtain ⟨A, hA⟩ : ∃ P : Pd, (⟨ansH reqC 129 0 2 77 0 0, [], (prPrint [⟨kCN, u.nm⟩, ⟨kCR, hexL y⟩]).1⟩ : Pd) = P := ⟨_, rfl⟩
  rw [hA] at hkn
  obtain ⟨er0, hc0, hn0⟩ : er = 0 ∧ (cc == d.ch) = false ∧ u.nm.isEmpty = false := ⟨Classical.not_not.1 fun h => hbad (.inl h), (by simpa using fun h => hbad (.inr (.inl h))), (by simpa using fun h => hbad (.inr (.inr h)))⟩
  subst er0
  have hback := (back_said hva (r := y) (by omega)).2
  have hAd : A.d = (prPrint [⟨kCN, u.nm⟩, ⟨kCR, hexL y⟩]).1 := by rw [← hA]
  have hbl : (prPrint [⟨kCN, u.nm⟩, ⟨kCR, hexL y⟩]).1.length ≤ 1000000 := by
   have e := (back_said hva (r := y) (by omega)).1
   rw [e]
   have e0 : (prBytes ([] : List Pr)).length = 0 := rfl
   have b1 := bytes_len2 (k := kCR) (v := hexL y) (by decide) (valLen (hexL_val (by omega))) []
   have b2 := bytes_len2 (k := kCN) (v := u.nm) (by decide) (valLen hva) [⟨kCR, hexL y⟩]
   omega
  rw [← hAd] at hback hbl
  have HKQ := Lib.hid hkn
  have LENA := Lib.hid (show A.h.vs.length = 10 by rw [← hA]; rfl)
  have STA := Lib.hid (show statR A = (129, 0, 0) by rw [← hA]; kernel_rfl)
  have HYL := Lib.hid hyl
  have HBL := Lib.hid hbl
  have HBK := Lib.hid hback
  have HC0 := Lib.hid hc0
  have HN0 := Lib.hid hn0
  clear hkn hA HMT2 hbad hva hyl hback hbl hAd hc0 hn0
  have KN := knock_any [PA, PB, PC] _ S_9.out R3_0.out HF.out (by simp) EB_0.out HCO.out HDO.out
  rw [HKQ.out] at KN
  unfold RetKnock pduV at KN
  simp only at KN
  replace KN := Lib.hid KN
  go_wp2_with fail
  refine KN.out.mono ?_
  rintro e w18 ⟨m', qA, vv, va, rfl, hPA, hLS, hKK⟩
  clear KN
  have U_17 := Lib.hid (U_16.out.kp hKK NU_0.out)
  have D_16 := Lib.hid (D_15.out.kp hKK ND_0.out)
  have R3_1 := Lib.hid (R3_0.out.later hKK.off')
  have L_18 := Lib.hid (below_then LB_0.out hLS.low)
  have E_18 := Lib.hid (EB_0.out.later hLS.low)
  have S_10 := Lib.hid (hLS)
  have ND_1 := Lib.hid (fun hh => (hKK.old _ hh).elim ND_0.out (fun h => by have := D_15.out.lt; omega))
  have NU_1 := Lib.hid (fun hh => (hKK.old _ hh).elim NU_0.out (fun h => by have := U_16.out.lt; omega))
  clear U_16 D_15 R3_0 L_17 E_17 S_9 ND_0 NU_0
  obtain ⟨p3A, c3A, rfl⟩ : ∃ p c, vv = .slice p A.h.vs.length c := by obtain ⟨p, c, h, _⟩ := hPA.v; exact ⟨p, c, h⟩
  obtain ⟨p4A, c4A, rfl⟩ := hPA.a.form
  have PA_0 := Lib.hid (hPA)
  clear hPA hLS hKK
  clear R3_1
  have hn : ¬ m'.H lb w18.heap.size := fun hh => by have := S_10.out.fresh _ hh; omega
  obtain ⟨w19, hw19⟩ : ∃ x, w18.alloc (.cells #[.int .i64 A.h.op, .bool A.h.now, .int .i64 A.h.fl, .slice p3A A.h.vs.length c3A, .slice p4A A.a.length c4A, .string (S A.d)] 41) = x := ⟨_, rfl⟩
  have hb : Below w18.heap.size w18 w19 := by rw [← hw19]; exact (Below.refl _ _).alloc (Nat.le_refl _) _
  have hk : Blk w19 w18.heap.size #[.int .i64 A.h.op, .bool A.h.now, .int .i64 A.h.fl, .slice p3A A.h.vs.length c3A, .slice p4A A.a.length c4A, .string (S A.d)] 41 := by rw [← hw19]; exact Blk.new w18 _ _
  obtain ⟨bA, hbA⟩ : ∃ x, w18.heap.size = x := ⟨_, rfl⟩
  rw [hbA] at hk hn
  have L_19 := Lib.hid (below_then L_18.out hb)
  have E_19 := Lib.hid (E_18.out.later hb)
  have U_18 := Lib.hid (U_17.out.later hb)
  have D_17 := Lib.hid (D_16.out.later hb)
  have S_11 := Lib.hid (S_10.out.later hb)
  have PA_1 := Lib.hid (PA_0.out.later (Keeps.of hb _).off')
  clear L_18 E_18 U_17 D_16 S_10 PA_0
  clear hb
  have KA_0 := Lib.hid (hk)
  have NA_0 := Lib.hid (hn)
  clear hk hn
  have ST := status_any A _ _ w19 PA_1.out.off E_19.out.env.mc (by rw [LENA.out]; decide)
  rw [STA.out] at ST
  unfold pduV at ST
  replace ST := Lib.hid ST
  obtain ⟨cU0, cU1⟩ := U_18.out.two
  obtain ⟨cD0, cD1⟩ := D_17.out.two
  obtain ⟨cKA0, cKA1, cKA2, cKA3, cKA4, cKA5⟩ := KA_0.out.six
  go_wp2_with fail
  clear hw19
  clear cU0 cU1 cD0 cD1 cKA0 cKA1 cKA2 cKA3 cKA4 cKA5
  refine ST.out.mono ?_
  rintro e w20 ⟨rfl, hb⟩
  clear ST
  have L_20 := Lib.hid (below_then L_19.out hb)
  have E_20 := Lib.hid (E_19.out.later hb)
  have U_19 := Lib.hid (U_18.out.later hb)
  have D_18 := Lib.hid (D_17.out.later hb)
  have S_12 := Lib.hid (S_11.out.later hb)
  have PA_2 := Lib.hid (PA_1.out.later (Keeps.of hb _).off')
  have KA_1 := Lib.hid (KA_0.out.later hb)
  clear L_19 E_19 U_18 D_17 S_11 PA_1 KA_0
  clear hb
  have OV := S_12.out.overS
  rw [show ({ stMB n s u.nm u.sc with knw := true, usr := n, stg := 1, sta := 3, don := false } : Lg).fld = false from rfl] at OV
  rw [show ({ stMB n s u.nm u.sc with knw := true, usr := n, stg := 1, sta := 3, don := false } : Lg).don = false from rfl] at OV
  replace OV := Lib.hid OV
  go_wp2_with fail
  refine OV.out.mono ?_
  rintro e w21 ⟨rfl, hb⟩
  clear OV
  have L_21 := Lib.hid (below_then L_20.out hb)
  have E_21 := Lib.hid (E_20.out.later hb)
  have U_20 := Lib.hid (U_19.out.later hb)
  have D_19 := Lib.hid (D_18.out.later hb)
  have S_13 := Lib.hid (S_12.out.later hb)
  have PA_3 := Lib.hid (PA_2.out.later (Keeps.of hb _).off')
  have KA_2 := Lib.hid (KA_1.out.later hb)
  clear L_20 E_20 U_19 D_18 S_12 PA_2 KA_1
  clear hb
  obtain ⟨dd0, dd1⟩ := D_19.out.two
  obtain ⟨u0, u1⟩ := U_20.out.two
  rw [show errV (0 : Int) = .nilIface from rfl]
  have hc0 := HC0.out
  have hn0 := HN0.out
  have hn1 : (u.nm == []) = false := by cases hu : u.nm with
   | nil => rw [hu] at hn0; exact absurd hn0 (by decide)
   | cons a l => rfl
  have PP := parse_any A.d w21 HBL.out E_21.out.env.mc
  rw [HBK.out] at PP
  unfold RetPE at PP
  replace PP := Lib.hid PP
  obtain ⟨cKA0, cKA1, cKA2, cKA3, cKA4, cKA5⟩ := KA_2.out.six
  go_wp2_with fail
  clear cKA0 cKA1 cKA2 cKA3 cKA4 cKA5
  clear dd0 dd1 u0 u1 hc0 hn0 hn1
  refine PP.out.mono ?_
  rintro e w22 ⟨vl, ev, rfl, hpl, he, hb⟩
  obtain rfl := he.zero
  clear PP he
  have L_22 := Lib.hid (below_then L_21.out hb)
  have E_22 := Lib.hid (E_21.out.later hb)
  have U_21 := Lib.hid (U_20.out.later hb)
  have D_20 := Lib.hid (D_19.out.later hb)
  have S_14 := Lib.hid (S_13.out.later hb)
  have PA_4 := Lib.hid (PA_3.out.later (Keeps.of hb _).off')
  have KA_3 := Lib.hid (KA_2.out.later hb)
  clear L_21 E_21 U_20 D_19 S_13 PA_3 KA_2
  clear hb
  have PL_0 := Lib.hid (hpl)
  clear hpl
  have PQ := Lib.hid (pair_any [67, 72, 65, 80, 95, 78] u.nm w22)
  obtain ⟨u0, u1⟩ := U_21.out.two
  go_wp2_with fail
  clear u0 u1
  refine PQ.out.mono ?_
  rintro e w23 ⟨rfl, hb⟩
  clear PQ
  have L_23 := Lib.hid (below_then L_22.out hb)
  have E_23 := Lib.hid (E_22.out.later hb)
  have U_22 := Lib.hid (U_21.out.later hb)
  have D_21 := Lib.hid (D_20.out.later hb)
  have S_15 := Lib.hid (S_14.out.later hb)
  have PA_5 := Lib.hid (PA_4.out.later (Keeps.of hb _).off')
  have KA_4 := Lib.hid (KA_3.out.later hb)
  have PL_1 := Lib.hid (PL_0.out.later hb)
  clear L_22 E_22 U_21 D_20 S_14 PA_4 KA_3 PL_0
  clear hb
  have HX := hex_any y w23 (by have := HYL.out; omega)
  replace HX := Lib.hid HX
  go_wp2_with fail
  refine HX.out.mono ?_
  rintro e w24 ⟨rfl, hb⟩
  clear HX
  have L_24 := Lib.hid (below_then L_23.out hb)
  have E_24 := Lib.hid (E_23.out.later hb)
  have U_23 := Lib.hid (U_22.out.later hb)
  have D_22 := Lib.hid (D_21.out.later hb)
  have S_16 := Lib.hid (S_15.out.later hb)
  have PA_6 := Lib.hid (PA_5.out.later (Keeps.of hb _).off')
  have KA_5 := Lib.hid (KA_4.out.later hb)
  have PL_2 := Lib.hid (PL_1.out.later hb)
  clear L_23 E_23 U_22 D_21 S_15 PA_5 KA_4 PL_1
  clear hb
  have PQ := Lib.hid (pair_any [67, 72, 65, 80, 95, 82] (hexL y) w24)
  go_wp2_with fail
  refine PQ.out.mono ?_
  rintro e w25 ⟨rfl, hb⟩
  clear PQ
  have L_25 := Lib.hid (below_then L_24.out hb)
  have E_25 := Lib.hid (E_24.out.later hb)
  have U_24 := Lib.hid (U_23.out.later hb)
  have D_23 := Lib.hid (D_22.out.later hb)
  have S_17 := Lib.hid (S_16.out.later hb)
  have PA_7 := Lib.hid (PA_6.out.later (Keeps.of hb _).off')
  have KA_6 := Lib.hid (KA_5.out.later hb)
  have PL_3 := Lib.hid (PL_2.out.later hb)
  clear L_24 E_24 U_23 D_22 S_16 PA_6 KA_5 PL_2
  clear hb
  obtain ⟨w26, hw26⟩ : ∃ x, w25.alloc (.cells #[.string (S [67, 72, 65, 80, 95, 78]), .string (S u.nm), .string (S [67, 72, 65, 80, 95, 82]), .string (S (hexL y))] 60) = x := ⟨_, rfl⟩
  have hb : Below w25.heap.size w25 w26 := by rw [← hw26]; exact (Below.refl _ _).alloc (Nat.le_refl _) _
  have hk : Blk w26 w25.heap.size #[.string (S [67, 72, 65, 80, 95, 78]), .string (S u.nm), .string (S [67, 72, 65, 80, 95, 82]), .string (S (hexL y))] 60 := by rw [← hw26]; exact Blk.new w25 _ _
  have hp : PrsV w26 (.slice (some ⟨w25.heap.size, 0, none⟩) 2 2) [⟨kCN, u.nm⟩, ⟨kCR, hexL y⟩] := by rw [← hw26]; exact prs_new w25 [⟨kCN, u.nm⟩, ⟨kCR, hexL y⟩] _
  clear hk
  have L_26 := Lib.hid (below_then L_25.out hb)
  have E_26 := Lib.hid (E_25.out.later hb)
  have U_25 := Lib.hid (U_24.out.later hb)
  have D_24 := Lib.hid (D_23.out.later hb)
  have S_18 := Lib.hid (S_17.out.later hb)
  have PA_8 := Lib.hid (PA_7.out.later (Keeps.of hb _).off')
  have KA_7 := Lib.hid (KA_6.out.later hb)
  have PL_4 := Lib.hid (PL_3.out.later hb)
  clear L_25 E_25 U_24 D_23 S_17 PA_7 KA_6 PL_3
  clear hb
  have EQ := Lib.hid (equalP_same [⟨kCN, u.nm⟩, ⟨kCR, hexL y⟩] _ _ w26 (by simp) PL_4.out hp)
  clear hp
  go_wp2_with fail
  clear hw26
  refine EQ.out.mono ?_
  rintro e w27 ⟨rfl, hb⟩
  clear EQ
  have L_27 := Lib.hid (below_then L_26.out hb)
  have E_27 := Lib.hid (E_26.out.later hb)
  have U_26 := Lib.hid (U_25.out.later hb)
  have D_25 := Lib.hid (D_24.out.later hb)
  have S_19 := Lib.hid (S_18.out.later hb)
  have PA_9 := Lib.hid (PA_8.out.later (Keeps.of hb _).off')
  have KA_8 := Lib.hid (KA_7.out.later hb)
  have PL_5 := Lib.hid (PL_4.out.later hb)
  clear L_26 E_26 U_25 D_24 S_18 PA_8 KA_7 PL_4
  clear hb
  go_wp2_with fail
  go_ret
  exact ⟨rfl, L_27.out⟩
end Go.Proofs.YtjbbbpgcegcbaaaGreatDoor
namespace Go.Proofs.YtjbbbpgcegcbaaaGreatDoor
open Go.RowKit
def laidLoginMutual : List (String × DataW Unit) := [("math/bits.deBruijn32tab", Rows.laid_math_bits_deBruijn32tab), ("math/bits.deBruijn64tab", Rows.laid_math_bits_deBruijn64tab), ("internal/strconv.uint64pow10", Rows.laid_internal_strconv_uint64pow10), ("unicode/utf8.acceptRanges", Rows.laid_unicode_utf8_acceptRanges), ("errors.errorType", Rows.laid_errors_errorType), ("strconv.ErrRange", Rows.laid_strconv_ErrRange), ("strconv.ErrSyntax", Rows.laid_strconv_ErrSyntax), ("quaymaster/md5.numbers", Rows.laid_quaymaster_md5_numbers), ("quaymaster/md5.turns", Rows.laid_quaymaster_md5_turns), ("unicode/utf8.first", Rows.laid_unicode_utf8_first)]
def plainLoginMutual : List (String × DataW Unit) := [("math/bits.deBruijn32tab", Rows.laid_math_bits_deBruijn32tab), ("math/bits.deBruijn64tab", Rows.laid_math_bits_deBruijn64tab), ("internal/strconv.uint64pow10", Rows.laid_internal_strconv_uint64pow10), ("unicode/utf8.acceptRanges", Rows.laid_unicode_utf8_acceptRanges), ("strconv.ErrRange", Rows.laid_strconv_ErrRange), ("strconv.ErrSyntax", Rows.laid_strconv_ErrSyntax), ("quaymaster/md5.numbers", Rows.laid_quaymaster_md5_numbers), ("quaymaster/md5.turns", Rows.laid_quaymaster_md5_turns), ("unicode/utf8.first", Rows.laid_unicode_utf8_first)]
noncomputable def laidWorldLoginMutual (os : Os) : World := (laidWorld os).layVars Tryz.prog plainLoginMutual
set_option maxRecDepth 100000 in
theorem laidWorldLoginMutual_plain (os : Os) (args : Array Value) : laidMet Tryz.prog plainLoginMutual ((laidWorldLoginMutual os).forCall (fun _ _ => 0) ⟨#[], args, []⟩).memory := laidMet_lay (w0 := (laidWorld os)) args (by kernel_rfl) (by kernel_rfl)
set_option maxRecDepth 100000 in
theorem laidWorldLoginMutual_met (os : Os) (args : Array Value) : laidMetH Tryz.prog laidLoginMutual ((laidWorldLoginMutual os).forCall (fun _ _ => 0) ⟨#[], args, []⟩).memory :=
 laidMetH_of_parts (laidWorldLoginMutual_plain os args) (by kernel_rfl)
theorem laidWorldLoginMutual_os (os : Os) : (laidWorldLoginMutual os).os = os := World.layVars_os _ _ _
theorem partsLoginMutual {W : World} (h : laidMetH Tryz.prog laidLoginMutual W) : laidMet Tryz.prog [("math/bits.deBruijn32tab", Rows.laid_math_bits_deBruijn32tab), ("math/bits.deBruijn64tab", Rows.laid_math_bits_deBruijn64tab), ("internal/strconv.uint64pow10", Rows.laid_internal_strconv_uint64pow10), ("unicode/utf8.acceptRanges", Rows.laid_unicode_utf8_acceptRanges), ("strconv.ErrRange", Rows.laid_strconv_ErrRange), ("strconv.ErrSyntax", Rows.laid_strconv_ErrSyntax), ("quaymaster/md5.numbers", Rows.laid_quaymaster_md5_numbers), ("quaymaster/md5.turns", Rows.laid_quaymaster_md5_turns), ("unicode/utf8.first", Rows.laid_unicode_utf8_first)] W ∧ handlesMet Tryz.prog [("errors.errorType", Rows.laid_errors_errorType)] W := h
theorem errCell_LoginMutual {W : World} (h : laidMetH Tryz.prog laidLoginMutual W) : ErrCell W := errCell_of_handles (partsLoginMutual h).2 (List.mem_singleton.2 rfl)
theorem readsLoginMutual {W : World} (h : laidMetH Tryz.prog laidLoginMutual W) {n : String} {d : DataW Unit} (hm : (n, d) ∈ ([("math/bits.deBruijn32tab", Rows.laid_math_bits_deBruijn32tab), ("math/bits.deBruijn64tab", Rows.laid_math_bits_deBruijn64tab), ("internal/strconv.uint64pow10", Rows.laid_internal_strconv_uint64pow10), ("unicode/utf8.acceptRanges", Rows.laid_unicode_utf8_acceptRanges), ("strconv.ErrRange", Rows.laid_strconv_ErrRange), ("strconv.ErrSyntax", Rows.laid_strconv_ErrSyntax), ("quaymaster/md5.numbers", Rows.laid_quaymaster_md5_numbers), ("quaymaster/md5.turns", Rows.laid_quaymaster_md5_turns), ("unicode/utf8.first", Rows.laid_unicode_utf8_first)] : List (String × DataW Unit))) : Go.Lib.VarReads Tryz.prog W n d := Go.Lib.laidMet.reads (partsLoginMutual h).1 hm
theorem tabsLoginMutual {W : World} (h : laidMetH Tryz.prog laidLoginMutual W) : MdTabs W := mdTabs_of_reads (readsLoginMutual h (by simp)) (readsLoginMutual h (by simp))
end Go.Proofs.YtjbbbpgcegcbaaaGreatDoor
namespace Go.Proofs.YtjbbbpgcegcbaaaGreatDoor.loginMutual
open Go.ChangeShapes Go.WideShapes Go.ChangeAt Go.RowKit
open Go.ChangeMaps (open_string shut_string)
set_option linter.unusedVariables false
theorem own : ownKnob Tryz.prog.godebug = none := by kernel_rfl
theorem laidOut : laidOutB Tryz.prog = true := by kernel_rfl
set_option maxRecDepth 100000 in
theorem contract (H : Type) (enc : TypeId × Value → H) (W : World) (base : Nat) (args : Array Value) (ds gs : List (DataW H)) (before : List MemPlace)
  (hval : ∀ (j : Nat) t v, Tryz.f8.params[j]? = some t → args[j]? = some v → Value.okWide Tryz.prog W .any base t v)
  (hW : DataW.Whole enc Tryz.prog Tryz.f8.params.toList Rows.loginMutualSpec.vars false W args.toList ds gs before)
  (hsz0 : (DataW.weightsEach Tryz.prog (Tryz.f8.params.toList ++ Rows.loginMutualSpec.plain.varTypes Tryz.prog) (ds ++ gs)).all (· ≤ reachBytes) = true)
  (hL : laidMetH Tryz.prog Rows.loginMutualRow.laid W) (hS : W.ShapedOpen Tryz.prog)
  : Calls Tryz.prog 8 args W fun e W' => ∃ v, e = .returned v ∧ Rows.loginMutualSpec.post enc Tryz.prog Tryz.f8 false true false false W args v W' := by
 have hW' := hW
 obtain ⟨p, q, hA0, hV, rfl, hfz, hnd⟩ := hW
 have hsz : (DataW.weightsEach Tryz.prog (Tryz.f8.params.toList ++ Rows.loginMutualSpec.plain.varTypes Tryz.prog) (ds ++ gs)).all (· ≤ reachBytes) = true := hsz0
 have hA : DataW.TrodAll enc Tryz.prog W 0 (fun _ => true) true Tryz.f8.params.toList args.toList ds p := hA0
 rw [Tryz.params8] at hA hval hsz
 obtain ⟨v0, vs0, d0, ds0, p0, q0, hargs, rfl, rfl, h0, r0⟩ := trodAll_cons hA
 obtain ⟨v1, vs1, d1, ds1, p1, q1, rfl, rfl, rfl, h1, r1⟩ := trodAll_cons r0
 obtain ⟨v2, vs2, d2, ds2, p2, q2, rfl, rfl, rfl, h2, r2⟩ := trodAll_cons r1
 obtain ⟨v3, vs3, d3, ds3, p3, q3, rfl, rfl, rfl, h3, r3⟩ := trodAll_cons r2
 obtain ⟨v4, vs4, d4, ds4, p4, q4, rfl, rfl, rfl, h4, r4⟩ := trodAll_cons r3
 obtain ⟨v5, vs5, d5, ds5, p5, q5, rfl, rfl, rfl, h5, r5⟩ := trodAll_cons r4
 obtain ⟨rfl, rfl, rfl⟩ := trodAll_nil r5
 obtain rfl : args = #[v0, v1, v2, v3, v4, v5] := by cases args; simp_all
 obtain ⟨rfl, rfl⟩ := trodVars_none hV
 obtain ⟨s0, rfl, rfl, rfl, ws0⟩ := open_string Tryz.underlying9 (hval 0 9 v0 rfl rfl) h0
 have hz0 := sized_string hsz (j := 0) rfl rfl
 obtain ⟨l0, rfl⟩ := S_of s0
 have hb0 : l0.length ≤ 140737488351232 := by simpa [S, reachBytes] using hz0
 obtain ⟨s1, rfl, rfl, rfl, ws1⟩ := open_string Tryz.underlying9 (hval 1 9 v1 rfl rfl) h1
 have hz1 := sized_string hsz (j := 1) rfl rfl
 obtain ⟨l1, rfl⟩ := S_of s1
 have hb1 : l1.length ≤ 140737488351232 := by simpa [S, reachBytes] using hz1
 have hk2 := h2
 have hlt2 : ∀ x ∈ p2, x.block < W.heap.size := fun x hx => by simpa using hW'.lt x (by simp [hx])
 obtain ⟨pr2, rfl, hF2⟩ := open_user hsz (j := 2) rfl rfl (hval 2 26 v2 rfl rfl) h2
 have hk3 := h3
 have hlt3 : ∀ x ∈ p3, x.block < W.heap.size := fun x hx => by simpa using hW'.lt x (by simp [hx])
 obtain ⟨pr3, rfl, hF3⟩ := open_draw hsz (j := 3) rfl rfl (hval 3 31 v3 rfl rfl) h3
 obtain ⟨a4, rfl, rfl, rfl, wf4⟩ := open_int Tryz.underlying3 (hval 4 3 v4 rfl rfl) h4
 obtain ⟨s5, rfl, rfl, rfl, ws5⟩ := open_string Tryz.underlying9 (hval 5 9 v5 rfl rfl) h5
 have hz5 := sized_string hsz (j := 5) rfl rfl
 obtain ⟨l5, rfl⟩ := S_of s5
 have hb5 : l5.length ≤ 140737488351232 := by simpa [S, reachBytes] using hz5
 clear hA0 hsz0
 refine (loginMutual_any l0 l1 pr2 pr3 a4 l5 W hb0 hb1 hF2 hF3 wf4 hb5 (EnvL.mk (env_of hS (readsLoginMutual hL (by simp)) (readsLoginMutual hL (by simp)) (readsLoginMutual hL (by simp))) (errCell_LoginMutual hL) (tabsLoginMutual hL))).mono fun e W' ⟨he, bel⟩ => ?_
 subst he
 exact ⟨_, rfl, _, _, _, [], _, [], hW', trodAll_mk1 (shut_bool Tryz.underlying4 _), trodAll_cons_mk (shut_string Tryz.underlying9 ws0) (trodAll_cons_mk (shut_string Tryz.underlying9 ws1) (trodAll_cons_mk (Below.trod laidOut (by kernel_rfl) (of_decide_eq_true (by kernel_rfl)) hk2 bel hlt2) (trodAll_cons_mk (Below.trod laidOut (by kernel_rfl) (of_decide_eq_true (by kernel_rfl)) hk3 bel hlt3) (trodAll_cons_mk (shut_int Tryz.underlying3 wf4) (trodAll_cons_mk (shut_string Tryz.underlying9 ws5) trodAll_mk0))))), rfl, bel.frame _, fun h => by cases h⟩
theorem reads (os : Os) {H : Type} (enc : TypeId × Value → H) : ∃ places, DataW.whole enc Tryz.prog ((laidWorldLoginMutual os).forCall (fun _ _ => 0) ⟨#[], #[.string ⟨#[]⟩, .string ⟨#[]⟩, .agg #[.string ⟨#[]⟩, .string ⟨#[]⟩], .agg #[.int .i64 0, .string ⟨#[]⟩], .int .i64 0, .string ⟨#[]⟩], []⟩).memory Tryz.f8.params.toList Rows.loginMutualSpec.vars false (#[.string ⟨#[]⟩, .string ⟨#[]⟩, .agg #[.string ⟨#[]⟩, .string ⟨#[]⟩], .agg #[.int .i64 0, .string ⟨#[]⟩], .int .i64 0, .string ⟨#[]⟩] : Array Value).toList 8 = some ([.lit (.string []), .lit (.string []), .agg [.lit (.string []), .lit (.string [])], .agg [.lit (.int .i64 0), .lit (.string [])], .lit (.int .i64 0), .lit (.string [])], [], places) :=
 ⟨[], by kernel_rfl⟩
set_option maxRecDepth 100000 in
theorem lifted (os : Os) (started : os.Started) (H : Type) (enc : TypeId × Value → H) (F : Stop.Interp) :
  ReturnsInHanded {} Tryz.checked os 8 .any ((OpenSpec.ofChange Rows.loginMutualSpec).preRow enc Tryz.prog Tryz.f8 Rows.loginMutualRow.domain false Rows.loginMutualRow.laid) (((OpenSpec.ofChange Rows.loginMutualSpec).at F).post enc Tryz.prog Tryz.f8 false true false false) := by
 obtain ⟨places, hx⟩ := reads os enc
 refine returnsInHanded_of_row (C := Tryz.checked) (s := OpenSpec.ofChange Rows.loginMutualSpec) own started (by kernel_rfl) Tryz.func8
  (witness_row_atRef (enc := enc) (C := Tryz.checked) false (laidWorldLoginMutual os) #[.string ⟨#[]⟩, .string ⟨#[]⟩, .agg #[.string ⟨#[]⟩, .string ⟨#[]⟩], .agg #[.int .i64 0, .string ⟨#[]⟩], .int .i64 0, .string ⟨#[]⟩] (laidWorldLoginMutual_os os) (by kernel_rfl) (by kernel_rfl) (by kernel_rfl)
   (OpenSpec.preRow_of_cond 8 hx (by kernel_rfl) (fun k hk => by cases hk) (by kernel_rfl) (laidWorldLoginMutual_met os _))) ?_
 intro W base args ds gs before hval hW _ _ hsz hL hS _
 exact contract H enc W base args ds gs before hval hW hsz hL hS
theorem k0 : (Rows.loginMutualRow.wf (OpenSpec.ofChange (Rows.loginMutualSpec))) = true := by kernel_rfl
theorem k3 : (Tryz.f8.params.all (Tryz.pinned.checked.prog.readableRec ·)) = true := by kernel_rfl
theorem k4 : (namedTie Tryz.pinned.checked.prog Rows.loginMutualRow.named (Rows.loginMutualSpec).vars) = true := by kernel_rfl
theorem k5 : ((Rows.loginMutualRow.stops == [])) = true := by kernel_rfl
theorem k7 : ((Rows.loginMutualRow.knobs == [])) = true := by kernel_rfl
theorem k9 : ((Rows.loginMutualRow.inPlace == Tryz.pinned.checked.prog.inPlace 8)) = true := by kernel_rfl
theorem k10 : ((Rows.loginMutualRow.unfollowed == Tryz.pinned.checked.prog.unfollowed 8)) = true := by kernel_rfl
theorem k11 : ((Rows.loginMutualRow.recurses == Tryz.pinned.checked.prog.recurses 8)) = true := by kernel_rfl
theorem k12 : ((Rows.loginMutualRow.named == Tryz.pinned.checked.prog.varsNamed 8)) = true := by kernel_rfl
theorem k13 : ((Rows.loginMutualRow.maps == (Tryz.f8.params.toList ++ (Rows.loginMutualSpec).plain.varTypes Tryz.pinned.checked.prog).any (Tryz.pinned.checked.prog.mapsRec ·))) = true := by kernel_rfl
theorem k14 : ((Rows.loginMutualRow.ifaces == (Tryz.f8.params.toList ++ (Rows.loginMutualSpec).plain.varTypes Tryz.pinned.checked.prog).any (Tryz.pinned.checked.prog.ifacesRec ·))) = true := by kernel_rfl
theorem k15 : ((Rows.loginMutualRow.mapsOut == Tryz.pinned.checked.prog.mapsAmong Tryz.f8.resultTypes.toList)) = true := by kernel_rfl
theorem k16 : ((Rows.loginMutualRow.loops == (Tryz.f8.params.toList ++ (Rows.loginMutualSpec).plain.varTypes Tryz.pinned.checked.prog).any (Tryz.pinned.checked.prog.loopsFrom ·))) = true := by kernel_rfl
theorem k17 : ((Rows.loginMutualRow.wideKeys == (Tryz.f8.params.toList ++ (Rows.loginMutualSpec).plain.varTypes Tryz.pinned.checked.prog ++ Tryz.f8.resultTypes.toList).any (Tryz.pinned.checked.prog.wideKeysFrom ·))) = true := by kernel_rfl
theorem k18 : ((Rows.loginMutualSpec).vars.all (Tryz.pinned.checked.prog.varReadable ·)) = true := by kernel_rfl
theorem k19 : (Tryz.f8.resultTypes.all (fun t => Tryz.pinned.checked.prog.readableRec t && decide (t < Tryz.pinned.checked.prog.types.size))) = true := by kernel_rfl
theorem k20 : ((Rows.loginMutualRow.ifacesOut == Tryz.f8.resultTypes.toList.any (Tryz.pinned.checked.prog.ifacesRec ·))) = true := by kernel_rfl
theorem k21 : ((Rows.loginMutualRow.loopsOut == Tryz.f8.resultTypes.toList.any (Tryz.pinned.checked.prog.loopsFrom ·))) = true := by kernel_rfl
theorem k22 : ((Rows.loginMutualRow.plainKeys == Tryz.pinned.checked.prog.plainKeys)) = true := jo22
theorem k23 : (Rows.loginMutualRow.shortTexts.isNone) = true := by kernel_rfl
theorem k26 : ((Rows.loginMutualRow.lifted == Tryz.pinned.checked.prog.liftsFinal)) = true := jo26
theorem k27 : ((Tryz.pinned.checked.prog.make == some Rows.loginMutualRow.make)) = true := jo27
theorem k28 : ((Rows.loginMutualRow.kinds == (if Rows.loginMutualRow.domain.isEmpty then [] else Tryz.f8.params.toList.map fun t => match Tryz.pinned.checked.prog.underlying t with | some (.int k) => some k | _ => none))) = true := by kernel_rfl
theorem k29 : ((Rows.loginMutualRow.pinned == Rows.loginMutualRow.pinnedBy)) = true := by kernel_rfl
theorem k30 : ((Rows.loginMutualRow.veiled == (Tryz.f8.params.toList ++ (Rows.loginMutualSpec).plain.varTypes Tryz.pinned.checked.prog ++ Tryz.f8.resultTypes.toList).any (Tryz.pinned.checked.prog.veiledRec ·))) = true := by kernel_rfl
theorem k31 : (Rows.loginMutualRow.veiledFits Tryz.pinned.checked.prog Tryz.f8.params.toList (Tryz.f8.params.toList ++ (Rows.loginMutualSpec).plain.varTypes Tryz.pinned.checked.prog ++ Tryz.f8.resultTypes.toList)) = true := by kernel_rfl
set_option maxRecDepth 100000 in
theorem closed : joinedFacts Tryz.pinned.checked.prog 8 Tryz.f8 (OpenSpec.ofChange (Rows.loginMutualSpec)).bare Rows.loginMutualRow = true := and_mk (and_mk (and_mk (and_mk (and_mk (and_mk (and_mk (and_mk (and_mk (and_mk (and_mk (and_mk (and_mk (and_mk (and_mk (and_mk (and_mk (and_mk (and_mk (and_mk (and_mk (and_mk (and_mk (and_mk (and_mk (and_mk (and_mk (and_mk (and_mk (and_mk (and_mk (k0) jo1) jo2) k3) k4) k5) jo6) k7) jo8) k9) k10) k11) k12) k13) k14) k15) k16) k17) k18) k19) k20) k21) k22) k23) jo24) jo25) k26) k27) k28) k29) k30) k31
theorem said : Rows.LoginMutualSaid :=
 OpenClaim.holds_of_cond 8 Tryz.f8 rfl rfl rfl rfl rfl rfl rfl ⟨rfl, rfl, rfl, rfl, rfl⟩ rfl rfl rfl rfl rfl (by kernel_rfl) Tryz.func8 closed
  (of_decide_eq_true (by kernel_rfl)) (by unfold Func.isWrapper; first | (rw [if_pos (by decide +kernel)]; kernel_rfl) | (rw [if_neg (by decide +kernel)]; exact ⟨rfl, rfl⟩))
  (fun os started H enc _ F => by rw [OpenClaim.pre_eq_preRow]; exact lifted os started H enc F)
theorem plain (f : FuncId) (fn : Func) (hf : Tryz.pinned.checked.prog.funcNamed "quaymaster/quaymasterkeep.LoginMutual" = some f) (hfn : Tryz.pinned.checked.prog.funcs[f]? = some fn) :
  true = Tryz.pinned.checked.prog.looks [] ∧ ∀ (j : Nat) t, fn.params[j]? = some t → Tryz.pinned.checked.prog.wantsStandIn t = false := by
 obtain rfl : f = 8 := Option.some.inj ((show Tryz.prog.funcNamed "quaymaster/quaymasterkeep.LoginMutual" = some 8 by kernel_rfl).symm.trans hf) |>.symm
 obtain rfl : fn = Tryz.f8 := (Option.some.inj (Tryz.func8.symm.trans hfn)).symm
 refine ⟨by kernel_rfl, fun j t ht => ?_⟩
 rw [Tryz.params8] at ht
 have hm : t ∈ ([9, 9, 26, 31, 3, 9] : List TypeId) := by
  have := Array.mem_of_getElem? ht
  simpa using this
 have hall : ([9, 9, 26, 31, 3, 9] : List TypeId).all (fun t => !Tryz.prog.wantsStandIn t) = true := by kernel_rfl
 have hn := List.all_eq_true.1 hall t hm
 show Tryz.prog.wantsStandIn t = false
 simpa using hn
theorem proved : Rows.LoginMutualCardSaid :=
 Claim7.holds_tied_plain_at .later [] _ _ _ _ said (fun _ h => by cases h) (by kernel_rfl) (fun _ h => by cases h) loginMutual_row_tie rfl ⟨rfl, rfl⟩ (by kernel_rfl) rfl plain (by kernel_rfl)
#print axioms proved
end Go.Proofs.YtjbbbpgcegcbaaaGreatDoor.loginMutual
