/- LoginUsers: for every input the law's function returns true, and what came in reads as it did. -/
import Derived.Carry
import Derived.ChangeOld
import Derived.Deep.DeepHandedRow
import Derived.Deep.DeepWitnessRowRef
import Derived.Lib.LaidU8
import Derived.OpenShut
import Derived.ProofKit
import Derived.SevenTiedAt
import Derived.ShapedOpen
import Derived.ShutString
import Derived.SizedLaws
import Derived.Test.YtjbbbpgcegcbaaaGreatDoorCards
import Derived.Test.YtjbbbpgcegcbaaaGreatDoorTie
import GoSem.PinnedTables
import Derived.Test.YtjbbbpgcegcbaaaGreatDoorLA41
import Derived.Test.YtjbbbpgcegcbaaaGreatDoorLA42
import Derived.Test.YtjbbbpgcegcbaaaGreatDoorLA46
import Derived.Test.YtjbbbpgcegcbaaaGreatDoorLA45
namespace Go.Proofs.YtjbbbpgcegcbaaaGreatDoor
open Go Go.RowKit
set_option linter.unusedVariables false
theorem knock_four {c : Cf} {d : Dw} {s s1 s2 s3 s4 : Lg} {p q r t A B C D : Pd} (h1 : takeL c d s p = ((A, 0), s1)) (h2 : takeL c d s1 q = ((B, 0), s2)) (h3 : takeL c d s2 r = ((C, 0), s3)) (h4 : takeL c d s3 t = ((D, 0), s4)) : knockL c d s pd0 [p, q, r, t] = ((D, true), s4) := by
 unfold knockL
 rw [h1, if_neg (by simp)]
 simp only
 unfold knockL
 rw [h2, if_neg (by simp)]
 simp only
 unfold knockL
 rw [h3, if_neg (by simp)]
 simp only
 unfold knockL
 rw [h4, if_neg (by simp)]
 rfl
def stGood (n s : List UInt8) : Lg := { lgB n s with knw := true, usr := n, stg := 3, sta := 4, don := true }
def stBad (n s : List UInt8) : Lg := { lgB n s with sta := 3, fld := true }
theorem users_good {n s x : List UInt8} {d : Dw} (m : Made1 n s d x) : knockL (confG n s) d (lg0 (confG n s)) pd0 [⟨reqA, [], prBytes [pIni, pSes, pMth]⟩, ⟨reqA, [], prBytes [pAsk]⟩, ⟨reqC, [], prBytes (proofP n (hexL x) none)⟩, ⟨reqE, [], []⟩] =
  ((⟨ansH reqE 135 1 3 77 0 0, [], []⟩, true), stGood n s) := by
 have h := knock_four (step_a n s d) (step_b n s d) (step_in m (hexL_val (by have := m.len; omega)) (readV_hexL x)) (step_d (u := n) _ rfl)
 exact h
theorem users_bad {n s x t : List UInt8} {d : Dw} (m : Made1 n s d x) (hl : t.length = 16) (ht : t ≠ x) : knockL (confG n s) d (lg0 (confG n s)) pd0 [⟨reqA, [], prBytes [pIni, pSes, pMth]⟩, ⟨reqA, [], prBytes [pAsk]⟩, ⟨reqC, [], prBytes (proofP n (hexL t) none)⟩] =
  ((⟨ansH reqC 0 0 2 77 2 1, [], []⟩, true), stBad n s) := by
 have h := knock_three (step_a n s d) (step_b n s d) (step_out m (hexL_val (by omega)) (readV_hexL t) ht)
 exact h
theorem steps_fit {n v : List UInt8} (hn : isVal n = true) (hv : isVal v = true) : ∀ p ∈ ([⟨reqA, [], prBytes [pIni, pSes, pMth]⟩, ⟨reqA, [], prBytes [pAsk]⟩, ⟨reqC, [], prBytes (proofP n v none)⟩, ⟨reqE, [], []⟩] : List Pd), FitP p := fun p hp => by
 obtain ⟨-, -, k3⟩ := proof_ok (o := none) hn hv (fun p hp => absurd hp List.not_mem_nil)
 rcases List.mem_cons.1 hp with rfl | hp
 ·exact say_fit (by decide +kernel)
 ·rcases List.mem_cons.1 hp with rfl | hp
  ·exact say_fit (by decide +kernel)
  ·rcases List.mem_cons.1 hp with rfl | hp
   ·exact reqC_fit k3
   ·rw [List.mem_singleton.1 hp]; exact reqE_fit
theorem pickI_lt1 (a : Int) (n : Nat) (h : 0 < n) : ∃ k : Nat, pickI a n = k ∧ k < n := ⟨_, rfl, pickI_lt a n h⟩
set_option maxRecDepth 100000 in
set_option maxHeartbeats 8000000 in
theorem loginUsers_any (n s : List UInt8) (d : Dw) (first bits : Int) (w : World) (hn : n.length ≤ 140737488351232) (hs : s.length ≤ 140737488351232) (hd : (Lit.int .i64 d.id).wf = true ∧ d.ch.length ≤ 140737488351232) (hfi : (Lit.int .i64 first).wf = true) (hbi : (Lit.int .u32 bits).wf = true) (hE : EnvL w) :
  Calls Tryz.prog 4 #[.string (S n), .string (S s), .agg #[.int .i64 d.id, .string (S d.ch)], .int .i64 first, .int .u32 bits] w fun e w' => e = .returned (.bool true) ∧ Below w.heap.size w w' := by
 obtain ⟨bt, rfl, hbt⟩ := wf_u32 hbi
 have HBT := Lib.hid hbt
 have HFN := Lib.hid hn
 have HFS := Lib.hid hs
 have L_0 := Lib.hid (Below.refl w.heap.size w)
 have E_0 := Lib.hid (hE)
 clear hE hd hn hs hbt hbi
 obtain ⟨w1, hw1⟩ : ∃ x, w.alloc (.cells #[.int .i64 d.id, .string (S d.ch)] 31) = x := ⟨_, rfl⟩
 have hb : Below w.heap.size w w1 := by rw [← hw1]; exact (Below.refl _ _).alloc (Nat.le_refl _) _
 have hk : Blk w1 w.heap.size #[.int .i64 d.id, .string (S d.ch)] 31 := by rw [← hw1]; exact Blk.new w _ _
 obtain ⟨db, hdb⟩ : ∃ x, w.heap.size = x := ⟨_, rfl⟩
 rw [hdb] at hk
 have L_1 := Lib.hid (below_then L_0.out hb)
 have E_1 := Lib.hid (E_0.out.later hb)
 clear L_0 E_0
 clear hb
 have D_0 := Lib.hid (hk)
 clear hk
 go_enter Tryz.func4, Tryz.ntmps4
 have EN := entered_any w1 E_1.out
 replace EN := Lib.hid EN
 go_wp2_with fail
 clear hw1
 refine EN.out.mono ?_
 rintro e w2 ⟨rfl, hb⟩
 clear EN
 have L_2 := Lib.hid (below_then L_1.out hb)
 have E_2 := Lib.hid (E_1.out.later hb)
 have D_1 := Lib.hid (D_0.out.later hb)
 clear L_1 E_1 D_0
 clear hb
 have FA := proved_fact w2 E_2.out.md E_2.out.err
 replace FA := Lib.hid FA
 go_wp2_with fail
 refine FA.out.mono ?_
 rintro e w3 ⟨rfl, hb⟩
 clear FA
 have L_3 := Lib.hid (below_then L_2.out hb)
 have E_3 := Lib.hid (E_2.out.later hb)
 have D_2 := Lib.hid (D_1.out.later hb)
 clear L_2 E_2 D_1
 clear hb
 have GD := guarded_any n s w3
 unfold RetGrd confV at GD
 replace GD := Lib.hid GD
 go_wp2_with fail
 refine GD.out.mono ?_
 rintro e w4 ⟨vt, vp, vu, rfl, hvc, -, -, hb⟩
 clear GD
 obtain ⟨pt, ct, rfl, -⟩ := hvc.ts
 obtain ⟨pp, cp, rfl, -⟩ := hvc.ps
 obtain ⟨pu, cu, rfl, -⟩ := hvc.us
 have L_4 := Lib.hid (below_then L_3.out hb)
 have E_4 := Lib.hid (E_3.out.later hb)
 have D_3 := Lib.hid (D_2.out.later hb)
 clear L_3 E_3 D_2
 clear hb
 obtain ⟨cb, hcb⟩ : ∃ x, w4.heap.size = x := ⟨_, rfl⟩
 obtain ⟨wz, hwz⟩ : ∃ x, w4.alloc (.cells #[.slice none 0 0, .slice none 0 0, .slice none 0 0, .string (S []), .string (S []), .int .i64 0, .slice none 0 0] 29) = x := ⟨_, rfl⟩
 have bz : Below w4.heap.size w4 wz := by rw [← hwz]; exact (Below.refl _ _).alloc (Nat.le_refl _) _
 have kz : Blk wz w4.heap.size #[.slice none 0 0, .slice none 0 0, .slice none 0 0, .string (S []), .string (S []), .int .i64 0, .slice none 0 0] 29 := by rw [← hwz]; exact Blk.new w4 _ _
 rw [hcb] at kz
 obtain ⟨y0, y1, y2, y3, y4, y5, y6⟩ := kz.seven
 have v0 := kz.frozen 0
 have v1 := kz.frozen 1
 have v2 := kz.frozen 2
 have v3 := kz.frozen 3
 have v4 := kz.frozen 4
 have v5 := kz.frozen 5
 have v6 := kz.frozen 6
 obtain ⟨w5, hw5⟩ : ∃ x, (((((((wz.setCell ⟨cb, 0, none⟩ (.slice pt (confG n s).ts.length ct)).setCell ⟨cb, 1, none⟩ (.slice pp (confG n s).ps.length cp)).setCell ⟨cb, 2, none⟩ (.slice pu (confG n s).us.length cu)).setCell ⟨cb, 3, none⟩ (.string (S (confG n s).sn))).setCell ⟨cb, 4, none⟩ (.string (S (confG n s).ss))).setCell ⟨cb, 5, none⟩ (.int .i64 (confG n s).lim)).setCell ⟨cb, 6, none⟩ (.slice none 0 0)) = x := ⟨_, rfl⟩
 have hb : Below w4.heap.size w4 w5 := by rw [← hw5]; exact blk_seven kz (by omega) bz
 have hk : Blk w5 cb #[.slice pt (confG n s).ts.length ct, .slice pp (confG n s).ps.length cp, .slice pu (confG n s).us.length cu, .string (S (confG n s).sn), .string (S (confG n s).ss), .int .i64 (confG n s).lim, .slice none 0 0] 29 := by rw [← hw5]; exact (((((((kz.set 0 (.slice pt (confG n s).ts.length ct)).set 1 (.slice pp (confG n s).ps.length cp)).set 2 (.slice pu (confG n s).us.length cu)).set 3 (.string (S (confG n s).sn))).set 4 (.string (S (confG n s).ss))).set 5 (.int .i64 (confG n s).lim)).set 6 (.slice none 0 0))
 have hvc2 := hvc.later hb
 clear bz kz hvc
 have L_5 := Lib.hid (below_then L_4.out hb)
 have E_5 := Lib.hid (E_4.out.later hb)
 have D_4 := Lib.hid (D_3.out.later hb)
 clear L_4 E_4 D_3
 clear hb
 have VC_0 := Lib.hid (hvc2)
 have C_0 := Lib.hid (hk)
 clear hvc2 hk
 have HLTD := Lib.hid D_4.out.lt
 have LB_0 := Lib.hid (L_5.out)
 have EB_0 := Lib.hid (E_5.out)
 have NW := new_either (confG n s) d _ _ _ _ w5 VC_0.out (confG_fit HFN.out HFS.out) E_5.out
 unfold confV at NW
 replace NW := Lib.hid NW
 obtain ⟨q0, q1, q2, q3, q4, q5, q6⟩ := C_0.out.seven
 obtain ⟨dd0, dd1⟩ := D_4.out.two
 go_wp2_with fail
 clear hwz hw5 y0 y1 y2 y3 y4 y5 y6 v0 v1 v2 v3 v4 v5 v6
 clear q0 q1 q2 q3 q4 q5 q6 dd0 dd1
 refine NW.out.mono ?_
 rintro e w6 ⟨pv1, ev1, rfl, hNE, hb⟩
 clear NW
 have HNE1 := Lib.hid hNE
 clear hNE
 have L_6 := Lib.hid (below_then L_5.out hb)
 have E_6 := Lib.hid (E_5.out.later hb)
 have D_5 := Lib.hid (D_4.out.later hb)
 have VC_1 := Lib.hid (VC_0.out.later hb)
 have C_1 := Lib.hid (C_0.out.later hb)
 clear L_5 E_5 D_4 VC_0 C_0
 clear hb
 have NW := new_either (confG n s) d _ _ _ _ w6 VC_1.out (confG_fit HFN.out HFS.out) E_6.out
 unfold confV at NW
 replace NW := Lib.hid NW
 obtain ⟨q0, q1, q2, q3, q4, q5, q6⟩ := C_1.out.seven
 obtain ⟨dd0, dd1⟩ := D_5.out.two
 go_wp2_with fail
 clear q0 q1 q2 q3 q4 q5 q6 dd0 dd1
 refine NW.out.mono ?_
 rintro e w7 ⟨pv2, ev2, rfl, hNE, hb⟩
 clear NW
 have HB2 := Lib.hid hb
 have HNE2 := Lib.hid hNE
 clear hNE
 have L_7 := Lib.hid (below_then L_6.out hb)
 have E_7 := Lib.hid (E_6.out.later hb)
 have D_6 := Lib.hid (D_5.out.later hb)
 have VC_2 := Lib.hid (VC_1.out.later hb)
 have C_2 := Lib.hid (C_1.out.later hb)
 clear L_6 E_6 D_5 VC_1 C_1
 clear hb
 clear C_2
 clear VC_2
 by_cases h0 : (newL (confG n s) d).1 = 0
 rotate_left
 ·
  rcases HNE1.out with ⟨h, -⟩ | ⟨-, e1, t1, x1, e2⟩
  ·exact absurd h h0
  rcases HNE2.out with ⟨h, -⟩ | ⟨-, e3, t2, x2, e4⟩
  ·exact absurd h h0
  subst e1 e2 e3 e4
  clear HNE1 HNE2 h0
  have R1 := Lib.hid (response_any d.id s d.ch w7 E_7.out.md)
  obtain ⟨dd0, dd1⟩ := D_6.out.two
  go_wp2_with fail
  clear dd0 dd1
  refine R1.out.mono ?_
  rintro e w8 ⟨rfl, hb⟩
  clear R1
  have L_8 := Lib.hid (below_then L_7.out hb)
  have E_8 := Lib.hid (E_7.out.later hb)
  have D_7 := Lib.hid (D_6.out.later hb)
  clear L_7 E_7 D_6
  clear hb
  go_wp2_with fail
  go_ret
  exact ⟨rfl, L_8.out⟩
 rcases HNE1.out with ⟨-, lb1, m1, e1, e2, hL1, -⟩ | ⟨h, -⟩
 rotate_left
 ·exact absurd h0 h
 rcases HNE2.out with ⟨-, lb2, m2, e3, e4, hL2, hown2⟩ | ⟨h, -⟩
 rotate_left
 ·exact absurd h0 h
 subst e1 e2 e3 e4
 obtain ⟨x, hM⟩ := made_of h0
 obtain ⟨hco, hdo, -⟩ := newL_is h0
 have HCO := Lib.hid hco
 have HDO := Lib.hid hdo
 have HM := Lib.hid hM
 clear h0 hM hco hdo HNE1 HNE2
 obtain ⟨hX, hY⟩ := two_start hL1 hL2 hown2
 have X1_0 := Lib.hid (hX)
 have X2_0 := Lib.hid (hY)
 clear hX hY
 clear hL1 hL2 hown2 HB2
 have ND_0 := Lib.hid ((fun hh => by rcases hh with hh | hh; (have := (X1_0.out.ls.log.ge _ hh).1; have := HLTD.out; omega); (have := (X2_0.out.ls.log.ge _ hh).1; have := HLTD.out; omega) : ¬ (m1.H lb1 db ∨ m2.H lb2 db)))
 have R1 := response_any d.id s d.ch w7 E_7.out.md
 rw [HM.out.resp] at R1
 rw [show errV (x, (0 : Int)).2 = .nilIface from rfl] at R1
 replace R1 := Lib.hid R1
 have hxl := HM.out.len
 have hxI : (x.length : Int) = 16 := by omega
 obtain ⟨dd0, dd1⟩ := D_6.out.two
 go_wp2_with fail
 clear dd0 dd1
 refine R1.out.mono ?_
 rintro e w8 ⟨rfl, hb⟩
 clear R1
 have L_8 := Lib.hid (below_then L_7.out hb)
 have E_8 := Lib.hid (E_7.out.later hb)
 have D_7 := Lib.hid (D_6.out.later hb)
 have X1_1 := Lib.hid (X1_0.out.later hb)
 have X2_1 := Lib.hid (X2_0.out.later hb)
 clear L_7 E_7 D_6 X1_0 X2_0
 clear hb
 have PK := pick_any first 96 w8 (by decide) (by decide)
 obtain ⟨k, hk, hk3⟩ := pickI_lt1 first 96 (by decide)
 rw [hk] at PK
 replace PK := Lib.hid PK
 have HK3 := Lib.hid hk3
 clear hk hk3
 go_wp2_with fail
 clear hxl hxI
 refine PK.out.mono ?_
 rintro e w' ⟨rfl, rfl⟩
 clear PK
 have TR := turned_any x k bt w8 (by have := HM.out.len; omega) (by have := HK3.out; omega) HBT.out
 obtain ⟨t, ht⟩ : ∃ t, tn x k bt 32 = t := ⟨_, rfl⟩
 have htl : t.length = 16 := by rw [← ht, tn_len]; exact HM.out.len
 rw [ht] at TR
 replace TR := Lib.hid TR
 have HTL := Lib.hid htl
 clear ht htl
 go_wp2_with fail
 refine TR.out.mono ?_
 rintro e w9 ⟨rfl, hb⟩
 clear TR
 have L_9 := Lib.hid (below_then L_8.out hb)
 have E_9 := Lib.hid (E_8.out.later hb)
 have D_8 := Lib.hid (D_7.out.later hb)
 have X1_2 := Lib.hid (X1_1.out.later hb)
 have X2_2 := Lib.hid (X2_1.out.later hb)
 clear L_8 E_8 D_7 X1_1 X2_1
 clear hb
 obtain ⟨PA, hPA⟩ : ∃ P : Pd, (⟨reqA, [], prBytes [pIni, pSes, pMth]⟩ : Pd) = P := ⟨_, rfl⟩
 obtain ⟨PB, hPB⟩ : ∃ P : Pd, (⟨reqA, [], prBytes [pAsk]⟩ : Pd) = P := ⟨_, rfl⟩
 obtain ⟨PD, hPD⟩ : ∃ P : Pd, (⟨reqE, [], []⟩ : Pd) = P := ⟨_, rfl⟩
 obtain ⟨PC, hPC⟩ : ∃ P : Pd, (⟨reqC, [], prBytes (proofP n (hexL x) none)⟩ : Pd) = P := ⟨_, rfl⟩
 obtain ⟨PE, hPE⟩ : ∃ P : Pd, (⟨reqC, [], prBytes (proofP n (hexL t) none)⟩ : Pd) = P := ⟨_, rfl⟩
 have hvn := (nameOk_is HM.out.nm).2.2
 have hvx := hexL_val (l := x) (by have := HM.out.len; omega)
 have hvt := hexL_val (l := t) (by have := HTL.out; omega)
 have hsc := stepC_is (n := n) (v := hexL x) (o := none) hvn hvx (fun p hp => absurd hp List.not_mem_nil)
 have hst := stepC_is (n := n) (v := hexL t) (o := none) hvn hvt (fun p hp => absurd hp List.not_mem_nil)
 rw [show moreP none = [] from rfl, hPC] at hsc
 rw [show moreP none = [] from rfl, hPE] at hst
 have hF1 := steps_fit hvn hvx
 have hF2 := steps_fit hvn hvt
 rw [hPA, hPB, hPC, hPD] at hF1
 rw [hPA, hPB, hPE, hPD] at hF2
 have hg := users_good HM.out
 rw [hPA, hPB, hPC, hPD] at hg
 have hbd := fun h => users_bad (t := t) HM.out HTL.out h
 rw [hPA, hPB, hPE] at hbd
 have HF1 := Lib.hid hF1
 have HF2 := Lib.hid (show ∀ p ∈ [PA, PB, PE], FitP p from fun p hp => hF2 p (by
  rcases List.mem_cons.1 hp with rfl | hp
  ·simp
  ·rcases List.mem_cons.1 hp with rfl | hp
   ·simp
   ·rw [List.mem_singleton.1 hp]; simp))
 have HG := Lib.hid hg
 have HBD := Lib.hid hbd
 have HSC := Lib.hid hsc
 have HST := Lib.hid hst
 have HPA := Lib.hid hPA
 have HPB := Lib.hid hPB
 have HPD := Lib.hid hPD
 clear hPA hPB hPC hPD hPE hvn hvx hvt hsc hst hF1 hF2 hg hbd
 have HX := hex_any x w9 (by have := HM.out.len; omega)
 replace HX := Lib.hid HX
 go_wp2_with fail
 refine HX.out.mono ?_
 rintro e w10 ⟨rfl, hb⟩
 clear HX
 have L_10 := Lib.hid (below_then L_9.out hb)
 have E_10 := Lib.hid (E_9.out.later hb)
 have D_9 := Lib.hid (D_8.out.later hb)
 have X1_3 := Lib.hid (X1_2.out.later hb)
 have X2_3 := Lib.hid (X2_2.out.later hb)
 clear L_9 E_9 D_8 X1_2 X2_2
 clear hb
 have HFR := Lib.hid (show ∀ k, (m1.H lb1 k ∨ m2.H lb2 k) → k < w10.heap.size from fun k hh => hh.elim (fun h => (X1_3.out.ls.log.ge _ h).2) (fun h => (X2_3.out.ls.log.ge _ h).2))
 have ST := steps_any n (hexL x) [] (.slice none 0 0) w10 HFN.out (by rw [hexL_len]; have := HM.out.len; omega) (PrsV.nil _) ⟨by simp, fun p hp => absurd hp List.not_mem_nil⟩ (by simp) E_10.out.env.mc
 rw [HSC.out] at ST
 unfold RetSteps stepsL at ST
 rw [HPA.out, HPB.out, HPD.out] at ST
 simp only at ST
 replace ST := Lib.hid ST
 go_wp2_with fail
 refine ST.out.mono ?_
 rintro e w11 ⟨sb, rfl, hrow, hb⟩
 clear ST
 have L_11 := Lib.hid (below_then L_10.out hb)
 have E_11 := Lib.hid (E_10.out.later hb)
 have D_10 := Lib.hid (D_9.out.later hb)
 have X1_4 := Lib.hid (X1_3.out.later hb)
 have X2_4 := Lib.hid (X2_3.out.later hb)
 clear L_10 E_10 D_9 X1_3 X2_3
 clear hb
 have hr4 : PdusV (offW (fun k => m1.H lb1 k ∨ m2.H lb2 k) w11) (.slice (some ⟨sb, 0, none⟩) 4 4) [PA, PB, PC, PD] := hrow.pdus HFR.out (n := 4) (c := 4) (show 4 ≤ 4 by decide)
 have R4_0 := Lib.hid (hr4)
 clear hr4
 clear hrow HFR
 have HX := hex_any t w11 (by have := HTL.out; omega)
 replace HX := Lib.hid HX
 go_wp2_with fail
 refine HX.out.mono ?_
 rintro e w12 ⟨rfl, hb⟩
 clear HX
 have L_12 := Lib.hid (below_then L_11.out hb)
 have E_12 := Lib.hid (E_11.out.later hb)
 have D_11 := Lib.hid (D_10.out.later hb)
 have X1_5 := Lib.hid (X1_4.out.later hb)
 have X2_5 := Lib.hid (X2_4.out.later hb)
 have R4_1 := Lib.hid (R4_0.out.later (Keeps.of hb _).off')
 clear L_11 E_11 D_10 X1_4 X2_4 R4_0
 clear hb
 have HFR := Lib.hid (show ∀ k, (m1.H lb1 k ∨ m2.H lb2 k) → k < w12.heap.size from fun k hh => hh.elim (fun h => (X1_5.out.ls.log.ge _ h).2) (fun h => (X2_5.out.ls.log.ge _ h).2))
 have ST := steps_any n (hexL t) [] (.slice none 0 0) w12 HFN.out (by rw [hexL_len]; have := HTL.out; omega) (PrsV.nil _) ⟨by simp, fun p hp => absurd hp List.not_mem_nil⟩ (by simp) E_12.out.env.mc
 rw [HST.out] at ST
 unfold RetSteps stepsL at ST
 rw [HPA.out, HPB.out, HPD.out] at ST
 simp only at ST
 replace ST := Lib.hid ST
 go_wp2_with fail
 refine ST.out.mono ?_
 rintro e w13 ⟨sc, rfl, hrow, hb⟩
 clear ST
 have L_13 := Lib.hid (below_then L_12.out hb)
 have E_13 := Lib.hid (E_12.out.later hb)
 have D_12 := Lib.hid (D_11.out.later hb)
 have X1_6 := Lib.hid (X1_5.out.later hb)
 have X2_6 := Lib.hid (X2_5.out.later hb)
 have R4_2 := Lib.hid (R4_1.out.later (Keeps.of hb _).off')
 clear L_12 E_12 D_11 X1_5 X2_5 R4_1
 clear hb
 have hr3 : PdusV (offW (fun k => m1.H lb1 k ∨ m2.H lb2 k) w13) (.slice (some ⟨sc, 0, none⟩) 3 4) [PA, PB, PE] := hrow.pdus HFR.out (n := 3) (c := 4) (show 3 ≤ 4 by decide)
 have Q3_0 := Lib.hid (hr3)
 clear hr3
 clear hrow HFR
 obtain ⟨A, hA⟩ : ∃ P : Pd, (⟨ansH reqE 135 1 3 77 0 0, [], []⟩ : Pd) = P := ⟨_, rfl⟩
 have hg := HG.out
 rw [hA] at hg
 have HKQ := Lib.hid hg
 have LENA := Lib.hid (show A.h.vs.length = 10 by rw [← hA]; rfl)
 have STA := Lib.hid (show statR A = (135, 0, 0) by rw [← hA]; kernel_rfl)
 clear hg hA HG
 have KN := knock_same [PA, PB, PC, PD] _ X1_6.out.ls (R4_2.out.sub (fun k h => .inl h)) HF1.out (by simp) EB_0.out HCO.out HDO.out
 rw [HKQ.out] at KN
 unfold RetKnockS pduV at KN
 simp only at KN
 replace KN := Lib.hid KN
 go_wp2_with fail
 refine KN.out.mono ?_
 rintro e w14 ⟨m1', qA, vv, va, rfl, hPA, hLS, hKK, hsame, hown, hna⟩
 clear KN
 have hlt1 : ∀ k, m1'.H lb1 k → k < w14.heap.size := fun k hk => (hLS.log.ge k hk).2
 have hge1 : ∀ k, m1.H lb1 k → w5.heap.size ≤ k := fun k hk => (X1_6.out.ls.log.ge k hk).1
 have X1_7 := Lib.hid (X1_6.out.step hLS hKK hsame)
 have X2_7 := Lib.hid (X2_6.out.beside hKK hlt1 hge1)
 have L_14 := Lib.hid (below_then LB_0.out hLS.low)
 have E_14 := Lib.hid (EB_0.out.later hLS.low)
 have D_13 := Lib.hid (D_12.out.kp hKK (fun h => ND_0.out (.inl h)))
 have ND_1 := Lib.hid (show ¬ (m1'.H lb1 db ∨ m2.H lb2 db) from fun hh => hh.elim (fun h1 => (hKK.old _ h1).elim (fun h => ND_0.out (.inl h)) (fun h => by have := D_12.out.lt; omega)) (fun h2 => ND_0.out (.inr h2)))
 have R4_3 := Lib.hid (R4_2.out.later (hKK.wide' (m2.H lb2)).off')
 have Q3_1 := Lib.hid (Q3_0.out.later (hKK.wide' (m2.H lb2)).off')
 clear X1_6 X2_6 L_13 E_13 D_12 ND_0 R4_2 Q3_0 hlt1 hge1
 obtain ⟨p3A, c3A, rfl⟩ : ∃ p c, vv = .slice p A.h.vs.length c := by obtain ⟨p, c, h, _⟩ := hPA.v; exact ⟨p, c, h⟩
 obtain ⟨p4A, c4A, rfl⟩ := hPA.a.form
 have PA_0 := Lib.hid (hPA)
 clear hPA hLS hKK hsame hown hna
 clear R4_3
 have HX2 := X2_7.out
 have HGE := Lib.hid (show ∀ k, m1'.H lb1 k → w5.heap.size ≤ k from fun k hk => (X1_7.out.ls.log.ge k hk).1)
 have HSZQ := Lib.hid X2_7.out.ls.low.size
 have hn : ¬ (m1'.H lb1 w14.heap.size ∨ m2.H lb2 w14.heap.size) := fun hh => by rcases hh with hh | hh; (have := (X1_7.out.ls.log.ge _ hh).2; omega); (have := (X2_7.out.ls.log.ge _ hh).2; omega)
 obtain ⟨w15, hw15⟩ : ∃ x, w14.alloc (.cells #[.int .i64 A.h.op, .bool A.h.now, .int .i64 A.h.fl, .slice p3A A.h.vs.length c3A, .slice p4A A.a.length c4A, .string (S A.d)] 41) = x := ⟨_, rfl⟩
 have hb : Below w14.heap.size w14 w15 := by rw [← hw15]; exact (Below.refl _ _).alloc (Nat.le_refl _) _
 have hk : Blk w15 w14.heap.size #[.int .i64 A.h.op, .bool A.h.now, .int .i64 A.h.fl, .slice p3A A.h.vs.length c3A, .slice p4A A.a.length c4A, .string (S A.d)] 41 := by rw [← hw15]; exact Blk.new w14 _ _
 obtain ⟨bA, hbA⟩ : ∃ x, w14.heap.size = x := ⟨_, rfl⟩
 rw [hbA] at hk hn
 have L_15 := Lib.hid (below_then L_14.out hb)
 have E_15 := Lib.hid (E_14.out.later hb)
 have D_14 := Lib.hid (D_13.out.later hb)
 have X1_8 := Lib.hid (X1_7.out.later hb)
 have X2_8 := Lib.hid (X2_7.out.later hb)
 have Q3_2 := Lib.hid (Q3_1.out.later (Keeps.of hb _).off')
 have PA_1 := Lib.hid (PA_0.out.later (Keeps.of hb _).off')
 clear L_14 E_14 D_13 X1_7 X2_7 Q3_1 PA_0
 clear hb
 have KA_0 := Lib.hid (hk)
 have NA_0 := Lib.hid (hn)
 clear hk hn
 have hx2 : LB w5 w15 lb2 m2 (confG n s) d (lq0 (confG n s)) (lg0 (confG n s)) (fun k => m1'.H lb1 k ∨ k = bA) := HX2.wider (by rw [← hw15]; exact (Below.refl _ _).alloc (Nat.le_refl _) _) (fun k h => .inl h) (fun k h => h.imp (fun h => h) (fun e => by omega)) (fun k h => by rcases h with h | h; (have := X2_8.out.lt k h; omega); (subst h; exact KA_0.out.lt))
 clear HX2
 have HBA := Lib.hid (show w5.heap.size ≤ bA by have := HSZQ.out; omega)
 clear HSZQ X2_8
 have X2_9 := Lib.hid hx2
 clear hx2
 have OV := X1_8.out.ls.overS
 rw [show (stGood n s).don = true from rfl] at OV
 rw [show (stGood n s).fld = false from rfl] at OV
 replace OV := Lib.hid OV
 go_wp2_with fail
 clear hw15
 refine OV.out.mono ?_
 rintro e w16 ⟨rfl, hb⟩
 clear OV
 have L_16 := Lib.hid (below_then L_15.out hb)
 have E_16 := Lib.hid (E_15.out.later hb)
 have D_15 := Lib.hid (D_14.out.later hb)
 have X1_9 := Lib.hid (X1_8.out.later hb)
 have X2_10 := Lib.hid (X2_9.out.later hb)
 have Q3_3 := Lib.hid (Q3_2.out.later (Keeps.of hb _).off')
 have PA_2 := Lib.hid (PA_1.out.later (Keeps.of hb _).off')
 have KA_1 := Lib.hid (KA_0.out.later hb)
 clear L_15 E_15 D_14 X1_8 X2_9 Q3_2 PA_1 KA_0
 clear hb
 have WH := X1_9.out.ls.whoS
 rw [show (stGood n s).usr = n from rfl] at WH
 replace WH := Lib.hid WH
 go_wp2_with fail
 refine WH.out.mono ?_
 rintro e w17 ⟨rfl, hb⟩
 clear WH
 have L_17 := Lib.hid (below_then L_16.out hb)
 have E_17 := Lib.hid (E_16.out.later hb)
 have D_16 := Lib.hid (D_15.out.later hb)
 have X1_10 := Lib.hid (X1_9.out.later hb)
 have X2_11 := Lib.hid (X2_10.out.later hb)
 have Q3_4 := Lib.hid (Q3_3.out.later (Keeps.of hb _).off')
 have PA_3 := Lib.hid (PA_2.out.later (Keeps.of hb _).off')
 have KA_2 := Lib.hid (KA_1.out.later hb)
 clear L_16 E_16 D_15 X1_9 X2_10 Q3_3 PA_2 KA_1
 clear hb
 have ST := status_any A _ _ w17 PA_3.out.off E_17.out.env.mc (by rw [LENA.out]; decide)
 rw [STA.out] at ST
 unfold pduV at ST
 replace ST := Lib.hid ST
 obtain ⟨cD0, cD1⟩ := D_16.out.two
 obtain ⟨cKA0, cKA1, cKA2, cKA3, cKA4, cKA5⟩ := KA_2.out.six
 go_wp2_with fail
 clear cD0 cD1 cKA0 cKA1 cKA2 cKA3 cKA4 cKA5
 refine ST.out.mono ?_
 rintro e w18 ⟨rfl, hb⟩
 clear ST
 have L_18 := Lib.hid (below_then L_17.out hb)
 have E_18 := Lib.hid (E_17.out.later hb)
 have D_17 := Lib.hid (D_16.out.later hb)
 have X1_11 := Lib.hid (X1_10.out.later hb)
 have X2_12 := Lib.hid (X2_11.out.later hb)
 have Q3_5 := Lib.hid (Q3_4.out.later (Keeps.of hb _).off')
 have PA_4 := Lib.hid (PA_3.out.later (Keeps.of hb _).off')
 have KA_3 := Lib.hid (KA_2.out.later hb)
 clear L_17 E_17 D_16 X1_10 X2_11 Q3_4 PA_3 KA_2
 clear hb
 clear PA_4
 clear X1_11
 by_cases htx : t = x
 ·subst htx
  go_wp2_with fail
  go_ret
  exact ⟨rfl, L_18.out⟩
 have htb : (t == x) = false := by simpa using htx
 obtain ⟨B, hB⟩ : ∃ P : Pd, (⟨ansH reqC 0 0 2 77 2 1, [], []⟩ : Pd) = P := ⟨_, rfl⟩
 have hg := HBD.out htx
 rw [hB] at hg
 have HKB := Lib.hid hg
 have LENB := Lib.hid (show B.h.vs.length = 10 by rw [← hB]; rfl)
 have STB := Lib.hid (show statR B = (0, 2, 1) by rw [← hB]; kernel_rfl)
 have HBDD := Lib.hid (show B.d = [] by rw [← hB])
 clear hg hB HBD htx
 have KN := knock_same [PA, PB, PE] _ X2_12.out.ls (Q3_5.out.sub (fun k h => .inr h)) HF2.out (by simp) EB_0.out HCO.out HDO.out
 rw [HKB.out] at KN
 unfold RetKnockS pduV at KN
 simp only at KN
 replace KN := Lib.hid KN
 go_wp2_with fail
 refine KN.out.mono ?_
 rintro e w19 ⟨m2', qB, vv, va, rfl, hPA, hLS, hKK, hsame, hown, hna⟩
 clear KN
 have hlt2 : ∀ k, m2'.H lb2 k → k < w19.heap.size := fun k hk => (hLS.log.ge k hk).2
 have hge2 : ∀ k, m2.H lb2 k → w5.heap.size ≤ k := fun k hk => (X2_12.out.ls.log.ge k hk).1
 have X2_13 := Lib.hid (X2_12.out.step hLS hKK hsame)
 have L_19 := Lib.hid (below_then LB_0.out hLS.low)
 have E_19 := Lib.hid (EB_0.out.later hLS.low)
 have D_18 := Lib.hid (D_17.out.kp hKK (fun h => ND_1.out (.inr h)))
 have ND_2 := Lib.hid (show ¬ (m1'.H lb1 db ∨ m2'.H lb2 db) from fun hh => hh.elim (fun h1 => ND_1.out (.inl h1)) (fun h2 => (hKK.old _ h2).elim (fun h => ND_1.out (.inr h)) (fun h => by have := D_17.out.lt; omega)))
 have Q3_6 := Lib.hid (Q3_5.out.later (hKK.wide (m1'.H lb1)).off')
 have KA_4 := Lib.hid (KA_3.out.kp hKK (fun h => NA_0.out (.inr h)))
 have NA_1 := Lib.hid (show ¬ (m1'.H lb1 bA ∨ m2'.H lb2 bA) from fun hh => hh.elim (fun h1 => NA_0.out (.inl h1)) (fun h2 => (hKK.old _ h2).elim (fun h => NA_0.out (.inr h)) (fun h => by have := KA_3.out.lt; omega)))
 clear X2_12 L_18 E_18 D_17 ND_1 Q3_5 KA_3 NA_0 hlt2 hge2
 obtain ⟨p3B, c3B, rfl⟩ : ∃ p c, vv = .slice p B.h.vs.length c := by obtain ⟨p, c, h, _⟩ := hPA.v; exact ⟨p, c, h⟩
 obtain ⟨p4B, c4B, rfl⟩ := hPA.a.form
 have PB_0 := Lib.hid (hPA)
 clear hPA hLS hKK hsame hown hna
 clear htb
 clear Q3_6
 have hka := KA_4.out
 obtain ⟨x0, x1, x2, x3, x4, x5⟩ := hka.six
 have f0 := hka.frozen 0
 have f1 := hka.frozen 1
 have f2 := hka.frozen 2
 have f3 := hka.frozen 3
 have f4 := hka.frozen 4
 have f5 := hka.frozen 5
 obtain ⟨w20, hw20⟩ : ∃ x, ((((((w19.setCell ⟨bA, 0, none⟩ (.int .i64 B.h.op)).setCell ⟨bA, 1, none⟩ (.bool B.h.now)).setCell ⟨bA, 2, none⟩ (.int .i64 B.h.fl)).setCell ⟨bA, 3, none⟩ (.slice p3B B.h.vs.length c3B)).setCell ⟨bA, 4, none⟩ (.slice p4B B.a.length c4B)).setCell ⟨bA, 5, none⟩ (.string (S B.d))) = x := ⟨_, rfl⟩
 have hkB := (six_stored (.int .i64 B.h.op) (.bool B.h.now) (.int .i64 B.h.fl) (.slice p3B B.h.vs.length c3B) (.slice p4B B.a.length c4B) (.string (S B.d)) hka (Nat.zero_le _) (Below.refl 0 w19)).1
 rw [hw20] at hkB
 have hke : ∀ k, k ≠ bA → w20.heap[k]? = w19.heap[k]? := fun k hk => by rw [← hw20]; exact six_else _ _ _ _ _ _ _ _ _ hk
 have hPB2 : PduAt (offW (m2'.H lb2) w20) B (.slice p3B B.h.vs.length c3B) (.slice p4B B.a.length c4B) := PduAt.laid6 PB_0.out hka hke
 have hkk : Keeps w19.heap.size w19 w20 (fun k => k = bA) (fun k => k = bA) := by rw [← hw20]; exact six_keeps w19 bA (.int .i64 B.h.op) (.bool B.h.now) (.int .i64 B.h.fl) (.slice p3B B.h.vs.length c3B) (.slice p4B B.a.length c4B) (.string (S B.d))
 have hx2 := X2_13.out.beside (hkk.wide (m1'.H lb1)) (fun k h => Nat.lt_of_lt_of_le (X2_13.out.lt k h) hkk.size) (fun k h => by rcases h with h | h; (exact HGE.out k h); (subst h; exact HBA.out))
 have hlow2 := below_then LB_0.out hx2.ls.low
 have hE2 := EB_0.out.later hx2.ls.low
 have X2_14 := Lib.hid hx2
 have L_20 := Lib.hid hlow2
 have E_20 := Lib.hid hE2
 have KA_5 := Lib.hid hkB
 have PB_1 := Lib.hid hPB2
 clear hx2 hlow2 hE2 hkB hPB2 hkk hke hka X2_13 L_19 E_19 KA_4 PB_0
 have OV := X2_14.out.ls.overS
 rw [show (stBad n s).don = false from rfl] at OV
 rw [show (stBad n s).fld = true from rfl] at OV
 replace OV := Lib.hid OV
 go_wp2_with fail
 clear hw20 x0 x1 x2 x3 x4 x5 f0 f1 f2 f3 f4 f5
 refine OV.out.mono ?_
 rintro e w21 ⟨rfl, hb⟩
 clear OV
 have L_21 := Lib.hid (below_then L_20.out hb)
 have E_21 := Lib.hid (E_20.out.later hb)
 have X2_15 := Lib.hid (X2_14.out.later hb)
 have KA_6 := Lib.hid (KA_5.out.later hb)
 have PB_2 := Lib.hid (PB_1.out.later (Keeps.of hb _).off')
 clear L_20 E_20 X2_14 KA_5 PB_1
 clear hb
 have KB_6 := KA_6
 clear KA_6
 have ST := status_any B _ _ w21 PB_2.out.off E_21.out.env.mc (by rw [LENB.out]; decide)
 rw [STB.out] at ST
 unfold pduV at ST
 replace ST := Lib.hid ST
 obtain ⟨cKB0, cKB1, cKB2, cKB3, cKB4, cKB5⟩ := KB_6.out.six
 go_wp2_with fail
 clear cKB0 cKB1 cKB2 cKB3 cKB4 cKB5
 refine ST.out.mono ?_
 rintro e w22 ⟨rfl, hb⟩
 clear ST
 have L_22 := Lib.hid (below_then L_21.out hb)
 have E_22 := Lib.hid (E_21.out.later hb)
 have X2_16 := Lib.hid (X2_15.out.later hb)
 have PB_3 := Lib.hid (PB_2.out.later (Keeps.of hb _).off')
 have KB_7 := Lib.hid (KB_6.out.later hb)
 clear L_21 E_21 X2_15 PB_2 KB_6
 clear hb
 have hkz := KB_7.out
 rw [HBDD.out] at hkz
 obtain ⟨z0, z1, z2, z3, z4, z5⟩ := hkz.six
 clear hkz
 go_wp2_with fail
 go_ret
 exact ⟨rfl, L_22.out⟩
end Go.Proofs.YtjbbbpgcegcbaaaGreatDoor
namespace Go.Proofs.YtjbbbpgcegcbaaaGreatDoor
open Go.RowKit
def laidLoginUsers : List (String × DataW Unit) := [("math/bits.deBruijn32tab", Rows.laid_math_bits_deBruijn32tab), ("math/bits.deBruijn64tab", Rows.laid_math_bits_deBruijn64tab), ("internal/strconv.uint64pow10", Rows.laid_internal_strconv_uint64pow10), ("unicode/utf8.acceptRanges", Rows.laid_unicode_utf8_acceptRanges), ("errors.errorType", Rows.laid_errors_errorType), ("strconv.ErrRange", Rows.laid_strconv_ErrRange), ("strconv.ErrSyntax", Rows.laid_strconv_ErrSyntax), ("quaymaster/md5.numbers", Rows.laid_quaymaster_md5_numbers), ("quaymaster/md5.turns", Rows.laid_quaymaster_md5_turns), ("unicode/utf8.first", Rows.laid_unicode_utf8_first)]
def plainLoginUsers : List (String × DataW Unit) := [("math/bits.deBruijn32tab", Rows.laid_math_bits_deBruijn32tab), ("math/bits.deBruijn64tab", Rows.laid_math_bits_deBruijn64tab), ("internal/strconv.uint64pow10", Rows.laid_internal_strconv_uint64pow10), ("unicode/utf8.acceptRanges", Rows.laid_unicode_utf8_acceptRanges), ("strconv.ErrRange", Rows.laid_strconv_ErrRange), ("strconv.ErrSyntax", Rows.laid_strconv_ErrSyntax), ("quaymaster/md5.numbers", Rows.laid_quaymaster_md5_numbers), ("quaymaster/md5.turns", Rows.laid_quaymaster_md5_turns), ("unicode/utf8.first", Rows.laid_unicode_utf8_first)]
noncomputable def laidWorldLoginUsers (os : Os) : World := (laidWorld os).layVars Tryz.prog plainLoginUsers
set_option maxRecDepth 100000 in
theorem laidWorldLoginUsers_plain (os : Os) (args : Array Value) : laidMet Tryz.prog plainLoginUsers ((laidWorldLoginUsers os).forCall (fun _ _ => 0) ⟨#[], args, []⟩).memory := laidMet_lay (w0 := (laidWorld os)) args (by kernel_rfl) (by kernel_rfl)
set_option maxRecDepth 100000 in
theorem laidWorldLoginUsers_met (os : Os) (args : Array Value) : laidMetH Tryz.prog laidLoginUsers ((laidWorldLoginUsers os).forCall (fun _ _ => 0) ⟨#[], args, []⟩).memory :=
 laidMetH_of_parts (laidWorldLoginUsers_plain os args) (by kernel_rfl)
theorem laidWorldLoginUsers_os (os : Os) : (laidWorldLoginUsers os).os = os := World.layVars_os _ _ _
theorem partsLoginUsers {W : World} (h : laidMetH Tryz.prog laidLoginUsers W) : laidMet Tryz.prog [("math/bits.deBruijn32tab", Rows.laid_math_bits_deBruijn32tab), ("math/bits.deBruijn64tab", Rows.laid_math_bits_deBruijn64tab), ("internal/strconv.uint64pow10", Rows.laid_internal_strconv_uint64pow10), ("unicode/utf8.acceptRanges", Rows.laid_unicode_utf8_acceptRanges), ("strconv.ErrRange", Rows.laid_strconv_ErrRange), ("strconv.ErrSyntax", Rows.laid_strconv_ErrSyntax), ("quaymaster/md5.numbers", Rows.laid_quaymaster_md5_numbers), ("quaymaster/md5.turns", Rows.laid_quaymaster_md5_turns), ("unicode/utf8.first", Rows.laid_unicode_utf8_first)] W ∧ handlesMet Tryz.prog [("errors.errorType", Rows.laid_errors_errorType)] W := h
theorem errCell_LoginUsers {W : World} (h : laidMetH Tryz.prog laidLoginUsers W) : ErrCell W := errCell_of_handles (partsLoginUsers h).2 (List.mem_singleton.2 rfl)
theorem readsLoginUsers {W : World} (h : laidMetH Tryz.prog laidLoginUsers W) {n : String} {d : DataW Unit} (hm : (n, d) ∈ ([("math/bits.deBruijn32tab", Rows.laid_math_bits_deBruijn32tab), ("math/bits.deBruijn64tab", Rows.laid_math_bits_deBruijn64tab), ("internal/strconv.uint64pow10", Rows.laid_internal_strconv_uint64pow10), ("unicode/utf8.acceptRanges", Rows.laid_unicode_utf8_acceptRanges), ("strconv.ErrRange", Rows.laid_strconv_ErrRange), ("strconv.ErrSyntax", Rows.laid_strconv_ErrSyntax), ("quaymaster/md5.numbers", Rows.laid_quaymaster_md5_numbers), ("quaymaster/md5.turns", Rows.laid_quaymaster_md5_turns), ("unicode/utf8.first", Rows.laid_unicode_utf8_first)] : List (String × DataW Unit))) : Go.Lib.VarReads Tryz.prog W n d := Go.Lib.laidMet.reads (partsLoginUsers h).1 hm
theorem tabsLoginUsers {W : World} (h : laidMetH Tryz.prog laidLoginUsers W) : MdTabs W := mdTabs_of_reads (readsLoginUsers h (by simp)) (readsLoginUsers h (by simp))
end Go.Proofs.YtjbbbpgcegcbaaaGreatDoor
namespace Go.Proofs.YtjbbbpgcegcbaaaGreatDoor.loginUsers
open Go.ChangeShapes Go.WideShapes Go.ChangeAt Go.RowKit
open Go.ChangeMaps (open_string shut_string)
set_option linter.unusedVariables false
theorem own : ownKnob Tryz.prog.godebug = none := by kernel_rfl
theorem laidOut : laidOutB Tryz.prog = true := by kernel_rfl
set_option maxRecDepth 100000 in
theorem contract (H : Type) (enc : TypeId × Value → H) (W : World) (base : Nat) (args : Array Value) (ds gs : List (DataW H)) (before : List MemPlace)
  (hval : ∀ (j : Nat) t v, Tryz.f4.params[j]? = some t → args[j]? = some v → Value.okWide Tryz.prog W .any base t v)
  (hW : DataW.Whole enc Tryz.prog Tryz.f4.params.toList Rows.loginUsersSpec.vars false W args.toList ds gs before)
  (hsz0 : (DataW.weightsEach Tryz.prog (Tryz.f4.params.toList ++ Rows.loginUsersSpec.plain.varTypes Tryz.prog) (ds ++ gs)).all (· ≤ reachBytes) = true)
  (hL : laidMetH Tryz.prog Rows.loginUsersRow.laid W) (hS : W.ShapedOpen Tryz.prog)
  : Calls Tryz.prog 4 args W fun e W' => ∃ v, e = .returned v ∧ Rows.loginUsersSpec.post enc Tryz.prog Tryz.f4 false true false false W args v W' := by
 have hW' := hW
 obtain ⟨p, q, hA0, hV, rfl, hfz, hnd⟩ := hW
 have hsz : (DataW.weightsEach Tryz.prog (Tryz.f4.params.toList ++ Rows.loginUsersSpec.plain.varTypes Tryz.prog) (ds ++ gs)).all (· ≤ reachBytes) = true := hsz0
 have hA : DataW.TrodAll enc Tryz.prog W 0 (fun _ => true) true Tryz.f4.params.toList args.toList ds p := hA0
 rw [Tryz.params4] at hA hval hsz
 obtain ⟨v0, vs0, d0, ds0, p0, q0, hargs, rfl, rfl, h0, r0⟩ := trodAll_cons hA
 obtain ⟨v1, vs1, d1, ds1, p1, q1, rfl, rfl, rfl, h1, r1⟩ := trodAll_cons r0
 obtain ⟨v2, vs2, d2, ds2, p2, q2, rfl, rfl, rfl, h2, r2⟩ := trodAll_cons r1
 obtain ⟨v3, vs3, d3, ds3, p3, q3, rfl, rfl, rfl, h3, r3⟩ := trodAll_cons r2
 obtain ⟨v4, vs4, d4, ds4, p4, q4, rfl, rfl, rfl, h4, r4⟩ := trodAll_cons r3
 obtain ⟨rfl, rfl, rfl⟩ := trodAll_nil r4
 obtain rfl : args = #[v0, v1, v2, v3, v4] := by cases args; simp_all
 obtain ⟨rfl, rfl⟩ := trodVars_none hV
 obtain ⟨s0, rfl, rfl, rfl, ws0⟩ := open_string Tryz.underlying9 (hval 0 9 v0 rfl rfl) h0
 have hz0 := sized_string hsz (j := 0) rfl rfl
 obtain ⟨l0, rfl⟩ := S_of s0
 have hb0 : l0.length ≤ 140737488351232 := by simpa [S, reachBytes] using hz0
 obtain ⟨s1, rfl, rfl, rfl, ws1⟩ := open_string Tryz.underlying9 (hval 1 9 v1 rfl rfl) h1
 have hz1 := sized_string hsz (j := 1) rfl rfl
 obtain ⟨l1, rfl⟩ := S_of s1
 have hb1 : l1.length ≤ 140737488351232 := by simpa [S, reachBytes] using hz1
 have hk2 := h2
 have hlt2 : ∀ x ∈ p2, x.block < W.heap.size := fun x hx => by simpa using hW'.lt x (by simp [hx])
 obtain ⟨pr2, rfl, hF2⟩ := open_draw hsz (j := 2) rfl rfl (hval 2 31 v2 rfl rfl) h2
 obtain ⟨a3, rfl, rfl, rfl, wf3⟩ := open_int Tryz.underlying3 (hval 3 3 v3 rfl rfl) h3
 obtain ⟨a4, rfl, rfl, rfl, wf4⟩ := open_int Tryz.underlying66 (hval 4 66 v4 rfl rfl) h4
 clear hA0 hsz0
 refine (loginUsers_any l0 l1 pr2 a3 a4 W hb0 hb1 hF2 wf3 wf4 (EnvL.mk (env_of hS (readsLoginUsers hL (by simp)) (readsLoginUsers hL (by simp)) (readsLoginUsers hL (by simp))) (errCell_LoginUsers hL) (tabsLoginUsers hL))).mono fun e W' ⟨he, bel⟩ => ?_
 subst he
 exact ⟨_, rfl, _, _, _, [], _, [], hW', trodAll_mk1 (shut_bool Tryz.underlying4 _), trodAll_cons_mk (shut_string Tryz.underlying9 ws0) (trodAll_cons_mk (shut_string Tryz.underlying9 ws1) (trodAll_cons_mk (Below.trod laidOut (by kernel_rfl) (of_decide_eq_true (by kernel_rfl)) hk2 bel hlt2) (trodAll_cons_mk (shut_int Tryz.underlying3 wf3) (trodAll_cons_mk (shut_int Tryz.underlying66 wf4) trodAll_mk0)))), rfl, bel.frame _, fun h => by cases h⟩
theorem reads (os : Os) {H : Type} (enc : TypeId × Value → H) : ∃ places, DataW.whole enc Tryz.prog ((laidWorldLoginUsers os).forCall (fun _ _ => 0) ⟨#[], #[.string ⟨#[]⟩, .string ⟨#[]⟩, .agg #[.int .i64 0, .string ⟨#[]⟩], .int .i64 0, .int .u32 0], []⟩).memory Tryz.f4.params.toList Rows.loginUsersSpec.vars false (#[.string ⟨#[]⟩, .string ⟨#[]⟩, .agg #[.int .i64 0, .string ⟨#[]⟩], .int .i64 0, .int .u32 0] : Array Value).toList 8 = some ([.lit (.string []), .lit (.string []), .agg [.lit (.int .i64 0), .lit (.string [])], .lit (.int .i64 0), .lit (.int .u32 0)], [], places) :=
 ⟨[], by kernel_rfl⟩
set_option maxRecDepth 100000 in
theorem lifted (os : Os) (started : os.Started) (H : Type) (enc : TypeId × Value → H) (F : Stop.Interp) :
  ReturnsInHanded {} Tryz.checked os 4 .any ((OpenSpec.ofChange Rows.loginUsersSpec).preRow enc Tryz.prog Tryz.f4 Rows.loginUsersRow.domain false Rows.loginUsersRow.laid) (((OpenSpec.ofChange Rows.loginUsersSpec).at F).post enc Tryz.prog Tryz.f4 false true false false) := by
 obtain ⟨places, hx⟩ := reads os enc
 refine returnsInHanded_of_row (C := Tryz.checked) (s := OpenSpec.ofChange Rows.loginUsersSpec) own started (by kernel_rfl) Tryz.func4
  (witness_row_atRef (enc := enc) (C := Tryz.checked) false (laidWorldLoginUsers os) #[.string ⟨#[]⟩, .string ⟨#[]⟩, .agg #[.int .i64 0, .string ⟨#[]⟩], .int .i64 0, .int .u32 0] (laidWorldLoginUsers_os os) (by kernel_rfl) (by kernel_rfl) (by kernel_rfl)
   (OpenSpec.preRow_of_cond 8 hx (by kernel_rfl) (fun k hk => by cases hk) (by kernel_rfl) (laidWorldLoginUsers_met os _))) ?_
 intro W base args ds gs before hval hW _ _ hsz hL hS _
 exact contract H enc W base args ds gs before hval hW hsz hL hS
theorem k0 : (Rows.loginUsersRow.wf (OpenSpec.ofChange (Rows.loginUsersSpec))) = true := by kernel_rfl
theorem k3 : (Tryz.f4.params.all (Tryz.pinned.checked.prog.readableRec ·)) = true := by kernel_rfl
theorem k4 : (namedTie Tryz.pinned.checked.prog Rows.loginUsersRow.named (Rows.loginUsersSpec).vars) = true := by kernel_rfl
theorem k5 : ((Rows.loginUsersRow.stops == [])) = true := by kernel_rfl
theorem k7 : ((Rows.loginUsersRow.knobs == [])) = true := by kernel_rfl
theorem k9 : ((Rows.loginUsersRow.inPlace == Tryz.pinned.checked.prog.inPlace 4)) = true := by kernel_rfl
theorem k10 : ((Rows.loginUsersRow.unfollowed == Tryz.pinned.checked.prog.unfollowed 4)) = true := by kernel_rfl
theorem k11 : ((Rows.loginUsersRow.recurses == Tryz.pinned.checked.prog.recurses 4)) = true := by kernel_rfl
theorem k12 : ((Rows.loginUsersRow.named == Tryz.pinned.checked.prog.varsNamed 4)) = true := by kernel_rfl
theorem k13 : ((Rows.loginUsersRow.maps == (Tryz.f4.params.toList ++ (Rows.loginUsersSpec).plain.varTypes Tryz.pinned.checked.prog).any (Tryz.pinned.checked.prog.mapsRec ·))) = true := by kernel_rfl
theorem k14 : ((Rows.loginUsersRow.ifaces == (Tryz.f4.params.toList ++ (Rows.loginUsersSpec).plain.varTypes Tryz.pinned.checked.prog).any (Tryz.pinned.checked.prog.ifacesRec ·))) = true := by kernel_rfl
theorem k15 : ((Rows.loginUsersRow.mapsOut == Tryz.pinned.checked.prog.mapsAmong Tryz.f4.resultTypes.toList)) = true := by kernel_rfl
theorem k16 : ((Rows.loginUsersRow.loops == (Tryz.f4.params.toList ++ (Rows.loginUsersSpec).plain.varTypes Tryz.pinned.checked.prog).any (Tryz.pinned.checked.prog.loopsFrom ·))) = true := by kernel_rfl
theorem k17 : ((Rows.loginUsersRow.wideKeys == (Tryz.f4.params.toList ++ (Rows.loginUsersSpec).plain.varTypes Tryz.pinned.checked.prog ++ Tryz.f4.resultTypes.toList).any (Tryz.pinned.checked.prog.wideKeysFrom ·))) = true := by kernel_rfl
theorem k18 : ((Rows.loginUsersSpec).vars.all (Tryz.pinned.checked.prog.varReadable ·)) = true := by kernel_rfl
theorem k19 : (Tryz.f4.resultTypes.all (fun t => Tryz.pinned.checked.prog.readableRec t && decide (t < Tryz.pinned.checked.prog.types.size))) = true := by kernel_rfl
theorem k20 : ((Rows.loginUsersRow.ifacesOut == Tryz.f4.resultTypes.toList.any (Tryz.pinned.checked.prog.ifacesRec ·))) = true := by kernel_rfl
theorem k21 : ((Rows.loginUsersRow.loopsOut == Tryz.f4.resultTypes.toList.any (Tryz.pinned.checked.prog.loopsFrom ·))) = true := by kernel_rfl
theorem k22 : ((Rows.loginUsersRow.plainKeys == Tryz.pinned.checked.prog.plainKeys)) = true := jo22
theorem k23 : (Rows.loginUsersRow.shortTexts.isNone) = true := by kernel_rfl
theorem k26 : ((Rows.loginUsersRow.lifted == Tryz.pinned.checked.prog.liftsFinal)) = true := jo26
theorem k27 : ((Tryz.pinned.checked.prog.make == some Rows.loginUsersRow.make)) = true := jo27
theorem k28 : ((Rows.loginUsersRow.kinds == (if Rows.loginUsersRow.domain.isEmpty then [] else Tryz.f4.params.toList.map fun t => match Tryz.pinned.checked.prog.underlying t with | some (.int k) => some k | _ => none))) = true := by kernel_rfl
theorem k29 : ((Rows.loginUsersRow.pinned == Rows.loginUsersRow.pinnedBy)) = true := by kernel_rfl
theorem k30 : ((Rows.loginUsersRow.veiled == (Tryz.f4.params.toList ++ (Rows.loginUsersSpec).plain.varTypes Tryz.pinned.checked.prog ++ Tryz.f4.resultTypes.toList).any (Tryz.pinned.checked.prog.veiledRec ·))) = true := by kernel_rfl
theorem k31 : (Rows.loginUsersRow.veiledFits Tryz.pinned.checked.prog Tryz.f4.params.toList (Tryz.f4.params.toList ++ (Rows.loginUsersSpec).plain.varTypes Tryz.pinned.checked.prog ++ Tryz.f4.resultTypes.toList)) = true := by kernel_rfl
set_option maxRecDepth 100000 in
theorem closed : joinedFacts Tryz.pinned.checked.prog 4 Tryz.f4 (OpenSpec.ofChange (Rows.loginUsersSpec)).bare Rows.loginUsersRow = true := and_mk (and_mk (and_mk (and_mk (and_mk (and_mk (and_mk (and_mk (and_mk (and_mk (and_mk (and_mk (and_mk (and_mk (and_mk (and_mk (and_mk (and_mk (and_mk (and_mk (and_mk (and_mk (and_mk (and_mk (and_mk (and_mk (and_mk (and_mk (and_mk (and_mk (and_mk (k0) jo1) jo2) k3) k4) k5) jo6) k7) jo8) k9) k10) k11) k12) k13) k14) k15) k16) k17) k18) k19) k20) k21) k22) k23) jo24) jo25) k26) k27) k28) k29) k30) k31
theorem said : Rows.LoginUsersSaid :=
 OpenClaim.holds_of_cond 4 Tryz.f4 rfl rfl rfl rfl rfl rfl rfl ⟨rfl, rfl, rfl, rfl, rfl⟩ rfl rfl rfl rfl rfl (by kernel_rfl) Tryz.func4 closed
  (of_decide_eq_true (by kernel_rfl)) (by unfold Func.isWrapper; first | (rw [if_pos (by decide +kernel)]; kernel_rfl) | (rw [if_neg (by decide +kernel)]; exact ⟨rfl, rfl⟩))
  (fun os started H enc _ F => by rw [OpenClaim.pre_eq_preRow]; exact lifted os started H enc F)
theorem plain (f : FuncId) (fn : Func) (hf : Tryz.pinned.checked.prog.funcNamed "quaymaster/quaymasterkeep.LoginUsers" = some f) (hfn : Tryz.pinned.checked.prog.funcs[f]? = some fn) :
  true = Tryz.pinned.checked.prog.looks [] ∧ ∀ (j : Nat) t, fn.params[j]? = some t → Tryz.pinned.checked.prog.wantsStandIn t = false := by
 obtain rfl : f = 4 := Option.some.inj ((show Tryz.prog.funcNamed "quaymaster/quaymasterkeep.LoginUsers" = some 4 by kernel_rfl).symm.trans hf) |>.symm
 obtain rfl : fn = Tryz.f4 := (Option.some.inj (Tryz.func4.symm.trans hfn)).symm
 refine ⟨by kernel_rfl, fun j t ht => ?_⟩
 rw [Tryz.params4] at ht
 have hm : t ∈ ([9, 9, 31, 3, 66] : List TypeId) := by
  have := Array.mem_of_getElem? ht
  simpa using this
 have hall : ([9, 9, 31, 3, 66] : List TypeId).all (fun t => !Tryz.prog.wantsStandIn t) = true := by kernel_rfl
 have hn := List.all_eq_true.1 hall t hm
 show Tryz.prog.wantsStandIn t = false
 simpa using hn
theorem proved : Rows.LoginUsersCardSaid :=
 Claim7.holds_tied_plain_at .later [] _ _ _ _ said (fun _ h => by cases h) (by kernel_rfl) (fun _ h => by cases h) loginUsers_row_tie rfl ⟨rfl, rfl⟩ (by kernel_rfl) rfl plain (by kernel_rfl)
#print axioms proved
end Go.Proofs.YtjbbbpgcegcbaaaGreatDoor.loginUsers
