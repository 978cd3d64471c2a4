/- LA43: several texts in one. -/
import Derived.Test.YtjbbbpgcegcbaaaGreatDoorLA03
import Derived.Test.YtjbbbpgcegcbaaaGreatDoorLA13
import Derived.Test.YtjbbbpgcegcbaaaGreatDoorLA40
import Derived.Test.YtjbbbpgcegcbaaaGreatDoorLA42
namespace Go.Proofs.YtjbbbpgcegcbaaaGreatDoor
open Go Go.RowKit
set_option linter.unusedVariables false
def stepC (n v : List UInt8) (more : List Pr) : Pd × Bool := asksR 129 (⟨kCN, n⟩ :: ⟨kCR, v⟩ :: more)
def stepsL (C : Pd) : List Pd := [⟨reqA, [], prBytes [pIni, pSes, pMth]⟩, ⟨reqA, [], prBytes [pAsk]⟩, C, ⟨reqE, [], []⟩]
def RetSteps (w : World) (r : Pd × Bool) (e : Ending) (w' : World) : Prop :=
 ∃ b, e = .returned (.tuple #[.slice (some ⟨b, 0, none⟩) 4 4, .bool r.2]) ∧ RowO w w' b (stepsL r.1) ∧ Below w.heap.size w w'
theorem stepA_is : asksR 0 [pIni, pSes, pMth] = (⟨reqA, [], prBytes [pIni, pSes, pMth]⟩, true) := by kernel_rfl
theorem stepB_is : asksR 0 [pAsk] = (⟨reqA, [], prBytes [pAsk]⟩, true) := by kernel_rfl
theorem stepD_is : asksR 135 [] = (⟨reqE, [], []⟩, true) := by kernel_rfl
theorem OwnV.low {w w' : World} {v : Value} (h : OwnV w' v) (hs : w.heap.size ≤ w'.heap.size) : OwnV w v := fun k hk => Nat.le_trans hs (h k hk)
set_option maxRecDepth 100000 in
set_option maxHeartbeats 4000000 in
theorem steps_any (n v : List UInt8) (more : List Pr) (mv : Value) (w : World) (hn : n.length ≤ 140737488351232) (hvl : v.length ≤ 140737488351232) (hmv : PrsV w mv more) (hfm : fitPs more) (hml : more.length ≤ 1000) (hm : MaxCell w) :
  Calls Tryz.prog 28 #[.string (S n), .string (S v), mv] w (RetSteps w (stepC n v more)) := by
 have HMV := Lib.hid hmv
 have HFC := Lib.hid (show fitPs (⟨kCN, n⟩ :: ⟨kCR, v⟩ :: more) from ⟨by simp only [List.length_cons]; omega, fun p hp => by
  rcases List.mem_cons.1 hp with rfl | hp
  ·exact ⟨(by show kCN.length ≤ _; decide), (by show n.length ≤ _; omega)⟩
  ·rcases List.mem_cons.1 hp with rfl | hp
   ·exact ⟨(by show kCR.length ≤ _; decide), (by show v.length ≤ _; omega)⟩
   ·exact hfm.2 p hp⟩)
 have HML := Lib.hid hml
 obtain ⟨⟨C, okC⟩, hC⟩ : ∃ r, stepC n v more = r := ⟨_, rfl⟩
 have hCa : C.a = [] := by have := congrArg (fun r => r.1.a) hC; exact this.symm
 rw [hC]
 have HC := Lib.hid hC
 have HCA := Lib.hid hCa
 have L_0 := Lib.hid (Below.refl w.heap.size w)
 have M_0 := Lib.hid (hm)
 clear hmv hfm hml hm hn hvl hC hCa
 go_enter Tryz.func28, Tryz.ntmps28
 have Q1 := pair_any [73, 110, 105, 116, 105, 97, 116, 111, 114, 78, 97, 109, 101] [109, 101] w
 replace Q1 := Lib.hid Q1
 go_wp2_with fail
 refine Q1.out.mono ?_
 rintro e w1 ⟨rfl, hb⟩
 clear Q1
 have L_1 := Lib.hid (below_then L_0.out hb)
 have M_1 := Lib.hid (M_0.out.later hb)
 clear L_0 M_0
 clear hb
 have Q2 := pair_any [83, 101, 115, 115, 105, 111, 110, 84, 121, 112, 101] [68, 105, 115, 99, 111, 118, 101, 114, 121] w1
 replace Q2 := Lib.hid Q2
 go_wp2_with fail
 refine Q2.out.mono ?_
 rintro e w2 ⟨rfl, hb⟩
 clear Q2
 have L_2 := Lib.hid (below_then L_1.out hb)
 have M_2 := Lib.hid (M_1.out.later hb)
 clear L_1 M_1
 clear hb
 have Q3 := pair_any [65, 117, 116, 104, 77, 101, 116, 104, 111, 100] [78, 111, 110, 101, 44, 67, 72, 65, 80] w2
 replace Q3 := Lib.hid Q3
 go_wp2_with fail
 refine Q3.out.mono ?_
 rintro e w3 ⟨rfl, hb⟩
 clear Q3
 have L_3 := Lib.hid (below_then L_2.out hb)
 have M_3 := Lib.hid (M_2.out.later hb)
 clear L_2 M_2
 clear hb
 obtain ⟨w4, hw4⟩ : ∃ x, w3.alloc (.cells #[.string (S [73, 110, 105, 116, 105, 97, 116, 111, 114, 78, 97, 109, 101]), .string (S [109, 101]), .string (S [83, 101, 115, 115, 105, 111, 110, 84, 121, 112, 101]), .string (S [68, 105, 115, 99, 111, 118, 101, 114, 121]), .string (S [65, 117, 116, 104, 77, 101, 116, 104, 111, 100]), .string (S [78, 111, 110, 101, 44, 67, 72, 65, 80])] 60) = x := ⟨_, rfl⟩
 have hb : Below w3.heap.size w3 w4 := by rw [← hw4]; exact (Below.refl _ _).alloc (Nat.le_refl _) _
 have hk : Blk w4 w3.heap.size #[.string (S [73, 110, 105, 116, 105, 97, 116, 111, 114, 78, 97, 109, 101]), .string (S [109, 101]), .string (S [83, 101, 115, 115, 105, 111, 110, 84, 121, 112, 101]), .string (S [68, 105, 115, 99, 111, 118, 101, 114, 121]), .string (S [65, 117, 116, 104, 77, 101, 116, 104, 111, 100]), .string (S [78, 111, 110, 101, 44, 67, 72, 65, 80])] 60 := by rw [← hw4]; exact Blk.new w3 _ _
 have hp : PrsV w4 (.slice (some ⟨w3.heap.size, 0, none⟩) 3 3) [pIni, pSes, pMth] := by rw [← hw4]; exact prs_new w3 [pIni, pSes, pMth] _
 clear hk
 have L_4 := Lib.hid (below_then L_3.out hb)
 have M_4 := Lib.hid (M_3.out.later hb)
 clear L_3 M_3
 clear hb
 have A := asks_any 0 [pIni, pSes, pMth] _ w4 (by unfold I64; decide) hp ⟨by simp, fun p hp => by revert hp; revert p; decide⟩ M_4.out
 rw [stepA_is] at A
 obtain ⟨PA, hPA⟩ : ∃ P : Pd, (⟨reqA, [], prBytes [pIni, pSes, pMth]⟩ : Pd) = P := ⟨_, rfl⟩
 rw [hPA] at A
 have HPAA := Lib.hid (show PA.a = [] by rw [← hPA])
 have HPAq := Lib.hid hPA
 unfold RetAsks pduV at A
 simp only at A
 replace A := Lib.hid A
 clear hp hPA
 go_wp2_with fail
 clear hw4
 refine A.out.mono ?_
 rintro e w5 ⟨vv, rfl, hvv, hown, hb⟩
 obtain ⟨pPA, cPA, rfl⟩ : ∃ p c, vv = .slice p PA.h.vs.length c := by obtain ⟨p, c, h, _⟩ := hvv; exact ⟨p, c, h⟩
 have HOPA := Lib.hid (OwnV.low (w := w) hown L_4.out.size)
 clear hown A
 have L_5 := Lib.hid (below_then L_4.out hb)
 have M_5 := Lib.hid (M_4.out.later hb)
 clear L_4 M_4
 clear hb
 have VPA_0 := Lib.hid (hvv)
 clear hvv
 obtain ⟨w6, hw6⟩ : ∃ x, w5.alloc (.cells #[.int .i64 PA.h.op, .bool PA.h.now, .int .i64 PA.h.fl, .slice pPA PA.h.vs.length cPA, .slice none 0 0, .string (S PA.d)] 41) = x := ⟨_, rfl⟩
 have hb : Below w5.heap.size w5 w6 := by rw [← hw6]; exact (Below.refl _ _).alloc (Nat.le_refl _) _
 have hk : Blk w6 w5.heap.size #[.int .i64 PA.h.op, .bool PA.h.now, .int .i64 PA.h.fl, .slice pPA PA.h.vs.length cPA, .slice none 0 0, .string (S PA.d)] 41 := by rw [← hw6]; exact Blk.new w5 _ _
 obtain ⟨bPA, hbPA⟩ : ∃ x, w5.heap.size = x := ⟨_, rfl⟩
 rw [hbPA] at hk
 have L_6 := Lib.hid (below_then L_5.out hb)
 have M_6 := Lib.hid (M_5.out.later hb)
 have VPA_1 := Lib.hid (VPA_0.out.later hb)
 clear L_5 M_5 VPA_0
 clear hb
 have KPA_0 := Lib.hid (hk)
 clear hk
 have Q4 := pair_any [67, 72, 65, 80, 95, 65] [55, 44, 53] w6
 replace Q4 := Lib.hid Q4
 go_wp2_with fail
 clear hw6
 refine Q4.out.mono ?_
 rintro e w7 ⟨rfl, hb⟩
 clear Q4
 have L_7 := Lib.hid (below_then L_6.out hb)
 have M_7 := Lib.hid (M_6.out.later hb)
 have VPA_2 := Lib.hid (VPA_1.out.later hb)
 have KPA_1 := Lib.hid (KPA_0.out.later hb)
 clear L_6 M_6 VPA_1 KPA_0
 clear hb
 obtain ⟨w8, hw8⟩ : ∃ x, w7.alloc (.cells #[.string (S [67, 72, 65, 80, 95, 65]), .string (S [55, 44, 53])] 60) = x := ⟨_, rfl⟩
 have hb : Below w7.heap.size w7 w8 := by rw [← hw8]; exact (Below.refl _ _).alloc (Nat.le_refl _) _
 have hk : Blk w8 w7.heap.size #[.string (S [67, 72, 65, 80, 95, 65]), .string (S [55, 44, 53])] 60 := by rw [← hw8]; exact Blk.new w7 _ _
 have hp : PrsV w8 (.slice (some ⟨w7.heap.size, 0, none⟩) 1 1) [pAsk] := by rw [← hw8]; exact prs_new w7 [pAsk] _
 clear hk
 have L_8 := Lib.hid (below_then L_7.out hb)
 have M_8 := Lib.hid (M_7.out.later hb)
 have VPA_3 := Lib.hid (VPA_2.out.later hb)
 have KPA_2 := Lib.hid (KPA_1.out.later hb)
 clear L_7 M_7 VPA_2 KPA_1
 clear hb
 have A := asks_any 0 [pAsk] _ w8 (by unfold I64; decide) hp ⟨by simp, fun p hp => by revert hp; revert p; decide⟩ M_8.out
 rw [stepB_is] at A
 obtain ⟨PB, hPB⟩ : ∃ P : Pd, (⟨reqA, [], prBytes [pAsk]⟩ : Pd) = P := ⟨_, rfl⟩
 rw [hPB] at A
 have HPBA := Lib.hid (show PB.a = [] by rw [← hPB])
 have HPBq := Lib.hid hPB
 unfold RetAsks pduV at A
 simp only at A
 replace A := Lib.hid A
 clear hp hPB
 go_wp2_with fail
 clear hw8
 refine A.out.mono ?_
 rintro e w9 ⟨vv, rfl, hvv, hown, hb⟩
 obtain ⟨pPB, cPB, rfl⟩ : ∃ p c, vv = .slice p PB.h.vs.length c := by obtain ⟨p, c, h, _⟩ := hvv; exact ⟨p, c, h⟩
 have HOPB := Lib.hid (OwnV.low (w := w) hown L_8.out.size)
 clear hown A
 have L_9 := Lib.hid (below_then L_8.out hb)
 have M_9 := Lib.hid (M_8.out.later hb)
 have VPA_4 := Lib.hid (VPA_3.out.later hb)
 have KPA_3 := Lib.hid (KPA_2.out.later hb)
 clear L_8 M_8 VPA_3 KPA_2
 clear hb
 have VPB_0 := Lib.hid (hvv)
 clear hvv
 obtain ⟨w10, hw10⟩ : ∃ x, w9.alloc (.cells #[.int .i64 PB.h.op, .bool PB.h.now, .int .i64 PB.h.fl, .slice pPB PB.h.vs.length cPB, .slice none 0 0, .string (S PB.d)] 41) = x := ⟨_, rfl⟩
 have hb : Below w9.heap.size w9 w10 := by rw [← hw10]; exact (Below.refl _ _).alloc (Nat.le_refl _) _
 have hk : Blk w10 w9.heap.size #[.int .i64 PB.h.op, .bool PB.h.now, .int .i64 PB.h.fl, .slice pPB PB.h.vs.length cPB, .slice none 0 0, .string (S PB.d)] 41 := by rw [← hw10]; exact Blk.new w9 _ _
 obtain ⟨bPB, hbPB⟩ : ∃ x, w9.heap.size = x := ⟨_, rfl⟩
 rw [hbPB] at hk
 have L_10 := Lib.hid (below_then L_9.out hb)
 have M_10 := Lib.hid (M_9.out.later hb)
 have VPA_5 := Lib.hid (VPA_4.out.later hb)
 have KPA_4 := Lib.hid (KPA_3.out.later hb)
 have VPB_1 := Lib.hid (VPB_0.out.later hb)
 clear L_9 M_9 VPA_4 KPA_3 VPB_0
 clear hb
 have KPB_0 := Lib.hid (hk)
 clear hk
 have Q5 := pair_any [67, 72, 65, 80, 95, 78] n w10
 replace Q5 := Lib.hid Q5
 go_wp2_with fail
 clear hw10
 refine Q5.out.mono ?_
 rintro e w11 ⟨rfl, hb⟩
 clear Q5
 have L_11 := Lib.hid (below_then L_10.out hb)
 have M_11 := Lib.hid (M_10.out.later hb)
 have VPA_6 := Lib.hid (VPA_5.out.later hb)
 have KPA_5 := Lib.hid (KPA_4.out.later hb)
 have VPB_2 := Lib.hid (VPB_1.out.later hb)
 have KPB_1 := Lib.hid (KPB_0.out.later hb)
 clear L_10 M_10 VPA_5 KPA_4 VPB_1 KPB_0
 clear hb
 have Q6 := pair_any [67, 72, 65, 80, 95, 82] v w11
 replace Q6 := Lib.hid Q6
 go_wp2_with fail
 refine Q6.out.mono ?_
 rintro e w12 ⟨rfl, hb⟩
 clear Q6
 have L_12 := Lib.hid (below_then L_11.out hb)
 have M_12 := Lib.hid (M_11.out.later hb)
 have VPA_7 := Lib.hid (VPA_6.out.later hb)
 have KPA_6 := Lib.hid (KPA_5.out.later hb)
 have VPB_3 := Lib.hid (VPB_2.out.later hb)
 have KPB_2 := Lib.hid (KPB_1.out.later hb)
 clear L_11 M_11 VPA_6 KPA_5 VPB_2 KPB_1
 clear hb
 obtain ⟨wa, hwa⟩ : ∃ x, w12.alloc (.cells #[.string (S [67, 72, 65, 80, 95, 78]), .string (S n), .string (S [67, 72, 65, 80, 95, 82]), .string (S v)] 60) = x := ⟨_, rfl⟩
 have hPB : PrBuf w12.heap.size wa (.slice (some ⟨w12.heap.size, 0, none⟩) 2 2) [⟨kCN, n⟩, ⟨kCR, v⟩] := by rw [← hwa]; exact lit_buf [⟨kCN, n⟩, ⟨kCR, v⟩] _ rfl (Below.refl _ _) (by simp)
 have hba : Below w12.heap.size w12 wa := by rw [← hwa]; exact (Below.refl _ _).alloc (Nat.le_refl _) _
 obtain ⟨vz, wz, hrun, hpz, hgz⟩ := run_append_prs hPB ((HMV.out.later L_12.out).later hba) (by simp) (by have := HML.out; omega) hba.size
 have hb : Below w12.heap.size w12 wz := hba.grown hgz hba.size hPB.ge
 have hp : PrsV wz vz (⟨kCN, n⟩ :: ⟨kCR, v⟩ :: more) := hpz.prs
 have Hrun := Lib.hid hrun
 clear hrun hPB hba hpz hgz HMV HML
 obtain ⟨w13, ew13⟩ : ∃ x, x = wz := ⟨_, rfl⟩
 subst ew13
 have L_13 := Lib.hid (below_then L_12.out hb)
 have M_13 := Lib.hid (M_12.out.later hb)
 have VPA_8 := Lib.hid (VPA_7.out.later hb)
 have KPA_7 := Lib.hid (KPA_6.out.later hb)
 have VPB_4 := Lib.hid (VPB_3.out.later hb)
 have KPB_3 := Lib.hid (KPB_2.out.later hb)
 clear L_12 M_12 VPA_7 KPA_6 VPB_3 KPB_2
 clear hb
 have A := asks_any 129 (⟨kCN, n⟩ :: ⟨kCR, v⟩ :: more) _ w13 (by unfold I64; decide) hp HFC.out M_13.out
 rw [show asksR 129 (⟨kCN, n⟩ :: ⟨kCR, v⟩ :: more) = (C, okC) from HC.out] at A
 unfold RetAsks pduV at A
 simp only at A
 replace A := Lib.hid A
 clear hp
 go_wp2_with (at_builtin; refine Lib.wpList_append_run _ rfl _ _ _ _ rfl _ _ rfl rfl _ _ Hrun.out ?_)
 clear hwa
 clear Hrun
 refine A.out.mono ?_
 rintro e w14 ⟨vv, rfl, hvv, hown, hb⟩
 obtain ⟨pC, cC, rfl⟩ : ∃ p c, vv = .slice p C.h.vs.length c := by obtain ⟨p, c, h, _⟩ := hvv; exact ⟨p, c, h⟩
 have HOC := Lib.hid (OwnV.low (w := w) hown L_13.out.size)
 clear hown A
 have L_14 := Lib.hid (below_then L_13.out hb)
 have M_14 := Lib.hid (M_13.out.later hb)
 have VPA_9 := Lib.hid (VPA_8.out.later hb)
 have KPA_8 := Lib.hid (KPA_7.out.later hb)
 have VPB_5 := Lib.hid (VPB_4.out.later hb)
 have KPB_4 := Lib.hid (KPB_3.out.later hb)
 clear L_13 M_13 VPA_8 KPA_7 VPB_4 KPB_3
 clear hb
 have VC_0 := Lib.hid (hvv)
 clear hvv
 obtain ⟨w15, hw15⟩ : ∃ x, w14.alloc (.cells #[.int .i64 C.h.op, .bool C.h.now, .int .i64 C.h.fl, .slice pC C.h.vs.length cC, .slice none 0 0, .string (S C.d)] 41) = x := ⟨_, rfl⟩
 have hb : Below w14.heap.size w14 w15 := by rw [← hw15]; exact (Below.refl _ _).alloc (Nat.le_refl _) _
 have hk : Blk w15 w14.heap.size #[.int .i64 C.h.op, .bool C.h.now, .int .i64 C.h.fl, .slice pC C.h.vs.length cC, .slice none 0 0, .string (S C.d)] 41 := by rw [← hw15]; exact Blk.new w14 _ _
 obtain ⟨bC, hbC⟩ : ∃ x, w14.heap.size = x := ⟨_, rfl⟩
 rw [hbC] at hk
 have L_15 := Lib.hid (below_then L_14.out hb)
 have M_15 := Lib.hid (M_14.out.later hb)
 have VPA_10 := Lib.hid (VPA_9.out.later hb)
 have KPA_9 := Lib.hid (KPA_8.out.later hb)
 have VPB_6 := Lib.hid (VPB_5.out.later hb)
 have KPB_5 := Lib.hid (KPB_4.out.later hb)
 have VC_1 := Lib.hid (VC_0.out.later hb)
 clear L_14 M_14 VPA_9 KPA_8 VPB_5 KPB_4 VC_0
 clear hb
 have KC_0 := Lib.hid (hk)
 clear hk
 have hp : PrsV w15 (.slice none 0 0) [] := PrsV.nil _
 have A := asks_any 135 [] _ w15 (by unfold I64; decide) hp ⟨by simp, fun p hp => by revert hp; revert p; decide⟩ M_15.out
 rw [stepD_is] at A
 obtain ⟨PD, hPD⟩ : ∃ P : Pd, (⟨reqE, [], []⟩ : Pd) = P := ⟨_, rfl⟩
 rw [hPD] at A
 have HPDA := Lib.hid (show PD.a = [] by rw [← hPD])
 have HPDq := Lib.hid hPD
 unfold RetAsks pduV at A
 simp only at A
 replace A := Lib.hid A
 clear hp hPD
 go_wp2_with fail
 clear hw15
 refine A.out.mono ?_
 rintro e w16 ⟨vv, rfl, hvv, hown, hb⟩
 obtain ⟨pPD, cPD, rfl⟩ : ∃ p c, vv = .slice p PD.h.vs.length c := by obtain ⟨p, c, h, _⟩ := hvv; exact ⟨p, c, h⟩
 have HOPD := Lib.hid (OwnV.low (w := w) hown L_15.out.size)
 clear hown A
 have L_16 := Lib.hid (below_then L_15.out hb)
 have M_16 := Lib.hid (M_15.out.later hb)
 have VPA_11 := Lib.hid (VPA_10.out.later hb)
 have KPA_10 := Lib.hid (KPA_9.out.later hb)
 have VPB_7 := Lib.hid (VPB_6.out.later hb)
 have KPB_6 := Lib.hid (KPB_5.out.later hb)
 have VC_2 := Lib.hid (VC_1.out.later hb)
 have KC_1 := Lib.hid (KC_0.out.later hb)
 clear L_15 M_15 VPA_10 KPA_9 VPB_6 KPB_5 VC_1 KC_0
 clear hb
 have VPD_0 := Lib.hid (hvv)
 clear hvv
 obtain ⟨w17, hw17⟩ : ∃ x, w16.alloc (.cells #[.int .i64 PD.h.op, .bool PD.h.now, .int .i64 PD.h.fl, .slice pPD PD.h.vs.length cPD, .slice none 0 0, .string (S PD.d)] 41) = x := ⟨_, rfl⟩
 have hb : Below w16.heap.size w16 w17 := by rw [← hw17]; exact (Below.refl _ _).alloc (Nat.le_refl _) _
 have hk : Blk w17 w16.heap.size #[.int .i64 PD.h.op, .bool PD.h.now, .int .i64 PD.h.fl, .slice pPD PD.h.vs.length cPD, .slice none 0 0, .string (S PD.d)] 41 := by rw [← hw17]; exact Blk.new w16 _ _
 obtain ⟨bPD, hbPD⟩ : ∃ x, w16.heap.size = x := ⟨_, rfl⟩
 rw [hbPD] at hk
 have L_17 := Lib.hid (below_then L_16.out hb)
 have M_17 := Lib.hid (M_16.out.later hb)
 have VPA_12 := Lib.hid (VPA_11.out.later hb)
 have KPA_11 := Lib.hid (KPA_10.out.later hb)
 have VPB_8 := Lib.hid (VPB_7.out.later hb)
 have KPB_7 := Lib.hid (KPB_6.out.later hb)
 have VC_3 := Lib.hid (VC_2.out.later hb)
 have KC_2 := Lib.hid (KC_1.out.later hb)
 have VPD_1 := Lib.hid (VPD_0.out.later hb)
 clear L_16 M_16 VPA_11 KPA_10 VPB_7 KPB_6 VC_2 KC_1 VPD_0
 clear hb
 have KPD_0 := Lib.hid (hk)
 clear hk
 obtain ⟨cPA0, cPA1, cPA2, cPA3, cPA4, cPA5⟩ := KPA_11.out.six
 obtain ⟨cPB0, cPB1, cPB2, cPB3, cPB4, cPB5⟩ := KPB_7.out.six
 obtain ⟨cC0, cC1, cC2, cC3, cC4, cC5⟩ := KC_2.out.six
 obtain ⟨cPD0, cPD1, cPD2, cPD3, cPD4, cPD5⟩ := KPD_0.out.six
 obtain ⟨wf, hwf⟩ : ∃ x, w17.alloc (.cells #[.int .i64 PA.h.op, .bool PA.h.now, .int .i64 PA.h.fl, .slice pPA PA.h.vs.length cPA, .slice none 0 0, .string (S PA.d), .int .i64 PB.h.op, .bool PB.h.now, .int .i64 PB.h.fl, .slice pPB PB.h.vs.length cPB, .slice none 0 0, .string (S PB.d), .int .i64 C.h.op, .bool C.h.now, .int .i64 C.h.fl, .slice pC C.h.vs.length cC, .slice none 0 0, .string (S C.d), .int .i64 PD.h.op, .bool PD.h.now, .int .i64 PD.h.fl, .slice pPD PD.h.vs.length cPD, .slice none 0 0, .string (S PD.d)] 41) = x := ⟨_, rfl⟩
 have hbf : Below w17.heap.size w17 wf := by rw [← hwf]; exact (Below.refl _ _).alloc (Nat.le_refl _) _
 have hkf : Blk wf w17.heap.size #[.int .i64 PA.h.op, .bool PA.h.now, .int .i64 PA.h.fl, .slice pPA PA.h.vs.length cPA, .slice none 0 0, .string (S PA.d), .int .i64 PB.h.op, .bool PB.h.now, .int .i64 PB.h.fl, .slice pPB PB.h.vs.length cPB, .slice none 0 0, .string (S PB.d), .int .i64 C.h.op, .bool C.h.now, .int .i64 C.h.fl, .slice pC C.h.vs.length cC, .slice none 0 0, .string (S C.d), .int .i64 PD.h.op, .bool PD.h.now, .int .i64 PD.h.fl, .slice pPD PD.h.vs.length cPD, .slice none 0 0, .string (S PD.d)] 41 := by rw [← hwf]; exact Blk.new w17 _ _
 have HR := Lib.hid (row_four hkf L_17.out.size ⟨HPAA.out, VPA_12.out.later hbf, HOPA.out⟩ ⟨HPBA.out, VPB_8.out.later hbf, HOPB.out⟩ ⟨HCA.out, VC_3.out.later hbf, HOC.out⟩ ⟨HPDA.out, VPD_1.out.later hbf, HOPD.out⟩ : RowO w wf w17.heap.size [PA, PB, C, PD])
 have HBF := Lib.hid (below_then L_17.out hbf)
 clear hbf hkf
 cases okC
 all_goals
  go_wp2_with fail
  go_ret2
  refine ⟨_, rfl, ?_, HBF.out⟩
  have h := HR.out
  rw [← HPAq.out, ← HPBq.out, ← HPDq.out] at h
  exact h
end Go.Proofs.YtjbbbpgcegcbaaaGreatDoor
namespace Go.Proofs.YtjbbbpgcegcbaaaGreatDoor
open Go Go.RowKit
structure Made1 (n s : List UInt8) (d : Dw) (x : List UInt8) : Prop where
 nm : nameOk n = true
 sc : nameOk s = true
 resp : respL d.id s d.ch = (x, 0)
 len : x.length = 16
 id : 0 ≤ d.id ∧ d.id ≤ 255
 ch : 0 < d.ch.length ∧ d.ch.length ≤ 100
theorem made_of {n s : List UInt8} {d : Dw} (h : (newL (confG n s) d).1 = 0) : ∃ x, Made1 n s d x := by
 unfold newL at h
 by_cases h1 : (tgtR (confG n s)).1 ≠ 0
 ·rw [if_pos h1] at h
  exact absurd h h1
 ·have hok : CfOk (confG n s) := tgtR_ok.1 (Classical.not_not.1 h1)
  have hu := hok.us.1 ⟨n, s⟩ (by show _ ∈ [_]; simp)
  obtain ⟨_, s100', _⟩ := nameOk_is hu.2
  have s100 : s.length ≤ 100 := s100'
  rw [if_neg h1] at h
  rcases respL_ways d.id [] d.ch with ⟨e, _⟩ | ⟨e, _⟩ | ⟨y, e, _, _, i0, i1, _, c0, c1⟩
  ·rw [e, if_pos (by decide)] at h; exact absurd h (by decide)
  ·rw [e, if_pos (by decide)] at h; exact absurd h (by decide)
  ·rcases respL_ways d.id s d.ch with ⟨_, g⟩ | ⟨_, g⟩ | ⟨x, e2, lx, _⟩
   ·omega
   ·omega
   ·exact ⟨x, hu.1, hu.2, e2, lx, ⟨i0, i1⟩, ⟨c0, c1⟩⟩
theorem chk_one {n s x v t : List UInt8} {d : Dw} (m : Made1 n s d x) (hv : readV v = (t, 0, -1)) : chkL (confG n s).us n v d.id d.ch = if t = x then 0 else 13 := by
 have hf : usFind (confG n s).us n = some ⟨n, s⟩ := by
  show usFind [⟨n, s⟩] n = _
  simp [usFind]
 rw [chkL_of _ _ _ t d.id d.ch _ 0 (-1) hf hv]
 show chkR (t, 0) (respL d.id s d.ch) = _
 rw [m.resp]
 by_cases h : t = x
 ·rw [if_pos h, h, chkR_same]
 ·rw [if_neg h, chkR_other _ _ h]
theorem sec_in {n s x v : List UInt8} {d : Dw} (m : Made1 n s d x) (hv : readV v = (x, 0, -1)) :
  secC (confG n s) d none none (some n) (some v) (lgB n s) = (some [], { lgB n s with knw := true, usr := n }) := by
 unfold secC
 rw [if_neg (by simp), if_neg (by
  rintro (h | h | h | h | h | h)
  ·cases h
  ·cases h
  ·exact h rfl
  ·cases h
  ·cases h
  ·exact h (by simpa using (chk_one m hv))), if_pos rfl]
 rfl
theorem sec_out {n s x v t : List UInt8} {d : Dw} (m : Made1 n s d x) (hv : readV v = (t, 0, -1)) (ht : t ≠ x) :
  secC (confG n s) d none none (some n) (some v) (lgB n s) = (none, lgB n s) := by
 unfold secC
 rw [if_neg (by simp), if_pos (.inr (.inr (.inr (.inr (.inr (by
  show chkL (confG n s).us n v d.id d.ch ≠ 0
  rw [chk_one m hv, if_neg ht]
  decide))))))]
theorem reqC_take {n s x : List UInt8} {d : Dw} (hx : x.length ≤ 100000) : takeL (confG n s) d (lgB n s) ⟨reqC, [], x⟩ =
  (((replyL ⟨reqC, [], x⟩ (asksL (confG n s) d ⟨reqC, [], x⟩ (lgB n s))).1, 0), (replyL ⟨reqC, [], x⟩ (asksL (confG n s) d ⟨reqC, [], x⟩ (lgB n s))).2) :=
 req_take (by kernel_rfl) rfl hx rfl rfl
theorem step_in {n s x v : List UInt8} {d : Dw} (m : Made1 n s d x) (hv : isVal v = true) (hr : readV v = (x, 0, -1)) :
  takeL (confG n s) d (lgB n s) ⟨reqC, [], prBytes (proofP n v none)⟩ = ((⟨ansH reqC 129 0 2 77 0 0, [], []⟩, 0), { lgB n s with knw := true, usr := n, stg := 1, sta := 3, don := false }) := by
 have hn := (nameOk_is m.nm).2.2
 obtain ⟨_, _, k3⟩ := proof_ok (o := none) hn hv (fun p hp => absurd hp List.not_mem_nil)
 have hs : secC (confG n s) d ((none : Option (List UInt8 × List UInt8)).map (·.1)) ((none : Option (List UInt8 × List UInt8)).map (·.2)) (some n) (some v) (lgB n s) = (some [], { lgB n s with knw := true, usr := n }) := sec_in m hr
 have ha := asks_c (n := n) (s := s) (d := d) (o := none) hn hv (fun p hp => absurd hp List.not_mem_nil) (by
  intro y t e
  rw [hs] at e
  cases e
  rfl)
 rw [hs] at ha
 rw [reqC_take (by omega), ha]
 rfl
theorem step_out {n s x v t : List UInt8} {d : Dw} (m : Made1 n s d x) (hv : isVal v = true) (hr : readV v = (t, 0, -1)) (ht : t ≠ x) :
  takeL (confG n s) d (lgB n s) ⟨reqC, [], prBytes (proofP n v none)⟩ = ((⟨ansH reqC 0 0 2 77 2 1, [], []⟩, 0), { lgB n s with sta := 3, fld := true }) := by
 have hn := (nameOk_is m.nm).2.2
 obtain ⟨_, _, k3⟩ := proof_ok (o := none) hn hv (fun p hp => absurd hp List.not_mem_nil)
 have hs : secC (confG n s) d ((none : Option (List UInt8 × List UInt8)).map (·.1)) ((none : Option (List UInt8 × List UInt8)).map (·.2)) (some n) (some v) (lgB n s) = (none, lgB n s) := sec_out m hr ht
 have ha := asks_c (n := n) (s := s) (d := d) (o := none) hn hv (fun p hp => absurd hp List.not_mem_nil) (by
  intro y t e
  rw [hs] at e
  cases e)
 rw [hs] at ha
 rw [reqC_take (by omega), ha]
 rfl
theorem digC_sign : ∀ n : Nat, n < 16 → signB (digC n) = true := by
 have h : ∀ n : Fin 16, signB (digC n.1) = true := by decide
 exact fun n hn => h ⟨n, hn⟩
theorem hexOf_sign : ∀ l : List UInt8, (hexOf l).all signB = true
 | [] => rfl
 | b :: l => by
  have h1 := digC_sign (b.toNat / 16) (by have := b.toNat_lt; omega)
  have h2 := digC_sign (b.toNat % 16) (by omega)
  simp only [hexOf, List.all_cons, h1, h2, hexOf_sign l, Bool.and_self]
theorem hexL_val {l : List UInt8} (h : l.length ≤ 126) : isVal (hexL l) = true := by
 have hl := hexL_len l
 have hs : (hexL l).all signB = true := by
  unfold hexL
  simp only [List.all_cons, hexOf_sign, Bool.and_true]
  decide
 unfold isVal
 rw [hs, Bool.and_true, decide_eq_true_iff]
 omega
theorem itoa_val {i : Int} (h : 0 ≤ i ∧ i < 10000) : isVal (Lib.itoa i) = true := by
 obtain ⟨k, rfl⟩ : ∃ k : Nat, i = (k : Int) := ⟨i.toNat, by omega⟩
 have hl := decDigits_few 3 k (by omega)
 rw [Lib.itoa_nonneg]
 unfold isVal
 rw [decDigits_sign, Bool.and_true, decide_eq_true_iff]
 omega
theorem chal_ok {d : Dw} (hi : 0 ≤ d.id ∧ d.id ≤ 255) (hc : d.ch.length ≤ 100) : okPs (chalP d) :=
 ok_cons (six_right (by decide) (by decide)) (ok_cons (six_right (by decide) (itoa_val (by omega))) (ok_cons (six_right (by decide) (hexL_val (by omega))) ok_nil))
theorem chal_said {d : Dw} (hi : 0 ≤ d.id ∧ d.id ≤ 255) (hc : d.ch.length ≤ 100) :
  (prPrint (chalP d)).1 = prBytes (chalP d) ∧ prParse (prPrint (chalP d)).1 = (chalP d, 0, -1) ∧ (prPrint (chalP d)).1.length ≤ 8192 := by
 have hok := chal_ok hi hc
 have e : (prPrint (chalP d)).1 = prBytes (chalP d) := by
  unfold prPrint
  rw [if_pos (by rw [prRight_ok hok (by simp [chalP])])]
 have l1 := valLen (itoa_val (i := d.id) (by omega))
 have l2 := valLen (hexL_val (l := d.ch) (by omega))
 have e0 : (prBytes ([] : List Pr)).length = 0 := rfl
 have b1 := bytes_len2 (k := kCC) (by decide) l2 []
 have b2 := bytes_len2 (k := kCI) (by decide) l1 [⟨kCC, hexL d.ch⟩]
 have b3 := bytes_len2 (k := kCA) (v := [53]) (by decide) (by decide) [⟨kCI, Lib.itoa d.id⟩, ⟨kCC, hexL d.ch⟩]
 refine ⟨e, by rw [e, parse_bytes hok (by simp [chalP])], ?_⟩
 rw [e]
 show (prBytes [⟨kCA, [53]⟩, ⟨kCI, Lib.itoa d.id⟩, ⟨kCC, hexL d.ch⟩]).length ≤ 8192
 omega
theorem chal_found (d : Dw) : prFind (chalP d) kCC = some (hexL d.ch) ∧ prFind (chalP d) kCI = some (Lib.itoa d.id) ∧ (chalP d).length = 3 := ⟨by kernel_rfl, by kernel_rfl, rfl⟩
def confM (n s a b : List UInt8) : Cf := { confG n s with sn := a, ss := b }
def stMA (n s a b : List UInt8) : Lg := { lgA n s with mine := (confM n s a b).own }
def stMB (n s a b : List UInt8) : Lg := { lgB n s with mine := (confM n s a b).own }
theorem stepM_a (n s a b : List UInt8) (d : Dw) : takeL (confM n s a b) d (lg0 (confM n s a b)) ⟨reqA, [], prBytes [pIni, pSes, pMth]⟩ =
  ((⟨ansH reqA 0 0 0 77 0 0, [], [65, 117, 116, 104, 77, 101, 116, 104, 111, 100, 61, 67, 72, 65, 80, 0]⟩, 0), stMA n s a b) := by kernel_rfl
theorem stepM_b (n s a b : List UInt8) (d : Dw) : takeL (confM n s a b) d (stMA n s a b) ⟨reqA, [], prBytes [pAsk]⟩ =
  ((⟨ansH reqA 0 0 1 77 0 0, [], (prPrint (chalP d)).1⟩, 0), stMB n s a b) := by kernel_rfl
structure MadeM (n s a b : List UInt8) (d : Dw) (x : List UInt8) : Prop where
 one : Made1 n s d x
 self : (a = [] ∧ b = []) ∨ (nameOk a = true ∧ nameOk b = true)
theorem madeM_of {n s a b : List UInt8} {d : Dw} (h : (newL (confM n s a b) d).1 = 0) : ∃ x, MadeM n s a b d x := by
 unfold newL at h
 by_cases h1 : (tgtR (confM n s a b)).1 ≠ 0
 ·rw [if_pos h1] at h
  exact absurd h h1
 ·have hok : CfOk (confM n s a b) := tgtR_ok.1 (Classical.not_not.1 h1)
  have hu := hok.us.1 ⟨n, s⟩ (by show _ ∈ [_]; simp)
  obtain ⟨_, s100', _⟩ := nameOk_is hu.2
  have s100 : s.length ≤ 100 := s100'
  have hself : (a = [] ∧ b = []) ∨ (nameOk a = true ∧ nameOk b = true) := by
   have hr := hok.rest
   unfold restR at hr
   by_cases hs : selfBad a b
   ·rw [if_pos (show selfBad (confM n s a b).sn (confM n s a b).ss from hs)] at hr; exact absurd hr (by decide)
   ·unfold selfBad at hs
    by_cases e : a = [] ∧ b = []
    ·exact .inl e
    ·exact .inr (Classical.not_not.1 fun g => hs ⟨e, g⟩)
  rw [if_neg h1] at h
  rcases respL_ways d.id [] d.ch with ⟨e, _⟩ | ⟨e, _⟩ | ⟨y, e, _, _, i0, i1, _, c0, c1⟩
  ·rw [e, if_pos (by decide)] at h; exact absurd h (by decide)
  ·rw [e, if_pos (by decide)] at h; exact absurd h (by decide)
  ·rcases respL_ways d.id s d.ch with ⟨_, g⟩ | ⟨_, g⟩ | ⟨x, e2, lx, _⟩
   ·omega
   ·omega
   ·exact ⟨x, ⟨hu.1, hu.2, e2, lx, ⟨i0, i1⟩, ⟨c0, c1⟩⟩, hself⟩
theorem asksM_c {n s a b : List UInt8} {d : Dw} {u v : List UInt8} {o : Option (List UInt8 × List UInt8)} (hu : isVal u = true) (hv : isVal v = true) (ho : ∀ p ∈ moreP o, isVal p.v = true)
  (hk : ∀ x t, secC (confM n s a b) d (o.map (·.1)) (o.map (·.2)) (some u) (some v) (stMB n s a b) = (some x, t) → t.knw = true) :
  asksL (confM n s a b) d ⟨reqC, [], prBytes (proofP u v o)⟩ (stMB n s a b) = doneC (secC (confM n s a b) d (o.map (·.1)) (o.map (·.2)) (some u) (some v) (stMB n s a b)) := by
 obtain ⟨k1, k2, k3⟩ := proof_ok hu hv ho
 rw [asks_whole (by kernel_rfl) (by kernel_rfl) rfl k1 k2 k3]
 rw [show firstL (confM n s a b) reqC (stMB n s a b) = stMB n s a b from rfl, text_later rfl, sec_c rfl, rest_none]
 generalize secC (confM n s a b) d (o.map (·.1)) (o.map (·.2)) (some u) (some v) (stMB n s a b) = r at hk ⊢
 obtain ⟨x, t⟩ := r
 cases x with
 | none => rfl
 | some x =>
  have ht := hk x t rfl
  simp only
  rw [if_neg (by simp), ans_none]
  simp only
  rw [if_neg (by simp), List.append_nil]
  unfold doneL doneC
  simp only
  rw [if_neg (by simp), if_pos ⟨by kernel_rfl, ht⟩]
  rfl
theorem secM_in {n s a b x v i cc : List UInt8} {d : Dw} (m : MadeM n s a b d x) (hv : readV v = (x, 0, -1)) :
  secC (confM n s a b) d (some i) (some cc) (some n) (some v) (stMB n s a b) = (secM (confM n s a b) d i cc, { stMB n s a b with knw := true, usr := n }) := by
 unfold secC
 rw [if_neg (by simp), if_neg (by
  rintro (h | h | h | h | h | h)
  ·cases h
  ·cases h
  ·exact h rfl
  ·cases h
  ·cases h
  ·exact h ((chk_one m.one hv).trans (if_pos rfl))), if_neg (by simp)]
 rfl
theorem secM_is {n s a b i cc t : List UInt8} {d : Dw} {k : Int} (hi : numE i 0 255 = (k, 0)) (hc : readV cc = (t, 0, -1)) :
  secM (confM n s a b) d i cc = if t = d.ch ∨ a = [] ∨ (respL k b t).2 ≠ 0 then none else some [⟨kCN, a⟩, ⟨kCR, hexL (respL k b t).1⟩] := by
 unfold secM
 rw [hi, hc]
 simp only
 by_cases h : t = d.ch ∨ a = [] ∨ (respL k b t).2 ≠ 0
 ·rw [if_pos h, if_pos (.inr (.inr h))]
 ·rw [if_neg h, if_neg (by
   rintro (g | g | g)
   ·exact g rfl
   ·exact g rfl
   ·exact h g)]
  rfl
theorem secM_bad {n s a b i cc : List UInt8} {d : Dw} (h : (numE i 0 255).2 ≠ 0) : secM (confM n s a b) d i cc = none := by
 unfold secM
 rw [if_pos (.inl h)]
theorem more_val {i cc : List UInt8} (hi : isVal i = true) (hc : isVal cc = true) : ∀ p ∈ moreP (some (i, cc)), isVal p.v = true := by
 intro p hp
 rcases List.mem_cons.1 hp with rfl | hp
 ·exact hi
 ·rcases List.mem_cons.1 hp with rfl | hp
  ·exact hc
  ·exact absurd hp List.not_mem_nil
theorem reqM_take {n s a b x : List UInt8} {d : Dw} (hx : x.length ≤ 100000) : takeL (confM n s a b) d (stMB n s a b) ⟨reqC, [], x⟩ =
  (((replyL ⟨reqC, [], x⟩ (asksL (confM n s a b) d ⟨reqC, [], x⟩ (stMB n s a b))).1, 0), (replyL ⟨reqC, [], x⟩ (asksL (confM n s a b) d ⟨reqC, [], x⟩ (stMB n s a b))).2) :=
 req_take (by kernel_rfl) rfl hx rfl rfl
theorem stepM_in {n s a b x v i cc : List UInt8} {d : Dw} {y : List Pr} (m : MadeM n s a b d x) (hv : isVal v = true) (hr : readV v = (x, 0, -1)) (hi : isVal i = true) (hc : isVal cc = true) (hs : secM (confM n s a b) d i cc = some y) :
  takeL (confM n s a b) d (stMB n s a b) ⟨reqC, [], prBytes (proofP n v (some (i, cc)))⟩ = ((⟨ansH reqC 129 0 2 77 0 0, [], (prPrint y).1⟩, 0), { stMB n s a b with knw := true, usr := n, stg := 1, sta := 3, don := false }) := by
 have hn := (nameOk_is m.one.nm).2.2
 obtain ⟨_, _, k3⟩ := proof_ok (o := some (i, cc)) hn hv (more_val hi hc)
 have e : secC (confM n s a b) d ((some (i, cc)).map (·.1)) ((some (i, cc)).map (·.2)) (some n) (some v) (stMB n s a b) = (some y, { stMB n s a b with knw := true, usr := n }) := by
  rw [← hs]
  exact secM_in m hr
 have ha := asksM_c (n := n) (s := s) (a := a) (b := b) (d := d) (o := some (i, cc)) hn hv (more_val hi hc) (by
  intro z t g
  rw [e] at g
  cases g
  rfl)
 rw [e] at ha
 rw [reqM_take (by omega), ha]
 rfl
theorem stepM_none {n s a b x v i cc : List UInt8} {d : Dw} (m : MadeM n s a b d x) (hv : isVal v = true) (hr : readV v = (x, 0, -1)) (hi : isVal i = true) (hc : isVal cc = true) (hs : secM (confM n s a b) d i cc = none) :
  takeL (confM n s a b) d (stMB n s a b) ⟨reqC, [], prBytes (proofP n v (some (i, cc)))⟩ = ((⟨ansH reqC 0 0 2 77 2 1, [], []⟩, 0), { stMB n s a b with knw := true, usr := n, sta := 3, fld := true }) := by
 have hn := (nameOk_is m.one.nm).2.2
 obtain ⟨_, _, k3⟩ := proof_ok (o := some (i, cc)) hn hv (more_val hi hc)
 have e : secC (confM n s a b) d ((some (i, cc)).map (·.1)) ((some (i, cc)).map (·.2)) (some n) (some v) (stMB n s a b) = (none, { stMB n s a b with knw := true, usr := n }) := by
  rw [← hs]
  exact secM_in m hr
 have ha := asksM_c (n := n) (s := s) (a := a) (b := b) (d := d) (o := some (i, cc)) hn hv (more_val hi hc) (by
  intro z t g
  rw [e] at g
  cases g)
 rw [e] at ha
 rw [reqM_take (by omega), ha]
 rfl
theorem back_said {a r : List UInt8} (ha : isVal a = true) (hr : r.length ≤ 126) : (prPrint [⟨kCN, a⟩, ⟨kCR, hexL r⟩]).1 = prBytes [⟨kCN, a⟩, ⟨kCR, hexL r⟩] ∧ prParse (prPrint [⟨kCN, a⟩, ⟨kCR, hexL r⟩]).1 = ([⟨kCN, a⟩, ⟨kCR, hexL r⟩], 0, -1) := by
 have hok : okPs [⟨kCN, a⟩, ⟨kCR, hexL r⟩] := ok_cons (six_right (by decide) ha) (ok_cons (six_right (by decide) (hexL_val hr)) ok_nil)
 have e : (prPrint [⟨kCN, a⟩, ⟨kCR, hexL r⟩]).1 = prBytes [⟨kCN, a⟩, ⟨kCR, hexL r⟩] := by
  unfold prPrint
  rw [if_pos (by rw [prRight_ok hok (by simp)])]
 exact ⟨e, by rw [e, parse_bytes hok (by simp)]⟩
end Go.Proofs.YtjbbbpgcegcbaaaGreatDoor
namespace Go.Proofs.YtjbbbpgcegcbaaaGreatDoor
theorem hexV_dig (n : Nat) (h : n < 16) : hexV (digC n) = some n := by
 have : ∀ n : Fin 16, hexV (digC n.1) = some n.1 := by decide +kernel
 exact this ⟨n, h⟩
theorem hexN_dig (n : Nat) (h : n < 16) : hexN (digC n) = n := by unfold hexN; rw [hexV_dig n h]; rfl
theorem hexRow_hexOf : ∀ (l : List UInt8) (i : Nat), 2 * l.length ≤ i → hexRow (hexOf l) i = l
 | [], _, _ => rfl
 | b :: l, i, h => by
  have hb := b.toNat_lt
  simp only [List.length_cons] at h
  show UInt8.ofNat _ :: hexRow (hexOf l) (i - 2) = _
  rw [hexRow_hexOf l (i - 2) (by omega), if_neg (by omega), if_neg (by omega), hexN_dig _ (by omega), hexN_dig _ (by omega)]
  congr 1
  rw [show b.toNat / 16 * 16 + b.toNat % 16 = b.toNat from by omega]
  simp
theorem hexOf_good : ∀ (l : List UInt8), ∀ x ∈ hexOf l, (hexV x).isNone = false
 | [], x, h => by cases h
 | b :: l, x, h => by
  have hb := b.toNat_lt
  simp only [hexOf, List.mem_cons] at h
  rcases h with rfl | rfl | h
  ·rw [hexV_dig _ (by omega)]; rfl
  ·rw [hexV_dig _ (by omega)]; rfl
  ·exact hexOf_good l x h
theorem readHex_hexOf (l : List UInt8) : readHex (hexOf l) = (l, 0, -1) := by
 unfold readHex
 rw [if_neg (by rw [hexOf_len]; omega), List.findIdx?_eq_none_iff.2 (hexOf_good l)]
 show (unhex (hexOf l), (0 : Int), (-1 : Int)) = _
 unfold unhex
 rw [hexRow_hexOf l _ (by rw [hexOf_len]; omega)]
def Good (l : List UInt8) : Prop := ∀ x ∈ l, decide (letN x < 0) = false
end Go.Proofs.YtjbbbpgcegcbaaaGreatDoor
namespace Go.Proofs.YtjbbbpgcegcbaaaGreatDoor
open Go.RowKit
theorem readV_hexL (l : List UInt8) : readV (hexL l) = (l, 0, -1) := by unfold hexL; rw [readV_hex _ _ (.inl rfl), readHex_hexOf]
end Go.Proofs.YtjbbbpgcegcbaaaGreatDoor
