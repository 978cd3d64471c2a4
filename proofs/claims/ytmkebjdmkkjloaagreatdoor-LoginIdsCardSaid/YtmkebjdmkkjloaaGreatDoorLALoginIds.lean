/- LoginIds: for every input the law's function returns true, and what came in reads as it did. -/
import Derived.Carry
import Derived.ChangeOld
import Derived.Deep.DeepHandedRow
import Derived.Deep.DeepWitnessRowRef
import Derived.Lib.LaidU8
import Derived.OpenShut
import Derived.ProofKit
import Derived.SevenTiedAt
import Derived.ShapedOpen
import Derived.ShutString
import Derived.SizedLaws
import Derived.Test.YtmkebjdmkkjloaaGreatDoorCards
import Derived.Test.YtmkebjdmkkjloaaGreatDoorTie
import GoSem.PinnedTables
import Derived.Test.YtmkebjdmkkjloaaGreatDoorLA41
import Derived.Test.YtmkebjdmkkjloaaGreatDoorLA42
import Derived.Test.YtmkebjdmkkjloaaGreatDoorLA43
namespace Go.Proofs.YtmkebjdmkkjloaaGreatDoor
open Go Go.RowKit
set_option linter.unusedVariables false
theorem fill_ids (v t : Nat) : fill kd3.fs [[73, 83, 73, 68], [67, 73, 68]] [v, t] (List.replicate kd3.fs.length 0) = ([0, 0, v, 0, 0, t, 0, 0], 0) := by
 unfold kd3
 simp [fill, idxName]
theorem ids_asks : asksR 4 hello = (idsA, true) := by kernel_rfl
theorem idsA_fit : ∀ p ∈ [idsA], FitP p := fun p hp => by
 rw [List.mem_singleton.1 hp]
 exact ⟨by show I64 4; unfold I64; decide, by decide, ⟨by decide, fun _ h => absurd h List.not_mem_nil⟩, by decide +kernel⟩
set_option maxRecDepth 100000 in
set_option maxHeartbeats 8000000 in
theorem loginIds_any (a b : Int) (w : World) (wa : (Lit.int .u64 a).wf = true) (wb : (Lit.int .u64 b).wf = true) (hE : EnvL w) :
  Calls Tryz.prog 9 #[.int .u64 a, .int .u64 b] w fun e w' => e = .returned (.bool true) ∧ Below w.heap.size w w' := by
 obtain ⟨na, rfl, hna⟩ := wf_u64 wa
 obtain ⟨nb, rfl, hnb⟩ := wf_u64 wb
 have hA : bits .and .u64 (na : Int) 281474976710655 = ((na % 2 ^ 48 : Nat) : Int) := u64_mask na 48 281474976710655 (by omega) (by decide) (by decide)
 have hB : bits .and .u64 (nb : Int) 65535 = ((nb % 2 ^ 16 : Nat) : Int) := u64_mask nb 16 65535 (by omega) (by decide) (by decide)
 obtain ⟨i, hi⟩ : ∃ v, na % 2 ^ 48 = v := ⟨_, rfl⟩
 obtain ⟨k, hk0⟩ : ∃ t, nb % 2 ^ 16 = t := ⟨_, rfl⟩
 have HI := Lib.hid (show i < 281474976710656 by rw [← hi]; exact Nat.mod_lt _ (by decide))
 have HJ := Lib.hid (show k < 65536 by rw [← hk0]; exact Nat.mod_lt _ (by decide))
 rw [hi] at hA
 rw [hk0] at hB
 have HC0 := Lib.hid conf0_ok
 clear hi hk0 wa wb hna hnb
 have L_0 := Lib.hid (Below.refl w.heap.size w)
 have E_0 := Lib.hid (hE)
 clear hE
 go_enter Tryz.func9, Tryz.ntmps9
 have EN := entered_any w E_0.out
 replace EN := Lib.hid EN
 go_wp2_with fail
 refine EN.out.mono ?_
 rintro e w1 ⟨rfl, hb⟩
 clear EN
 have L_1 := Lib.hid (below_then L_0.out hb)
 have E_1 := Lib.hid (E_0.out.later hb)
 clear L_0 E_0
 clear hb
 have C := conf_any w1
 unfold confV at C
 replace C := Lib.hid C
 go_wp2_with fail
 refine C.out.mono ?_
 rintro e w2 ⟨vt, vp, rfl, hvc, hb⟩
 clear C
 have L_2 := Lib.hid (below_then L_1.out hb)
 have E_2 := Lib.hid (E_1.out.later hb)
 clear L_1 E_1
 clear hb
 have VC_0 := Lib.hid (hvc)
 clear hvc
 have D := draw_any w2
 replace D := Lib.hid D
 go_wp2_with fail
 refine D.out.mono ?_
 rintro e w3 ⟨rfl, hb⟩
 clear D
 have L_3 := Lib.hid (below_then L_2.out hb)
 have E_3 := Lib.hid (E_2.out.later hb)
 have VC_1 := Lib.hid (VC_0.out.later hb)
 clear L_2 E_2 VC_0
 clear hb
 have LB_0 := Lib.hid (L_3.out)
 have EB_0 := Lib.hid (E_3.out)
 have N := new_ls conf0 dw0 vt vp _ _ w3 VC_1.out conf0_fit EB_0.out new_conf0
 unfold confV at N
 replace N := Lib.hid N
 go_wp2_with fail
 refine N.out.mono ?_
 rintro e w4 ⟨lb, m, rfl, hL, -⟩
 clear N
 have L_4 := Lib.hid (below_then L_3.out hL.low)
 have E_4 := Lib.hid (E_3.out.later hL.low)
 have VC_2 := Lib.hid (VC_1.out.later hL.low)
 clear L_3 E_3 VC_1
 clear VC_2
 have S_0 := Lib.hid (hL)
 clear hL
 have Q1 := pair_any [73, 110, 105, 116, 105, 97, 116, 111, 114, 78, 97, 109, 101] [109, 101] w4
 replace Q1 := Lib.hid Q1
 go_wp2_with fail
 refine Q1.out.mono ?_
 rintro e w5 ⟨rfl, hb⟩
 clear Q1
 have L_5 := Lib.hid (below_then L_4.out hb)
 have E_5 := Lib.hid (E_4.out.later hb)
 have S_1 := Lib.hid (S_0.out.later hb)
 clear L_4 E_4 S_0
 clear hb
 have Q2 := pair_any [83, 101, 115, 115, 105, 111, 110, 84, 121, 112, 101] [68, 105, 115, 99, 111, 118, 101, 114, 121] w5
 replace Q2 := Lib.hid Q2
 go_wp2_with fail
 refine Q2.out.mono ?_
 rintro e w6 ⟨rfl, hb⟩
 clear Q2
 have L_6 := Lib.hid (below_then L_5.out hb)
 have E_6 := Lib.hid (E_5.out.later hb)
 have S_2 := Lib.hid (S_1.out.later hb)
 clear L_5 E_5 S_1
 clear hb
 obtain ⟨w7, hw7⟩ : ∃ x, w6.alloc (.cells #[.string (S [73, 110, 105, 116, 105, 97, 116, 111, 114, 78, 97, 109, 101]), .string (S [109, 101]), .string (S [83, 101, 115, 115, 105, 111, 110, 84, 121, 112, 101]), .string (S [68, 105, 115, 99, 111, 118, 101, 114, 121])] 61) = x := ⟨_, rfl⟩
 have hb : Below w6.heap.size w6 w7 := by rw [← hw7]; exact (Below.refl _ _).alloc (Nat.le_refl _) _
 have hk : Blk w7 w6.heap.size #[.string (S [73, 110, 105, 116, 105, 97, 116, 111, 114, 78, 97, 109, 101]), .string (S [109, 101]), .string (S [83, 101, 115, 115, 105, 111, 110, 84, 121, 112, 101]), .string (S [68, 105, 115, 99, 111, 118, 101, 114, 121])] 61 := by rw [← hw7]; exact Blk.new w6 _ _
 have hp : PrsV w7 (.slice (some ⟨w6.heap.size, 0, none⟩) 2 2) hello := by rw [← hw7]; exact prs_new w6 hello _
 clear hk
 have L_7 := Lib.hid (below_then L_6.out hb)
 have E_7 := Lib.hid (E_6.out.later hb)
 have S_3 := Lib.hid (S_2.out.later hb)
 clear L_6 E_6 S_2
 clear hb
 have A := asks_any 4 hello _ w7 (by unfold I64; decide) hp ⟨by decide, by decide⟩ E_7.out.env.mc
 rw [ids_asks] at A
 unfold RetAsks pduV at A
 simp only at A
 obtain ⟨P, hP⟩ : ∃ P, idsA = P := ⟨_, rfl⟩
 rw [hP] at A
 have HPa := Lib.hid (show P.a = [] by rw [← hP]; rfl)
 have HPf := Lib.hid (show ∀ p ∈ [P], FitP p by rw [← hP]; exact idsA_fit)
 have HT1 := Lib.hid (show Took conf0 dw0 (lg0 conf0) P by rw [← hP]; exact idsA_took)
 have HS1 := Lib.hid (show (takeL conf0 dw0 (lg0 conf0) P).2 = idsS by rw [← hP]; rfl)
 clear hP
 replace A := Lib.hid A
 clear hp
 go_wp2_with fail
 clear hw7
 refine A.out.mono ?_
 rintro e w8 ⟨vv, rfl, hvv, hown, hb⟩
 obtain ⟨pvP, cvP, rfl⟩ : ∃ p c, vv = .slice p P.h.vs.length c := by obtain ⟨p, c, h, _⟩ := hvv; exact ⟨p, c, h⟩
 have hPd : PduAt (offW (m.H lb) w8) P (.slice pvP P.h.vs.length cvP) (.slice none 0 0) := PduAt.offO hvv HPa.out hown S_3.out.fresh
 clear hvv hown A
 have L_8 := Lib.hid (below_then L_7.out hb)
 have E_8 := Lib.hid (E_7.out.later hb)
 have S_4 := Lib.hid (S_3.out.later hb)
 clear L_7 E_7 S_3
 clear hb
 have PP_0 := Lib.hid (hPd)
 clear hPd
 have hn : ¬ m.H lb w8.heap.size := fun hh => by have := S_4.out.fresh _ hh; omega
 obtain ⟨w9, hw9⟩ : ∃ x, w8.alloc (.cells #[.int .i64 P.h.op, .bool P.h.now, .int .i64 P.h.fl, .slice pvP P.h.vs.length cvP, .slice none 0 0, .string (S P.d)] 41) = x := ⟨_, rfl⟩
 have hb : Below w8.heap.size w8 w9 := by rw [← hw9]; exact (Below.refl _ _).alloc (Nat.le_refl _) _
 have hk : Blk w9 w8.heap.size #[.int .i64 P.h.op, .bool P.h.now, .int .i64 P.h.fl, .slice pvP P.h.vs.length cvP, .slice none 0 0, .string (S P.d)] 41 := by rw [← hw9]; exact Blk.new w8 _ _
 obtain ⟨bP, hbP⟩ : ∃ x, w8.heap.size = x := ⟨_, rfl⟩
 rw [hbP] at hk hn
 have L_9 := Lib.hid (below_then L_8.out hb)
 have E_9 := Lib.hid (E_8.out.later hb)
 have S_5 := Lib.hid (S_4.out.later hb)
 have PP_1 := Lib.hid (PP_0.out.later (Keeps.of hb _).off')
 clear L_8 E_8 S_4 PP_0
 clear hb
 have KP_0 := Lib.hid (hk)
 have NP_0 := Lib.hid (hn)
 clear hk hn
 obtain ⟨w10, hw10⟩ : ∃ x, w9.alloc (.cells #[.string (S [73, 83, 73, 68]), .string (S [67, 73, 68])] 9) = x := ⟨_, rfl⟩
 have hb : Below w9.heap.size w9 w10 := by rw [← hw10]; exact (Below.refl _ _).alloc (Nat.le_refl _) _
 have hk : Blk w10 w9.heap.size #[.string (S [73, 83, 73, 68]), .string (S [67, 73, 68])] 9 := by rw [← hw10]; exact Blk.new w9 _ _
 have hk1 := hk
 clear hk
 have hb1 := hb
 have L_10 := Lib.hid (below_then L_9.out hb)
 have E_10 := Lib.hid (E_9.out.later hb)
 have S_6 := Lib.hid (S_5.out.later hb)
 have PP_2 := Lib.hid (PP_1.out.later (Keeps.of hb _).off')
 have KP_1 := Lib.hid (KP_0.out.later hb)
 clear L_9 E_9 S_5 PP_1 KP_0
 clear hb
 obtain ⟨w11, hw11⟩ : ∃ x, w10.alloc (.cells #[.int .u64 i, .int .u64 k] 49) = x := ⟨_, rfl⟩
 have hb : Below w10.heap.size w10 w11 := by rw [← hw11]; exact (Below.refl _ _).alloc (Nat.le_refl _) _
 have hk : Blk w11 w10.heap.size #[.int .u64 i, .int .u64 k] 49 := by rw [← hw11]; exact Blk.new w10 _ _
 have hN : StrV w11 (.slice (some ⟨w9.heap.size, 0, none⟩) 2 2) [[73, 83, 73, 68], [67, 73, 68]] := strs_row (l := [[73, 83, 73, 68], [67, 73, 68]]) (hk1.later hb)
 have hVs : Vals w11 (.slice (some ⟨w10.heap.size, 0, none⟩) 2 2) [i, k] := vals_row (l := [i, k]) hk (fun x hx => by
   have := HI.out
   have := HJ.out
   rcases List.mem_cons.1 hx with rfl | hx
   ·omega
   ·rcases List.mem_cons.1 hx with rfl | hx
    ·omega
    ·exact absurd hx List.not_mem_nil)
 clear hk hk1 hb1
 have L_11 := Lib.hid (below_then L_10.out hb)
 have E_11 := Lib.hid (E_10.out.later hb)
 have S_7 := Lib.hid (S_6.out.later hb)
 have PP_3 := Lib.hid (PP_2.out.later (Keeps.of hb _).off')
 have KP_2 := Lib.hid (KP_1.out.later hb)
 clear L_10 E_10 S_6 PP_2 KP_1
 clear hb
 have MK := makeO_any 3 135 [[73, 83, 73, 68], [67, 73, 68]] [i, k] _ _ w11 (by unfold I64; decide) E_11.out.env.mc hN hVs (by decide) (by simp)
 rw [make_req (b := 0) (i := i) (t := 0) (k := 0) (c := k) (m := 0) (by decide) (by decide) HI.out (by decide) (by decide) HJ.out (by decide) (fill_ids i k)] at MK
 unfold RetHeadO headV at MK
 simp only [reqH] at MK
 obtain ⟨sb0, hsb0⟩ : ∃ x, w9.heap.size = x := ⟨_, rfl⟩
 rw [hsb0] at MK
 obtain ⟨sb1, hsb1⟩ : ∃ x, w10.heap.size = x := ⟨_, rfl⟩
 rw [hsb1] at MK
 replace MK := Lib.hid MK
 clear hN hVs
 go_wp2_with fail
 clear hw9 hw10 hw11
 refine MK.out.mono ?_
 rintro e w12 ⟨vh, ev, rfl, ⟨hvh, hown⟩, herr, hb⟩
 clear MK
 obtain rfl := herr.zero
 clear herr
 obtain ⟨ph, ch, rfl⟩ : ∃ p c, vh = .slice p 8 c := by obtain ⟨p, c, h, _⟩ := hvh; exact ⟨p, c, h⟩
 obtain ⟨R, hR⟩ : ∃ x : Pd, (⟨reqH 135 0 0 i 0 0 k 0 0, [], []⟩ : Pd) = x := ⟨_, rfl⟩
 have hPd : PduAt (offW (m.H lb) w12) R (.slice ph 8 ch) (.slice none 0 0) := by rw [← hR]; exact PduAt.offO hvh rfl hown S_7.out.fresh
 have HRq := Lib.hid hR
 clear hvh hown hR
 have L_12 := Lib.hid (below_then L_11.out hb)
 have E_12 := Lib.hid (E_11.out.later hb)
 have S_8 := Lib.hid (S_7.out.later hb)
 have PP_4 := Lib.hid (PP_3.out.later (Keeps.of hb _).off')
 have KP_3 := Lib.hid (KP_2.out.later hb)
 clear L_11 E_11 S_7 PP_3 KP_2
 clear hb
 have PR_0 := Lib.hid (hPd)
 clear hPd
 have hn : ¬ m.H lb w12.heap.size := fun hh => by have := S_8.out.fresh _ hh; omega
 obtain ⟨w13, hw13⟩ : ∃ x, w12.alloc (.cells #[.int .i64 3, .bool false, .int .i64 135, .slice ph 8 ch] 38) = x := ⟨_, rfl⟩
 have hb : Below w12.heap.size w12 w13 := by rw [← hw13]; exact (Below.refl _ _).alloc (Nat.le_refl _) _
 have hk : Blk w13 w12.heap.size #[.int .i64 3, .bool false, .int .i64 135, .slice ph 8 ch] 38 := by rw [← hw13]; exact Blk.new w12 _ _
 obtain ⟨hdb, hhdb⟩ : ∃ x, w12.heap.size = x := ⟨_, rfl⟩
 rw [hhdb] at hk hn
 have L_13 := Lib.hid (below_then L_12.out hb)
 have E_13 := Lib.hid (E_12.out.later hb)
 have S_9 := Lib.hid (S_8.out.later hb)
 have PP_5 := Lib.hid (PP_4.out.later (Keeps.of hb _).off')
 have KP_4 := Lib.hid (KP_3.out.later hb)
 have PR_1 := Lib.hid (PR_0.out.later (Keeps.of hb _).off')
 clear L_12 E_12 S_8 PP_4 KP_3 PR_0
 clear hb
 have KH_0 := Lib.hid (hk)
 have NH_0 := Lib.hid (hn)
 clear hk hn
 obtain ⟨cKP0, cKP1, cKP2, cKP3, cKP4, cKP5⟩ := KP_4.out.six
 obtain ⟨cKH0, cKH1, cKH2, cKH3⟩ := KH_0.out.four
 have hn : ¬ m.H lb w13.heap.size := fun hh => by have := S_9.out.fresh _ hh; omega
 have hone := pdus_one (t := 41) PP_5.out hn
 obtain ⟨w14, hw14⟩ : ∃ x, w13.alloc (.cells #[.int .i64 P.h.op, .bool P.h.now, .int .i64 P.h.fl, .slice pvP P.h.vs.length cvP, .slice none 0 0, .string (S P.d)] 41) = x := ⟨_, rfl⟩
 have hb : Below w13.heap.size w13 w14 := by rw [← hw14]; exact (Below.refl _ _).alloc (Nat.le_refl _) _
 have hk : Blk w14 w13.heap.size #[.int .i64 P.h.op, .bool P.h.now, .int .i64 P.h.fl, .slice pvP P.h.vs.length cvP, .slice none 0 0, .string (S P.d)] 41 := by rw [← hw14]; exact Blk.new w13 _ _
 rw [hw14] at hone
 clear hn hk
 have L_14 := Lib.hid (below_then L_13.out hb)
 have E_14 := Lib.hid (E_13.out.later hb)
 have S_10 := Lib.hid (S_9.out.later hb)
 have PP_6 := Lib.hid (PP_5.out.later (Keeps.of hb _).off')
 have KP_5 := Lib.hid (KP_4.out.later hb)
 have PR_2 := Lib.hid (PR_1.out.later (Keeps.of hb _).off')
 have KH_1 := Lib.hid (KH_0.out.later hb)
 clear L_13 E_13 S_9 PP_5 KP_4 PR_1 KH_0
 clear hb
 have KN := knock_any [P] _ S_10.out hone HPf.out (by simp) EB_0.out HC0.out dw0_ok
 rw [knock_one HT1.out.err] at KN
 obtain ⟨qbA, hqbA⟩ : ∃ x, w13.heap.size = x := ⟨_, rfl⟩
 rw [hqbA] at KN
 have hst := HT1.out.stat
 have hlen := HT1.out.len
 have hdat := HT1.out.data
 have hdon := HT1.out.don
 have hfld := HT1.out.fld
 have htgt := HT1.out.tgt
 have hdsc := HT1.out.dsc
 obtain ⟨⟨⟨A, nA⟩, s1⟩, hT⟩ : ∃ r, takeL conf0 dw0 (lg0 conf0) P = r := ⟨_, rfl⟩
 rw [hT] at hst hlen hdat hdon hfld htgt hdsc KN
 unfold RetKnock pduV at KN
 simp only at hst hlen hdat hdon hfld htgt hdsc KN
 replace KN := Lib.hid KN
 have HstA := Lib.hid hst
 have HlenA := Lib.hid hlen
 have HdatA := Lib.hid hdat
 have HdonA := Lib.hid hdon
 have HfldA := Lib.hid hfld
 have HtgtA := Lib.hid htgt
 have HdscA := Lib.hid hdsc
 have HTA := Lib.hid hT
 clear hone hst hlen hdat hdon hfld htgt hdsc hT
 go_wp2_with fail
 clear hw13 hw14
 clear cKP0 cKP1 cKP2 cKP3 cKP4 cKP5 cKH0 cKH1 cKH2 cKH3
 refine KN.out.mono ?_
 rintro e w15 ⟨m', qA, vv, va, rfl, hPA, hLS, hKK⟩
 clear KN
 have PP_7 := Lib.hid (PP_6.out.later hKK.off')
 have KP_6 := Lib.hid (KP_5.out.kp hKK NP_0.out)
 have PR_3 := Lib.hid (PR_2.out.later hKK.off')
 have KH_2 := Lib.hid (KH_1.out.kp hKK NH_0.out)
 have L_15 := Lib.hid (below_then LB_0.out hLS.low)
 have E_15 := Lib.hid (EB_0.out.later hLS.low)
 have S_11 := Lib.hid (hLS)
 have NP_1 := Lib.hid (fun hh => (hKK.old _ hh).elim NP_0.out (fun h => by have := KP_5.out.lt; omega))
 have NH_1 := Lib.hid (fun hh => (hKK.old _ hh).elim NH_0.out (fun h => by have := KH_1.out.lt; omega))
 clear PP_6 KP_5 PR_2 KH_1 L_14 E_14 S_10 NP_0 NH_0
 obtain ⟨p3A, c3A, rfl⟩ : ∃ p c, vv = .slice p A.h.vs.length c := by obtain ⟨p, c, h, _⟩ := hPA.v; exact ⟨p, c, h⟩
 obtain ⟨p4A, c4A, rfl⟩ := hPA.a.form
 have PA_0 := Lib.hid (hPA)
 clear hPA hLS hKK
 have hn : ¬ m'.H lb w15.heap.size := fun hh => by have := S_11.out.fresh _ hh; omega
 obtain ⟨w16, hw16⟩ : ∃ x, w15.alloc (.cells #[.int .i64 A.h.op, .bool A.h.now, .int .i64 A.h.fl, .slice p3A A.h.vs.length c3A, .slice p4A A.a.length c4A, .string (S A.d)] 41) = x := ⟨_, rfl⟩
 have hb : Below w15.heap.size w15 w16 := by rw [← hw16]; exact (Below.refl _ _).alloc (Nat.le_refl _) _
 have hk : Blk w16 w15.heap.size #[.int .i64 A.h.op, .bool A.h.now, .int .i64 A.h.fl, .slice p3A A.h.vs.length c3A, .slice p4A A.a.length c4A, .string (S A.d)] 41 := by rw [← hw16]; exact Blk.new w15 _ _
 obtain ⟨bA, hbA⟩ : ∃ x, w15.heap.size = x := ⟨_, rfl⟩
 rw [hbA] at hk hn
 have L_16 := Lib.hid (below_then L_15.out hb)
 have E_16 := Lib.hid (E_15.out.later hb)
 have S_12 := Lib.hid (S_11.out.later hb)
 have PP_8 := Lib.hid (PP_7.out.later (Keeps.of hb _).off')
 have KP_7 := Lib.hid (KP_6.out.later hb)
 have PR_4 := Lib.hid (PR_3.out.later (Keeps.of hb _).off')
 have KH_3 := Lib.hid (KH_2.out.later hb)
 have PA_1 := Lib.hid (PA_0.out.later (Keeps.of hb _).off')
 clear L_15 E_15 S_11 PP_7 KP_6 PR_3 KH_2 PA_0
 clear hb
 have KA_0 := Lib.hid (hk)
 have NA_0 := Lib.hid (hn)
 clear hk hn
 have hs1 := HTA.out
 obtain rfl : s1 = idsS := by have := HS1.out; rw [hs1] at this; exact this
 clear hs1
 have HRf := Lib.hid (show ∀ p ∈ [R], FitP p from fun p hp => by
  rw [List.mem_singleton.1 hp, ← HRq.out]
  exact ⟨by show I64 135; unfold I64; decide, by show 8 ≤ _; decide, ⟨Nat.zero_le _, fun _ h => absurd h List.not_mem_nil⟩, Nat.zero_le _⟩)
 have hpl := ids_plain HI.out HJ.out
 rw [HRq.out] at hpl
 have HT2 := Lib.hid hpl.1
 have HW := Lib.hid hpl.2
 clear hpl
 obtain ⟨cKP0, cKP1, cKP2, cKP3, cKP4, cKP5⟩ := KP_7.out.six
 obtain ⟨cKH0, cKH1, cKH2, cKH3⟩ := KH_3.out.four
 obtain ⟨cKA0, cKA1, cKA2, cKA3, cKA4, cKA5⟩ := KA_0.out.six
 have hn : ¬ m'.H lb w16.heap.size := fun hh => by have := S_12.out.fresh _ hh; omega
 have hone := pdus_one (t := 41) PR_4.out hn
 rw [show (.cells #[.int .i64 R.h.op, .bool R.h.now, .int .i64 R.h.fl, .slice ph 8 ch, .slice none 0 0, .string (S R.d)] 41 : Obj) = .cells #[.int .i64 3, .bool false, .int .i64 135, .slice ph 8 ch, .slice none 0 0, .string (S [])] 41 by rw [← HRq.out]; rfl] at hone
 obtain ⟨w17, hw17⟩ : ∃ x, w16.alloc (.cells #[.int .i64 3, .bool false, .int .i64 135, .slice ph 8 ch, .slice none 0 0, .string (S [])] 41) = x := ⟨_, rfl⟩
 have hb : Below w16.heap.size w16 w17 := by rw [← hw17]; exact (Below.refl _ _).alloc (Nat.le_refl _) _
 have hk : Blk w17 w16.heap.size #[.int .i64 3, .bool false, .int .i64 135, .slice ph 8 ch, .slice none 0 0, .string (S [])] 41 := by rw [← hw17]; exact Blk.new w16 _ _
 rw [hw17] at hone
 clear hn hk
 have L_17 := Lib.hid (below_then L_16.out hb)
 have E_17 := Lib.hid (E_16.out.later hb)
 have S_13 := Lib.hid (S_12.out.later hb)
 have PP_9 := Lib.hid (PP_8.out.later (Keeps.of hb _).off')
 have KP_8 := Lib.hid (KP_7.out.later hb)
 have PR_5 := Lib.hid (PR_4.out.later (Keeps.of hb _).off')
 have KH_4 := Lib.hid (KH_3.out.later hb)
 have PA_2 := Lib.hid (PA_1.out.later (Keeps.of hb _).off')
 have KA_1 := Lib.hid (KA_0.out.later hb)
 clear L_16 E_16 S_12 PP_8 KP_7 PR_4 KH_3 PA_1 KA_0
 clear hb
 have KN := knock_any [R] _ S_13.out hone HRf.out (by simp) EB_0.out HC0.out dw0_ok
 rw [knock_one HT2.out.err] at KN
 obtain ⟨qbB, hqbB⟩ : ∃ x, w16.heap.size = x := ⟨_, rfl⟩
 rw [hqbB] at KN
 have hst := HT2.out.stat
 have hlen := HT2.out.len
 have hdat := HT2.out.data
 have hdon := HT2.out.don
 have hfld := HT2.out.fld
 have htgt := HT2.out.tgt
 have hdsc := HT2.out.dsc
 obtain ⟨⟨⟨B, nB⟩, s2⟩, hT⟩ : ∃ r, takeL conf0 dw0 idsS R = r := ⟨_, rfl⟩
 rw [hT] at hst hlen hdat hdon hfld htgt hdsc KN
 unfold RetKnock pduV at KN
 simp only at hst hlen hdat hdon hfld htgt hdsc KN
 replace KN := Lib.hid KN
 have HstB := Lib.hid hst
 have HlenB := Lib.hid hlen
 have HdatB := Lib.hid hdat
 have HdonB := Lib.hid hdon
 have HfldB := Lib.hid hfld
 have HtgtB := Lib.hid htgt
 have HdscB := Lib.hid hdsc
 have HTB := Lib.hid hT
 clear hone hst hlen hdat hdon hfld htgt hdsc hT
 go_wp2_with fail
 clear hw16 hw17
 clear cKP0 cKP1 cKP2 cKP3 cKP4 cKP5 cKH0 cKH1 cKH2 cKH3 cKA0 cKA1 cKA2 cKA3 cKA4 cKA5
 refine KN.out.mono ?_
 rintro e w18 ⟨m'', qB, vv, va, rfl, hPA, hLS, hKK⟩
 clear KN
 have PP_10 := Lib.hid (PP_9.out.later hKK.off')
 have KP_9 := Lib.hid (KP_8.out.kp hKK NP_1.out)
 have PR_6 := Lib.hid (PR_5.out.later hKK.off')
 have KH_5 := Lib.hid (KH_4.out.kp hKK NH_1.out)
 have PA_3 := Lib.hid (PA_2.out.later hKK.off')
 have KA_2 := Lib.hid (KA_1.out.kp hKK NA_0.out)
 have L_18 := Lib.hid (below_then LB_0.out hLS.low)
 have E_18 := Lib.hid (EB_0.out.later hLS.low)
 have S_14 := Lib.hid (hLS)
 have NP_2 := Lib.hid (fun hh => (hKK.old _ hh).elim NP_1.out (fun h => by have := KP_8.out.lt; omega))
 have NH_2 := Lib.hid (fun hh => (hKK.old _ hh).elim NH_1.out (fun h => by have := KH_4.out.lt; omega))
 have NA_1 := Lib.hid (fun hh => (hKK.old _ hh).elim NA_0.out (fun h => by have := KA_1.out.lt; omega))
 clear PP_9 KP_8 PR_5 KH_4 PA_2 KA_1 L_17 E_17 S_13 NP_1 NH_1 NA_0
 obtain ⟨p3B, c3B, rfl⟩ : ∃ p c, vv = .slice p B.h.vs.length c := by obtain ⟨p, c, h, _⟩ := hPA.v; exact ⟨p, c, h⟩
 obtain ⟨p4B, c4B, rfl⟩ := hPA.a.form
 have PB_0 := Lib.hid (hPA)
 clear hPA hLS hKK
 have hn : ¬ m''.H lb w18.heap.size := fun hh => by have := S_14.out.fresh _ hh; omega
 obtain ⟨w19, hw19⟩ : ∃ x, w18.alloc (.cells #[.int .i64 B.h.op, .bool B.h.now, .int .i64 B.h.fl, .slice p3B B.h.vs.length c3B, .slice p4B B.a.length c4B, .string (S B.d)] 41) = x := ⟨_, rfl⟩
 have hb : Below w18.heap.size w18 w19 := by rw [← hw19]; exact (Below.refl _ _).alloc (Nat.le_refl _) _
 have hk : Blk w19 w18.heap.size #[.int .i64 B.h.op, .bool B.h.now, .int .i64 B.h.fl, .slice p3B B.h.vs.length c3B, .slice p4B B.a.length c4B, .string (S B.d)] 41 := by rw [← hw19]; exact Blk.new w18 _ _
 obtain ⟨bB, hbB⟩ : ∃ x, w18.heap.size = x := ⟨_, rfl⟩
 rw [hbB] at hk hn
 have L_19 := Lib.hid (below_then L_18.out hb)
 have E_19 := Lib.hid (E_18.out.later hb)
 have S_15 := Lib.hid (S_14.out.later hb)
 have PP_11 := Lib.hid (PP_10.out.later (Keeps.of hb _).off')
 have KP_10 := Lib.hid (KP_9.out.later hb)
 have PR_7 := Lib.hid (PR_6.out.later (Keeps.of hb _).off')
 have KH_6 := Lib.hid (KH_5.out.later hb)
 have PA_4 := Lib.hid (PA_3.out.later (Keeps.of hb _).off')
 have KA_3 := Lib.hid (KA_2.out.later hb)
 have PB_1 := Lib.hid (PB_0.out.later (Keeps.of hb _).off')
 clear L_18 E_18 S_14 PP_10 KP_9 PR_6 KH_5 PA_3 KA_2 PB_0
 clear hb
 have KB_0 := Lib.hid (hk)
 have NB_0 := Lib.hid (hn)
 clear hk hn
 obtain ⟨fx, hfx⟩ : ∃ fx, (asksL conf0 dw0 R idsS).1.1 = fx := ⟨_, rfl⟩
 obtain ⟨cx, hcx⟩ : ∃ cx, 4 * csgI R.h = cx := ⟨_, rfl⟩
 have hst := HstB.out
 rw [hfx, hcx] at hst
 have HST := Lib.hid hst
 clear hst hfx hcx
 by_cases h9 : i = 9 ∧ k = 1
 ·have hw := HW.out
  rw [if_pos h9] at hw
  have hst : statR B = (fx, 0, 0) := by rw [HST.out, hw.1]; rfl
  have hdon : s2.don = true := by rw [HdonB.out]; exact hw.2
  obtain ⟨rfl, rfl⟩ := h9
  have ST := status_any B _ _ w19 PB_1.out.off E_19.out.env.mc (by rw [HlenB.out]; decide)
  rw [hst] at ST
  unfold pduV at ST
  replace ST := Lib.hid ST
  obtain ⟨cKP0, cKP1, cKP2, cKP3, cKP4, cKP5⟩ := KP_10.out.six
  obtain ⟨cKH0, cKH1, cKH2, cKH3⟩ := KH_6.out.four
  obtain ⟨cKA0, cKA1, cKA2, cKA3, cKA4, cKA5⟩ := KA_3.out.six
  obtain ⟨cKB0, cKB1, cKB2, cKB3, cKB4, cKB5⟩ := KB_0.out.six
  go_wp2_with fail
  clear hw19
  clear cKP0 cKP1 cKP2 cKP3 cKP4 cKP5 cKH0 cKH1 cKH2 cKH3 cKA0 cKA1 cKA2 cKA3 cKA4 cKA5 cKB0 cKB1 cKB2 cKB3 cKB4 cKB5
  refine ST.out.mono ?_
  rintro e w20 ⟨rfl, hb⟩
  clear ST
  have L_20 := Lib.hid (below_then L_19.out hb)
  have E_20 := Lib.hid (E_19.out.later hb)
  have S_16 := Lib.hid (S_15.out.later hb)
  have PP_12 := Lib.hid (PP_11.out.later (Keeps.of hb _).off')
  have KP_11 := Lib.hid (KP_10.out.later hb)
  have PR_8 := Lib.hid (PR_7.out.later (Keeps.of hb _).off')
  have KH_7 := Lib.hid (KH_6.out.later hb)
  have PA_5 := Lib.hid (PA_4.out.later (Keeps.of hb _).off')
  have KA_4 := Lib.hid (KA_3.out.later hb)
  have PB_2 := Lib.hid (PB_1.out.later (Keeps.of hb _).off')
  have KB_1 := Lib.hid (KB_0.out.later hb)
  clear L_19 E_19 S_15 PP_11 KP_10 PR_7 KH_6 PA_4 KA_3 PB_1 KB_0
  clear hb
  have OV := S_16.out.overS
  rw [hdon] at OV
  replace OV := Lib.hid OV
  go_wp2_with fail
  refine OV.out.mono ?_
  rintro e w21 ⟨rfl, hb⟩
  clear OV
  have L_21 := Lib.hid (below_then L_20.out hb)
  have E_21 := Lib.hid (E_20.out.later hb)
  have S_17 := Lib.hid (S_16.out.later hb)
  have PP_13 := Lib.hid (PP_12.out.later (Keeps.of hb _).off')
  have KP_12 := Lib.hid (KP_11.out.later hb)
  have PR_9 := Lib.hid (PR_8.out.later (Keeps.of hb _).off')
  have KH_8 := Lib.hid (KH_7.out.later hb)
  have PA_6 := Lib.hid (PA_5.out.later (Keeps.of hb _).off')
  have KA_5 := Lib.hid (KA_4.out.later hb)
  have PB_3 := Lib.hid (PB_2.out.later (Keeps.of hb _).off')
  have KB_2 := Lib.hid (KB_1.out.later hb)
  clear L_20 E_20 S_16 PP_12 KP_11 PR_8 KH_7 PA_5 KA_4 PB_2 KB_1
  clear hb
  obtain ⟨cKP0, cKP1, cKP2, cKP3, cKP4, cKP5⟩ := KP_12.out.six
  obtain ⟨cKH0, cKH1, cKH2, cKH3⟩ := KH_8.out.four
  obtain ⟨cKA0, cKA1, cKA2, cKA3, cKA4, cKA5⟩ := KA_5.out.six
  obtain ⟨cKB0, cKB1, cKB2, cKB3, cKB4, cKB5⟩ := KB_2.out.six
  go_wp2_with fail
  go_ret
  exact ⟨rfl, L_21.out⟩
 ·have hw := HW.out
  rw [if_neg h9] at hw
  have hst : statR B = (cx, 2, 0) := by rw [HST.out, hw]; rfl
  have hfld : s2.fld = true := by rw [HfldB.out, hw]; simp
  have h9' : ((i : Int) == 9) = false ∨ ((i : Int) == 9) = true ∧ ((k : Int) == 1) = false := by
   by_cases hi : i = 9
   ·exact .inr ⟨by simp [hi], by simp; intro hk; exact h9 ⟨hi, by omega⟩⟩
   ·exact .inl (by simp; omega)
  have ST := status_any B _ _ w19 PB_1.out.off E_19.out.env.mc (by rw [HlenB.out]; decide)
  rw [hst] at ST
  unfold pduV at ST
  replace ST := Lib.hid ST
  obtain ⟨cKP0, cKP1, cKP2, cKP3, cKP4, cKP5⟩ := KP_10.out.six
  obtain ⟨cKH0, cKH1, cKH2, cKH3⟩ := KH_6.out.four
  obtain ⟨cKA0, cKA1, cKA2, cKA3, cKA4, cKA5⟩ := KA_3.out.six
  obtain ⟨cKB0, cKB1, cKB2, cKB3, cKB4, cKB5⟩ := KB_0.out.six
  go_wp2_with fail
  clear hw19
  clear cKP0 cKP1 cKP2 cKP3 cKP4 cKP5 cKH0 cKH1 cKH2 cKH3 cKA0 cKA1 cKA2 cKA3 cKA4 cKA5 cKB0 cKB1 cKB2 cKB3 cKB4 cKB5
  refine ST.out.mono ?_
  rintro e w20 ⟨rfl, hb⟩
  clear ST
  have L_20 := Lib.hid (below_then L_19.out hb)
  have E_20 := Lib.hid (E_19.out.later hb)
  have S_16 := Lib.hid (S_15.out.later hb)
  have PP_12 := Lib.hid (PP_11.out.later (Keeps.of hb _).off')
  have KP_11 := Lib.hid (KP_10.out.later hb)
  have PR_8 := Lib.hid (PR_7.out.later (Keeps.of hb _).off')
  have KH_7 := Lib.hid (KH_6.out.later hb)
  have PA_5 := Lib.hid (PA_4.out.later (Keeps.of hb _).off')
  have KA_4 := Lib.hid (KA_3.out.later hb)
  have PB_2 := Lib.hid (PB_1.out.later (Keeps.of hb _).off')
  have KB_1 := Lib.hid (KB_0.out.later hb)
  clear L_19 E_19 S_15 PP_11 KP_10 PR_7 KH_6 PA_4 KA_3 PB_1 KB_0
  clear hb
  have OV := S_16.out.overS
  rw [hfld] at OV
  replace OV := Lib.hid OV
  go_wp2_with fail
  refine OV.out.mono ?_
  rintro e w21 ⟨rfl, hb⟩
  clear OV
  have L_21 := Lib.hid (below_then L_20.out hb)
  have E_21 := Lib.hid (E_20.out.later hb)
  have S_17 := Lib.hid (S_16.out.later hb)
  have PP_13 := Lib.hid (PP_12.out.later (Keeps.of hb _).off')
  have KP_12 := Lib.hid (KP_11.out.later hb)
  have PR_9 := Lib.hid (PR_8.out.later (Keeps.of hb _).off')
  have KH_8 := Lib.hid (KH_7.out.later hb)
  have PA_6 := Lib.hid (PA_5.out.later (Keeps.of hb _).off')
  have KA_5 := Lib.hid (KA_4.out.later hb)
  have PB_3 := Lib.hid (PB_2.out.later (Keeps.of hb _).off')
  have KB_2 := Lib.hid (KB_1.out.later hb)
  clear L_20 E_20 S_16 PP_12 KP_11 PR_8 KH_7 PA_5 KA_4 PB_2 KB_1
  clear hb
  rcases h9' with hi9 | ⟨hi9, hk1⟩
  ·obtain ⟨cKP0, cKP1, cKP2, cKP3, cKP4, cKP5⟩ := KP_12.out.six
   obtain ⟨cKH0, cKH1, cKH2, cKH3⟩ := KH_8.out.four
   obtain ⟨cKA0, cKA1, cKA2, cKA3, cKA4, cKA5⟩ := KA_5.out.six
   obtain ⟨cKB0, cKB1, cKB2, cKB3, cKB4, cKB5⟩ := KB_2.out.six
   go_wp2_with fail
   go_ret
   exact ⟨rfl, L_21.out⟩
  ·obtain ⟨cKP0, cKP1, cKP2, cKP3, cKP4, cKP5⟩ := KP_12.out.six
   obtain ⟨cKH0, cKH1, cKH2, cKH3⟩ := KH_8.out.four
   obtain ⟨cKA0, cKA1, cKA2, cKA3, cKA4, cKA5⟩ := KA_5.out.six
   obtain ⟨cKB0, cKB1, cKB2, cKB3, cKB4, cKB5⟩ := KB_2.out.six
   go_wp2_with fail
   go_ret
   exact ⟨rfl, L_21.out⟩
end Go.Proofs.YtmkebjdmkkjloaaGreatDoor
namespace Go.Proofs.YtmkebjdmkkjloaaGreatDoor
open Go.RowKit
def laidLoginIds : List (String × DataW Unit) := [("math/bits.deBruijn32tab", Rows.laid_math_bits_deBruijn32tab), ("math/bits.deBruijn64tab", Rows.laid_math_bits_deBruijn64tab), ("internal/strconv.uint64pow10", Rows.laid_internal_strconv_uint64pow10), ("unicode/utf8.acceptRanges", Rows.laid_unicode_utf8_acceptRanges), ("errors.errorType", Rows.laid_errors_errorType), ("strconv.ErrRange", Rows.laid_strconv_ErrRange), ("strconv.ErrSyntax", Rows.laid_strconv_ErrSyntax), ("quaymaster/md5.numbers", Rows.laid_quaymaster_md5_numbers), ("quaymaster/md5.turns", Rows.laid_quaymaster_md5_turns), ("unicode/utf8.first", Rows.laid_unicode_utf8_first)]
def plainLoginIds : List (String × DataW Unit) := [("math/bits.deBruijn32tab", Rows.laid_math_bits_deBruijn32tab), ("math/bits.deBruijn64tab", Rows.laid_math_bits_deBruijn64tab), ("internal/strconv.uint64pow10", Rows.laid_internal_strconv_uint64pow10), ("unicode/utf8.acceptRanges", Rows.laid_unicode_utf8_acceptRanges), ("strconv.ErrRange", Rows.laid_strconv_ErrRange), ("strconv.ErrSyntax", Rows.laid_strconv_ErrSyntax), ("quaymaster/md5.numbers", Rows.laid_quaymaster_md5_numbers), ("quaymaster/md5.turns", Rows.laid_quaymaster_md5_turns), ("unicode/utf8.first", Rows.laid_unicode_utf8_first)]
noncomputable def laidWorldLoginIds (os : Os) : World := (laidWorld os).layVars Tryz.prog plainLoginIds
set_option maxRecDepth 100000 in
theorem laidWorldLoginIds_plain (os : Os) (args : Array Value) : laidMet Tryz.prog plainLoginIds ((laidWorldLoginIds os).forCall (fun _ _ => 0) ⟨#[], args, []⟩).memory := laidMet_lay (w0 := (laidWorld os)) args (by kernel_rfl) (by kernel_rfl)
set_option maxRecDepth 100000 in
theorem laidWorldLoginIds_met (os : Os) (args : Array Value) : laidMetH Tryz.prog laidLoginIds ((laidWorldLoginIds os).forCall (fun _ _ => 0) ⟨#[], args, []⟩).memory :=
 laidMetH_of_parts (laidWorldLoginIds_plain os args) (by kernel_rfl)
theorem laidWorldLoginIds_os (os : Os) : (laidWorldLoginIds os).os = os := World.layVars_os _ _ _
theorem partsLoginIds {W : World} (h : laidMetH Tryz.prog laidLoginIds W) : laidMet Tryz.prog [("math/bits.deBruijn32tab", Rows.laid_math_bits_deBruijn32tab), ("math/bits.deBruijn64tab", Rows.laid_math_bits_deBruijn64tab), ("internal/strconv.uint64pow10", Rows.laid_internal_strconv_uint64pow10), ("unicode/utf8.acceptRanges", Rows.laid_unicode_utf8_acceptRanges), ("strconv.ErrRange", Rows.laid_strconv_ErrRange), ("strconv.ErrSyntax", Rows.laid_strconv_ErrSyntax), ("quaymaster/md5.numbers", Rows.laid_quaymaster_md5_numbers), ("quaymaster/md5.turns", Rows.laid_quaymaster_md5_turns), ("unicode/utf8.first", Rows.laid_unicode_utf8_first)] W ∧ handlesMet Tryz.prog [("errors.errorType", Rows.laid_errors_errorType)] W := h
theorem errCell_LoginIds {W : World} (h : laidMetH Tryz.prog laidLoginIds W) : ErrCell W := errCell_of_handles (partsLoginIds h).2 (List.mem_singleton.2 rfl)
theorem readsLoginIds {W : World} (h : laidMetH Tryz.prog laidLoginIds W) {n : String} {d : DataW Unit} (hm : (n, d) ∈ ([("math/bits.deBruijn32tab", Rows.laid_math_bits_deBruijn32tab), ("math/bits.deBruijn64tab", Rows.laid_math_bits_deBruijn64tab), ("internal/strconv.uint64pow10", Rows.laid_internal_strconv_uint64pow10), ("unicode/utf8.acceptRanges", Rows.laid_unicode_utf8_acceptRanges), ("strconv.ErrRange", Rows.laid_strconv_ErrRange), ("strconv.ErrSyntax", Rows.laid_strconv_ErrSyntax), ("quaymaster/md5.numbers", Rows.laid_quaymaster_md5_numbers), ("quaymaster/md5.turns", Rows.laid_quaymaster_md5_turns), ("unicode/utf8.first", Rows.laid_unicode_utf8_first)] : List (String × DataW Unit))) : Go.Lib.VarReads Tryz.prog W n d := Go.Lib.laidMet.reads (partsLoginIds h).1 hm
theorem tabsLoginIds {W : World} (h : laidMetH Tryz.prog laidLoginIds W) : MdTabs W := mdTabs_of_reads (readsLoginIds h (by simp)) (readsLoginIds h (by simp))
end Go.Proofs.YtmkebjdmkkjloaaGreatDoor
namespace Go.Proofs.YtmkebjdmkkjloaaGreatDoor.loginIds
open Go.ChangeShapes Go.WideShapes Go.ChangeAt Go.RowKit
open Go.ChangeMaps (open_string shut_string)
set_option linter.unusedVariables false
theorem own : ownKnob Tryz.prog.godebug = none := by kernel_rfl
theorem laidOut : laidOutB Tryz.prog = true := by kernel_rfl
set_option maxRecDepth 100000 in
theorem contract (H : Type) (enc : TypeId × Value → H) (W : World) (base : Nat) (args : Array Value) (ds gs : List (DataW H)) (before : List MemPlace)
  (hval : ∀ (j : Nat) t v, Tryz.f9.params[j]? = some t → args[j]? = some v → Value.okWide Tryz.prog W .any base t v)
  (hW : DataW.Whole enc Tryz.prog Tryz.f9.params.toList Rows.loginIdsSpec.vars false W args.toList ds gs before)
  (hsz0 : (DataW.weightsEach Tryz.prog (Tryz.f9.params.toList ++ Rows.loginIdsSpec.plain.varTypes Tryz.prog) (ds ++ gs)).all (· ≤ reachBytes) = true)
  (hL : laidMetH Tryz.prog Rows.loginIdsRow.laid W) (hS : W.ShapedOpen Tryz.prog)
  : Calls Tryz.prog 9 args W fun e W' => ∃ v, e = .returned v ∧ Rows.loginIdsSpec.post enc Tryz.prog Tryz.f9 false true false false W args v W' := by
 have hW' := hW
 obtain ⟨p, q, hA0, hV, rfl, hfz, hnd⟩ := hW
 have hsz : (DataW.weightsEach Tryz.prog (Tryz.f9.params.toList ++ Rows.loginIdsSpec.plain.varTypes Tryz.prog) (ds ++ gs)).all (· ≤ reachBytes) = true := hsz0
 have hA : DataW.TrodAll enc Tryz.prog W 0 (fun _ => true) true Tryz.f9.params.toList args.toList ds p := hA0
 rw [Tryz.params9] at hA hval hsz
 obtain ⟨v0, vs0, d0, ds0, p0, q0, hargs, rfl, rfl, h0, r0⟩ := trodAll_cons hA
 obtain ⟨v1, vs1, d1, ds1, p1, q1, rfl, rfl, rfl, h1, r1⟩ := trodAll_cons r0
 obtain ⟨rfl, rfl, rfl⟩ := trodAll_nil r1
 obtain rfl : args = #[v0, v1] := by cases args; simp_all
 obtain ⟨rfl, rfl⟩ := trodVars_none hV
 obtain ⟨a0, rfl, rfl, rfl, wf0⟩ := open_int Tryz.underlying49 (hval 0 49 v0 rfl rfl) h0
 obtain ⟨a1, rfl, rfl, rfl, wf1⟩ := open_int Tryz.underlying49 (hval 1 49 v1 rfl rfl) h1
 clear hA0 hsz0
 refine (loginIds_any a0 a1 W wf0 wf1 (EnvL.mk (env_of hS (readsLoginIds hL (by simp)) (readsLoginIds hL (by simp)) (readsLoginIds hL (by simp))) (errCell_LoginIds hL) (tabsLoginIds hL))).mono fun e W' ⟨he, bel⟩ => ?_
 subst he
 exact ⟨_, rfl, _, _, _, [], _, [], hW', trodAll_mk1 (shut_bool Tryz.underlying4 _), trodAll_cons_mk (shut_int Tryz.underlying49 wf0) (trodAll_cons_mk (shut_int Tryz.underlying49 wf1) trodAll_mk0), rfl, bel.frame _, fun h => by cases h⟩
theorem reads (os : Os) {H : Type} (enc : TypeId × Value → H) : ∃ places, DataW.whole enc Tryz.prog ((laidWorldLoginIds os).forCall (fun _ _ => 0) ⟨#[], #[.int .u64 0, .int .u64 0], []⟩).memory Tryz.f9.params.toList Rows.loginIdsSpec.vars false (#[.int .u64 0, .int .u64 0] : Array Value).toList 8 = some ([.lit (.int .u64 0), .lit (.int .u64 0)], [], places) :=
 ⟨[], by kernel_rfl⟩
set_option maxRecDepth 100000 in
theorem lifted (os : Os) (started : os.Started) (H : Type) (enc : TypeId × Value → H) (F : Stop.Interp) :
  ReturnsInHanded {} Tryz.checked os 9 .any ((OpenSpec.ofChange Rows.loginIdsSpec).preRow enc Tryz.prog Tryz.f9 Rows.loginIdsRow.domain false Rows.loginIdsRow.laid) (((OpenSpec.ofChange Rows.loginIdsSpec).at F).post enc Tryz.prog Tryz.f9 false true false false) := by
 obtain ⟨places, hx⟩ := reads os enc
 refine returnsInHanded_of_row (C := Tryz.checked) (s := OpenSpec.ofChange Rows.loginIdsSpec) own started (by kernel_rfl) Tryz.func9
  (witness_row_atRef (enc := enc) (C := Tryz.checked) false (laidWorldLoginIds os) #[.int .u64 0, .int .u64 0] (laidWorldLoginIds_os os) (by kernel_rfl) (by kernel_rfl) (by kernel_rfl)
   (OpenSpec.preRow_of_cond 8 hx (by kernel_rfl) (fun k hk => by cases hk) (by kernel_rfl) (laidWorldLoginIds_met os _))) ?_
 intro W base args ds gs before hval hW _ _ hsz hL hS _
 exact contract H enc W base args ds gs before hval hW hsz hL hS
theorem said : Rows.LoginIdsSaid :=
 OpenClaim.holds_of_cond 9 Tryz.f9 rfl rfl rfl rfl rfl rfl rfl ⟨rfl, rfl, rfl, rfl, rfl⟩ rfl rfl rfl rfl rfl (by kernel_rfl) Tryz.func9 (by kernel_rfl)
  (of_decide_eq_true (by kernel_rfl)) (by unfold Func.isWrapper; first | (rw [if_pos (by decide +kernel)]; kernel_rfl) | (rw [if_neg (by decide +kernel)]; exact ⟨rfl, rfl⟩))
  (fun os started H enc _ F => by rw [OpenClaim.pre_eq_preRow]; exact lifted os started H enc F)
theorem plain (f : FuncId) (fn : Func) (hf : Tryz.pinned.checked.prog.funcNamed "quaymaster/quaymasterkeep.LoginIds" = some f) (hfn : Tryz.pinned.checked.prog.funcs[f]? = some fn) :
  true = Tryz.pinned.checked.prog.looks [] ∧ ∀ (j : Nat) t, fn.params[j]? = some t → Tryz.pinned.checked.prog.wantsStandIn t = false := by
 obtain rfl : f = 9 := Option.some.inj ((show Tryz.prog.funcNamed "quaymaster/quaymasterkeep.LoginIds" = some 9 by kernel_rfl).symm.trans hf) |>.symm
 obtain rfl : fn = Tryz.f9 := (Option.some.inj (Tryz.func9.symm.trans hfn)).symm
 refine ⟨by kernel_rfl, fun j t ht => ?_⟩
 rw [Tryz.params9] at ht
 have hm : t ∈ ([49, 49] : List TypeId) := by
  have := Array.mem_of_getElem? ht
  simpa using this
 have hall : ([49, 49] : List TypeId).all (fun t => !Tryz.prog.wantsStandIn t) = true := by kernel_rfl
 have hn := List.all_eq_true.1 hall t hm
 show Tryz.prog.wantsStandIn t = false
 simpa using hn
theorem proved : Rows.LoginIdsCardSaid :=
 Claim7.holds_tied_plain_at .later [] _ _ _ _ said (fun _ h => by cases h) (by kernel_rfl) (fun _ h => by cases h) loginIds_row_tie rfl ⟨rfl, rfl⟩ (by kernel_rfl) rfl plain (by kernel_rfl)
#print axioms proved
end Go.Proofs.YtmkebjdmkkjloaaGreatDoor.loginIds
