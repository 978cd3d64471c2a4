/- LoginSays: for every input the law's function returns true, and what came in reads as it did. -/
import Derived.Carry
import Derived.ChangeOld
import Derived.Deep.DeepHandedRow
import Derived.Deep.DeepWitnessRowRef
import Derived.Lib.LaidU8
import Derived.OpenShut
import Derived.ProofKit
import Derived.SevenTiedAt
import Derived.ShapedOpen
import Derived.ShutString
import Derived.SizedLaws
import Derived.Test.YtjbbbpgcegcbaaaGreatDoorCards
import Derived.Test.YtjbbbpgcegcbaaaGreatDoorTie
import GoSem.PinnedTables
import Derived.Test.YtjbbbpgcegcbaaaGreatDoorLA15
import Derived.Test.YtjbbbpgcegcbaaaGreatDoorLA20
import Derived.Test.YtjbbbpgcegcbaaaGreatDoorLA30
import Derived.Test.YtjbbbpgcegcbaaaGreatDoorLA41
import Derived.Test.YtjbbbpgcegcbaaaGreatDoorLA42
import Derived.Test.YtjbbbpgcegcbaaaGreatDoorLA43
import Derived.Test.YtjbbbpgcegcbaaaGreatDoorLA44
namespace Go.Proofs.YtjbbbpgcegcbaaaGreatDoor
open Go Go.RowKit
set_option linter.unusedVariables false
theorem say_one {n s : List UInt8} {d : Dw} : knockL (confG n s) d (lg0 (confG n s)) pd0 [⟨reqA, [], prBytes [pIni, pSes, pMth]⟩] = ((⟨ansH reqA 0 0 0 77 0 0, [], [65, 117, 116, 104, 77, 101, 116, 104, 111, 100, 61, 67, 72, 65, 80, 0]⟩, true), lgA n s) := by
 rw [knock_one (by rw [step_a]), step_a]
theorem say_two {n s : List UInt8} {d : Dw} : knockL (confG n s) d (lgA n s) pd0 [⟨reqA, [], prBytes [pAsk]⟩] = ((⟨ansH reqA 0 0 1 77 0 0, [], (prPrint (chalP d)).1⟩, true), lgB n s) := by
 rw [knock_one (by rw [step_b]), step_b]
set_option maxRecDepth 100000 in
set_option maxHeartbeats 8000000 in
theorem loginSays_any (n s : List UInt8) (d : Dw) (w : World) (hn : n.length ≤ 140737488351232) (hs : s.length ≤ 140737488351232) (hd : (Lit.int .i64 d.id).wf = true ∧ d.ch.length ≤ 140737488351232) (hE : EnvL w) :
  Calls Tryz.prog 5 #[.string (S n), .string (S s), .agg #[.int .i64 d.id, .string (S d.ch)]] w fun e w' => e = .returned (.bool true) ∧ Below w.heap.size w w' := by
 have HFN := Lib.hid hn
 have HFS := Lib.hid hs
 have L_0 := Lib.hid (Below.refl w.heap.size w)
 have E_0 := Lib.hid (hE)
 clear hE hd hn hs
 obtain ⟨w1, hw1⟩ : ∃ x, w.alloc (.cells #[.int .i64 d.id, .string (S d.ch)] 31) = x := ⟨_, rfl⟩
 have hb : Below w.heap.size w w1 := by rw [← hw1]; exact (Below.refl _ _).alloc (Nat.le_refl _) _
 have hk : Blk w1 w.heap.size #[.int .i64 d.id, .string (S d.ch)] 31 := by rw [← hw1]; exact Blk.new w _ _
 obtain ⟨db, hdb⟩ : ∃ x, w.heap.size = x := ⟨_, rfl⟩
 rw [hdb] at hk
 have L_1 := Lib.hid (below_then L_0.out hb)
 have E_1 := Lib.hid (E_0.out.later hb)
 clear L_0 E_0
 clear hb
 have D_0 := Lib.hid (hk)
 clear hk
 go_enter Tryz.func5, Tryz.ntmps5
 have EN := entered_any w1 E_1.out
 replace EN := Lib.hid EN
 go_wp2_with fail
 clear hw1
 refine EN.out.mono ?_
 rintro e w2 ⟨rfl, hb⟩
 clear EN
 have L_2 := Lib.hid (below_then L_1.out hb)
 have E_2 := Lib.hid (E_1.out.later hb)
 have D_1 := Lib.hid (D_0.out.later hb)
 clear L_1 E_1 D_0
 clear hb
 have FA := proved_fact w2 E_2.out.md E_2.out.err
 replace FA := Lib.hid FA
 go_wp2_with fail
 refine FA.out.mono ?_
 rintro e w3 ⟨rfl, hb⟩
 clear FA
 have L_3 := Lib.hid (below_then L_2.out hb)
 have E_3 := Lib.hid (E_2.out.later hb)
 have D_2 := Lib.hid (D_1.out.later hb)
 clear L_2 E_2 D_1
 clear hb
 have FA := valued_fact w3 E_3.out.err
 replace FA := Lib.hid FA
 go_wp2_with fail
 refine FA.out.mono ?_
 rintro e w4 ⟨rfl, hb⟩
 clear FA
 have L_4 := Lib.hid (below_then L_3.out hb)
 have E_4 := Lib.hid (E_3.out.later hb)
 have D_3 := Lib.hid (D_2.out.later hb)
 clear L_3 E_3 D_2
 clear hb
 have HLTD := Lib.hid D_3.out.lt
 have KEEP := Lib.hid (fun (W : World) (hb : Below w4.heap.size w4 W) => (⟨hb, (D_3.out.later hb).cell 0, (D_3.out.later hb).cell 1⟩ : Below w4.heap.size w4 W ∧ W.cell? ⟨db, 0, none⟩ = some (.int .i64 d.id) ∧ W.cell? ⟨db, 1, none⟩ = some (.string (S d.ch))))
 have GD := Lib.hid (fun (W : World) => guarded_any n s W)
 have NW := fun (W : World) (vt vp vu : Value) (hb : Below w4.heap.size w4 W) (hv : ConfAt W (confG n s) vt vp vu (.slice none 0 0)) => new_either (confG n s) d vt vp vu (.slice none 0 0) W hv (confG_fit HFN.out HFS.out) (E_4.out.later hb)
 have GD0 := GD.out
 unfold RetGrd at GD0
 clear GD
 have GD := Lib.hid GD0
 clear GD0
 replace NW := Lib.hid NW
 go_wp2_with fail
 refine wp_region_held (S := (fun W => Below w4.heap.size w4 W ∧ W.cell? ⟨db, 0, none⟩ = some (.int .i64 d.id) ∧ W.cell? ⟨db, 1, none⟩ = some (.string (S d.ch)))) (by kernel_rfl) ?_
 have eA : Below w4.heap.size w4 { w4 with drawn := w4.drawn + 1 } := (Below.refl _ _).drew
 generalize ({ w4 with drawn := w4.drawn + 1 } : World) = wA at eA ⊢
 have hSA := KEEP.out _ eA
 refine takeN _ (some 34) (i := 0) rfl rfl (by kernel_rfl) (by kernel_rfl) (by kernel_rfl) (fun _ _ _ h => h) (Or.inl ⟨by rfl, fun w' hw' => by (obtain ⟨_, z0, z1⟩ := hw'; go_simp <;> rfl)⟩) hSA ?_
 simp only [Act.put, iA, iB, iC]
 refine takeN _ (some 35) (i := 1) rfl rfl (by kernel_rfl) (by kernel_rfl) (by kernel_rfl) (fun _ _ _ h => h) (Or.inl ⟨by rfl, fun w' hw' => by (obtain ⟨_, z0, z1⟩ := hw'; go_simp <;> rfl)⟩) hSA ?_
 simp only [Act.put, iA, iB, iC]
 refine takeN _ (some 37) (i := 3) rfl rfl (by kernel_rfl) (by kernel_rfl) (by kernel_rfl) (fun _ _ _ h => h) (Or.inl ⟨by rfl, fun w' hw' => by (obtain ⟨_, z0, z1⟩ := hw'; go_simp <;> rfl)⟩) hSA ?_
 simp only [Act.put, iA, iB, iC]
 refine wpAnyH_all (rs := [2]) (by kernel_rfl) (by simp) (fun i hi => ?_)
 obtain rfl : i = 2 := by simpa using hi
 refine wantN (i := 2) rfl (by rfl) (callN (f := 24) (some 36) rfl Tryz.func24 (by kernel_rfl) (by kernel_rfl) rfl rfl ?_)
 simp only [List.map_toArray, List.map_cons, List.map_nil]
 refine (GD.out _).mono ?_
 rintro e wD ⟨vt, vp, vu, rfl, hvc, -, -, hbD⟩
 have eD := below_then eA hbD
 have hSD := KEEP.out _ eD
 clear hbD
 refine ⟨_, rfl, hSD, ?_⟩
 try dsimp only
 simp only [Act.put, iA, iB, iC]
 refine wpAnyH_all (rs := [4]) (by kernel_rfl) (by simp) (fun i hi => ?_)
 obtain rfl : i = 4 := by simpa using hi
 refine wantN (i := 4) rfl (by rfl) (callN (f := 25) (some 38) rfl Tryz.func25 (by kernel_rfl) (by kernel_rfl) rfl rfl ?_)
 simp only [List.map_toArray, List.map_cons, List.map_nil]
 refine (NW.out _ vt vp vu eD hvc).mono ?_
 rintro e wN ⟨pv, ev, rfl, hNE, hbN⟩
 have eN := below_then eD hbN
 have hSN := KEEP.out _ eN
 refine ⟨_, rfl, hSN, ?_⟩
 try dsimp only
 simp only [Act.put, iA, iB, iC]
 refine takeN _ (some 33) (i := 5) rfl rfl (by kernel_rfl) (by kernel_rfl) (by kernel_rfl) (fun _ _ _ h => h) (Or.inl ⟨by rfl, fun w' hw' => by (obtain ⟨_, z0, z1⟩ := hw'; go_simp <;> rfl)⟩) hSN ?_
 simp only [Act.put, iA, iB, iC]
 refine takeN _ (some 39) (i := 6) rfl rfl (by kernel_rfl) (by kernel_rfl) (by kernel_rfl) (fun _ _ _ h => h) (Or.inl ⟨by rfl, fun w' hw' => by (obtain ⟨_, z0, z1⟩ := hw'; go_simp <;> rfl)⟩) hSN ?_
 simp only [Act.put, iA, iB, iC]
 refine takeN _ (some 40) (i := 7) rfl rfl (by kernel_rfl) (by kernel_rfl) (by kernel_rfl) (fun _ _ _ h => h) (Or.inl ⟨by rfl, fun w' hw' => by (obtain ⟨_, z0, z1⟩ := hw'; go_simp <;> rfl)⟩) hSN ?_
 simp only [Act.put, iA, iB, iC]
 refine takeN _ (some 7) (i := 8) rfl rfl (by kernel_rfl) (by kernel_rfl) (by kernel_rfl) (fun _ _ _ h => h) (Or.inl ⟨by rfl, fun w' hw' => by (obtain ⟨_, z0, z1⟩ := hw'; go_simp <;> rfl)⟩) hSN ?_
 simp only [Act.put, iA, iB, iC]
 refine takeN _ (some 8) (i := 9) rfl rfl (by kernel_rfl) (by kernel_rfl) (by kernel_rfl) (fun _ _ _ h => h) (Or.inl ⟨by rfl, fun w' hw' => by (obtain ⟨_, z0, z1⟩ := hw'; go_simp <;> rfl)⟩) hSN ?_
 simp only [Act.put, iA, iB, iC]
 refine wpAnyH_done (by kernel_rfl) ?_ _
 obtain ⟨w5, rfl⟩ : ∃ x, x = wN := ⟨_, rfl⟩
 have LB_0 := Lib.hid (below_then L_4.out eD)
 have EB_0 := Lib.hid (E_4.out.later eD)
 have L_5 := Lib.hid (below_then L_4.out eN)
 have E_5 := Lib.hid (E_4.out.later eN)
 have D_4 := Lib.hid (D_3.out.later eN)
 have HLTDn := Lib.hid (Nat.lt_of_lt_of_le HLTD.out eD.size)
 clear HLTD
 have HLTD := HLTDn
 clear HLTDn
 clear L_4 E_4 D_3 hSN hSD hSA hbN eN eD eA NW GD KEEP hvc
 rcases hNE with ⟨h0, lb, m, rfl, rfl, hL, -⟩ | ⟨h0, rfl, t, x, rfl⟩
 rotate_left
 ·clear h0
  have ST := steps_any n [48, 120, 48, 48] [] (.slice none 0 0) w5 HFN.out (by simp) (PrsV.nil _) ⟨by simp, fun p hp => absurd hp List.not_mem_nil⟩ (by simp) E_5.out.env.mc
  unfold RetSteps at ST
  replace ST := Lib.hid ST
  go_wp2_with fail
  refine ST.out.mono ?_
  rintro e w6 ⟨sb, rfl, -, hb⟩
  clear ST
  have L_6 := Lib.hid (below_then L_5.out hb)
  have E_6 := Lib.hid (E_5.out.later hb)
  have D_5 := Lib.hid (D_4.out.later hb)
  clear L_5 E_5 D_4
  clear hb
  go_wp2_with fail
  go_ret
  exact ⟨rfl, L_6.out⟩
 obtain ⟨x, hM⟩ := made_of h0
 obtain ⟨hco, hdo, -⟩ := newL_is h0
 have HCO := Lib.hid hco
 have HDO := Lib.hid hdo
 have HM := Lib.hid hM
 clear h0 hM hco hdo
 have S_0 := Lib.hid (hL)
 clear hL
 have ND_0 := Lib.hid ((fun hh => by have := (S_0.out.log.ge _ hh).1; have := HLTD.out; omega : ¬ m.H lb db))
 have HFR := Lib.hid S_0.out.fresh
 obtain ⟨PA, hPA⟩ : ∃ P : Pd, (⟨reqA, [], prBytes [pIni, pSes, pMth]⟩ : Pd) = P := ⟨_, rfl⟩
 obtain ⟨PB, hPB⟩ : ∃ P : Pd, (⟨reqA, [], prBytes [pAsk]⟩ : Pd) = P := ⟨_, rfl⟩
 obtain ⟨PD, hPD⟩ : ∃ P : Pd, (⟨reqE, [], []⟩ : Pd) = P := ⟨_, rfl⟩
 obtain ⟨PC, hPC⟩ : ∃ P : Pd, (⟨reqC, [], prBytes (proofP n [48, 120, 48, 48] none)⟩ : Pd) = P := ⟨_, rfl⟩
 obtain ⟨A, hA⟩ : ∃ P : Pd, (⟨ansH reqA 0 0 0 77 0 0, [], [65, 117, 116, 104, 77, 101, 116, 104, 111, 100, 61, 67, 72, 65, 80, 0]⟩ : Pd) = P := ⟨_, rfl⟩
 obtain ⟨B, hB⟩ : ∃ P : Pd, (⟨ansH reqA 0 0 1 77 0 0, [], (prPrint (chalP d)).1⟩ : Pd) = P := ⟨_, rfl⟩
 have t1 := say_one (n := n) (s := s) (d := d)
 rw [hPA, hA] at t1
 have t2 := say_two (n := n) (s := s) (d := d)
 rw [hPB, hB] at t2
 have HK1 := Lib.hid t1
 have HK2 := Lib.hid t2
 have HF1 := Lib.hid (show ∀ p ∈ [PA], FitP p from fun p hp => by rw [List.mem_singleton.1 hp, ← hPA]; exact say_fit (by decide +kernel))
 have HF2 := Lib.hid (show ∀ p ∈ [PB], FitP p from fun p hp => by rw [List.mem_singleton.1 hp, ← hPB]; exact say_fit (by decide +kernel))
 have HAD := Lib.hid (show A.d = [65, 117, 116, 104, 77, 101, 116, 104, 111, 100, 61, 67, 72, 65, 80, 0] by rw [← hA])
 have HBD := Lib.hid (show B.d = (prPrint (chalP d)).1 by rw [← hB])
 have hsc := stepC_is (n := n) (v := [48, 120, 48, 48]) (o := none) (nameOk_is HM.out.nm).2.2 (by decide +kernel) (fun p hp => absurd hp List.not_mem_nil)
 rw [show moreP none = [] from rfl, hPC] at hsc
 have ST := steps_any n [48, 120, 48, 48] [] (.slice none 0 0) w5 HFN.out (by simp) (PrsV.nil _) ⟨by simp, fun p hp => absurd hp List.not_mem_nil⟩ (by simp) E_5.out.env.mc
 rw [hsc] at ST
 unfold RetSteps stepsL at ST
 rw [hPA, hPB, hPD] at ST
 simp only at ST
 replace ST := Lib.hid ST
 clear hsc t1 t2 hPA hPB hPC hPD hA hB
 go_wp2_with fail
 refine ST.out.mono ?_
 rintro e w6 ⟨sb, rfl, hrow, hb⟩
 clear ST
 have L_6 := Lib.hid (below_then L_5.out hb)
 have E_6 := Lib.hid (E_5.out.later hb)
 have D_5 := Lib.hid (D_4.out.later hb)
 have S_1 := Lib.hid (S_0.out.later hb)
 clear L_5 E_5 D_4 S_0
 clear hb
 have hr4 : PdusV (offW (m.H lb) w6) (.slice (some ⟨sb, 0, none⟩) 4 4) [PA, PB, PC, PD] := hrow.pdus HFR.out (n := 4) (c := 4) (show 4 ≤ 4 by decide)
 have R4_0 := Lib.hid (hr4)
 clear hr4
 clear hrow
 obtain ⟨b1, o1, ho1, a1, d1, a2, d2, hPd, e0, e1, e2, e3, e4, e5⟩ := R4_0.out.cellsO (p := some ⟨sb, 0, none⟩) (c := 4) (l := [PA, PB, PC, PD]) (j := 0) (show 0 < 4 by decide)
 obtain ⟨rfl, rfl⟩ : sb = b1 ∧ 0 = o1 := by simpa using ho1
 simp only [List.getElem_cons_zero, Nat.zero_add, Nat.zero_mul] at hPd e0 e1 e2 e3 e4 e5
 have hn : ¬ m.H lb w6.heap.size := fun hh => by have := S_1.out.fresh _ hh; omega
 have hone := pdus_one (t := 41) hPd hn
 obtain ⟨w7, hw7⟩ : ∃ x, w6.alloc (.cells #[.int .i64 PA.h.op, .bool PA.h.now, .int .i64 PA.h.fl, .slice a1 PA.h.vs.length d1, .slice a2 PA.a.length d2, .string (S PA.d)] 41) = x := ⟨_, rfl⟩
 have hb : Below w6.heap.size w6 w7 := by rw [← hw7]; exact (Below.refl _ _).alloc (Nat.le_refl _) _
 have hk : Blk w7 w6.heap.size #[.int .i64 PA.h.op, .bool PA.h.now, .int .i64 PA.h.fl, .slice a1 PA.h.vs.length d1, .slice a2 PA.a.length d2, .string (S PA.d)] 41 := by rw [← hw7]; exact Blk.new w6 _ _
 rw [hw7] at hone
 clear hn hk hPd ho1
 have L_7 := Lib.hid (below_then L_6.out hb)
 have E_7 := Lib.hid (E_6.out.later hb)
 have D_6 := Lib.hid (D_5.out.later hb)
 have S_2 := Lib.hid (S_1.out.later hb)
 have R4_1 := Lib.hid (R4_0.out.later (Keeps.of hb _).off')
 clear L_6 E_6 D_5 S_1 R4_0
 clear hb
 have OPA_0 := Lib.hid (hone)
 clear hone
 have KN := knock_any [PA] _ S_2.out OPA_0.out HF1.out (by simp) EB_0.out HCO.out HDO.out
 rw [HK1.out] at KN
 unfold RetKnock pduV at KN
 simp only at KN
 replace KN := Lib.hid KN
 go_wp2_with fail
 clear hw7 e0 e1 e2 e3 e4 e5
 refine KN.out.mono ?_
 rintro e w8 ⟨m', qA, vv, va, rfl, hPA, hLS, hKK⟩
 clear KN
 have D_7 := Lib.hid (D_6.out.kp hKK ND_0.out)
 have R4_2 := Lib.hid (R4_1.out.later hKK.off')
 have OPA_1 := Lib.hid (OPA_0.out.later hKK.off')
 have L_8 := Lib.hid (below_then LB_0.out hLS.low)
 have E_8 := Lib.hid (EB_0.out.later hLS.low)
 have S_3 := Lib.hid (hLS)
 have ND_1 := Lib.hid (fun hh => (hKK.old _ hh).elim ND_0.out (fun h => by have := D_6.out.lt; omega))
 clear D_6 R4_1 OPA_0 L_7 E_7 S_2 ND_0
 obtain ⟨p3A, c3A, rfl⟩ : ∃ p c, vv = .slice p A.h.vs.length c := by obtain ⟨p, c, h, _⟩ := hPA.v; exact ⟨p, c, h⟩
 obtain ⟨p4A, c4A, rfl⟩ := hPA.a.form
 have PA_0 := Lib.hid (hPA)
 clear hPA hLS hKK
 clear OPA_1
 have hn : ¬ m'.H lb w8.heap.size := fun hh => by have := S_3.out.fresh _ hh; omega
 obtain ⟨w9, hw9⟩ : ∃ x, w8.alloc (.cells #[.int .i64 A.h.op, .bool A.h.now, .int .i64 A.h.fl, .slice p3A A.h.vs.length c3A, .slice p4A A.a.length c4A, .string (S A.d)] 41) = x := ⟨_, rfl⟩
 have hb : Below w8.heap.size w8 w9 := by rw [← hw9]; exact (Below.refl _ _).alloc (Nat.le_refl _) _
 have hk : Blk w9 w8.heap.size #[.int .i64 A.h.op, .bool A.h.now, .int .i64 A.h.fl, .slice p3A A.h.vs.length c3A, .slice p4A A.a.length c4A, .string (S A.d)] 41 := by rw [← hw9]; exact Blk.new w8 _ _
 obtain ⟨bA, hbA⟩ : ∃ x, w8.heap.size = x := ⟨_, rfl⟩
 rw [hbA] at hk hn
 have L_9 := Lib.hid (below_then L_8.out hb)
 have E_9 := Lib.hid (E_8.out.later hb)
 have D_8 := Lib.hid (D_7.out.later hb)
 have S_4 := Lib.hid (S_3.out.later hb)
 have R4_3 := Lib.hid (R4_2.out.later (Keeps.of hb _).off')
 have PA_1 := Lib.hid (PA_0.out.later (Keeps.of hb _).off')
 clear L_8 E_8 D_7 S_3 R4_2 PA_0
 clear hb
 have KA_0 := Lib.hid (hk)
 have NA_0 := Lib.hid (hn)
 clear hk hn
 obtain ⟨b1, o1, ho1, a1, d1, a2, d2, hPd, e0, e1, e2, e3, e4, e5⟩ := R4_3.out.cellsO (p := some ⟨sb, 0, none⟩) (c := 4) (l := [PA, PB, PC, PD]) (j := 1) (show 1 < 4 by decide)
 obtain ⟨rfl, rfl⟩ : sb = b1 ∧ 0 = o1 := by simpa using ho1
 simp only [List.getElem_cons_zero, List.getElem_cons_succ, Nat.zero_add, Nat.one_mul] at hPd e0 e1 e2 e3 e4 e5
 have hn : ¬ m'.H lb w9.heap.size := fun hh => by have := S_4.out.fresh _ hh; omega
 have hone := pdus_one (t := 41) hPd hn
 obtain ⟨w10, hw10⟩ : ∃ x, w9.alloc (.cells #[.int .i64 PB.h.op, .bool PB.h.now, .int .i64 PB.h.fl, .slice a1 PB.h.vs.length d1, .slice a2 PB.a.length d2, .string (S PB.d)] 41) = x := ⟨_, rfl⟩
 have hb : Below w9.heap.size w9 w10 := by rw [← hw10]; exact (Below.refl _ _).alloc (Nat.le_refl _) _
 have hk : Blk w10 w9.heap.size #[.int .i64 PB.h.op, .bool PB.h.now, .int .i64 PB.h.fl, .slice a1 PB.h.vs.length d1, .slice a2 PB.a.length d2, .string (S PB.d)] 41 := by rw [← hw10]; exact Blk.new w9 _ _
 rw [hw10] at hone
 clear hn hk hPd ho1
 have L_10 := Lib.hid (below_then L_9.out hb)
 have E_10 := Lib.hid (E_9.out.later hb)
 have D_9 := Lib.hid (D_8.out.later hb)
 have S_5 := Lib.hid (S_4.out.later hb)
 have R4_4 := Lib.hid (R4_3.out.later (Keeps.of hb _).off')
 have PA_2 := Lib.hid (PA_1.out.later (Keeps.of hb _).off')
 have KA_1 := Lib.hid (KA_0.out.later hb)
 clear L_9 E_9 D_8 S_4 R4_3 PA_1 KA_0
 clear hb
 have OPB_0 := Lib.hid (hone)
 clear hone
 have KN := knock_any [PB] _ S_5.out OPB_0.out HF2.out (by simp) EB_0.out HCO.out HDO.out
 rw [HK2.out] at KN
 unfold RetKnock pduV at KN
 simp only at KN
 replace KN := Lib.hid KN
 go_wp2_with fail
 clear hw9 hw10 e0 e1 e2 e3 e4 e5
 refine KN.out.mono ?_
 rintro e w11 ⟨m'', qB, vv, va, rfl, hPA, hLS, hKK⟩
 clear KN
 have D_10 := Lib.hid (D_9.out.kp hKK ND_1.out)
 have R4_5 := Lib.hid (R4_4.out.later hKK.off')
 have PA_3 := Lib.hid (PA_2.out.later hKK.off')
 have KA_2 := Lib.hid (KA_1.out.kp hKK NA_0.out)
 have OPB_1 := Lib.hid (OPB_0.out.later hKK.off')
 have L_11 := Lib.hid (below_then LB_0.out hLS.low)
 have E_11 := Lib.hid (EB_0.out.later hLS.low)
 have S_6 := Lib.hid (hLS)
 have ND_2 := Lib.hid (fun hh => (hKK.old _ hh).elim ND_1.out (fun h => by have := D_9.out.lt; omega))
 have NA_1 := Lib.hid (fun hh => (hKK.old _ hh).elim NA_0.out (fun h => by have := KA_1.out.lt; omega))
 clear D_9 R4_4 PA_2 KA_1 OPB_0 L_10 E_10 S_5 ND_1 NA_0
 obtain ⟨p3B, c3B, rfl⟩ : ∃ p c, vv = .slice p B.h.vs.length c := by obtain ⟨p, c, h, _⟩ := hPA.v; exact ⟨p, c, h⟩
 obtain ⟨p4B, c4B, rfl⟩ := hPA.a.form
 have PB_0 := Lib.hid (hPA)
 clear hPA hLS hKK
 clear OPB_1
 have hn : ¬ m''.H lb w11.heap.size := fun hh => by have := S_6.out.fresh _ hh; omega
 obtain ⟨w12, hw12⟩ : ∃ x, w11.alloc (.cells #[.int .i64 B.h.op, .bool B.h.now, .int .i64 B.h.fl, .slice p3B B.h.vs.length c3B, .slice p4B B.a.length c4B, .string (S B.d)] 41) = x := ⟨_, rfl⟩
 have hb : Below w11.heap.size w11 w12 := by rw [← hw12]; exact (Below.refl _ _).alloc (Nat.le_refl _) _
 have hk : Blk w12 w11.heap.size #[.int .i64 B.h.op, .bool B.h.now, .int .i64 B.h.fl, .slice p3B B.h.vs.length c3B, .slice p4B B.a.length c4B, .string (S B.d)] 41 := by rw [← hw12]; exact Blk.new w11 _ _
 obtain ⟨bB, hbB⟩ : ∃ x, w11.heap.size = x := ⟨_, rfl⟩
 rw [hbB] at hk hn
 have L_12 := Lib.hid (below_then L_11.out hb)
 have E_12 := Lib.hid (E_11.out.later hb)
 have D_11 := Lib.hid (D_10.out.later hb)
 have S_7 := Lib.hid (S_6.out.later hb)
 have R4_6 := Lib.hid (R4_5.out.later (Keeps.of hb _).off')
 have PA_4 := Lib.hid (PA_3.out.later (Keeps.of hb _).off')
 have KA_3 := Lib.hid (KA_2.out.later hb)
 have PB_1 := Lib.hid (PB_0.out.later (Keeps.of hb _).off')
 clear L_11 E_11 D_10 S_6 R4_5 PA_3 KA_2 PB_0
 clear hb
 have KB_0 := Lib.hid (hk)
 have NB_0 := Lib.hid (hn)
 clear hk hn
 obtain ⟨hs1, hs2, hs3⟩ := chal_said (d := d) HM.out.id HM.out.ch.2
 have HBL := Lib.hid hs3
 rw [← HBD.out] at hs2
 obtain ⟨CP, hCP⟩ : ∃ l, chalP d = l := ⟨_, rfl⟩
 obtain ⟨f1, f2, f3⟩ := chal_found d
 rw [hCP] at hs2 f1 f2 f3
 have PP := parse_any B.d w12 (by rw [HBD.out]; have := HBL.out; omega) E_12.out.env.mc
 rw [hs2] at PP
 unfold RetPE at PP
 replace PP := Lib.hid PP
 have HF1c := Lib.hid f1
 have HF2c := Lib.hid f2
 have HF3c := Lib.hid f3
 clear hs1 hs2 hs3 hCP f1 f2 f3
 obtain ⟨cKB0, cKB1, cKB2, cKB3, cKB4, cKB5⟩ := KB_0.out.six
 go_wp2_with fail
 clear hw12
 clear cKB0 cKB1 cKB2 cKB3 cKB4 cKB5
 refine PP.out.mono ?_
 rintro e w13 ⟨vl, ev, rfl, hpl, he, hb⟩
 obtain rfl := he.zero
 obtain ⟨ple, cle, rfl⟩ := hpl.form
 clear PP he
 have L_13 := Lib.hid (below_then L_12.out hb)
 have E_13 := Lib.hid (E_12.out.later hb)
 have D_12 := Lib.hid (D_11.out.later hb)
 have S_8 := Lib.hid (S_7.out.later hb)
 have R4_7 := Lib.hid (R4_6.out.later (Keeps.of hb _).off')
 have PA_5 := Lib.hid (PA_4.out.later (Keeps.of hb _).off')
 have KA_4 := Lib.hid (KA_3.out.later hb)
 have PB_2 := Lib.hid (PB_1.out.later (Keeps.of hb _).off')
 have KB_1 := Lib.hid (KB_0.out.later hb)
 clear L_12 E_12 D_11 S_7 R4_6 PA_4 KA_3 PB_1 KB_0
 clear hb
 have PL_0 := Lib.hid (hpl)
 clear hpl
 have FD := find_prs CP [67, 72, 65, 80, 95, 67] _ w13 PL_0.out (by rw [HF3c.out]; decide)
 rw [show prFind CP [67, 72, 65, 80, 95, 67] = some (hexL d.ch) from HF1c.out] at FD
 unfold findR at FD
 replace FD := Lib.hid FD
 go_wp2_with fail
 refine FD.out.mono ?_
 rintro e w14 ⟨rfl, hb⟩
 clear FD
 have L_14 := Lib.hid (below_then L_13.out hb)
 have E_14 := Lib.hid (E_13.out.later hb)
 have D_13 := Lib.hid (D_12.out.later hb)
 have S_9 := Lib.hid (S_8.out.later hb)
 have R4_8 := Lib.hid (R4_7.out.later (Keeps.of hb _).off')
 have PA_6 := Lib.hid (PA_5.out.later (Keeps.of hb _).off')
 have KA_5 := Lib.hid (KA_4.out.later hb)
 have PB_3 := Lib.hid (PB_2.out.later (Keeps.of hb _).off')
 have KB_2 := Lib.hid (KB_1.out.later hb)
 have PL_1 := Lib.hid (PL_0.out.later hb)
 clear L_13 E_13 D_12 S_8 R4_7 PA_5 KA_4 PB_2 KB_1 PL_0
 clear hb
 have RD := read_any (hexL d.ch) w14 (by rw [hexL_len]; have := HM.out.ch.2; omega)
 rw [readV_hexL] at RD
 unfold RetSE at RD
 replace RD := Lib.hid RD
 go_wp2_with fail
 refine RD.out.mono ?_
 rintro e w15 ⟨ev, rfl, he, hb⟩
 obtain rfl := he.zero
 clear RD he
 have L_15 := Lib.hid (below_then L_14.out hb)
 have E_15 := Lib.hid (E_14.out.later hb)
 have D_14 := Lib.hid (D_13.out.later hb)
 have S_10 := Lib.hid (S_9.out.later hb)
 have R4_9 := Lib.hid (R4_8.out.later (Keeps.of hb _).off')
 have PA_7 := Lib.hid (PA_6.out.later (Keeps.of hb _).off')
 have KA_6 := Lib.hid (KA_5.out.later hb)
 have PB_4 := Lib.hid (PB_3.out.later (Keeps.of hb _).off')
 have KB_3 := Lib.hid (KB_2.out.later hb)
 have PL_2 := Lib.hid (PL_1.out.later hb)
 clear L_14 E_14 D_13 S_9 R4_8 PA_6 KA_5 PB_3 KB_2 PL_1
 clear hb
 have FD := find_prs CP [67, 72, 65, 80, 95, 73] _ w15 PL_2.out (by rw [HF3c.out]; decide)
 rw [show prFind CP [67, 72, 65, 80, 95, 73] = some (Lib.itoa d.id) from HF2c.out] at FD
 unfold findR at FD
 replace FD := Lib.hid FD
 go_wp2_with fail
 refine FD.out.mono ?_
 rintro e w16 ⟨rfl, hb⟩
 clear FD
 have L_16 := Lib.hid (below_then L_15.out hb)
 have E_16 := Lib.hid (E_15.out.later hb)
 have D_15 := Lib.hid (D_14.out.later hb)
 have S_11 := Lib.hid (S_10.out.later hb)
 have R4_10 := Lib.hid (R4_9.out.later (Keeps.of hb _).off')
 have PA_8 := Lib.hid (PA_7.out.later (Keeps.of hb _).off')
 have KA_7 := Lib.hid (KA_6.out.later hb)
 have PB_5 := Lib.hid (PB_4.out.later (Keeps.of hb _).off')
 have KB_4 := Lib.hid (KB_3.out.later hb)
 have PL_3 := Lib.hid (PL_2.out.later hb)
 clear L_15 E_15 D_14 S_10 R4_9 PA_7 KA_6 PB_4 KB_3 PL_2
 clear hb
 obtain ⟨k, hk⟩ := Int.eq_ofNat_of_zero_le HM.out.id.1
 have hki := HM.out.id.2
 rw [itoa_dec HM.out.id.1]
 have hkt : d.id.toNat = k := by omega
 rw [hkt]
 have NB := numberT_any k k (Nat.le_refl _) (by omega) w16
 rw [← hk] at NB
 replace NB := Lib.hid NB
 have hkA := KA_7.out
 rw [HAD.out] at hkA
 obtain ⟨a0, a1, a2, a3, a4, a5⟩ := hkA.six
 obtain ⟨dd0, dd1⟩ := D_15.out.two
 have hcp := HF3c.out
 rw [hcp]
 clear hki hkt hkA hcp hk
 go_wp2_with fail
 refine NB.out.mono ?_
 rintro e wE ⟨rfl, hbE⟩
 have hkE := KA_7.out.later hbE
 rw [HAD.out] at hkE
 clear a0 a1 a2 a3 a4 a5 dd0 dd1
 obtain ⟨a0, a1, a2, a3, a4, a5⟩ := hkE.six
 clear hkE
 have HBE := Lib.hid (below_then L_16.out hbE)
 clear hbE NB
 go_wp2_with fail
 go_ret
 exact ⟨rfl, HBE.out⟩
end Go.Proofs.YtjbbbpgcegcbaaaGreatDoor
namespace Go.Proofs.YtjbbbpgcegcbaaaGreatDoor
open Go.RowKit
def laidLoginSays : List (String × DataW Unit) := [("math/bits.deBruijn32tab", Rows.laid_math_bits_deBruijn32tab), ("math/bits.deBruijn64tab", Rows.laid_math_bits_deBruijn64tab), ("internal/strconv.uint64pow10", Rows.laid_internal_strconv_uint64pow10), ("unicode/utf8.acceptRanges", Rows.laid_unicode_utf8_acceptRanges), ("errors.errorType", Rows.laid_errors_errorType), ("strconv.ErrRange", Rows.laid_strconv_ErrRange), ("strconv.ErrSyntax", Rows.laid_strconv_ErrSyntax), ("quaymaster/md5.numbers", Rows.laid_quaymaster_md5_numbers), ("quaymaster/md5.turns", Rows.laid_quaymaster_md5_turns), ("unicode/utf8.first", Rows.laid_unicode_utf8_first)]
def plainLoginSays : List (String × DataW Unit) := [("math/bits.deBruijn32tab", Rows.laid_math_bits_deBruijn32tab), ("math/bits.deBruijn64tab", Rows.laid_math_bits_deBruijn64tab), ("internal/strconv.uint64pow10", Rows.laid_internal_strconv_uint64pow10), ("unicode/utf8.acceptRanges", Rows.laid_unicode_utf8_acceptRanges), ("strconv.ErrRange", Rows.laid_strconv_ErrRange), ("strconv.ErrSyntax", Rows.laid_strconv_ErrSyntax), ("quaymaster/md5.numbers", Rows.laid_quaymaster_md5_numbers), ("quaymaster/md5.turns", Rows.laid_quaymaster_md5_turns), ("unicode/utf8.first", Rows.laid_unicode_utf8_first)]
noncomputable def laidWorldLoginSays (os : Os) : World := (laidWorld os).layVars Tryz.prog plainLoginSays
set_option maxRecDepth 100000 in
theorem laidWorldLoginSays_plain (os : Os) (args : Array Value) : laidMet Tryz.prog plainLoginSays ((laidWorldLoginSays os).forCall (fun _ _ => 0) ⟨#[], args, []⟩).memory := laidMet_lay (w0 := (laidWorld os)) args (by kernel_rfl) (by kernel_rfl)
set_option maxRecDepth 100000 in
theorem laidWorldLoginSays_met (os : Os) (args : Array Value) : laidMetH Tryz.prog laidLoginSays ((laidWorldLoginSays os).forCall (fun _ _ => 0) ⟨#[], args, []⟩).memory :=
 laidMetH_of_parts (laidWorldLoginSays_plain os args) (by kernel_rfl)
theorem laidWorldLoginSays_os (os : Os) : (laidWorldLoginSays os).os = os := World.layVars_os _ _ _
theorem partsLoginSays {W : World} (h : laidMetH Tryz.prog laidLoginSays W) : laidMet Tryz.prog [("math/bits.deBruijn32tab", Rows.laid_math_bits_deBruijn32tab), ("math/bits.deBruijn64tab", Rows.laid_math_bits_deBruijn64tab), ("internal/strconv.uint64pow10", Rows.laid_internal_strconv_uint64pow10), ("unicode/utf8.acceptRanges", Rows.laid_unicode_utf8_acceptRanges), ("strconv.ErrRange", Rows.laid_strconv_ErrRange), ("strconv.ErrSyntax", Rows.laid_strconv_ErrSyntax), ("quaymaster/md5.numbers", Rows.laid_quaymaster_md5_numbers), ("quaymaster/md5.turns", Rows.laid_quaymaster_md5_turns), ("unicode/utf8.first", Rows.laid_unicode_utf8_first)] W ∧ handlesMet Tryz.prog [("errors.errorType", Rows.laid_errors_errorType)] W := h
theorem errCell_LoginSays {W : World} (h : laidMetH Tryz.prog laidLoginSays W) : ErrCell W := errCell_of_handles (partsLoginSays h).2 (List.mem_singleton.2 rfl)
theorem readsLoginSays {W : World} (h : laidMetH Tryz.prog laidLoginSays W) {n : String} {d : DataW Unit} (hm : (n, d) ∈ ([("math/bits.deBruijn32tab", Rows.laid_math_bits_deBruijn32tab), ("math/bits.deBruijn64tab", Rows.laid_math_bits_deBruijn64tab), ("internal/strconv.uint64pow10", Rows.laid_internal_strconv_uint64pow10), ("unicode/utf8.acceptRanges", Rows.laid_unicode_utf8_acceptRanges), ("strconv.ErrRange", Rows.laid_strconv_ErrRange), ("strconv.ErrSyntax", Rows.laid_strconv_ErrSyntax), ("quaymaster/md5.numbers", Rows.laid_quaymaster_md5_numbers), ("quaymaster/md5.turns", Rows.laid_quaymaster_md5_turns), ("unicode/utf8.first", Rows.laid_unicode_utf8_first)] : List (String × DataW Unit))) : Go.Lib.VarReads Tryz.prog W n d := Go.Lib.laidMet.reads (partsLoginSays h).1 hm
theorem tabsLoginSays {W : World} (h : laidMetH Tryz.prog laidLoginSays W) : MdTabs W := mdTabs_of_reads (readsLoginSays h (by simp)) (readsLoginSays h (by simp))
end Go.Proofs.YtjbbbpgcegcbaaaGreatDoor
namespace Go.Proofs.YtjbbbpgcegcbaaaGreatDoor.loginSays
open Go.ChangeShapes Go.WideShapes Go.ChangeAt Go.RowKit
open Go.ChangeMaps (open_string shut_string)
set_option linter.unusedVariables false
theorem own : ownKnob Tryz.prog.godebug = none := by kernel_rfl
theorem laidOut : laidOutB Tryz.prog = true := by kernel_rfl
set_option maxRecDepth 100000 in
theorem contract (H : Type) (enc : TypeId × Value → H) (W : World) (base : Nat) (args : Array Value) (ds gs : List (DataW H)) (before : List MemPlace)
  (hval : ∀ (j : Nat) t v, Tryz.f5.params[j]? = some t → args[j]? = some v → Value.okWide Tryz.prog W .any base t v)
  (hW : DataW.Whole enc Tryz.prog Tryz.f5.params.toList Rows.loginSaysSpec.vars false W args.toList ds gs before)
  (hsz0 : (DataW.weightsEach Tryz.prog (Tryz.f5.params.toList ++ Rows.loginSaysSpec.plain.varTypes Tryz.prog) (ds ++ gs)).all (· ≤ reachBytes) = true)
  (hL : laidMetH Tryz.prog Rows.loginSaysRow.laid W) (hS : W.ShapedOpen Tryz.prog)
  : Calls Tryz.prog 5 args W fun e W' => ∃ v, e = .returned v ∧ Rows.loginSaysSpec.post enc Tryz.prog Tryz.f5 false true false false W args v W' := by
 have hW' := hW
 obtain ⟨p, q, hA0, hV, rfl, hfz, hnd⟩ := hW
 have hsz : (DataW.weightsEach Tryz.prog (Tryz.f5.params.toList ++ Rows.loginSaysSpec.plain.varTypes Tryz.prog) (ds ++ gs)).all (· ≤ reachBytes) = true := hsz0
 have hA : DataW.TrodAll enc Tryz.prog W 0 (fun _ => true) true Tryz.f5.params.toList args.toList ds p := hA0
 rw [Tryz.params5] at hA hval hsz
 obtain ⟨v0, vs0, d0, ds0, p0, q0, hargs, rfl, rfl, h0, r0⟩ := trodAll_cons hA
 obtain ⟨v1, vs1, d1, ds1, p1, q1, rfl, rfl, rfl, h1, r1⟩ := trodAll_cons r0
 obtain ⟨v2, vs2, d2, ds2, p2, q2, rfl, rfl, rfl, h2, r2⟩ := trodAll_cons r1
 obtain ⟨rfl, rfl, rfl⟩ := trodAll_nil r2
 obtain rfl : args = #[v0, v1, v2] := by cases args; simp_all
 obtain ⟨rfl, rfl⟩ := trodVars_none hV
 obtain ⟨s0, rfl, rfl, rfl, ws0⟩ := open_string Tryz.underlying9 (hval 0 9 v0 rfl rfl) h0
 have hz0 := sized_string hsz (j := 0) rfl rfl
 obtain ⟨l0, rfl⟩ := S_of s0
 have hb0 : l0.length ≤ 140737488351232 := by simpa [S, reachBytes] using hz0
 obtain ⟨s1, rfl, rfl, rfl, ws1⟩ := open_string Tryz.underlying9 (hval 1 9 v1 rfl rfl) h1
 have hz1 := sized_string hsz (j := 1) rfl rfl
 obtain ⟨l1, rfl⟩ := S_of s1
 have hb1 : l1.length ≤ 140737488351232 := by simpa [S, reachBytes] using hz1
 have hk2 := h2
 have hlt2 : ∀ x ∈ p2, x.block < W.heap.size := fun x hx => by simpa using hW'.lt x (by simp [hx])
 obtain ⟨pr2, rfl, hF2⟩ := open_draw hsz (j := 2) rfl rfl (hval 2 31 v2 rfl rfl) h2
 clear hA0 hsz0
 refine (loginSays_any l0 l1 pr2 W hb0 hb1 hF2 (EnvL.mk (env_of hS (readsLoginSays hL (by simp)) (readsLoginSays hL (by simp)) (readsLoginSays hL (by simp))) (errCell_LoginSays hL) (tabsLoginSays hL))).mono fun e W' ⟨he, bel⟩ => ?_
 subst he
 exact ⟨_, rfl, _, _, _, [], _, [], hW', trodAll_mk1 (shut_bool Tryz.underlying4 _), trodAll_cons_mk (shut_string Tryz.underlying9 ws0) (trodAll_cons_mk (shut_string Tryz.underlying9 ws1) (trodAll_cons_mk (Below.trod laidOut (by kernel_rfl) (of_decide_eq_true (by kernel_rfl)) hk2 bel hlt2) trodAll_mk0)), rfl, bel.frame _, fun h => by cases h⟩
theorem reads (os : Os) {H : Type} (enc : TypeId × Value → H) : ∃ places, DataW.whole enc Tryz.prog ((laidWorldLoginSays os).forCall (fun _ _ => 0) ⟨#[], #[.string ⟨#[]⟩, .string ⟨#[]⟩, .agg #[.int .i64 0, .string ⟨#[]⟩]], []⟩).memory Tryz.f5.params.toList Rows.loginSaysSpec.vars false (#[.string ⟨#[]⟩, .string ⟨#[]⟩, .agg #[.int .i64 0, .string ⟨#[]⟩]] : Array Value).toList 8 = some ([.lit (.string []), .lit (.string []), .agg [.lit (.int .i64 0), .lit (.string [])]], [], places) :=
 ⟨[], by kernel_rfl⟩
set_option maxRecDepth 100000 in
theorem lifted (os : Os) (started : os.Started) (H : Type) (enc : TypeId × Value → H) (F : Stop.Interp) :
  ReturnsInHanded {} Tryz.checked os 5 .any ((OpenSpec.ofChange Rows.loginSaysSpec).preRow enc Tryz.prog Tryz.f5 Rows.loginSaysRow.domain false Rows.loginSaysRow.laid) (((OpenSpec.ofChange Rows.loginSaysSpec).at F).post enc Tryz.prog Tryz.f5 false true false false) := by
 obtain ⟨places, hx⟩ := reads os enc
 refine returnsInHanded_of_row (C := Tryz.checked) (s := OpenSpec.ofChange Rows.loginSaysSpec) own started (by kernel_rfl) Tryz.func5
  (witness_row_atRef (enc := enc) (C := Tryz.checked) false (laidWorldLoginSays os) #[.string ⟨#[]⟩, .string ⟨#[]⟩, .agg #[.int .i64 0, .string ⟨#[]⟩]] (laidWorldLoginSays_os os) (by kernel_rfl) (by kernel_rfl) (by kernel_rfl)
   (OpenSpec.preRow_of_cond 8 hx (by kernel_rfl) (fun k hk => by cases hk) (by kernel_rfl) (laidWorldLoginSays_met os _))) ?_
 intro W base args ds gs before hval hW _ _ hsz hL hS _
 exact contract H enc W base args ds gs before hval hW hsz hL hS
theorem k0 : (Rows.loginSaysRow.wf (OpenSpec.ofChange (Rows.loginSaysSpec))) = true := by kernel_rfl
theorem k3 : (Tryz.f5.params.all (Tryz.pinned.checked.prog.readableRec ·)) = true := by kernel_rfl
theorem k4 : (namedTie Tryz.pinned.checked.prog Rows.loginSaysRow.named (Rows.loginSaysSpec).vars) = true := by kernel_rfl
theorem k5 : ((Rows.loginSaysRow.stops == [])) = true := by kernel_rfl
theorem k7 : ((Rows.loginSaysRow.knobs == [])) = true := by kernel_rfl
theorem k9 : ((Rows.loginSaysRow.inPlace == Tryz.pinned.checked.prog.inPlace 5)) = true := by kernel_rfl
theorem k10 : ((Rows.loginSaysRow.unfollowed == Tryz.pinned.checked.prog.unfollowed 5)) = true := by kernel_rfl
theorem k11 : ((Rows.loginSaysRow.recurses == Tryz.pinned.checked.prog.recurses 5)) = true := by kernel_rfl
theorem k12 : ((Rows.loginSaysRow.named == Tryz.pinned.checked.prog.varsNamed 5)) = true := by kernel_rfl
theorem k13 : ((Rows.loginSaysRow.maps == (Tryz.f5.params.toList ++ (Rows.loginSaysSpec).plain.varTypes Tryz.pinned.checked.prog).any (Tryz.pinned.checked.prog.mapsRec ·))) = true := by kernel_rfl
theorem k14 : ((Rows.loginSaysRow.ifaces == (Tryz.f5.params.toList ++ (Rows.loginSaysSpec).plain.varTypes Tryz.pinned.checked.prog).any (Tryz.pinned.checked.prog.ifacesRec ·))) = true := by kernel_rfl
theorem k15 : ((Rows.loginSaysRow.mapsOut == Tryz.pinned.checked.prog.mapsAmong Tryz.f5.resultTypes.toList)) = true := by kernel_rfl
theorem k16 : ((Rows.loginSaysRow.loops == (Tryz.f5.params.toList ++ (Rows.loginSaysSpec).plain.varTypes Tryz.pinned.checked.prog).any (Tryz.pinned.checked.prog.loopsFrom ·))) = true := by kernel_rfl
theorem k17 : ((Rows.loginSaysRow.wideKeys == (Tryz.f5.params.toList ++ (Rows.loginSaysSpec).plain.varTypes Tryz.pinned.checked.prog ++ Tryz.f5.resultTypes.toList).any (Tryz.pinned.checked.prog.wideKeysFrom ·))) = true := by kernel_rfl
theorem k18 : ((Rows.loginSaysSpec).vars.all (Tryz.pinned.checked.prog.varReadable ·)) = true := by kernel_rfl
theorem k19 : (Tryz.f5.resultTypes.all (fun t => Tryz.pinned.checked.prog.readableRec t && decide (t < Tryz.pinned.checked.prog.types.size))) = true := by kernel_rfl
theorem k20 : ((Rows.loginSaysRow.ifacesOut == Tryz.f5.resultTypes.toList.any (Tryz.pinned.checked.prog.ifacesRec ·))) = true := by kernel_rfl
theorem k21 : ((Rows.loginSaysRow.loopsOut == Tryz.f5.resultTypes.toList.any (Tryz.pinned.checked.prog.loopsFrom ·))) = true := by kernel_rfl
theorem k22 : ((Rows.loginSaysRow.plainKeys == Tryz.pinned.checked.prog.plainKeys)) = true := jo22
theorem k23 : (Rows.loginSaysRow.shortTexts.isNone) = true := by kernel_rfl
theorem k26 : ((Rows.loginSaysRow.lifted == Tryz.pinned.checked.prog.liftsFinal)) = true := jo26
theorem k27 : ((Tryz.pinned.checked.prog.make == some Rows.loginSaysRow.make)) = true := jo27
theorem k28 : ((Rows.loginSaysRow.kinds == (if Rows.loginSaysRow.domain.isEmpty then [] else Tryz.f5.params.toList.map fun t => match Tryz.pinned.checked.prog.underlying t with | some (.int k) => some k | _ => none))) = true := by kernel_rfl
theorem k29 : ((Rows.loginSaysRow.pinned == Rows.loginSaysRow.pinnedBy)) = true := by kernel_rfl
theorem k30 : ((Rows.loginSaysRow.veiled == (Tryz.f5.params.toList ++ (Rows.loginSaysSpec).plain.varTypes Tryz.pinned.checked.prog ++ Tryz.f5.resultTypes.toList).any (Tryz.pinned.checked.prog.veiledRec ·))) = true := by kernel_rfl
theorem k31 : (Rows.loginSaysRow.veiledFits Tryz.pinned.checked.prog Tryz.f5.params.toList (Tryz.f5.params.toList ++ (Rows.loginSaysSpec).plain.varTypes Tryz.pinned.checked.prog ++ Tryz.f5.resultTypes.toList)) = true := by kernel_rfl
set_option maxRecDepth 100000 in
theorem closed : joinedFacts Tryz.pinned.checked.prog 5 Tryz.f5 (OpenSpec.ofChange (Rows.loginSaysSpec)).bare Rows.loginSaysRow = true := and_mk (and_mk (and_mk (and_mk (and_mk (and_mk (and_mk (and_mk (and_mk (and_mk (and_mk (and_mk (and_mk (and_mk (and_mk (and_mk (and_mk (and_mk (and_mk (and_mk (and_mk (and_mk (and_mk (and_mk (and_mk (and_mk (and_mk (and_mk (and_mk (and_mk (and_mk (k0) jo1) jo2) k3) k4) k5) jo6) k7) jo8) k9) k10) k11) k12) k13) k14) k15) k16) k17) k18) k19) k20) k21) k22) k23) jo24) jo25) k26) k27) k28) k29) k30) k31
theorem said : Rows.LoginSaysSaid :=
 OpenClaim.holds_of_cond 5 Tryz.f5 rfl rfl rfl rfl rfl rfl rfl ⟨rfl, rfl, rfl, rfl, rfl⟩ rfl rfl rfl rfl rfl (by kernel_rfl) Tryz.func5 closed
  (of_decide_eq_true (by kernel_rfl)) (by unfold Func.isWrapper; first | (rw [if_pos (by decide +kernel)]; kernel_rfl) | (rw [if_neg (by decide +kernel)]; exact ⟨rfl, rfl⟩))
  (fun os started H enc _ F => by rw [OpenClaim.pre_eq_preRow]; exact lifted os started H enc F)
theorem plain (f : FuncId) (fn : Func) (hf : Tryz.pinned.checked.prog.funcNamed "quaymaster/quaymasterkeep.LoginSays" = some f) (hfn : Tryz.pinned.checked.prog.funcs[f]? = some fn) :
  true = Tryz.pinned.checked.prog.looks [] ∧ ∀ (j : Nat) t, fn.params[j]? = some t → Tryz.pinned.checked.prog.wantsStandIn t = false := by
 obtain rfl : f = 5 := Option.some.inj ((show Tryz.prog.funcNamed "quaymaster/quaymasterkeep.LoginSays" = some 5 by kernel_rfl).symm.trans hf) |>.symm
 obtain rfl : fn = Tryz.f5 := (Option.some.inj (Tryz.func5.symm.trans hfn)).symm
 refine ⟨by kernel_rfl, fun j t ht => ?_⟩
 rw [Tryz.params5] at ht
 have hm : t ∈ ([9, 9, 31] : List TypeId) := by
  have := Array.mem_of_getElem? ht
  simpa using this
 have hall : ([9, 9, 31] : List TypeId).all (fun t => !Tryz.prog.wantsStandIn t) = true := by kernel_rfl
 have hn := List.all_eq_true.1 hall t hm
 show Tryz.prog.wantsStandIn t = false
 simpa using hn
theorem proved : Rows.LoginSaysCardSaid :=
 Claim7.holds_tied_plain_at .later [] _ _ _ _ said (fun _ h => by cases h) (by kernel_rfl) (fun _ h => by cases h) loginSays_row_tie rfl ⟨rfl, rfl⟩ (by kernel_rfl) rfl plain (by kernel_rfl)
#print axioms proved
end Go.Proofs.YtjbbbpgcegcbaaaGreatDoor.loginSays
