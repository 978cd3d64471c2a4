/- LM44: several texts in one. -/
import Derived.LaidHandle
import Derived.LaidLaws
import Derived.Lay
import Derived.Lib.LaidTab
import Derived.Lib.LaidU8
import Derived.Stop.Joined
import Derived.Test.YtmkebjdmkkjloaaGreatDoorCards
import Derived.Test.YtmkebjdmkkjloaaGreatDoorRows
import Derived.Test.YtmkebjdmkkjloaaGreatDoorLM02
import Derived.Test.YtmkebjdmkkjloaaGreatDoorLM07
import Derived.Test.YtmkebjdmkkjloaaGreatDoorLM12
import Derived.Test.YtmkebjdmkkjloaaGreatDoorLM42
namespace Go.Proofs.YtmkebjdmkkjloaaGreatDoor
open Go Go.RowKit
set_option linter.unusedVariables false
set_option maxRecDepth 100000 in
set_option maxHeartbeats 8000000 in
theorem loginMethodsU_any (v : List UInt8) (w : World) (hv : v.length ≤ 140737488351232) (hE : EnvL w) :
  Calls Tryz.prog 10 #[.string (S v), .bool true] w fun e w' => e = .returned (.bool true) ∧ Below w.heap.size w w' := by
 have HC0 := Lib.hid confU_ok
 have HVL := Lib.hid hv
 clear hv
 have hE0 := Lib.hid hE
 have L_0 := Lib.hid (Below.refl w.heap.size w)
 have E_0 := Lib.hid (hE)
 clear hE
 go_enter Tryz.func10, Tryz.ntmps10
 have EN := entered_any w E_0.out
 replace EN := Lib.hid EN
 go_wp2_with fail
 refine EN.out.mono ?_
 rintro e w1 ⟨rfl, hb⟩
 clear EN
 have L_1 := Lib.hid (below_then L_0.out hb)
 have E_1 := Lib.hid (E_0.out.later hb)
 clear L_0 E_0
 clear hb
 have KY := keyed_any w1 E_1.out.env E_1.out.err
 replace KY := Lib.hid KY
 go_wp2_with fail
 refine KY.out.mono ?_
 rintro e w2 ⟨rfl, hb⟩
 clear KY
 have L_2 := Lib.hid (below_then L_1.out hb)
 have E_2 := Lib.hid (E_1.out.later hb)
 clear L_1 E_1
 clear hb
 have V1 := value_any2 v w2 (by have := HVL.out; omega)
 replace V1 := Lib.hid V1
 go_wp2_with fail
 refine V1.out.mono ?_
 rintro e w' ⟨rfl, rfl⟩
 clear V1
 cases hvv : isVal v with
 | false =>
  clear hvv
  go_wp2_with fail
  go_ret
  exact ⟨rfl, L_2.out⟩
 | true =>
  have HV := Lib.hid hvv
  clear hvv
  have C := confO_any w2
  unfold confV at C
  replace C := Lib.hid C
  go_wp2_with fail
  refine C.out.mono ?_
  rintro e w3 ⟨vt, vp, rfl, hvc, hoo, hb⟩
  clear C
  obtain ⟨pt, ct, rfl, -⟩ := hvc.ts
  obtain ⟨pp, cp, rfl, -⟩ := hvc.ps
  have L_3 := Lib.hid (below_then L_2.out hb)
  have E_3 := Lib.hid (E_2.out.later hb)
  clear L_2 E_2
  clear hb
  have HLC := L_3
  obtain ⟨cb, hcb⟩ : ∃ x, w3.heap.size = x := ⟨_, rfl⟩
  obtain ⟨wz, hwz⟩ : ∃ x, w3.alloc (.cells #[.slice none 0 0, .slice none 0 0, .slice none 0 0, .string (S []), .string (S []), .int .i64 0, .slice none 0 0] 29) = x := ⟨_, rfl⟩
  have bz : Below w3.heap.size w3 wz := by rw [← hwz]; exact (Below.refl _ _).alloc (Nat.le_refl _) _
  have kz : Blk wz w3.heap.size #[.slice none 0 0, .slice none 0 0, .slice none 0 0, .string (S []), .string (S []), .int .i64 0, .slice none 0 0] 29 := by rw [← hwz]; exact Blk.new w3 _ _
  rw [hcb] at kz
  obtain ⟨y0, y1, y2, y3, y4, y5, y6⟩ := kz.seven
  have v0 := kz.frozen 0
  have v1 := kz.frozen 1
  have v2 := kz.frozen 2
  have v3 := kz.frozen 3
  have v4 := kz.frozen 4
  have v5 := kz.frozen 5
  have v6 := kz.frozen 6
  obtain ⟨w4, hw4⟩ : ∃ x, (((((((wz.setCell ⟨cb, 0, none⟩ (.slice pt conf0.ts.length ct)).setCell ⟨cb, 1, none⟩ (.slice pp conf0.ps.length cp)).setCell ⟨cb, 2, none⟩ (.slice none 0 0)).setCell ⟨cb, 3, none⟩ (.string (S conf0.sn))).setCell ⟨cb, 4, none⟩ (.string (S conf0.ss))).setCell ⟨cb, 5, none⟩ (.int .i64 conf0.lim)).setCell ⟨cb, 6, none⟩ (.slice none 0 0)) = x := ⟨_, rfl⟩
  have hb : Below w3.heap.size w3 w4 := by rw [← hw4]; exact blk_seven kz (by omega) bz
  have hk : Blk w4 cb #[.slice pt conf0.ts.length ct, .slice pp conf0.ps.length cp, .slice none 0 0, .string (S conf0.sn), .string (S conf0.ss), .int .i64 conf0.lim, .slice none 0 0] 29 := by rw [← hw4]; exact (((((((kz.set 0 (.slice pt conf0.ts.length ct)).set 1 (.slice pp conf0.ps.length cp)).set 2 (.slice none 0 0)).set 3 (.string (S conf0.sn))).set 4 (.string (S conf0.ss))).set 5 (.int .i64 conf0.lim)).set 6 (.slice none 0 0))
  have hvc2 := hvc.later hb
  clear bz kz
  have L_4 := Lib.hid (below_then L_3.out hb)
  have E_4 := Lib.hid (E_3.out.later hb)
  clear L_3 E_3
  clear hb
  have HK := Lib.hid hk
  clear hk hvc hvc2 hoo
  have hlt := HK.out.lt
  have G := guarded_any [109, 101] [115] w4
  unfold RetGrd confV at G
  replace G := Lib.hid G
  go_wp2_with fail
  clear hwz hw4 y0 y1 y2 y3 y4 y5 y6 v0 v1 v2 v3 v4 v5 v6
  refine G.out.mono ?_
  rintro e w5 ⟨vt2, vp2, vu2, rfl, hv2, ho2, hou, hb⟩
  clear G
  obtain ⟨pt2, ct2, rfl, -⟩ := hv2.ts
  obtain ⟨pp2, cp2, rfl, -⟩ := hv2.ps
  obtain ⟨pu2, cu2, rfl, -⟩ := hv2.us
  have hk3 := HK.out.later hb
  have L_5 := Lib.hid (below_then L_4.out hb)
  have E_5 := Lib.hid (E_4.out.later hb)
  clear L_4 E_4
  clear hb
  obtain ⟨r0, r1, r2, r3, r4, r5, r6⟩ := hk3.seven
  have f0 := hk3.frozen 0
  have f1 := hk3.frozen 1
  have f2 := hk3.frozen 2
  have f3 := hk3.frozen 3
  have f4 := hk3.frozen 4
  have f5 := hk3.frozen 5
  have f6 := hk3.frozen 6
  obtain ⟨w6, hw6⟩ : ∃ x, (((((((w5.setCell ⟨cb, 0, none⟩ (.slice pt2 (confG [109, 101] [115]).ts.length ct2)).setCell ⟨cb, 1, none⟩ (.slice pp2 (confG [109, 101] [115]).ps.length cp2)).setCell ⟨cb, 2, none⟩ (.slice pu2 (confG [109, 101] [115]).us.length cu2)).setCell ⟨cb, 3, none⟩ (.string (S (confG [109, 101] [115]).sn))).setCell ⟨cb, 4, none⟩ (.string (S (confG [109, 101] [115]).ss))).setCell ⟨cb, 5, none⟩ (.int .i64 (confG [109, 101] [115]).lim)).setCell ⟨cb, 6, none⟩ (.slice none 0 0)) = x := ⟨_, rfl⟩
  have hk : Blk w6 cb #[.slice pt2 (confG [109, 101] [115]).ts.length ct2, .slice pp2 (confG [109, 101] [115]).ps.length cp2, .slice pu2 (confG [109, 101] [115]).us.length cu2, .string (S (confG [109, 101] [115]).sn), .string (S (confG [109, 101] [115]).ss), .int .i64 (confG [109, 101] [115]).lim, .slice none 0 0] 29 := by rw [← hw6]; exact (((((((hk3.set 0 (.slice pt2 (confG [109, 101] [115]).ts.length ct2)).set 1 (.slice pp2 (confG [109, 101] [115]).ps.length cp2)).set 2 (.slice pu2 (confG [109, 101] [115]).us.length cu2)).set 3 (.string (S (confG [109, 101] [115]).sn))).set 4 (.string (S (confG [109, 101] [115]).ss))).set 5 (.int .i64 (confG [109, 101] [115]).lim)).set 6 (.slice none 0 0))
  have he : ∀ k, k ≠ cb → w6.heap[k]? = w5.heap[k]? := fun k hk => by rw [← hw6]; exact seven_else _ _ _ _ _ _ _ _ _ _ hk
  have hcw : w.heap.size ≤ cb := by rw [← hcb]; exact HLC.out.size
  have hlow : Below w.heap.size w w6 := by rw [← hw6]; exact blk_seven hk3 hcw L_5.out
  have hvc2 : ConfAt w6 confU (.slice pt2 (confG [109, 101] [115]).ts.length ct2) (.slice pp2 (confG [109, 101] [115]).ps.length cp2) (.slice pu2 (confG [109, 101] [115]).us.length cu2) (.slice none 0 0) := ⟨hv2.ts.moved ho2.1 hlt (fun k _ hn => he k hn), hv2.ps.moved ho2.2 hlt (fun k _ hn => he k hn), hv2.us.moved hou hlt (fun k _ hn => he k hn), PrsV.nil _, hv2.tc⟩
  have HENV := Lib.hid (EnvL.later hE0.out hlow)
  have HLOW := Lib.hid hlow
  clear hv2 ho2 hou hk3 he hcw hlow hlt HK
  have L_6 := HLOW
  clear HLOW L_5
  have E_6 := HENV
  clear HENV E_5
  have HKC := Lib.hid hk
  have HVC := Lib.hid hvc2
  clear hk hvc2
  have KEEP := Lib.hid (fun (W : World) (hb : Below w6.heap.size w6 W) => (⟨hb, (HKC.out.later hb).cell 0, (HKC.out.later hb).cell 1, (HKC.out.later hb).cell 2, (HKC.out.later hb).cell 3, (HKC.out.later hb).cell 4, (HKC.out.later hb).cell 5, (HKC.out.later hb).cell 6⟩ : Below w6.heap.size w6 W ∧ W.cell? ⟨cb, 0, none⟩ = some (.slice pt2 (confG [109, 101] [115]).ts.length ct2) ∧ W.cell? ⟨cb, 1, none⟩ = some (.slice pp2 (confG [109, 101] [115]).ps.length cp2) ∧ W.cell? ⟨cb, 2, none⟩ = some (.slice pu2 (confG [109, 101] [115]).us.length cu2) ∧ W.cell? ⟨cb, 3, none⟩ = some (.string (S (confG [109, 101] [115]).sn)) ∧ W.cell? ⟨cb, 4, none⟩ = some (.string (S (confG [109, 101] [115]).ss)) ∧ W.cell? ⟨cb, 5, none⟩ = some (.int .i64 (confG [109, 101] [115]).lim) ∧ W.cell? ⟨cb, 6, none⟩ = some (.slice none 0 0)))
  have NW := fun (W : World) (hb : Below w6.heap.size w6 W) => new_ls confU dw0 (.slice pt2 (confG [109, 101] [115]).ts.length ct2) (.slice pp2 (confG [109, 101] [115]).ps.length cp2) (.slice pu2 (confG [109, 101] [115]).us.length cu2) (.slice none 0 0) W (HVC.out.later hb) confU_fit (E_6.out.later hb) new_confU
  unfold confV at NW
  replace NW := Lib.hid NW
  go_wp2_with fail
  clear hw6 r0 r1 r2 r3 r4 r5 r6 f0 f1 f2 f3 f4 f5 f6
  refine wp_region_held (S := (fun W => Below w6.heap.size w6 W ∧ W.cell? ⟨cb, 0, none⟩ = some (.slice pt2 (confG [109, 101] [115]).ts.length ct2) ∧ W.cell? ⟨cb, 1, none⟩ = some (.slice pp2 (confG [109, 101] [115]).ps.length cp2) ∧ W.cell? ⟨cb, 2, none⟩ = some (.slice pu2 (confG [109, 101] [115]).us.length cu2) ∧ W.cell? ⟨cb, 3, none⟩ = some (.string (S (confG [109, 101] [115]).sn)) ∧ W.cell? ⟨cb, 4, none⟩ = some (.string (S (confG [109, 101] [115]).ss)) ∧ W.cell? ⟨cb, 5, none⟩ = some (.int .i64 (confG [109, 101] [115]).lim) ∧ W.cell? ⟨cb, 6, none⟩ = some (.slice none 0 0))) (by kernel_rfl) ?_
  have eA : Below w6.heap.size w6 { w6 with drawn := w6.drawn + 1 } := (Below.refl _ _).drew
  generalize ({ w6 with drawn := w6.drawn + 1 } : World) = wA at eA ⊢
  have hSA := KEEP.out _ eA
  refine takeN _ (some 31) (i := 0) rfl rfl (by kernel_rfl) (by kernel_rfl) (by kernel_rfl) (fun _ _ _ h => h) (Or.inl ⟨by rfl, fun w' hw' => by (obtain ⟨_, z0, z1, z2, z3, z4, z5, z6⟩ := hw'; go_simp <;> rfl)⟩) hSA ?_
  simp only [Act.put, iA, iB, iC]
  refine wpAnyH_all (rs := [1]) (by kernel_rfl) (by simp) (fun i hi => ?_)
  obtain rfl : i = 1 := by simpa using hi
  refine wantN (i := 1) rfl (by rfl) (callN (f := 26) (some 32) rfl Tryz.func26 (by kernel_rfl) (by kernel_rfl) rfl rfl ?_)
  simp only [List.map_toArray, List.map_nil]
  refine (draw_any _).mono ?_
  rintro e wD ⟨rfl, hbD⟩
  have eD := below_then eA hbD
  have hSD := KEEP.out _ eD
  clear hbD
  refine ⟨_, rfl, hSD, ?_⟩
  try dsimp only
  simp only [Act.put, iA, iB, iC]
  refine wpAnyH_all (rs := [2]) (by kernel_rfl) (by simp) (fun i hi => ?_)
  obtain rfl : i = 2 := by simpa using hi
  refine wantN (i := 2) rfl (by rfl) (callN (f := 24) (some 33) rfl Tryz.func24 (by kernel_rfl) (by kernel_rfl) rfl rfl ?_)
  simp only [List.map_toArray, List.map_cons, List.map_nil]
  refine (NW.out _ eD).mono ?_
  rintro e wN ⟨lb, m, rfl, hL, -⟩
  have eN := below_then eD hL.low
  have hSN := KEEP.out _ eN
  refine ⟨_, rfl, hSN, ?_⟩
  try dsimp only
  simp only [Act.put, iA, iB, iC]
  refine takeN _ (some 30) (i := 3) rfl rfl (by kernel_rfl) (by kernel_rfl) (by kernel_rfl) (fun _ _ _ h => h) (Or.inl ⟨by rfl, fun w' hw' => by (obtain ⟨_, z0, z1, z2, z3, z4, z5, z6⟩ := hw'; go_simp <;> rfl)⟩) hSN ?_
  simp only [Act.put, iA, iB, iC]
  refine takeN _ (some 34) (i := 4) rfl rfl (by kernel_rfl) (by kernel_rfl) (by kernel_rfl) (fun _ _ _ h => h) (Or.inl ⟨by rfl, fun w' hw' => by (obtain ⟨_, z0, z1, z2, z3, z4, z5, z6⟩ := hw'; go_simp <;> rfl)⟩) hSN ?_
  simp only [Act.put, iA, iB, iC]
  refine takeN _ (some 35) (i := 5) rfl rfl (by kernel_rfl) (by kernel_rfl) (by kernel_rfl) (fun _ _ _ h => h) (Or.inl ⟨by rfl, fun w' hw' => by (obtain ⟨_, z0, z1, z2, z3, z4, z5, z6⟩ := hw'; go_simp <;> rfl)⟩) hSN ?_
  simp only [Act.put, iA, iB, iC]
  refine takeN _ (some 7) (i := 6) rfl rfl (by kernel_rfl) (by kernel_rfl) (by kernel_rfl) (fun _ _ _ h => h) (Or.inl ⟨by rfl, fun w' hw' => by (obtain ⟨_, z0, z1, z2, z3, z4, z5, z6⟩ := hw'; go_simp <;> rfl)⟩) hSN ?_
  simp only [Act.put, iA, iB, iC]
  refine takeN _ (some 8) (i := 7) rfl rfl (by kernel_rfl) (by kernel_rfl) (by kernel_rfl) (fun _ _ _ h => h) (Or.inl ⟨by rfl, fun w' hw' => by (obtain ⟨_, z0, z1, z2, z3, z4, z5, z6⟩ := hw'; go_simp <;> rfl)⟩) hSN ?_
  simp only [Act.put, iA, iB, iC]
  refine wpAnyH_done (by kernel_rfl) ?_ _
  obtain ⟨w7, rfl⟩ : ∃ x, x = wN := ⟨_, rfl⟩
  have LB_0 := Lib.hid (below_then L_6.out eD)
  have EB_0 := Lib.hid (E_6.out.later eD)
  have L_7 := Lib.hid (below_then L_6.out eN)
  have E_7 := Lib.hid (E_6.out.later eN)
  clear L_6 E_6
  have S_0 := Lib.hid (hL)
  clear hL hSN hSD hSA eN eD eA NW KEEP HVC HKC
  have Q1 := pair_any [73, 110, 105, 116, 105, 97, 116, 111, 114, 78, 97, 109, 101] [109, 101] w7
  replace Q1 := Lib.hid Q1
  go_wp2_with fail
  refine Q1.out.mono ?_
  rintro e w8 ⟨rfl, hb⟩
  clear Q1
  have L_8 := Lib.hid (below_then L_7.out hb)
  have E_8 := Lib.hid (E_7.out.later hb)
  have S_1 := Lib.hid (S_0.out.later hb)
  clear L_7 E_7 S_0
  clear hb
  have Q2 := pair_any [83, 101, 115, 115, 105, 111, 110, 84, 121, 112, 101] [68, 105, 115, 99, 111, 118, 101, 114, 121] w8
  replace Q2 := Lib.hid Q2
  go_wp2_with fail
  refine Q2.out.mono ?_
  rintro e w9 ⟨rfl, hb⟩
  clear Q2
  have L_9 := Lib.hid (below_then L_8.out hb)
  have E_9 := Lib.hid (E_8.out.later hb)
  have S_2 := Lib.hid (S_1.out.later hb)
  clear L_8 E_8 S_1
  clear hb
  have Q3 := pair_any [65, 117, 116, 104, 77, 101, 116, 104, 111, 100] v w9
  replace Q3 := Lib.hid Q3
  go_wp2_with fail
  refine Q3.out.mono ?_
  rintro e w10 ⟨rfl, hb⟩
  clear Q3
  have L_10 := Lib.hid (below_then L_9.out hb)
  have E_10 := Lib.hid (E_9.out.later hb)
  have S_3 := Lib.hid (S_2.out.later hb)
  clear L_9 E_9 S_2
  clear hb
  obtain ⟨w11, hw11⟩ : ∃ x, w10.alloc (.cells #[.string (S [73, 110, 105, 116, 105, 97, 116, 111, 114, 78, 97, 109, 101]), .string (S [109, 101]), .string (S [83, 101, 115, 115, 105, 111, 110, 84, 121, 112, 101]), .string (S [68, 105, 115, 99, 111, 118, 101, 114, 121]), .string (S [65, 117, 116, 104, 77, 101, 116, 104, 111, 100]), .string (S v)] 61) = x := ⟨_, rfl⟩
  have hb : Below w10.heap.size w10 w11 := by rw [← hw11]; exact (Below.refl _ _).alloc (Nat.le_refl _) _
  have hk : Blk w11 w10.heap.size #[.string (S [73, 110, 105, 116, 105, 97, 116, 111, 114, 78, 97, 109, 101]), .string (S [109, 101]), .string (S [83, 101, 115, 115, 105, 111, 110, 84, 121, 112, 101]), .string (S [68, 105, 115, 99, 111, 118, 101, 114, 121]), .string (S [65, 117, 116, 104, 77, 101, 116, 104, 111, 100]), .string (S v)] 61 := by rw [← hw11]; exact Blk.new w10 _ _
  have hp : PrsV w11 (.slice (some ⟨w10.heap.size, 0, none⟩) 3 3) [pIni, pSes, ⟨kAM, v⟩] := by rw [← hw11]; exact prs_new w10 [pIni, pSes, ⟨kAM, v⟩] _
  clear hk
  have L_11 := Lib.hid (below_then L_10.out hb)
  have E_11 := Lib.hid (E_10.out.later hb)
  have S_4 := Lib.hid (S_3.out.later hb)
  clear L_10 E_10 S_3
  clear hb
  have HOKP := Lib.hid (show okPs [pIni, pSes, ⟨kAM, v⟩] from ok_cons (by kernel_rfl) (ok_cons (by kernel_rfl) (ok_cons (six_right (by decide) HV.out) ok_nil)))
  have HFITP := Lib.hid (show ∀ p ∈ ([pIni, pSes, ⟨kAM, v⟩] : List Pr), p.k.length ≤ 140737488355328 ∧ p.v.length ≤ 140737488355328 from fun p hp => by have := ok_lens HOKP.out p hp; omega)
  have HLENP := Lib.hid (mt_len (valLen HV.out))
  have A := asks_any 0 [pIni, pSes, ⟨kAM, v⟩] _ w11 (by unfold I64; decide) hp ⟨by simp, HFITP.out⟩ E_11.out.env.mc
  rw [asks_req (by decide) HOKP.out (by simp)] at A
  unfold RetAsks pduV at A
  simp only at A
  obtain ⟨P, hP⟩ : ∃ P : Pd, (⟨reqH 0 0 0 9 0 5 1 77 0, [], prBytes [pIni, pSes, ⟨kAM, v⟩]⟩ : Pd) = P := ⟨_, rfl⟩
  have hpl := methods_plain (c := confU) (v := v) (.inr rfl) HV.out
  rw [hP] at hpl
  try simp only at hpl
  rw [show (reqH 0 0 0 9 0 5 1 77 0 : Hd) = P.h by rw [← hP], show prBytes [pIni, pSes, ⟨kAM, v⟩] = P.d by rw [← hP]] at A
  have HPa := Lib.hid (show P.a = [] by rw [← hP])
  have HPf := Lib.hid (mt_fit hP.symm (by decide) HLENP.out)
  have HT1 := Lib.hid hpl.1
  have HW := Lib.hid hpl.2
  clear hpl hP
  replace A := Lib.hid A
  clear hp
  go_wp2_with fail
  clear hw11
  refine A.out.mono ?_
  rintro e w12 ⟨vv, rfl, hvv, hown, hb⟩
  obtain ⟨pvP, cvP, rfl⟩ : ∃ p c, vv = .slice p P.h.vs.length c := by obtain ⟨p, c, h, _⟩ := hvv; exact ⟨p, c, h⟩
  have hPd : PduAt (offW (m.H lb) w12) P (.slice pvP P.h.vs.length cvP) (.slice none 0 0) := PduAt.offO hvv HPa.out hown S_4.out.fresh
  clear hvv hown A
  have L_12 := Lib.hid (below_then L_11.out hb)
  have E_12 := Lib.hid (E_11.out.later hb)
  have S_5 := Lib.hid (S_4.out.later hb)
  clear L_11 E_11 S_4
  clear hb
  have PP_0 := Lib.hid (hPd)
  clear hPd
  have hn : ¬ m.H lb w12.heap.size := fun hh => by have := S_5.out.fresh _ hh; omega
  obtain ⟨w13, hw13⟩ : ∃ x, w12.alloc (.cells #[.int .i64 P.h.op, .bool P.h.now, .int .i64 P.h.fl, .slice pvP P.h.vs.length cvP, .slice none 0 0, .string (S P.d)] 41) = x := ⟨_, rfl⟩
  have hb : Below w12.heap.size w12 w13 := by rw [← hw13]; exact (Below.refl _ _).alloc (Nat.le_refl _) _
  have hk : Blk w13 w12.heap.size #[.int .i64 P.h.op, .bool P.h.now, .int .i64 P.h.fl, .slice pvP P.h.vs.length cvP, .slice none 0 0, .string (S P.d)] 41 := by rw [← hw13]; exact Blk.new w12 _ _
  obtain ⟨bP, hbP⟩ : ∃ x, w12.heap.size = x := ⟨_, rfl⟩
  rw [hbP] at hk hn
  have L_13 := Lib.hid (below_then L_12.out hb)
  have E_13 := Lib.hid (E_12.out.later hb)
  have S_6 := Lib.hid (S_5.out.later hb)
  have PP_1 := Lib.hid (PP_0.out.later (Keeps.of hb _).off')
  clear L_12 E_12 S_5 PP_0
  clear hb
  have KP_0 := Lib.hid (hk)
  have NP_0 := Lib.hid (hn)
  clear hk hn
  obtain ⟨cKP0, cKP1, cKP2, cKP3, cKP4, cKP5⟩ := KP_0.out.six
  have hn : ¬ m.H lb w13.heap.size := fun hh => by have := S_6.out.fresh _ hh; omega
  have hone := pdus_one (t := 41) PP_1.out hn
  obtain ⟨w14, hw14⟩ : ∃ x, w13.alloc (.cells #[.int .i64 P.h.op, .bool P.h.now, .int .i64 P.h.fl, .slice pvP P.h.vs.length cvP, .slice none 0 0, .string (S P.d)] 41) = x := ⟨_, rfl⟩
  have hb : Below w13.heap.size w13 w14 := by rw [← hw14]; exact (Below.refl _ _).alloc (Nat.le_refl _) _
  have hk : Blk w14 w13.heap.size #[.int .i64 P.h.op, .bool P.h.now, .int .i64 P.h.fl, .slice pvP P.h.vs.length cvP, .slice none 0 0, .string (S P.d)] 41 := by rw [← hw14]; exact Blk.new w13 _ _
  rw [hw14] at hone
  clear hn hk
  have L_14 := Lib.hid (below_then L_13.out hb)
  have E_14 := Lib.hid (E_13.out.later hb)
  have S_7 := Lib.hid (S_6.out.later hb)
  have PP_2 := Lib.hid (PP_1.out.later (Keeps.of hb _).off')
  have KP_1 := Lib.hid (KP_0.out.later hb)
  clear L_13 E_13 S_6 PP_1 KP_0
  clear hb
  have KN := knock_any [P] _ S_7.out hone HPf.out (by simp) EB_0.out HC0.out dw0_ok
  rw [knock_one HT1.out.err] at KN
  obtain ⟨qbA, hqbA⟩ : ∃ x, w13.heap.size = x := ⟨_, rfl⟩
  rw [hqbA] at KN
  have hst := HT1.out.stat
  have hlen := HT1.out.len
  have hdat := HT1.out.data
  have hdon := HT1.out.don
  have hfld := HT1.out.fld
  have htgt := HT1.out.tgt
  have hdsc := HT1.out.dsc
  obtain ⟨⟨⟨A, nA⟩, s1⟩, hT⟩ : ∃ r, takeL confU dw0 (lg0 confU) P = r := ⟨_, rfl⟩
  rw [hT] at hst hlen hdat hdon hfld htgt hdsc KN
  unfold RetKnock pduV at KN
  simp only at hst hlen hdat hdon hfld htgt hdsc KN
  replace KN := Lib.hid KN
  have HstA := Lib.hid hst
  have HlenA := Lib.hid hlen
  have HdatA := Lib.hid hdat
  have HdonA := Lib.hid hdon
  have HfldA := Lib.hid hfld
  have HtgtA := Lib.hid htgt
  have HdscA := Lib.hid hdsc
  have HTA := Lib.hid hT
  clear hone hst hlen hdat hdon hfld htgt hdsc hT
  go_wp2_with fail
  clear hw13 hw14
  clear cKP0 cKP1 cKP2 cKP3 cKP4 cKP5
  refine KN.out.mono ?_
  rintro e w15 ⟨m', qA, vv, va, rfl, hPA, hLS, hKK⟩
  clear KN
  have PP_3 := Lib.hid (PP_2.out.later hKK.off')
  have KP_2 := Lib.hid (KP_1.out.kp hKK NP_0.out)
  have L_15 := Lib.hid (below_then LB_0.out hLS.low)
  have E_15 := Lib.hid (EB_0.out.later hLS.low)
  have S_8 := Lib.hid (hLS)
  have NP_1 := Lib.hid (fun hh => (hKK.old _ hh).elim NP_0.out (fun h => by have := KP_1.out.lt; omega))
  clear PP_2 KP_1 L_14 E_14 S_7 NP_0
  obtain ⟨p3A, c3A, rfl⟩ : ∃ p c, vv = .slice p A.h.vs.length c := by obtain ⟨p, c, h, _⟩ := hPA.v; exact ⟨p, c, h⟩
  obtain ⟨p4A, c4A, rfl⟩ := hPA.a.form
  have PA_0 := Lib.hid (hPA)
  clear hPA hLS hKK
  have hn : ¬ m'.H lb w15.heap.size := fun hh => by have := S_8.out.fresh _ hh; omega
  obtain ⟨w16, hw16⟩ : ∃ x, w15.alloc (.cells #[.int .i64 A.h.op, .bool A.h.now, .int .i64 A.h.fl, .slice p3A A.h.vs.length c3A, .slice p4A A.a.length c4A, .string (S A.d)] 41) = x := ⟨_, rfl⟩
  have hb : Below w15.heap.size w15 w16 := by rw [← hw16]; exact (Below.refl _ _).alloc (Nat.le_refl _) _
  have hk : Blk w16 w15.heap.size #[.int .i64 A.h.op, .bool A.h.now, .int .i64 A.h.fl, .slice p3A A.h.vs.length c3A, .slice p4A A.a.length c4A, .string (S A.d)] 41 := by rw [← hw16]; exact Blk.new w15 _ _
  obtain ⟨bA, hbA⟩ : ∃ x, w15.heap.size = x := ⟨_, rfl⟩
  rw [hbA] at hk hn
  have L_16 := Lib.hid (below_then L_15.out hb)
  have E_16 := Lib.hid (E_15.out.later hb)
  have S_9 := Lib.hid (S_8.out.later hb)
  have PP_4 := Lib.hid (PP_3.out.later (Keeps.of hb _).off')
  have KP_3 := Lib.hid (KP_2.out.later hb)
  have PA_1 := Lib.hid (PA_0.out.later (Keeps.of hb _).off')
  clear L_15 E_15 S_8 PP_3 KP_2 PA_0
  clear hb
  have KA_0 := Lib.hid (hk)
  have NA_0 := Lib.hid (hn)
  clear hk hn
  have LV := list_any v w16 (by have := valLen HV.out; omega) E_16.out.env.mc
  unfold RetLE1 at LV
  replace LV := Lib.hid LV
  go_wp2_with fail
  clear hw16
  refine LV.out.mono ?_
  rintro e w17 ⟨lv, rfl, hbuf, hb⟩
  clear LV
  have L_17 := Lib.hid (below_then L_16.out hb)
  have E_17 := Lib.hid (E_16.out.later hb)
  have S_10 := Lib.hid (S_9.out.later hb)
  have PP_5 := Lib.hid (PP_4.out.later (Keeps.of hb _).off')
  have KP_4 := Lib.hid (KP_3.out.later hb)
  have PA_2 := Lib.hid (PA_1.out.later (Keeps.of hb _).off')
  have KA_1 := Lib.hid (KA_0.out.later hb)
  clear L_16 E_16 S_9 PP_4 KP_3 PA_1 KA_0
  clear hb
  obtain ⟨cx, hcx⟩ : ∃ cx, 4 * csgI P.h = cx := ⟨_, rfl⟩
  obtain ⟨fx, hfx⟩ : ∃ fx, (asksL confU dw0 P (lg0 confU)).1.1 = fx := ⟨_, rfl⟩
  have hst := HstA.out
  have hda := HdatA.out
  rw [hcx, hfx] at hst
  have hww := HW.out
  have hin := holdsL_in v [67, 72, 65, 80]
  rw [show wantL (decide (confU.us ≠ [])) = [67, 72, 65, 80] from rfl] at hww
  obtain ⟨pl1, cl1, rfl⟩ := hbuf.form
  have hll : ((listR v).getD []).length ≤ 140737488355328 := by
   unfold listR
   split
   ·have := (split1_sum 44 v.length v (Nat.le_refl _)).2
    have := valLen HV.out
    simp only [Option.getD_some]; omega
   ·simp
  have HBUF := Lib.hid hbuf.strs
  have HLL := Lib.hid hll
  clear hbuf hll hcx hfx HstA HdatA HdonA HfldA HtgtA HdscA
  cases hr : listR v with
  | none =>
   have hh : holdsL v [67, 72, 65, 80] = false := by unfold holdsL; rw [hr]
   rw [hh] at hww
   rw [if_pos rfl] at hww
   rw [hww, if_pos (by decide)] at hst
   have hst2 : statR A = (cx, 2, 1) := hst
   rw [errV_pos (listN none) (by decide)]
   clear hin hww hda hr hst
   have ST := status_any A _ _ w17 PA_2.out.off E_17.out.env.mc (by rw [HlenA.out]; decide)
   rw [hst2] at ST
   unfold pduV at ST
   replace ST := Lib.hid ST
   obtain ⟨cKP0, cKP1, cKP2, cKP3, cKP4, cKP5⟩ := KP_4.out.six
   obtain ⟨cKA0, cKA1, cKA2, cKA3, cKA4, cKA5⟩ := KA_1.out.six
   go_wp2_with fail
   clear cKP0 cKP1 cKP2 cKP3 cKP4 cKP5 cKA0 cKA1 cKA2 cKA3 cKA4 cKA5
   refine ST.out.mono ?_
   rintro e w18 ⟨rfl, hb⟩
   clear ST
   have L_18 := Lib.hid (below_then L_17.out hb)
   have E_18 := Lib.hid (E_17.out.later hb)
   have S_11 := Lib.hid (S_10.out.later hb)
   have PP_6 := Lib.hid (PP_5.out.later (Keeps.of hb _).off')
   have KP_5 := Lib.hid (KP_4.out.later hb)
   have PA_3 := Lib.hid (PA_2.out.later (Keeps.of hb _).off')
   have KA_2 := Lib.hid (KA_1.out.later hb)
   clear L_17 E_17 S_10 PP_5 KP_4 PA_2 KA_1
   clear hb
   obtain ⟨cKP0, cKP1, cKP2, cKP3, cKP4, cKP5⟩ := KP_5.out.six
   obtain ⟨cKA0, cKA1, cKA2, cKA3, cKA4, cKA5⟩ := KA_2.out.six
   go_wp2_with fail
   go_ret
   exact ⟨rfl, L_18.out⟩
  | some ll =>
   rw [show errV (listN (some ll)) = .nilIface from rfl]
   have HBUF2 := HBUF.out
   have HLL2 := HLL.out
   rw [hr] at HBUF2 HLL2 hin
   simp only [Option.getD_some] at HBUF2 HLL2 hin
   clear HBUF HLL
   have HBUF := Lib.hid HBUF2
   have HLL := Lib.hid HLL2
   clear HBUF2 HLL2
   clear hr
   cases hh : holdsL v [67, 72, 65, 80] with
   | false =>
    rw [hh] at hww hin
    rw [if_pos rfl] at hww
    rw [hww, if_pos (by decide)] at hst
    have hst2 : statR A = (cx, 2, 1) := hst
    have HIN := Lib.hid hin
    clear hin hww hda hh hst
    have BB_0 := Lib.hid (Below.refl w17.heap.size w17)
    have ST := status_any A _ _ w17 PA_2.out.off E_17.out.env.mc (by rw [HlenA.out]; decide)
    rw [hst2] at ST
    unfold pduV at ST
    replace ST := Lib.hid ST
    obtain ⟨cKP0, cKP1, cKP2, cKP3, cKP4, cKP5⟩ := KP_4.out.six
    obtain ⟨cKA0, cKA1, cKA2, cKA3, cKA4, cKA5⟩ := KA_1.out.six
    go_wp2_with fail
    clear cKP0 cKP1 cKP2 cKP3 cKP4 cKP5 cKA0 cKA1 cKA2 cKA3 cKA4 cKA5
    refine ST.out.mono ?_
    rintro e w18 ⟨rfl, hb⟩
    clear ST
    have L_18 := Lib.hid (below_then L_17.out hb)
    have E_18 := Lib.hid (E_17.out.later hb)
    have S_11 := Lib.hid (S_10.out.later hb)
    have PP_6 := Lib.hid (PP_5.out.later (Keeps.of hb _).off')
    have KP_5 := Lib.hid (KP_4.out.later hb)
    have PA_3 := Lib.hid (PA_2.out.later (Keeps.of hb _).off')
    have KA_2 := Lib.hid (KA_1.out.later hb)
    have BB_1 := Lib.hid (below_then BB_0.out hb)
    clear L_17 E_17 S_10 PP_5 KP_4 PA_2 KA_1 BB_0
    clear hb
    have CT := containsS_any ll _ [67, 72, 65, 80] w18 (HBUF.out.later BB_1.out) HLL.out
    rw [HIN.out] at CT
    replace CT := Lib.hid CT
    go_wp2_with fail
    refine CT.out.mono ?_
    rintro e w' ⟨rfl, rfl⟩
    clear CT
    clear BB_1
    obtain ⟨cKP0, cKP1, cKP2, cKP3, cKP4, cKP5⟩ := KP_5.out.six
    obtain ⟨cKA0, cKA1, cKA2, cKA3, cKA4, cKA5⟩ := KA_2.out.six
    go_wp2_with fail
    go_ret
    exact ⟨rfl, L_18.out⟩
   | true =>
    rw [hh] at hww hin
    rw [if_neg (by simp)] at hww
    rw [hww.1, if_neg (by simp)] at hst
    rw [hww.1, if_neg (by simp), hww.2, show (⟨kAM, [67, 72, 65, 80]⟩ : Pr) = ⟨kAM, wantL true⟩ from rfl, mt_said] at hda
    have hd2 : A.d = [65, 117, 116, 104, 77, 101, 116, 104, 111, 100, 61] ++ [67, 72, 65, 80] ++ [0] := hda
    have HD2 := Lib.hid hd2
    clear hd2
    have HIN := Lib.hid hin
    clear hin hww hda hh
    have BB_0 := Lib.hid (Below.refl w17.heap.size w17)
    have ST := status_any A _ _ w17 PA_2.out.off E_17.out.env.mc (by rw [HlenA.out]; decide)
    rw [hst] at ST
    unfold pduV at ST
    replace ST := Lib.hid ST
    obtain ⟨cKP0, cKP1, cKP2, cKP3, cKP4, cKP5⟩ := KP_4.out.six
    obtain ⟨cKA0, cKA1, cKA2, cKA3, cKA4, cKA5⟩ := KA_1.out.six
    go_wp2_with fail
    clear cKP0 cKP1 cKP2 cKP3 cKP4 cKP5 cKA0 cKA1 cKA2 cKA3 cKA4 cKA5
    refine ST.out.mono ?_
    rintro e w18 ⟨rfl, hb⟩
    clear ST
    have L_18 := Lib.hid (below_then L_17.out hb)
    have E_18 := Lib.hid (E_17.out.later hb)
    have S_11 := Lib.hid (S_10.out.later hb)
    have PP_6 := Lib.hid (PP_5.out.later (Keeps.of hb _).off')
    have KP_5 := Lib.hid (KP_4.out.later hb)
    have PA_3 := Lib.hid (PA_2.out.later (Keeps.of hb _).off')
    have KA_2 := Lib.hid (KA_1.out.later hb)
    have BB_1 := Lib.hid (below_then BB_0.out hb)
    clear L_17 E_17 S_10 PP_5 KP_4 PA_2 KA_1 BB_0
    clear hb
    have CT := containsS_any ll _ [67, 72, 65, 80] w18 (HBUF.out.later BB_1.out) HLL.out
    rw [HIN.out] at CT
    replace CT := Lib.hid CT
    go_wp2_with fail
    refine CT.out.mono ?_
    rintro e w' ⟨rfl, rfl⟩
    clear CT
    clear BB_1
    have hk7 := KA_2.out
    rw [HD2.out] at hk7
    simp only [List.cons_append, List.nil_append] at hk7
    obtain ⟨x0, x1, x2, x3, x4, x5⟩ := hk7.six
    clear hk7 HD2
    go_wp2_with fail
    go_ret
    exact ⟨rfl, L_18.out⟩
end Go.Proofs.YtmkebjdmkkjloaaGreatDoor
namespace Go.Proofs.YtmkebjdmkkjloaaGreatDoor
open Go.RowKit
theorem et_named : Tryz.prog.globalNamed "errors.errorType" = some 0 := by kernel_rfl
theorem et_rt : (Tryz.prog.cutTypes.find? (·.1 == "internal/reflectlite.rtype")).map (·.2) = some 222 := by kernel_rfl
theorem et_oneRow : ((List.range 345).filter fun t => Tryz.prog.rowNamed t [101, 114, 114, 111, 114]) = [43] := by kernel_rfl
theorem et_size : Tryz.prog.types.size = 345 := by kernel_rfl
theorem errCell_of_handles {L : List (String × DataW Unit)} {W : World} (h : handlesMet Tryz.prog L W) (hm : ("errors.errorType", Rows.laid_errors_errorType) ∈ L) : ErrCell W := by
 obtain ⟨name, u, ty, e1, e2, e3, e4, e5⟩ := h _ hm
 have en : name = [101, 114, 114, 111, 114] := (Option.some.inj e1).symm
 subst en
 obtain rfl := Option.some.inj (et_rt.symm.trans e2)
 have hq : ty ∈ (List.range 345).filter fun t => Tryz.prog.rowNamed t [101, 114, 114, 111, 114] := List.mem_filter.2 ⟨List.mem_range.2 (by rw [← et_size]; exact e3), e4⟩
 rw [et_oneRow] at hq
 obtain rfl := List.mem_singleton.1 hq
 have hh : typeHandle Tryz.prog 43 = .pointer (some ⟨11, 43, none⟩) := by kernel_rfl
 rw [hh] at e5
 have := World.var?_cell et_named e5 0
 unfold ErrCell
 simpa using this
noncomputable def laidWorld (os : Os) : World :=
 let w0 := World.holding Tryz.prog os ⟨#[], #[], []⟩
 { w0 with heap := w0.heap.modify 0 fun
   | .cells _ t frozen => .cells #[.iface 222 (.agg #[.pointer (some ⟨11, 43, none⟩)])] t frozen
   | o => o }
end Go.Proofs.YtmkebjdmkkjloaaGreatDoor
namespace Go.Proofs.YtmkebjdmkkjloaaGreatDoor
theorem laidMet_lay {P : Program} {w0 : World} {laid : List (String × DataW Unit)} (args : Array Value)
  (hf : w0.layFits P laid [] = true) (hi : w0.layIfaces P laid (w0.layVars P laid) = true) :
  laidMet P laid ((w0.layVars P laid).forCall (fun _ _ => 0) ⟨#[], args, []⟩).memory := by
 have e1 : (laid.filter fun x => (laid.map (·.1)).contains x.1) = laid := List.filter_eq_self.2 fun x hx => List.contains_iff_mem.2 (List.mem_map.2 ⟨x, hx, rfl⟩)
 have e2 : (laid.filter fun x => !(laid.map (·.1)).contains x.1) = [] := List.filter_eq_nil_iff.2 fun x hx => by rw [List.contains_iff_mem.2 (List.mem_map.2 ⟨x, hx, rfl⟩)]; simp
 have h : laidMet P laid (w0.layVars P laid) := laidMet_layVars (w0 := w0) (laid.map (·.1)) [] (by rw [e1]) (by rw [e1]; exact hf) (by rw [e1]; exact hi) (by rw [e2]; exact LaidIn.none)
 exact h.of_heap (by simp [World.memory, World.forCall, Input.heap])
end Go.Proofs.YtmkebjdmkkjloaaGreatDoor
namespace Go.Proofs.YtmkebjdmkkjloaaGreatDoor
open Go.RowKit
theorem mdNumbers : (Rows.laid_quaymaster_md5_numbers : DataW Unit) = Go.Lib.tabData .u32 (mK.map fun (n : Nat) => (n : Int)) := by kernel_rfl
theorem mdTurns : (Rows.laid_quaymaster_md5_turns : DataW Unit) = .agg ((List.range 4).map fun i => Go.Lib.tabData .i64 (((mSl.drop (i * 4)).take 4).map fun (n : Nat) => (n : Int))) := by kernel_rfl
theorem mK_len : mK.length = 64 := by kernel_rfl
theorem mSl_len : mSl.length = 16 := by kernel_rfl
set_option maxRecDepth 100000 in
theorem mdTabs_of_reads {W : World} (h1 : Go.Lib.VarReads Tryz.prog W "quaymaster/md5.numbers" Rows.laid_quaymaster_md5_numbers) (h2 : Go.Lib.VarReads Tryz.prog W "quaymaster/md5.turns" Rows.laid_quaymaster_md5_turns) : MdTabs W := by
 rw [mdNumbers] at h1
 rw [mdTurns] at h2
 refine ⟨fun i hi => ?_, fun j hj => ?_⟩
 ·obtain ⟨g, t, cs, fuel, p, hg, hty, hvar, hd⟩ := h1
  obtain rfl : 1 = g := Option.some.inj ((show Tryz.prog.globalNamed "quaymaster/md5.numbers" = some 1 by kernel_rfl).symm.trans hg)
  obtain rfl : 266 = t := Option.some.inj ((show (Tryz.prog.globals[1]?).map (·.type) = some 266 by kernel_rfl).symm.trans hty)
  have hcs := Go.Lib.cells_of_tab (n := 64) (e := 54) (by kernel_rfl) (by kernel_rfl) (by kernel_rfl) (by kernel_rfl) hd
  have := World.var?_cell hg hvar i
  rw [this, ← Array.getElem?_toList, hcs]
  have hl := mK_len
  rw [List.getElem?_map, List.getElem?_map, List.getElem?_eq_getElem (by omega), List.getD_eq_getElem?_getD, List.getElem?_eq_getElem (by omega)]
  rfl
 ·obtain ⟨g, t, cs, fuel, p, hg, hty, hvar, hd⟩ := h2
  obtain rfl : 2 = g := Option.some.inj ((show Tryz.prog.globalNamed "quaymaster/md5.turns" = some 2 by kernel_rfl).symm.trans hg)
  obtain rfl : 268 = t := Option.some.inj ((show (Tryz.prog.globals[2]?).map (·.type) = some 268 by kernel_rfl).symm.trans hty)
  obtain ⟨fuel', d, q, hd1, hd2⟩ := Go.Lib.array_elem (n := 4) (e := 267) (by kernel_rfl) hd (j / 4) (by omega)
  rw [show Tryz.prog.cellsOf 267 = 4 by kernel_rfl] at hd2
  rw [List.getElem?_map, List.getElem?_range (by omega)] at hd1
  obtain rfl := Option.some.inj hd1
  have hcs := Go.Lib.cells_of_tab (n := 4) (e := 3) (by kernel_rfl) (by kernel_rfl) (by kernel_rfl) (by kernel_rfl) hd2
  have := World.var?_cell hg hvar j
  have hl := mSl_len
  have e1 := congrArg (·[j % 4]?) hcs
  simp only [List.getElem?_map, List.getElem?_take, List.getElem?_drop, if_pos (show j % 4 < 4 by omega), show j / 4 * 4 + j % 4 = j by omega] at e1
  rw [this, ← Array.getElem?_toList, e1, List.getD_eq_getElem?_getD, List.getElem?_eq_getElem (by omega)]
  rfl
theorem sy_of_reads {W : World} (h : Go.Lib.VarReads Tryz.prog W "strconv.ErrSyntax" Rows.laid_strconv_ErrSyntax) : ∃ v, W.cell? ⟨7, 0, none⟩ = some v ∧ (v = .nilIface ∨ ∃ t p, v = .iface t p) := by
 obtain ⟨g, t, cs, fuel, p, hg, hty, hvar, hd⟩ := h
 obtain rfl : 7 = g := Option.some.inj ((show Tryz.prog.globalNamed "strconv.ErrSyntax" = some 7 by kernel_rfl).symm.trans hg)
 obtain rfl : 43 = t := Option.some.inj ((show (Tryz.prog.globals[7]?).map (·.type) = some 43 by kernel_rfl).symm.trans hty)
 obtain ⟨f1, u, v, hcs, _, _⟩ := iface_of_trod Tryz.underlying43 hd
 refine ⟨.iface u v, ?_, .inr ⟨u, v, rfl⟩⟩
 have := World.var?_cell hg hvar 0
 rw [this, ← Array.getElem?_toList, hcs]
 rfl
theorem rg_of_reads {W : World} (h : Go.Lib.VarReads Tryz.prog W "strconv.ErrRange" Rows.laid_strconv_ErrRange) : ∃ v, W.cell? ⟨8, 0, none⟩ = some v ∧ (v = .nilIface ∨ ∃ t p, v = .iface t p) := by
 obtain ⟨g, t, cs, fuel, p, hg, hty, hvar, hd⟩ := h
 obtain rfl : 8 = g := Option.some.inj ((show Tryz.prog.globalNamed "strconv.ErrRange" = some 8 by kernel_rfl).symm.trans hg)
 obtain rfl : 43 = t := Option.some.inj ((show (Tryz.prog.globals[8]?).map (·.type) = some 43 by kernel_rfl).symm.trans hty)
 obtain ⟨f1, u, v, hcs, _, _⟩ := iface_of_trod Tryz.underlying43 hd
 refine ⟨.iface u v, ?_, .inr ⟨u, v, rfl⟩⟩
 have := World.var?_cell hg hvar 0
 rw [this, ← Array.getElem?_toList, hcs]
 rfl
theorem powData : (Rows.laid_internal_strconv_uint64pow10 : DataW Unit) = Go.Lib.tabData .u64 Lib.pow10Tab := by kernel_rfl
theorem tab_of_reads {W : World} (h : Go.Lib.VarReads Tryz.prog W "internal/strconv.uint64pow10" Rows.laid_internal_strconv_uint64pow10) : Lib.TabIs Tryz.prog W "internal/strconv.uint64pow10" .u64 Lib.pow10Tab := by
 rw [powData] at h
 obtain ⟨g, t, cs, fuel, p, hg, hty, hvar, hd⟩ := h
 obtain rfl : 6 = g := Option.some.inj ((show Tryz.prog.globalNamed "internal/strconv.uint64pow10" = some 6 by kernel_rfl).symm.trans hg)
 obtain rfl : 299 = t := Option.some.inj ((show (Tryz.prog.globals[6]?).map (·.type) = some 299 by kernel_rfl).symm.trans hty)
 have hcs := Go.Lib.cells_of_tab (n := 20) (e := 49) (by kernel_rfl) (by kernel_rfl) (by kernel_rfl) (by kernel_rfl) hd
 unfold Lib.TabIs
 rw [hvar, ← hcs]
theorem env_of {W : World} (hS : W.ShapedOpen Tryz.prog) (h1 : Go.Lib.VarReads Tryz.prog W "strconv.ErrSyntax" Rows.laid_strconv_ErrSyntax) (h2 : Go.Lib.VarReads Tryz.prog W "strconv.ErrRange" Rows.laid_strconv_ErrRange) (h3 : Go.Lib.VarReads Tryz.prog W "internal/strconv.uint64pow10" Rows.laid_internal_strconv_uint64pow10) : Env W :=
 ⟨maxCell_of_shaped hS, sy_of_reads h1, rg_of_reads h2, tab_of_reads h3⟩
end Go.Proofs.YtmkebjdmkkjloaaGreatDoor
