/- target.List: who is there. -/
import Derived.Test.YtlcadichpcdgpaaGreatDoorTgtC
import Derived.Test.YtlcadichpcdgpaaGreatDoorTgtName
import Derived.Test.YtlcadichpcdgpaaGreatDoorGD
import Derived.Test.YtlcadichpcdgpaaGreatDoorAppWide
import Derived.Test.YtlcadichpcdgpaaGreatDoorGB
namespace Go.Proofs.YtlcadichpcdgpaaGreatDoor
open Go Go.RowKit
set_option linter.unusedVariables false
/-- strconv.Itoa of any number -/
theorem itoa_all (g : Int) (w : World) (h1 : -9223372036854775808 ≤ g) (h2 : g ≤ 9223372036854775807) (hE : Env w) : Calls Tryz.prog 36 #[.int .i64 g] w fun e w' => e = .returned (.string (S (Lib.itoa g))) ∧ Below w.heap.size w w' := by
  refine (Tryz.strconv_Itoa g (by omega) (by omega) w hE.tb).mono ?_
  rintro e w' ⟨rfl, k, os, rfl⟩
  exact ⟨rfl, Lib.below_grow w.heap.size w (Nat.le_refl _) k os⟩
theorem strs_one (w : World) (s : List UInt8) : StrV (w.alloc (.cells #[.string (S s)] 9)) (.slice (some ⟨w.heap.size, 0, none⟩) 1 1) [s] :=
  ⟨_, 1, rfl, fun _ => ⟨w.heap.size, 0, rfl, fun j hj => by
    have hj0 : j = 0 := by simp at hj; omega
    subst hj0
    rw [(Blk.new w #[.string (S s)] 9).cell]
    rfl⟩⟩
/-- as much room as growslice gives -/
theorem room_one (n : Nat) (h : n ≤ 7000000000000) : (n + n / 4 + 192) * 32 ≤ 281474976710656 := by
  have h1 : n / 4 ≤ 1750000000000 := by omega
  have h2 : n + n / 4 + 192 ≤ 8750000000192 := by omega
  exact Nat.le_trans (Nat.mul_le_mul_right 32 h2) (by decide)
/-- as many pairs as there are of these targets -/
theorem rows_fit (ps : List Po) (A : List (List UInt8)) (n : Nat) (hA : A.length = n) : ∀ j, j < n → ((A.take j).flatMap (oneT ps)).length + (1 + ps.length) ≤ n * (1 + ps.length) := fun j hj => by
  rw [flatT_len, List.length_take, hA, Nat.min_eq_left (by omega)]
  have : (j + 1) * (1 + ps.length) ≤ n * (1 + ps.length) := Nat.mul_le_mul_right _ (by omega)
  rw [Nat.add_mul, Nat.one_mul] at this
  exact this
set_option maxRecDepth 100000 in
set_option maxHeartbeats 8000000 in
theorem tlist_any (c : Cf) (vt vp vu vo : Value) (name : List UInt8) (all : Bool) (w : World) (hv : ConfAt w c vt vp vu vo) (hf : FitCf c) (hbig : all = true → c.ts.length * (1 + c.ps.length) * 32 ≤ 140737488351232) (hE : Env w) :
    Calls Tryz.prog 11 #[confV c vt vp vu vo, .string (S name), .bool all] w (RetPB1 w (listD c name all)) := by
  obtain ⟨ts, ps, us, sn, ss, lim, own⟩ := c
  obtain ⟨pt, ct, et, -⟩ := hv.ts
  obtain ⟨pp, cp, ep⟩ := hv.ps.form
  simp only at et ep
  subst et ep
  simp only at hbig
  have hA := (Below.refl w.heap.size w).alloc (Nat.le_refl _) (.cells #[.slice pt ts.length ct, .slice pp ps.length cp, vu, .string (S sn), .string (S ss), .int .i64 lim, vo] 29)
  have hK := Blk.new w #[.slice pt ts.length ct, .slice pp ps.length cp, vu, .string (S sn), .string (S ss), .int .i64 lim, vo] 29
  obtain ⟨w1, hw1⟩ : ∃ w1, w.alloc (.cells #[.slice pt ts.length ct, .slice pp ps.length cp, vu, .string (S sn), .string (S ss), .int .i64 lim, vo] 29) = w1 := ⟨_, rfl⟩
  rw [hw1] at hA hK
  have HK := Lib.hid hK
  have HSA := Lib.hid (hv.ts.later hA)
  have HVp := Lib.hid (hv.ps.later hA)
  have HA := Lib.hid hA
  have Hf := Lib.hid hf
  have HE1 := Lib.hid (hE.later hA)
  have hts := hf.ts.1
  have hps := hf.ps.1
  simp only at hts hps
  have HAS := thas_any ⟨ts, ps, us, sn, ss, lim, own⟩ (.slice pt ts.length ct) (.slice pp ps.length cp) vu vo name w1 HSA.out hts
  unfold confV at HAS
  simp only at HAS
  obtain ⟨k0, k1, k2, k3, k4, k5, k6⟩ := HK.out.seven
  cases all with
  | false =>
    cases hq : hasT ts name with
    | false =>
      have hR : listD ⟨ts, ps, us, sn, ss, lim, own⟩ name false = ([], 8) := by unfold listD; simp only; rw [hq, if_neg (by simp), if_pos rfl]
      rw [hR]
      rw [hq] at HAS
      have HAS := Lib.hid HAS
      clear hv hf hA hK hbig hE hR hq
      unfold confV
      simp only
      go_enter Tryz.func11, Tryz.ntmps11
      go_wp2_with fail
      refine HAS.out.mono ?_
      rintro e w2 ⟨rfl, hb2⟩
      go_wp2_with fail
      go_ret2
      exact ⟨_, _, rfl, PrsV.nil _, .bare 8 (by decide), below_then HA.out hb2⟩
    | true =>
      have hR : listD ⟨ts, ps, us, sn, ss, lim, own⟩ name false = ([name].flatMap (oneT ps), 0) := by unfold listD; simp only; rw [hq, if_neg (by simp), if_neg (by simp)]; simp
      rw [hR]
      rw [hq] at HAS
      have HAS := Lib.hid HAS
      have HROW := Lib.hid (rows_fit ps [name] 1 rfl)
      obtain ⟨KK, hK2⟩ : ∃ KK, 1 * (1 + ps.length) = KK := ⟨_, rfl⟩
      have hKK : KK ≤ 7000000000000 := by omega
      rw [hK2] at HROW
      have HKK := Lib.hid hKK
      clear hv hf hA hK hbig hE hR hq hKK hK2 HSA
      unfold confV
      simp only
      go_enter Tryz.func11, Tryz.ntmps11
      go_wp2_with fail
      refine HAS.out.mono ?_
      rintro e w2 ⟨rfl, hb2⟩
      obtain ⟨wz, hwz⟩ : ∃ wz, w2.alloc (.cells #[.string (S name)] 9) = wz := ⟨_, rfl⟩
      have hal0 := (Below.refl w2.heap.size w2).alloc (Nat.le_refl _) (.cells #[.string (S name)] 9)
      have hsa := strs_one w2 name
      rw [hwz] at hal0 hsa
      have hbz := below_then hb2 hal0
      have HSA := Lib.hid hsa
      have HKz := Lib.hid (HK.out.later hbz)
      have HVz := Lib.hid (HVp.out.later hbz)
      have HEz := Lib.hid (HE1.out.later hbz)
      have HBz := Lib.hid (below_then HA.out hbz)
      clear hal0 hsa hbz hb2 HAS k0 k1 k2 k3 k4 k5 k6
      obtain ⟨k0, k1, k2, k3, k4, k5, k6⟩ := HKz.out.seven
      go_wp2_with fail
      clear k0 k1 k2 k3 k4 k5 k6
      go_loopw [9, 27] (fun v9 i wr => ∃ j : Nat, j ≤ 1 ∧ i = .int .i64 j ∧ PrBuf wz.heap.size wr v9 ((([name] : List (List UInt8)).take j).flatMap (oneT ps)) ∧ Below wz.heap.size wz wr) (fun _ i _ => 1 - (intOf i).toNat)
      case atStart => exact ⟨0, by omega, rfl, PrBuf.nil _ _, Below.refl _ _⟩
      case round =>
        obtain ⟨j, hj, rfl, hbuf, hb⟩ := hrel
        by_cases hlt : j < 1
        · obtain ⟨b, o, hp, q0⟩ := StrV.cell (l := [name]) (HSA.out.later hb) hlt
          have hnext := flat_take ps [name] j hlt
          have hrow := HROW.out j hlt
          have hkk := HKK.out
          obtain ⟨t, ht⟩ : ∃ t, ([name] : List (List UInt8))[j] = t := ⟨_, rfl⟩
          rw [ht] at q0 hnext
          cases hp
          try rw [Nat.zero_add] at q0
          have hji : (j : Int) < 1 := by omega
          obtain ⟨M, hM⟩ : ∃ M, (([name] : List (List UInt8)).take j).flatMap (oneT ps) = M := ⟨_, rfl⟩
          rw [hM] at hbuf hnext hrow
          have hroom : M.length + 1 ≤ 7000000000000 := by omega
          have hal := hb.alloc hb.size (.cells #[.string (S nmK), .string (S t)] 40)
          obtain ⟨v', w', hrun, hbuf2, hgrow⟩ := run_append_wide1 (k := nmK) (d := t) (a := ⟨wr.heap.size, 0, none⟩) (hbuf.alloc (.cells #[.string (S nmK), .string (S t)] 40)) (appW_sides nmK t wr _ M.length wz.heap.size rfl (room_one _ hroom) hb.size).1.out (room_one _ hroom) hal.size
          have hb2 : Below wz.heap.size wz w' := hal.grown hgrow hal.size hbuf.ge
          obtain ⟨pv, cv, hform⟩ := hbuf.form
          subst hform
          unfold nmK at hrun
          have HRun := Lib.hid hrun
          have HBUF2 := Lib.hid hbuf2
          have HB2 := Lib.hid hb2
          have Hnext := Lib.hid hnext
          have Hrow := Lib.hid hrow
          clear hbuf hnext hrow hb hal hbuf2 hgrow hb2 hM ht hrun hkk hroom
          obtain ⟨k0, k1, k2, k3, k4, k5, k6⟩ := (HKz.out.later HB2.out).seven
          go_wp2_with (at_builtin; refine wpList_append_ran _ (by rfl) _ _ _ _ rfl _ _ rfl rfl _ _ HRun.out ?_)
          clear k0 k1 k2 k3 k4 k5 k6 q0
          go_loopw [9, 39] (fun v9 i W => ∃ k : Nat, k ≤ ps.length ∧ i = .int .i64 k ∧ PrBuf wz.heap.size W v9 (M ++ ⟨nmK, t⟩ :: (ps.take k).map poP) ∧ Below wz.heap.size wz W) (fun _ i _ => ps.length - (intOf i).toNat)
          case atStart => exact ⟨0, by omega, rfl, HBUF2.out, HB2.out⟩
          case round =>
            obtain ⟨k, hk, rfl, hbuf, hb⟩ := hrel
            by_cases hlt2 : k < ps.length
            · obtain ⟨b2, o2, hp2, p0, p1⟩ := (HVz.out.later hb).cell hlt2
              cases hp2
              have hcat := oneT_take ps t k hlt2
              have hfl := Hf.out.ps.2 ps[k] (List.getElem_mem hlt2)
              obtain ⟨⟨a, g⟩, ha⟩ : ∃ a, ps[k] = a := ⟨_, rfl⟩
              rw [ha] at p0 p1 hcat hfl
              simp only at p0 p1 hfl
              obtain ⟨hf1, hf2, hf3⟩ := hfl
              have hpo : poP ⟨a, g⟩ = ⟨adK, a ++ [44] ++ Lib.itoa g⟩ := by unfold poP; simp
              rw [hpo] at hcat
              have hil := Lib.itoa_length_le g hf2 hf3
              have hLl : (M ++ ⟨nmK, t⟩ :: (ps.take k).map poP).length + 1 ≤ M.length + (1 + ps.length) := by
                simp only [List.length_append, List.length_cons, List.length_map, List.length_take]; omega
              have hcat2 : M ++ (⟨nmK, t⟩ :: (ps.take (k + 1)).map poP) = (M ++ (⟨nmK, t⟩ :: (ps.take k).map poP)) ++ [⟨adK, a ++ [44] ++ Lib.itoa g⟩] := by rw [hcat]; exact (List.append_assoc M _ _).symm
              obtain ⟨L, hL⟩ : ∃ L, M ++ (⟨nmK, t⟩ :: (ps.take k).map poP) = L := ⟨_, rfl⟩
              rw [hL] at hbuf hLl hcat2
              have hL32 := room_one (L.length + 1) (by have := Hrow.out; have := HKK.out; omega)
              have Hcat2 := Lib.hid hcat2
              have hki : (k : Int) < (ps.length : Int) := by omega
              obtain ⟨pL, cL, rfl⟩ := hbuf.form
              have hbq := hb.alloc hb.size (.cells #[.string (S a), .int .i64 g] 50)
              have hPq := Blk.new wr #[.string (S a), .int .i64 g] 50
              have hbufq := hbuf.alloc (.cells #[.string (S a), .int .i64 g] 50)
              obtain ⟨B, hB⟩ : ∃ B, wr.heap.size = B := ⟨_, rfl⟩
              have hneB := hbuf.ne (b := B) (Nat.le_of_eq hB)
              rw [hB] at hPq
              have HneB := Lib.hid hneB
              have HPq := Lib.hid hPq
              have Hbq := Lib.hid hbq
              have Hbufq := Lib.hid hbufq
              have HL32 := Lib.hid hL32
              have n1 : ¬ 9223372036854775807 < a.length + 1 := by omega
              have n2 : ¬ 9223372036854775807 < a.length + 1 + (Lib.itoa g).length := by omega
              clear hbuf hb hcat hcat2 hL ha hpo hPq hbq hbufq hneB hL32 hLl
              go_wp2_with fail
              clear p0 p1 hB
              generalize wr.alloc (.cells #[.string (S a), .int .i64 g] 50) = wq at HPq Hbq Hbufq ⊢
              have KEEP := Lib.hid (fun (W : World) (h : Below wq.heap.size wq W) => show W.cell? ⟨B, 0, none⟩ = some (.string (S a)) ∧ W.cell? ⟨B, 1, none⟩ = some (.int .i64 g) from (HPq.out.later h).two)
              refine wp_region_held (S := (fun w' => w'.cell? ⟨B, 0, none⟩ = some (.string (S a)) ∧ w'.cell? ⟨B, 1, none⟩ = some (.int .i64 g))) (by kernel_rfl) ?_
              have e9 : Below wq.heap.size wq { wq with drawn := wq.drawn + 1 } := (Below.refl _ _).drew
              have hb9 : PrBuf wz.heap.size { wq with drawn := wq.drawn + 1 } (.slice pL L.length cL) L := Hbufq.out.later e9
              generalize ({ wq with drawn := wq.drawn + 1 } : World) = w6 at e9 hb9 ⊢
              have hS6 := KEEP.out _ e9
              refine takeN (.slice pL L.length cL) (some 43) (i := 0) rfl rfl (by kernel_rfl) (by kernel_rfl) (by kernel_rfl) (fun _ _ _ h => h) (Or.inl ⟨by rfl, fun w' hw' => ?_⟩) hS6 ?_
              · obtain ⟨u0, u1⟩ := hw'
                go_simp
              simp only [Act.put, List.setIfInBounds_toArray, List.set_cons_succ, List.set_cons_zero]
              refine takeN (.pointer (some ⟨B, 0, none⟩)) (some 44) (i := 1) rfl rfl (by kernel_rfl) (by kernel_rfl) (by kernel_rfl) (fun _ _ _ h => h) (Or.inl ⟨by rfl, fun w' hw' => ?_⟩) hS6 ?_
              · obtain ⟨u0, u1⟩ := hw'
                go_simp
              simp only [Act.put, List.setIfInBounds_toArray, List.set_cons_succ, List.set_cons_zero]
              refine takeN (.string (S a)) (some 45) (i := 2) rfl rfl (by kernel_rfl) (by kernel_rfl) (by kernel_rfl) (fun _ _ _ h => h) (Or.inl ⟨by rfl, fun w' hw' => ?_⟩) hS6 ?_
              · obtain ⟨u0, u1⟩ := hw'
                go_simp
              simp only [Act.put, List.setIfInBounds_toArray, List.set_cons_succ, List.set_cons_zero]
              refine takeN (.string (S (a ++ [44]))) (some 46) (i := 3) rfl rfl (by kernel_rfl) (by kernel_rfl) (by kernel_rfl) (fun _ _ _ h => h) (Or.inl ⟨by rfl, fun w' hw' => ?_⟩) hS6 ?_
              · obtain ⟨u0, u1⟩ := hw'
                go_simp
              simp only [Act.put, List.setIfInBounds_toArray, List.set_cons_succ, List.set_cons_zero]
              refine takeN (.pointer (some ⟨B, 1, none⟩)) (some 47) (i := 4) rfl rfl (by kernel_rfl) (by kernel_rfl) (by kernel_rfl) (fun _ _ _ h => h) (Or.inl ⟨by rfl, fun w' hw' => ?_⟩) hS6 ?_
              · obtain ⟨u0, u1⟩ := hw'
                go_simp
              simp only [Act.put, List.setIfInBounds_toArray, List.set_cons_succ, List.set_cons_zero]
              refine takeN (.int .i64 g) (some 48) (i := 5) rfl rfl (by kernel_rfl) (by kernel_rfl) (by kernel_rfl) (fun _ _ _ h => h) (Or.inl ⟨by rfl, fun w' hw' => ?_⟩) hS6 ?_
              · obtain ⟨u0, u1⟩ := hw'
                go_simp
              simp only [Act.put, List.setIfInBounds_toArray, List.set_cons_succ, List.set_cons_zero]
              refine wpAnyH_all (rs := [6]) (by kernel_rfl) (by simp) (fun i hi => ?_)
              obtain rfl : i = 6 := by simpa using hi
              refine wantN (i := 6) rfl (by rfl) (callN (f := 36) (some 49) rfl Tryz.func36 (by kernel_rfl) (by kernel_rfl) rfl rfl ?_)
              simp only [List.map_toArray, List.map_cons, List.map_nil]
              refine (itoa_all g w6 hf2 hf3 (HEz.out.later (Hbq.out.trans (e9.mono Hbq.out.size)))).mono ?_
              rintro e w7 ⟨rfl, hb7⟩
              have hw7 := below_then e9 hb7
              have hbuf7 := hb9.later hb7
              have hS7 := KEEP.out _ hw7
              refine ⟨_, rfl, hS7, ?_⟩
              try dsimp only
              simp only [Act.put, List.setIfInBounds_toArray, List.set_cons_succ, List.set_cons_zero]
              refine takeN (.string (S (a ++ [44] ++ Lib.itoa g))) (some 50) (i := 7) rfl rfl (by kernel_rfl) (by kernel_rfl) (by kernel_rfl) (fun _ _ _ h => h) (Or.inl ⟨by rfl, fun w' hw' => ?_⟩) hS7 ?_
              · obtain ⟨u0, u1⟩ := hw'
                go_simp
              simp only [Act.put, List.setIfInBounds_toArray, List.set_cons_succ, List.set_cons_zero]
              refine takeN (.agg #[.string (S [84, 97, 114, 103, 101, 116, 65, 100, 100, 114, 101, 115, 115]), .string (S (a ++ [44] ++ Lib.itoa g))]) (some 51) (i := 8) rfl rfl (by kernel_rfl) (by kernel_rfl) (by kernel_rfl) (fun _ _ _ h => h) (Or.inl ⟨by rfl, fun w' hw' => ?_⟩) hS7 ?_
              · obtain ⟨u0, u1⟩ := hw'
                go_simp
              simp only [Act.put, List.setIfInBounds_toArray, List.set_cons_succ, List.set_cons_zero]
              refine wpAnyH_all (rs := [9]) (by kernel_rfl) (by simp) (fun i hi => ?_)
              obtain rfl : i = 9 := by simpa using hi
              have hbA := hw7.alloc hw7.size (.cells #[.string (S adK), .string (S (a ++ [44] ++ Lib.itoa g))] 40)
              have NB := appW_sides adK (a ++ [44] ++ Lib.itoa g) w7 _ L.length wz.heap.size rfl HL32.out (Nat.le_trans Hbq.out.size hw7.size)
              have hO := hbuf7.alloc (.cells #[.string (S adK), .string (S (a ++ [44] ++ Lib.itoa g))] 40)
              refine wantN (i := 9) rfl (by rfl) (buildN adK (a ++ [44] ++ Lib.itoa g) (some 52) rfl _ rfl rfl ⟨KEEP.out _ hbA, ?_⟩)
              generalize hab : (⟨w7.heap.size, 0, none⟩ : Addr) = ab at NB ⊢
              generalize w7.alloc (.cells #[.string (S adK), .string (S (a ++ [44] ++ Lib.itoa g))] 40) = w8 at hbA NB hO ⊢
              simp only [Act.put, List.setIfInBounds_toArray, List.set_cons_succ, List.set_cons_zero]
              refine wpAnyH_all (rs := [10]) (by kernel_rfl) (by simp) (fun i hi => ?_)
              obtain rfl : i = 10 := by simpa using hi
              refine wantN (i := 10) rfl (by rfl) (appW (some 53) rfl _ _ rfl rfl hO rfl NB ?_)
              intro v9 w9 hp9 hgrow9
              have hw18 := Hbq.out.trans (hbA.mono Hbq.out.size)
              have hw19 : Below wz.heap.size wz w9 := hw18.grown hgrow9 hw18.size hO.ge
              have hS9 := (Blk.grownP (HPq.out.later hbA) hgrow9 HneB.out).two
              refine ⟨hS9, ?_⟩
              try dsimp only
              simp only [Act.put, List.setIfInBounds_toArray, List.set_cons_succ, List.set_cons_zero]
              refine takeN (v9) (some 9) (i := 11) rfl rfl (by kernel_rfl) (by kernel_rfl) (by kernel_rfl) (fun _ _ _ h => h) (Or.inl ⟨by rfl, fun w' hw' => ?_⟩) hS9 ?_
              · obtain ⟨u0, u1⟩ := hw'
                go_simp
              simp only [Act.put, List.setIfInBounds_toArray, List.set_cons_succ, List.set_cons_zero]
              refine wpAnyH_done (by kernel_rfl) ?_ _
              have HP9 := Lib.hid hp9
              have HW9 := Lib.hid hw19
              clear hp9 hw19 hS9 hgrow9 hbA NB hO hw18 hw7 hbuf7 hS7 hb7 hS6 e9 hb9
              go_wp2_with fail
              go_roundw
              case rel => exact ⟨k + 1, by omega, by go_num, by rw [Hcat2.out]; exact HP9.out, HW9.out⟩
              case measure => simp [intOf]; omega
            · obtain rfl : k = ps.length := by omega
              have HB3 := Lib.hid hb
              have hbufE := hbuf
              rw [List.take_length] at hbufE
              have HBE := Lib.hid hbufE
              clear hbuf hb hbufE
              go_wp2_with fail
              go_roundw
              case rel => exact ⟨j + 1, by omega, by go_num, by rw [Hnext.out]; exact HBE.out, HB3.out⟩
              case measure => simp [intOf]; omega
        · obtain rfl : j = 1 := by omega
          rw [show (([name] : List (List UInt8)).take 1) = [name] from rfl] at hbuf
          have HBF := Lib.hid hbuf.prs
          have Hb := Lib.hid (below_then HBz.out hb)
          obtain ⟨pv, cv, hform⟩ := hbuf.form
          subst hform
          clear hbuf hb
          go_wp2_with fail
          go_ret2
          exact ⟨_, _, rfl, HBF.out, .good, Hb.out⟩
  | true =>
      have hR : listD ⟨ts, ps, us, sn, ss, lim, own⟩ name true = (ts.flatMap (oneT ps), 0) := rfl
      rw [hR]
      have HROW := Lib.hid (rows_fit ps ts ts.length rfl)
      have hbg := hbig rfl
      obtain ⟨KK, hK2⟩ : ∃ KK, ts.length * (1 + ps.length) = KK := ⟨_, rfl⟩
      rw [hK2] at hbg HROW
      have hKK : KK ≤ 7000000000000 := by omega
      have HKK := Lib.hid hKK
      have HKz := HK
      have HVz := HVp
      have HEz := HE1
      have HBz := HA
      clear hv hf hA hK hbig hE hR hKK hK2 hbg HAS
      unfold confV
      simp only
      go_enter Tryz.func11, Tryz.ntmps11
      go_wp2_with fail
      clear k0 k1 k2 k3 k4 k5 k6
      go_loopw [9, 27] (fun v9 i wr => ∃ j : Nat, j ≤ ts.length ∧ i = .int .i64 j ∧ PrBuf w1.heap.size wr v9 ((ts.take j).flatMap (oneT ps)) ∧ Below w1.heap.size w1 wr) (fun _ i _ => ts.length - (intOf i).toNat)
      case atStart => exact ⟨0, by omega, rfl, PrBuf.nil _ _, Below.refl _ _⟩
      case round =>
        obtain ⟨j, hj, rfl, hbuf, hb⟩ := hrel
        by_cases hlt : j < ts.length
        · obtain ⟨b, o, hp, q0⟩ := StrV.cell (l := ts) (HSA.out.later hb) hlt
          have hnext := flat_take ps ts j hlt
          have hrow := HROW.out j hlt
          have hkk := HKK.out
          obtain ⟨t, ht⟩ : ∃ t, ts[j] = t := ⟨_, rfl⟩
          rw [ht] at q0 hnext
          cases hp
          try rw [Nat.zero_add] at q0
          have hji : (j : Int) < (ts.length : Int) := by omega
          obtain ⟨M, hM⟩ : ∃ M, (ts.take j).flatMap (oneT ps) = M := ⟨_, rfl⟩
          rw [hM] at hbuf hnext hrow
          have hroom : M.length + 1 ≤ 7000000000000 := by omega
          have hal := hb.alloc hb.size (.cells #[.string (S nmK), .string (S t)] 40)
          obtain ⟨v', w', hrun, hbuf2, hgrow⟩ := run_append_wide1 (k := nmK) (d := t) (a := ⟨wr.heap.size, 0, none⟩) (hbuf.alloc (.cells #[.string (S nmK), .string (S t)] 40)) (appW_sides nmK t wr _ M.length w1.heap.size rfl (room_one _ hroom) hb.size).1.out (room_one _ hroom) hal.size
          have hb2 : Below w1.heap.size w1 w' := hal.grown hgrow hal.size hbuf.ge
          obtain ⟨pv, cv, hform⟩ := hbuf.form
          subst hform
          unfold nmK at hrun
          have HRun := Lib.hid hrun
          have HBUF2 := Lib.hid hbuf2
          have HB2 := Lib.hid hb2
          have Hnext := Lib.hid hnext
          have Hrow := Lib.hid hrow
          clear hbuf hnext hrow hb hal hbuf2 hgrow hb2 hM ht hrun hkk hroom
          obtain ⟨k0, k1, k2, k3, k4, k5, k6⟩ := (HKz.out.later HB2.out).seven
          go_wp2_with (at_builtin; refine wpList_append_ran _ (by rfl) _ _ _ _ rfl _ _ rfl rfl _ _ HRun.out ?_)
          clear k0 k1 k2 k3 k4 k5 k6 q0
          go_loopw [9, 39] (fun v9 i W => ∃ k : Nat, k ≤ ps.length ∧ i = .int .i64 k ∧ PrBuf w1.heap.size W v9 (M ++ ⟨nmK, t⟩ :: (ps.take k).map poP) ∧ Below w1.heap.size w1 W) (fun _ i _ => ps.length - (intOf i).toNat)
          case atStart => exact ⟨0, by omega, rfl, HBUF2.out, HB2.out⟩
          case round =>
            obtain ⟨k, hk, rfl, hbuf, hb⟩ := hrel
            by_cases hlt2 : k < ps.length
            · obtain ⟨b2, o2, hp2, p0, p1⟩ := (HVz.out.later hb).cell hlt2
              cases hp2
              have hcat := oneT_take ps t k hlt2
              have hfl := Hf.out.ps.2 ps[k] (List.getElem_mem hlt2)
              obtain ⟨⟨a, g⟩, ha⟩ : ∃ a, ps[k] = a := ⟨_, rfl⟩
              rw [ha] at p0 p1 hcat hfl
              simp only at p0 p1 hfl
              obtain ⟨hf1, hf2, hf3⟩ := hfl
              have hpo : poP ⟨a, g⟩ = ⟨adK, a ++ [44] ++ Lib.itoa g⟩ := by unfold poP; simp
              rw [hpo] at hcat
              have hil := Lib.itoa_length_le g hf2 hf3
              have hLl : (M ++ ⟨nmK, t⟩ :: (ps.take k).map poP).length + 1 ≤ M.length + (1 + ps.length) := by
                simp only [List.length_append, List.length_cons, List.length_map, List.length_take]; omega
              have hcat2 : M ++ (⟨nmK, t⟩ :: (ps.take (k + 1)).map poP) = (M ++ (⟨nmK, t⟩ :: (ps.take k).map poP)) ++ [⟨adK, a ++ [44] ++ Lib.itoa g⟩] := by rw [hcat]; exact (List.append_assoc M _ _).symm
              obtain ⟨L, hL⟩ : ∃ L, M ++ (⟨nmK, t⟩ :: (ps.take k).map poP) = L := ⟨_, rfl⟩
              rw [hL] at hbuf hLl hcat2
              have hL32 := room_one (L.length + 1) (by have := Hrow.out; have := HKK.out; omega)
              have Hcat2 := Lib.hid hcat2
              have hki : (k : Int) < (ps.length : Int) := by omega
              obtain ⟨pL, cL, rfl⟩ := hbuf.form
              have hbq := hb.alloc hb.size (.cells #[.string (S a), .int .i64 g] 50)
              have hPq := Blk.new wr #[.string (S a), .int .i64 g] 50
              have hbufq := hbuf.alloc (.cells #[.string (S a), .int .i64 g] 50)
              obtain ⟨B, hB⟩ : ∃ B, wr.heap.size = B := ⟨_, rfl⟩
              have hneB := hbuf.ne (b := B) (Nat.le_of_eq hB)
              rw [hB] at hPq
              have HneB := Lib.hid hneB
              have HPq := Lib.hid hPq
              have Hbq := Lib.hid hbq
              have Hbufq := Lib.hid hbufq
              have HL32 := Lib.hid hL32
              have n1 : ¬ 9223372036854775807 < a.length + 1 := by omega
              have n2 : ¬ 9223372036854775807 < a.length + 1 + (Lib.itoa g).length := by omega
              clear hbuf hb hcat hcat2 hL ha hpo hPq hbq hbufq hneB hL32 hLl
              go_wp2_with fail
              clear p0 p1 hB
              generalize wr.alloc (.cells #[.string (S a), .int .i64 g] 50) = wq at HPq Hbq Hbufq ⊢
              have KEEP := Lib.hid (fun (W : World) (h : Below wq.heap.size wq W) => show W.cell? ⟨B, 0, none⟩ = some (.string (S a)) ∧ W.cell? ⟨B, 1, none⟩ = some (.int .i64 g) from (HPq.out.later h).two)
              refine wp_region_held (S := (fun w' => w'.cell? ⟨B, 0, none⟩ = some (.string (S a)) ∧ w'.cell? ⟨B, 1, none⟩ = some (.int .i64 g))) (by kernel_rfl) ?_
              have e9 : Below wq.heap.size wq { wq with drawn := wq.drawn + 1 } := (Below.refl _ _).drew
              have hb9 : PrBuf w1.heap.size { wq with drawn := wq.drawn + 1 } (.slice pL L.length cL) L := Hbufq.out.later e9
              generalize ({ wq with drawn := wq.drawn + 1 } : World) = w6 at e9 hb9 ⊢
              have hS6 := KEEP.out _ e9
              refine takeN (.slice pL L.length cL) (some 43) (i := 0) rfl rfl (by kernel_rfl) (by kernel_rfl) (by kernel_rfl) (fun _ _ _ h => h) (Or.inl ⟨by rfl, fun w' hw' => ?_⟩) hS6 ?_
              · obtain ⟨u0, u1⟩ := hw'
                go_simp
              simp only [Act.put, List.setIfInBounds_toArray, List.set_cons_succ, List.set_cons_zero]
              refine takeN (.pointer (some ⟨B, 0, none⟩)) (some 44) (i := 1) rfl rfl (by kernel_rfl) (by kernel_rfl) (by kernel_rfl) (fun _ _ _ h => h) (Or.inl ⟨by rfl, fun w' hw' => ?_⟩) hS6 ?_
              · obtain ⟨u0, u1⟩ := hw'
                go_simp
              simp only [Act.put, List.setIfInBounds_toArray, List.set_cons_succ, List.set_cons_zero]
              refine takeN (.string (S a)) (some 45) (i := 2) rfl rfl (by kernel_rfl) (by kernel_rfl) (by kernel_rfl) (fun _ _ _ h => h) (Or.inl ⟨by rfl, fun w' hw' => ?_⟩) hS6 ?_
              · obtain ⟨u0, u1⟩ := hw'
                go_simp
              simp only [Act.put, List.setIfInBounds_toArray, List.set_cons_succ, List.set_cons_zero]
              refine takeN (.string (S (a ++ [44]))) (some 46) (i := 3) rfl rfl (by kernel_rfl) (by kernel_rfl) (by kernel_rfl) (fun _ _ _ h => h) (Or.inl ⟨by rfl, fun w' hw' => ?_⟩) hS6 ?_
              · obtain ⟨u0, u1⟩ := hw'
                go_simp
              simp only [Act.put, List.setIfInBounds_toArray, List.set_cons_succ, List.set_cons_zero]
              refine takeN (.pointer (some ⟨B, 1, none⟩)) (some 47) (i := 4) rfl rfl (by kernel_rfl) (by kernel_rfl) (by kernel_rfl) (fun _ _ _ h => h) (Or.inl ⟨by rfl, fun w' hw' => ?_⟩) hS6 ?_
              · obtain ⟨u0, u1⟩ := hw'
                go_simp
              simp only [Act.put, List.setIfInBounds_toArray, List.set_cons_succ, List.set_cons_zero]
              refine takeN (.int .i64 g) (some 48) (i := 5) rfl rfl (by kernel_rfl) (by kernel_rfl) (by kernel_rfl) (fun _ _ _ h => h) (Or.inl ⟨by rfl, fun w' hw' => ?_⟩) hS6 ?_
              · obtain ⟨u0, u1⟩ := hw'
                go_simp
              simp only [Act.put, List.setIfInBounds_toArray, List.set_cons_succ, List.set_cons_zero]
              refine wpAnyH_all (rs := [6]) (by kernel_rfl) (by simp) (fun i hi => ?_)
              obtain rfl : i = 6 := by simpa using hi
              refine wantN (i := 6) rfl (by rfl) (callN (f := 36) (some 49) rfl Tryz.func36 (by kernel_rfl) (by kernel_rfl) rfl rfl ?_)
              simp only [List.map_toArray, List.map_cons, List.map_nil]
              refine (itoa_all g w6 hf2 hf3 (HEz.out.later (Hbq.out.trans (e9.mono Hbq.out.size)))).mono ?_
              rintro e w7 ⟨rfl, hb7⟩
              have hw7 := below_then e9 hb7
              have hbuf7 := hb9.later hb7
              have hS7 := KEEP.out _ hw7
              refine ⟨_, rfl, hS7, ?_⟩
              try dsimp only
              simp only [Act.put, List.setIfInBounds_toArray, List.set_cons_succ, List.set_cons_zero]
              refine takeN (.string (S (a ++ [44] ++ Lib.itoa g))) (some 50) (i := 7) rfl rfl (by kernel_rfl) (by kernel_rfl) (by kernel_rfl) (fun _ _ _ h => h) (Or.inl ⟨by rfl, fun w' hw' => ?_⟩) hS7 ?_
              · obtain ⟨u0, u1⟩ := hw'
                go_simp
              simp only [Act.put, List.setIfInBounds_toArray, List.set_cons_succ, List.set_cons_zero]
              refine takeN (.agg #[.string (S [84, 97, 114, 103, 101, 116, 65, 100, 100, 114, 101, 115, 115]), .string (S (a ++ [44] ++ Lib.itoa g))]) (some 51) (i := 8) rfl rfl (by kernel_rfl) (by kernel_rfl) (by kernel_rfl) (fun _ _ _ h => h) (Or.inl ⟨by rfl, fun w' hw' => ?_⟩) hS7 ?_
              · obtain ⟨u0, u1⟩ := hw'
                go_simp
              simp only [Act.put, List.setIfInBounds_toArray, List.set_cons_succ, List.set_cons_zero]
              refine wpAnyH_all (rs := [9]) (by kernel_rfl) (by simp) (fun i hi => ?_)
              obtain rfl : i = 9 := by simpa using hi
              have hbA := hw7.alloc hw7.size (.cells #[.string (S adK), .string (S (a ++ [44] ++ Lib.itoa g))] 40)
              have NB := appW_sides adK (a ++ [44] ++ Lib.itoa g) w7 _ L.length w1.heap.size rfl HL32.out (Nat.le_trans Hbq.out.size hw7.size)
              have hO := hbuf7.alloc (.cells #[.string (S adK), .string (S (a ++ [44] ++ Lib.itoa g))] 40)
              refine wantN (i := 9) rfl (by rfl) (buildN adK (a ++ [44] ++ Lib.itoa g) (some 52) rfl _ rfl rfl ⟨KEEP.out _ hbA, ?_⟩)
              generalize hab : (⟨w7.heap.size, 0, none⟩ : Addr) = ab at NB ⊢
              generalize w7.alloc (.cells #[.string (S adK), .string (S (a ++ [44] ++ Lib.itoa g))] 40) = w8 at hbA NB hO ⊢
              simp only [Act.put, List.setIfInBounds_toArray, List.set_cons_succ, List.set_cons_zero]
              refine wpAnyH_all (rs := [10]) (by kernel_rfl) (by simp) (fun i hi => ?_)
              obtain rfl : i = 10 := by simpa using hi
              refine wantN (i := 10) rfl (by rfl) (appW (some 53) rfl _ _ rfl rfl hO rfl NB ?_)
              intro v9 w9 hp9 hgrow9
              have hw18 := Hbq.out.trans (hbA.mono Hbq.out.size)
              have hw19 : Below w1.heap.size w1 w9 := hw18.grown hgrow9 hw18.size hO.ge
              have hS9 := (Blk.grownP (HPq.out.later hbA) hgrow9 HneB.out).two
              refine ⟨hS9, ?_⟩
              try dsimp only
              simp only [Act.put, List.setIfInBounds_toArray, List.set_cons_succ, List.set_cons_zero]
              refine takeN (v9) (some 9) (i := 11) rfl rfl (by kernel_rfl) (by kernel_rfl) (by kernel_rfl) (fun _ _ _ h => h) (Or.inl ⟨by rfl, fun w' hw' => ?_⟩) hS9 ?_
              · obtain ⟨u0, u1⟩ := hw'
                go_simp
              simp only [Act.put, List.setIfInBounds_toArray, List.set_cons_succ, List.set_cons_zero]
              refine wpAnyH_done (by kernel_rfl) ?_ _
              have HP9 := Lib.hid hp9
              have HW9 := Lib.hid hw19
              clear hp9 hw19 hS9 hgrow9 hbA NB hO hw18 hw7 hbuf7 hS7 hb7 hS6 e9 hb9
              go_wp2_with fail
              go_roundw
              case rel => exact ⟨k + 1, by omega, by go_num, by rw [Hcat2.out]; exact HP9.out, HW9.out⟩
              case measure => simp [intOf]; omega
            · obtain rfl : k = ps.length := by omega
              have HB3 := Lib.hid hb
              have hbufE := hbuf
              rw [List.take_length] at hbufE
              have HBE := Lib.hid hbufE
              clear hbuf hb hbufE
              go_wp2_with fail
              go_roundw
              case rel => exact ⟨j + 1, by omega, by go_num, by rw [Hnext.out]; exact HBE.out, HB3.out⟩
              case measure => simp [intOf]; omega
        · obtain rfl : j = ts.length := by omega
          rw [List.take_length] at hbuf
          have HBF := Lib.hid hbuf.prs
          have Hb := Lib.hid (below_then HBz.out hb)
          obtain ⟨pv, cv, hform⟩ := hbuf.form
          subst hform
          clear hbuf hb
          go_wp2_with fail
          go_ret2
          exact ⟨_, _, rfl, HBF.out, .good, Hb.out⟩
end Go.Proofs.YtlcadichpcdgpaaGreatDoor
