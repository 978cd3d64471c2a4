/- TargetLess: without one target, portal or user what is told is right. -/
import Derived.Test.YtlcadichpcdgpaaGreatDoorTgtC
import Derived.Test.YtlcadichpcdgpaaGreatDoorGP
import Derived.Test.YtlcadichpcdgpaaGreatDoorGE
import Derived.Test.YtlcadichpcdgpaaGreatDoorGQ
import Derived.Test.YtlcadichpcdgpaaGreatDoorGC
import Derived.Deep.CutRange
import Derived.Deep.CutBlock
namespace Go.Proofs.YtlcadichpcdgpaaGreatDoor
open Go Go.RowKit
set_option linter.unusedVariables false
theorem FitCf.lessT {c : Cf} (h : FitCf c) (i : Nat) : FitCf { c with ts := c.ts.eraseIdx i } := by
  have hl := List.length_eraseIdx_le c.ts i
  have h1 := h.ts.1
  have h2 := h.tb
  exact ⟨⟨by simp only; omega, fun s hs => h.ts.2 s (List.mem_of_mem_eraseIdx hs)⟩, h.ps, h.us, h.sn, h.ss, h.lim, h.own, by simp only; omega⟩
theorem FitCf.lessP {c : Cf} (h : FitCf c) (i : Nat) : FitCf { c with ps := c.ps.eraseIdx i } := by
  have hl := List.length_eraseIdx_le c.ps i
  have h1 := h.ps.1
  exact ⟨h.ts, ⟨by simp only; omega, fun s hs => h.ps.2 s (List.mem_of_mem_eraseIdx hs)⟩, h.us, h.sn, h.ss, h.lim, h.own, h.tb⟩
theorem FitCf.lessU {c : Cf} (h : FitCf c) (i : Nat) : FitCf { c with us := c.us.eraseIdx i } := by
  have hl := List.length_eraseIdx_le c.us i
  have h1 := h.us.1.1
  have h2 := h.us.2
  exact ⟨h.ts, h.ps, ⟨⟨by simp only; omega, fun s hs => h.us.1.2 s (List.mem_of_mem_eraseIdx hs)⟩, by simp only; omega⟩, h.sn, h.ss, h.lim, h.own, h.tb⟩
theorem keep7T {Wb W W1 : World} {b : Nat} {v0 v1 v2 v3 v4 v5 v6 : Value} (h : Below Wb.heap.size Wb W ∧ W.cell? ⟨b, 0, none⟩ = some v0 ∧ W.cell? ⟨b, 1, none⟩ = some v1 ∧ W.cell? ⟨b, 2, none⟩ = some v2 ∧ W.cell? ⟨b, 3, none⟩ = some v3 ∧ W.cell? ⟨b, 4, none⟩ = some v4 ∧ W.cell? ⟨b, 5, none⟩ = some v5 ∧ W.cell? ⟨b, 6, none⟩ = some v6) (hlt : b < Wb.heap.size) (hb : Below Wb.heap.size Wb W1) (hw : ∀ i, W.cell? ⟨b, i, none⟩ = Wb.cell? ⟨b, i, none⟩) :
    Below Wb.heap.size Wb W1 ∧ W1.cell? ⟨b, 0, none⟩ = some v0 ∧ W1.cell? ⟨b, 1, none⟩ = some v1 ∧ W1.cell? ⟨b, 2, none⟩ = some v2 ∧ W1.cell? ⟨b, 3, none⟩ = some v3 ∧ W1.cell? ⟨b, 4, none⟩ = some v4 ∧ W1.cell? ⟨b, 5, none⟩ = some v5 ∧ W1.cell? ⟨b, 6, none⟩ = some v6 := by
  obtain ⟨h, h0, h1, h2, h3, h4, h5, h6⟩ := h
  have k : ∀ {o : Nat} {v : Value}, W.cell? ⟨b, o, none⟩ = some v → W1.cell? ⟨b, o, none⟩ = some v := fun {o v} hc => ((bcell hb).1 b o hlt).trans ((hw o).symm.trans hc)
  exact ⟨hb, k h0, k h1, k h2, k h3, k h4, k h5, k h6⟩
set_option maxRecDepth 100000 in
set_option maxHeartbeats 8000000 in
theorem targetLess_any (c : Cf) (vt vp vu vo : Value) (a : Int) (w : World) (hv : ConfAt w c vt vp vu vo) (hf : FitCf c) (hwf : (Lit.int .i64 a).wf = true) (h1 : TgtHasOk w) (h2 : TgtRightOk w) (h3 : TgtListOk w) :
    Calls Tryz.prog 5 #[confV c vt vp vu vo, .int .i64 a] w fun e w' => e = .returned (.bool true) ∧ Below w.heap.size w w' := by
  obtain ⟨ts, ps, us, sn, ss, lim, own⟩ := c
  obtain ⟨pt, ct, et, -⟩ := hv.ts
  obtain ⟨pp, cp, ep⟩ := hv.ps.form
  obtain ⟨pu, cu, eu, -⟩ := hv.us
  obtain ⟨po, co, eo, -⟩ := hv.own
  simp only at et ep eu eo
  subst et ep eu eo
  have hA := (Below.refl w.heap.size w).alloc (Nat.le_refl _) (.cells #[.slice pt ts.length ct, .slice pp ps.length cp, .slice pu us.length cu, .string (S sn), .string (S ss), .int .i64 lim, .slice po own.length co] 29)
  have hK := Blk.new w #[.slice pt ts.length ct, .slice pp ps.length cp, .slice pu us.length cu, .string (S sn), .string (S ss), .int .i64 lim, .slice po own.length co] 29
  obtain ⟨w0, hw0⟩ : ∃ w0, w.alloc (.cells #[.slice pt ts.length ct, .slice pp ps.length cp, .slice pu us.length cu, .string (S sn), .string (S ss), .int .i64 lim, .slice po own.length co] 29) = w0 := ⟨_, rfl⟩
  rw [hw0] at hA hK
  have g1 : TgtHasOk w0 := fun W c vt vp vu vo name h => h1 W c vt vp vu vo name (below_then hA h)
  have g2 : TgtRightOk w0 := fun W c vt vp vu vo h => h2 W c vt vp vu vo (below_then hA h)
  have g3 : TgtListOk w0 := fun W c vt vp vu vo name all h => h3 W c vt vp vu vo name all (below_then hA h)
  have F := Lib.hid (listed_fact w0 g1 g2 g3)
  have HV := Lib.hid (hv.later hA)
  have Hf := Lib.hid hf
  have HK := Lib.hid hK
  have HA := Lib.hid hA
  have H2 := Lib.hid g2
  clear hA hK hv hf h1 h2 h3 g1 g2 g3
  unfold confV
  simp only
  go_enter Tryz.func5, Tryz.ntmps5
  go_wp2_with fail
  refine F.out.mono ?_
  rintro e w2 ⟨rfl, hb2⟩
  have Hb2 := Lib.hid hb2
  have CR := crowdedK_any ⟨ts, ps, us, sn, ss, lim, own⟩ (.slice pt ts.length ct) (.slice pp ps.length cp) (.slice pu us.length cu) (.slice po own.length co) w2 (HV.out.later Hb2.out) Hf.out
  unfold confV at CR
  simp only at CR
  have CR := Lib.hid CR
  obtain ⟨k0, k1, k2, k3, k4, k5, k6⟩ := (HK.out.later Hb2.out).seven
  clear hb2 F
  go_wp2_with fail
  refine CR.out.mono ?_
  rintro e w3 ⟨b, rfl, _, hb3⟩
  have Hb3 := Lib.hid (below_then Hb2.out hb3)
  clear hb3 k0 k1 k2 k3 k4 k5 k6 CR Hb2
  cases b with
  | true =>
    go_wp2_with fail
    go_ret
    exact ⟨rfl, below_then HA.out Hb3.out⟩
  | false =>
    have RR := H2.out w3 ⟨ts, ps, us, sn, ss, lim, own⟩ (.slice pt ts.length ct) (.slice pp ps.length cp) (.slice pu us.length cu) (.slice po own.length co) Hb3.out (HV.out.later Hb3.out) Hf.out
    obtain ⟨r1, r2, hrq⟩ : ∃ r1 r2, tgtR ⟨ts, ps, us, sn, ss, lim, own⟩ = (r1, r2) := ⟨_, _, rfl⟩
    rw [hrq] at RR
    unfold confV at RR
    simp only at RR
    have RR := Lib.hid RR
    obtain ⟨k0, k1, k2, k3, k4, k5, k6⟩ := (HK.out.later Hb3.out).seven
    have Hrq := Lib.hid hrq
    clear hrq
    go_wp2_with fail
    refine RR.out.mono ?_
    rintro e w4 ⟨ev, rfl, he, hb4⟩
    simp only at he
    have Hb4 := Lib.hid (below_then Hb3.out hb4)
    clear hb4 k0 k1 k2 k3 k4 k5 k6 RR Hb3
    by_cases hr : r1 = 0
    · subst hr
      obtain rfl := he.zero
      have hok := tgtR_ok.1 (by rw [Hrq.out] : (tgtR ⟨ts, ps, us, sn, ss, lim, own⟩).1 = 0)
      have h8 := hok.nt
      have h4 := hok.np
      have hu8 := hok.nu
      simp only at h8 h4 hu8
      have HOK := Lib.hid hok
      have hKb := HK.out.later Hb4.out
      obtain ⟨k0, k1, k2, k3, k4, k5, k6⟩ := hKb.seven
      have hKlt := hKb.lt
      have KEEP := Lib.hid (fun W (h : Below w4.heap.size w4 W) => keep7T (Wb := w4) ⟨Below.refl _ _, k0, k1, k2, k3, k4, k5, k6⟩ hKlt h (fun _ => rfl))
      have ONE := Lib.hid (show (#[.slice pt ts.length ct, .slice pp ps.length cp, .slice pu us.length cu, .string (S sn), .string (S ss), .int .i64 lim, .slice po own.length co] : Array Value).all (fun x => x.oneCell') = true by simp [Value.oneCell'])
      clear hok he Hrq hKb hKlt k0 k1 k2 k3 k4 k5 k6 hw0
      go_wp2_with fail
      go_cut [5, 6, 7] from 20 to 22 (fun p5 p6 p7 W => ∃ b5 b6 b7, p5 = .pointer (some ⟨b5, 0, none⟩) ∧ p6 = .pointer (some ⟨b6, 0, none⟩) ∧ p7 = .pointer (some ⟨b7, 0, none⟩) ∧ Tri w4 W W.heap.size b5 b6 b7 #[.slice pt ts.length ct, .slice pp ps.length cp, .slice pu us.length cu, .string (S sn), .string (S ss), .int .i64 lim, .slice po own.length co] #[.slice pt ts.length ct, .slice pp ps.length cp, .slice pu us.length cu, .string (S sn), .string (S ss), .int .i64 lim, .slice po own.length co] #[.slice pt ts.length ct, .slice pp ps.length cp, .slice pu us.length cu, .string (S sn), .string (S ss), .int .i64 lim, .slice po own.length co])
      case first =>
        refine wp_region_held (S := (fun w' => Below w4.heap.size w4 w' ∧ w'.cell? ⟨w.heap.size, 0, none⟩ = some (.slice pt ts.length ct) ∧ w'.cell? ⟨w.heap.size, 1, none⟩ = some (.slice pp ps.length cp) ∧ w'.cell? ⟨w.heap.size, 2, none⟩ = some (.slice pu us.length cu) ∧ w'.cell? ⟨w.heap.size, 3, none⟩ = some (.string (S sn)) ∧ w'.cell? ⟨w.heap.size, 4, none⟩ = some (.string (S ss)) ∧ w'.cell? ⟨w.heap.size, 5, none⟩ = some (.int .i64 lim) ∧ w'.cell? ⟨w.heap.size, 6, none⟩ = some (.slice po own.length co))) (by kernel_rfl) ?_
        have e9 : Below w4.heap.size w4 { w4 with drawn := w4.drawn + 1 } := (Below.refl _ _).drew
        generalize ({ w4 with drawn := w4.drawn + 1 } : World) = wx at e9 ⊢
        have hS0 := KEEP.out _ e9
        refine takeN (.agg #[.slice pt ts.length ct, .slice pp ps.length cp, .slice pu us.length cu, .string (S sn), .string (S ss), .int .i64 lim, .slice po own.length co]) (some 20) (i := 0) rfl rfl (by kernel_rfl) (by kernel_rfl) (by kernel_rfl) (fun _ _ _ h => h) (Or.inl ⟨by rfl, fun w' hw' => ?_⟩) hS0 ?_
        · obtain ⟨_, k0, k1, k2, k3, k4, k5, k6⟩ := hw'
          go_simp
        simp only [Act.put, List.setIfInBounds_toArray, List.set_cons_succ, List.set_cons_zero]
        refine takeN (.agg #[.slice pt ts.length ct, .slice pp ps.length cp, .slice pu us.length cu, .string (S sn), .string (S ss), .int .i64 lim, .slice po own.length co]) (some 21) (i := 1) rfl rfl (by kernel_rfl) (by kernel_rfl) (by kernel_rfl) (fun _ _ _ h => h) (Or.inl ⟨by rfl, fun w' hw' => ?_⟩) hS0 ?_
        · obtain ⟨_, k0, k1, k2, k3, k4, k5, k6⟩ := hw'
          go_simp
        simp only [Act.put, List.setIfInBounds_toArray, List.set_cons_succ, List.set_cons_zero]
        refine takeN (.agg #[.slice pt ts.length ct, .slice pp ps.length cp, .slice pu us.length cu, .string (S sn), .string (S ss), .int .i64 lim, .slice po own.length co]) (some 22) (i := 2) rfl rfl (by kernel_rfl) (by kernel_rfl) (by kernel_rfl) (fun _ _ _ h => h) (Or.inl ⟨by rfl, fun w' hw' => ?_⟩) hS0 ?_
        · obtain ⟨_, k0, k1, k2, k3, k4, k5, k6⟩ := hw'
          go_simp
        simp only [Act.put, List.setIfInBounds_toArray, List.set_cons_succ, List.set_cons_zero]
        obtain ⟨p1, p2, p3, A1, A2, A3, hp1, hp2, hp3, hA1, hA2, hA3, hl1, hl2, hT⟩ := tri_new e9
        refine wpAnyH_all (rs := [3, 4, 5]) (by kernel_rfl) (by simp) (fun i hi => ?_)
        rcases (show i = 3 ∨ i = 4 ∨ i = 5 by simpa using hi) with rfl | rfl | rfl
        · refine wantN (i := 3) rfl (by rfl) (allocN (some 5) rfl rfl ?_)
          rw [hA1, hp1]
          refine ⟨KEEP.out _ hl1, ?_⟩
          simp only [Act.put, List.setIfInBounds_toArray, List.set_cons_succ, List.set_cons_zero]
          refine wpAnyH_all (rs := [4, 5]) (by kernel_rfl) (by simp) (fun i hi => ?_)
          rcases (show i = 4 ∨ i = 5 by simpa using hi) with rfl | rfl
          · refine wantN (i := 4) rfl (by rfl) (allocN (some 6) rfl rfl ?_)
            rw [hA2, hp2]
            refine ⟨KEEP.out _ hl2, ?_⟩
            simp only [Act.put, List.setIfInBounds_toArray, List.set_cons_succ, List.set_cons_zero]
            refine wpAnyH_all (rs := [5]) (by kernel_rfl) (by simp) (fun i hi => ?_)
            obtain rfl : i = 5 := by simpa using hi
            refine wantN (i := 5) rfl (by rfl) (allocN (some 7) rfl rfl ?_)
            rw [hA3, hp3]
            refine ⟨KEEP.out _ hT.low, ?_⟩
            simp only [Act.put, List.setIfInBounds_toArray, List.set_cons_succ, List.set_cons_zero]
            have T0 := hT
            refine wpAnyH_all (rs := [6]) (by kernel_rfl) (by simp) (fun i hi => ?_)
            obtain rfl : i = 6 := by simpa using hi
            have T1 := (T0).whole #[.slice pt ts.length ct, .slice pp ps.length cp, .slice pu us.length cu, .string (S sn), .string (S ss), .int .i64 lim, .slice po own.length co] rfl
            obtain ⟨U1, hU1⟩ : ∃ U, A3.setCells p1 0 (#[.slice pt ts.length ct, .slice pp ps.length cp, .slice pu us.length cu, .string (S sn), .string (S ss), .int .i64 lim, .slice po own.length co] : Array Value).toList = U := ⟨_, rfl⟩
            rw [hU1] at T1
            refine wantN (i := 6) rfl (by rfl) (storeN none rfl _ _ _ rfl p1 0 #[.slice pt ts.length ct, .slice pp ps.length cp, .slice pu us.length cu, .string (S sn), .string (S ss), .int .i64 lim, .slice po own.length co] rfl rfl T0.k5.there (by kernel_rfl) ONE.out ?_)
            rw [hU1]
            refine ⟨KEEP.out _ T1.low, ?_⟩
            simp only [Act.put]
            clear hU1
            refine wpAnyH_all (rs := [7]) (by kernel_rfl) (by simp) (fun i hi => ?_)
            obtain rfl : i = 7 := by simpa using hi
            have T2 := (T1.rot).whole #[.slice pt ts.length ct, .slice pp ps.length cp, .slice pu us.length cu, .string (S sn), .string (S ss), .int .i64 lim, .slice po own.length co] rfl
            obtain ⟨U2, hU2⟩ : ∃ U, U1.setCells p2 0 (#[.slice pt ts.length ct, .slice pp ps.length cp, .slice pu us.length cu, .string (S sn), .string (S ss), .int .i64 lim, .slice po own.length co] : Array Value).toList = U := ⟨_, rfl⟩
            rw [hU2] at T2
            refine wantN (i := 7) rfl (by rfl) (storeN none rfl _ _ _ rfl p2 0 #[.slice pt ts.length ct, .slice pp ps.length cp, .slice pu us.length cu, .string (S sn), .string (S ss), .int .i64 lim, .slice po own.length co] rfl rfl T1.rot.k5.there (by kernel_rfl) ONE.out ?_)
            rw [hU2]
            refine ⟨KEEP.out _ T2.low, ?_⟩
            simp only [Act.put]
            clear hU2
            refine wpAnyH_all (rs := [8]) (by kernel_rfl) (by simp) (fun i hi => ?_)
            obtain rfl : i = 8 := by simpa using hi
            have T3 := (T2.rot).whole #[.slice pt ts.length ct, .slice pp ps.length cp, .slice pu us.length cu, .string (S sn), .string (S ss), .int .i64 lim, .slice po own.length co] rfl
            obtain ⟨U3, hU3⟩ : ∃ U, U2.setCells p3 0 (#[.slice pt ts.length ct, .slice pp ps.length cp, .slice pu us.length cu, .string (S sn), .string (S ss), .int .i64 lim, .slice po own.length co] : Array Value).toList = U := ⟨_, rfl⟩
            rw [hU3] at T3
            refine wantN (i := 8) rfl (by rfl) (storeN none rfl _ _ _ rfl p3 0 #[.slice pt ts.length ct, .slice pp ps.length cp, .slice pu us.length cu, .string (S sn), .string (S ss), .int .i64 lim, .slice po own.length co] rfl rfl T2.rot.k5.there (by kernel_rfl) ONE.out ?_)
            rw [hU3]
            refine ⟨KEEP.out _ T3.low, ?_⟩
            simp only [Act.put]
            clear hU3
            refine wpAnyH_done (by kernel_rfl) ?_ _
            go_wp2_with fail
            go_meet
            exact ⟨_, _, _, rfl, rfl, rfl, T3.rot.top_of⟩
          · refine wantN (i := 5) rfl (by rfl) (allocN (some 7) rfl rfl ?_)
            rw [hA2, hp2]
            refine ⟨KEEP.out _ hl2, ?_⟩
            simp only [Act.put, List.setIfInBounds_toArray, List.set_cons_succ, List.set_cons_zero]
            refine wpAnyH_all (rs := [4]) (by kernel_rfl) (by simp) (fun i hi => ?_)
            obtain rfl : i = 4 := by simpa using hi
            refine wantN (i := 4) rfl (by rfl) (allocN (some 6) rfl rfl ?_)
            rw [hA3, hp3]
            refine ⟨KEEP.out _ hT.low, ?_⟩
            simp only [Act.put, List.setIfInBounds_toArray, List.set_cons_succ, List.set_cons_zero]
            have T0 := hT.swap.rot
            refine wpAnyH_all (rs := [6]) (by kernel_rfl) (by simp) (fun i hi => ?_)
            obtain rfl : i = 6 := by simpa using hi
            have T1 := (T0).whole #[.slice pt ts.length ct, .slice pp ps.length cp, .slice pu us.length cu, .string (S sn), .string (S ss), .int .i64 lim, .slice po own.length co] rfl
            obtain ⟨U1, hU1⟩ : ∃ U, A3.setCells p1 0 (#[.slice pt ts.length ct, .slice pp ps.length cp, .slice pu us.length cu, .string (S sn), .string (S ss), .int .i64 lim, .slice po own.length co] : Array Value).toList = U := ⟨_, rfl⟩
            rw [hU1] at T1
            refine wantN (i := 6) rfl (by rfl) (storeN none rfl _ _ _ rfl p1 0 #[.slice pt ts.length ct, .slice pp ps.length cp, .slice pu us.length cu, .string (S sn), .string (S ss), .int .i64 lim, .slice po own.length co] rfl rfl T0.k5.there (by kernel_rfl) ONE.out ?_)
            rw [hU1]
            refine ⟨KEEP.out _ T1.low, ?_⟩
            simp only [Act.put]
            clear hU1
            refine wpAnyH_all (rs := [7]) (by kernel_rfl) (by simp) (fun i hi => ?_)
            obtain rfl : i = 7 := by simpa using hi
            have T2 := (T1.rot).whole #[.slice pt ts.length ct, .slice pp ps.length cp, .slice pu us.length cu, .string (S sn), .string (S ss), .int .i64 lim, .slice po own.length co] rfl
            obtain ⟨U2, hU2⟩ : ∃ U, U1.setCells p3 0 (#[.slice pt ts.length ct, .slice pp ps.length cp, .slice pu us.length cu, .string (S sn), .string (S ss), .int .i64 lim, .slice po own.length co] : Array Value).toList = U := ⟨_, rfl⟩
            rw [hU2] at T2
            refine wantN (i := 7) rfl (by rfl) (storeN none rfl _ _ _ rfl p3 0 #[.slice pt ts.length ct, .slice pp ps.length cp, .slice pu us.length cu, .string (S sn), .string (S ss), .int .i64 lim, .slice po own.length co] rfl rfl T1.rot.k5.there (by kernel_rfl) ONE.out ?_)
            rw [hU2]
            refine ⟨KEEP.out _ T2.low, ?_⟩
            simp only [Act.put]
            clear hU2
            refine wpAnyH_all (rs := [8]) (by kernel_rfl) (by simp) (fun i hi => ?_)
            obtain rfl : i = 8 := by simpa using hi
            have T3 := (T2.rot).whole #[.slice pt ts.length ct, .slice pp ps.length cp, .slice pu us.length cu, .string (S sn), .string (S ss), .int .i64 lim, .slice po own.length co] rfl
            obtain ⟨U3, hU3⟩ : ∃ U, U2.setCells p2 0 (#[.slice pt ts.length ct, .slice pp ps.length cp, .slice pu us.length cu, .string (S sn), .string (S ss), .int .i64 lim, .slice po own.length co] : Array Value).toList = U := ⟨_, rfl⟩
            rw [hU3] at T3
            refine wantN (i := 8) rfl (by rfl) (storeN none rfl _ _ _ rfl p2 0 #[.slice pt ts.length ct, .slice pp ps.length cp, .slice pu us.length cu, .string (S sn), .string (S ss), .int .i64 lim, .slice po own.length co] rfl rfl T2.rot.k5.there (by kernel_rfl) ONE.out ?_)
            rw [hU3]
            refine ⟨KEEP.out _ T3.low, ?_⟩
            simp only [Act.put]
            clear hU3
            refine wpAnyH_done (by kernel_rfl) ?_ _
            go_wp2_with fail
            go_meet
            exact ⟨_, _, _, rfl, rfl, rfl, T3.rot.top_of⟩
        · refine wantN (i := 4) rfl (by rfl) (allocN (some 6) rfl rfl ?_)
          rw [hA1, hp1]
          refine ⟨KEEP.out _ hl1, ?_⟩
          simp only [Act.put, List.setIfInBounds_toArray, List.set_cons_succ, List.set_cons_zero]
          refine wpAnyH_all (rs := [3, 5]) (by kernel_rfl) (by simp) (fun i hi => ?_)
          rcases (show i = 3 ∨ i = 5 by simpa using hi) with rfl | rfl
          · refine wantN (i := 3) rfl (by rfl) (allocN (some 5) rfl rfl ?_)
            rw [hA2, hp2]
            refine ⟨KEEP.out _ hl2, ?_⟩
            simp only [Act.put, List.setIfInBounds_toArray, List.set_cons_succ, List.set_cons_zero]
            refine wpAnyH_all (rs := [5]) (by kernel_rfl) (by simp) (fun i hi => ?_)
            obtain rfl : i = 5 := by simpa using hi
            refine wantN (i := 5) rfl (by rfl) (allocN (some 7) rfl rfl ?_)
            rw [hA3, hp3]
            refine ⟨KEEP.out _ hT.low, ?_⟩
            simp only [Act.put, List.setIfInBounds_toArray, List.set_cons_succ, List.set_cons_zero]
            have T0 := hT.swap
            refine wpAnyH_all (rs := [6]) (by kernel_rfl) (by simp) (fun i hi => ?_)
            obtain rfl : i = 6 := by simpa using hi
            have T1 := (T0).whole #[.slice pt ts.length ct, .slice pp ps.length cp, .slice pu us.length cu, .string (S sn), .string (S ss), .int .i64 lim, .slice po own.length co] rfl
            obtain ⟨U1, hU1⟩ : ∃ U, A3.setCells p2 0 (#[.slice pt ts.length ct, .slice pp ps.length cp, .slice pu us.length cu, .string (S sn), .string (S ss), .int .i64 lim, .slice po own.length co] : Array Value).toList = U := ⟨_, rfl⟩
            rw [hU1] at T1
            refine wantN (i := 6) rfl (by rfl) (storeN none rfl _ _ _ rfl p2 0 #[.slice pt ts.length ct, .slice pp ps.length cp, .slice pu us.length cu, .string (S sn), .string (S ss), .int .i64 lim, .slice po own.length co] rfl rfl T0.k5.there (by kernel_rfl) ONE.out ?_)
            rw [hU1]
            refine ⟨KEEP.out _ T1.low, ?_⟩
            simp only [Act.put]
            clear hU1
            refine wpAnyH_all (rs := [7]) (by kernel_rfl) (by simp) (fun i hi => ?_)
            obtain rfl : i = 7 := by simpa using hi
            have T2 := (T1.rot).whole #[.slice pt ts.length ct, .slice pp ps.length cp, .slice pu us.length cu, .string (S sn), .string (S ss), .int .i64 lim, .slice po own.length co] rfl
            obtain ⟨U2, hU2⟩ : ∃ U, U1.setCells p1 0 (#[.slice pt ts.length ct, .slice pp ps.length cp, .slice pu us.length cu, .string (S sn), .string (S ss), .int .i64 lim, .slice po own.length co] : Array Value).toList = U := ⟨_, rfl⟩
            rw [hU2] at T2
            refine wantN (i := 7) rfl (by rfl) (storeN none rfl _ _ _ rfl p1 0 #[.slice pt ts.length ct, .slice pp ps.length cp, .slice pu us.length cu, .string (S sn), .string (S ss), .int .i64 lim, .slice po own.length co] rfl rfl T1.rot.k5.there (by kernel_rfl) ONE.out ?_)
            rw [hU2]
            refine ⟨KEEP.out _ T2.low, ?_⟩
            simp only [Act.put]
            clear hU2
            refine wpAnyH_all (rs := [8]) (by kernel_rfl) (by simp) (fun i hi => ?_)
            obtain rfl : i = 8 := by simpa using hi
            have T3 := (T2.rot).whole #[.slice pt ts.length ct, .slice pp ps.length cp, .slice pu us.length cu, .string (S sn), .string (S ss), .int .i64 lim, .slice po own.length co] rfl
            obtain ⟨U3, hU3⟩ : ∃ U, U2.setCells p3 0 (#[.slice pt ts.length ct, .slice pp ps.length cp, .slice pu us.length cu, .string (S sn), .string (S ss), .int .i64 lim, .slice po own.length co] : Array Value).toList = U := ⟨_, rfl⟩
            rw [hU3] at T3
            refine wantN (i := 8) rfl (by rfl) (storeN none rfl _ _ _ rfl p3 0 #[.slice pt ts.length ct, .slice pp ps.length cp, .slice pu us.length cu, .string (S sn), .string (S ss), .int .i64 lim, .slice po own.length co] rfl rfl T2.rot.k5.there (by kernel_rfl) ONE.out ?_)
            rw [hU3]
            refine ⟨KEEP.out _ T3.low, ?_⟩
            simp only [Act.put]
            clear hU3
            refine wpAnyH_done (by kernel_rfl) ?_ _
            go_wp2_with fail
            go_meet
            exact ⟨_, _, _, rfl, rfl, rfl, T3.rot.top_of⟩
          · refine wantN (i := 5) rfl (by rfl) (allocN (some 7) rfl rfl ?_)
            rw [hA2, hp2]
            refine ⟨KEEP.out _ hl2, ?_⟩
            simp only [Act.put, List.setIfInBounds_toArray, List.set_cons_succ, List.set_cons_zero]
            refine wpAnyH_all (rs := [3]) (by kernel_rfl) (by simp) (fun i hi => ?_)
            obtain rfl : i = 3 := by simpa using hi
            refine wantN (i := 3) rfl (by rfl) (allocN (some 5) rfl rfl ?_)
            rw [hA3, hp3]
            refine ⟨KEEP.out _ hT.low, ?_⟩
            simp only [Act.put, List.setIfInBounds_toArray, List.set_cons_succ, List.set_cons_zero]
            have T0 := hT.rot.rot
            refine wpAnyH_all (rs := [6]) (by kernel_rfl) (by simp) (fun i hi => ?_)
            obtain rfl : i = 6 := by simpa using hi
            have T1 := (T0).whole #[.slice pt ts.length ct, .slice pp ps.length cp, .slice pu us.length cu, .string (S sn), .string (S ss), .int .i64 lim, .slice po own.length co] rfl
            obtain ⟨U1, hU1⟩ : ∃ U, A3.setCells p3 0 (#[.slice pt ts.length ct, .slice pp ps.length cp, .slice pu us.length cu, .string (S sn), .string (S ss), .int .i64 lim, .slice po own.length co] : Array Value).toList = U := ⟨_, rfl⟩
            rw [hU1] at T1
            refine wantN (i := 6) rfl (by rfl) (storeN none rfl _ _ _ rfl p3 0 #[.slice pt ts.length ct, .slice pp ps.length cp, .slice pu us.length cu, .string (S sn), .string (S ss), .int .i64 lim, .slice po own.length co] rfl rfl T0.k5.there (by kernel_rfl) ONE.out ?_)
            rw [hU1]
            refine ⟨KEEP.out _ T1.low, ?_⟩
            simp only [Act.put]
            clear hU1
            refine wpAnyH_all (rs := [7]) (by kernel_rfl) (by simp) (fun i hi => ?_)
            obtain rfl : i = 7 := by simpa using hi
            have T2 := (T1.rot).whole #[.slice pt ts.length ct, .slice pp ps.length cp, .slice pu us.length cu, .string (S sn), .string (S ss), .int .i64 lim, .slice po own.length co] rfl
            obtain ⟨U2, hU2⟩ : ∃ U, U1.setCells p1 0 (#[.slice pt ts.length ct, .slice pp ps.length cp, .slice pu us.length cu, .string (S sn), .string (S ss), .int .i64 lim, .slice po own.length co] : Array Value).toList = U := ⟨_, rfl⟩
            rw [hU2] at T2
            refine wantN (i := 7) rfl (by rfl) (storeN none rfl _ _ _ rfl p1 0 #[.slice pt ts.length ct, .slice pp ps.length cp, .slice pu us.length cu, .string (S sn), .string (S ss), .int .i64 lim, .slice po own.length co] rfl rfl T1.rot.k5.there (by kernel_rfl) ONE.out ?_)
            rw [hU2]
            refine ⟨KEEP.out _ T2.low, ?_⟩
            simp only [Act.put]
            clear hU2
            refine wpAnyH_all (rs := [8]) (by kernel_rfl) (by simp) (fun i hi => ?_)
            obtain rfl : i = 8 := by simpa using hi
            have T3 := (T2.rot).whole #[.slice pt ts.length ct, .slice pp ps.length cp, .slice pu us.length cu, .string (S sn), .string (S ss), .int .i64 lim, .slice po own.length co] rfl
            obtain ⟨U3, hU3⟩ : ∃ U, U2.setCells p2 0 (#[.slice pt ts.length ct, .slice pp ps.length cp, .slice pu us.length cu, .string (S sn), .string (S ss), .int .i64 lim, .slice po own.length co] : Array Value).toList = U := ⟨_, rfl⟩
            rw [hU3] at T3
            refine wantN (i := 8) rfl (by rfl) (storeN none rfl _ _ _ rfl p2 0 #[.slice pt ts.length ct, .slice pp ps.length cp, .slice pu us.length cu, .string (S sn), .string (S ss), .int .i64 lim, .slice po own.length co] rfl rfl T2.rot.k5.there (by kernel_rfl) ONE.out ?_)
            rw [hU3]
            refine ⟨KEEP.out _ T3.low, ?_⟩
            simp only [Act.put]
            clear hU3
            refine wpAnyH_done (by kernel_rfl) ?_ _
            go_wp2_with fail
            go_meet
            exact ⟨_, _, _, rfl, rfl, rfl, T3.rot.top_of⟩
        · refine wantN (i := 5) rfl (by rfl) (allocN (some 7) rfl rfl ?_)
          rw [hA1, hp1]
          refine ⟨KEEP.out _ hl1, ?_⟩
          simp only [Act.put, List.setIfInBounds_toArray, List.set_cons_succ, List.set_cons_zero]
          refine wpAnyH_all (rs := [3, 4]) (by kernel_rfl) (by simp) (fun i hi => ?_)
          rcases (show i = 3 ∨ i = 4 by simpa using hi) with rfl | rfl
          · refine wantN (i := 3) rfl (by rfl) (allocN (some 5) rfl rfl ?_)
            rw [hA2, hp2]
            refine ⟨KEEP.out _ hl2, ?_⟩
            simp only [Act.put, List.setIfInBounds_toArray, List.set_cons_succ, List.set_cons_zero]
            refine wpAnyH_all (rs := [4]) (by kernel_rfl) (by simp) (fun i hi => ?_)
            obtain rfl : i = 4 := by simpa using hi
            refine wantN (i := 4) rfl (by rfl) (allocN (some 6) rfl rfl ?_)
            rw [hA3, hp3]
            refine ⟨KEEP.out _ hT.low, ?_⟩
            simp only [Act.put, List.setIfInBounds_toArray, List.set_cons_succ, List.set_cons_zero]
            have T0 := hT.rot
            refine wpAnyH_all (rs := [6]) (by kernel_rfl) (by simp) (fun i hi => ?_)
            obtain rfl : i = 6 := by simpa using hi
            have T1 := (T0).whole #[.slice pt ts.length ct, .slice pp ps.length cp, .slice pu us.length cu, .string (S sn), .string (S ss), .int .i64 lim, .slice po own.length co] rfl
            obtain ⟨U1, hU1⟩ : ∃ U, A3.setCells p2 0 (#[.slice pt ts.length ct, .slice pp ps.length cp, .slice pu us.length cu, .string (S sn), .string (S ss), .int .i64 lim, .slice po own.length co] : Array Value).toList = U := ⟨_, rfl⟩
            rw [hU1] at T1
            refine wantN (i := 6) rfl (by rfl) (storeN none rfl _ _ _ rfl p2 0 #[.slice pt ts.length ct, .slice pp ps.length cp, .slice pu us.length cu, .string (S sn), .string (S ss), .int .i64 lim, .slice po own.length co] rfl rfl T0.k5.there (by kernel_rfl) ONE.out ?_)
            rw [hU1]
            refine ⟨KEEP.out _ T1.low, ?_⟩
            simp only [Act.put]
            clear hU1
            refine wpAnyH_all (rs := [7]) (by kernel_rfl) (by simp) (fun i hi => ?_)
            obtain rfl : i = 7 := by simpa using hi
            have T2 := (T1.rot).whole #[.slice pt ts.length ct, .slice pp ps.length cp, .slice pu us.length cu, .string (S sn), .string (S ss), .int .i64 lim, .slice po own.length co] rfl
            obtain ⟨U2, hU2⟩ : ∃ U, U1.setCells p3 0 (#[.slice pt ts.length ct, .slice pp ps.length cp, .slice pu us.length cu, .string (S sn), .string (S ss), .int .i64 lim, .slice po own.length co] : Array Value).toList = U := ⟨_, rfl⟩
            rw [hU2] at T2
            refine wantN (i := 7) rfl (by rfl) (storeN none rfl _ _ _ rfl p3 0 #[.slice pt ts.length ct, .slice pp ps.length cp, .slice pu us.length cu, .string (S sn), .string (S ss), .int .i64 lim, .slice po own.length co] rfl rfl T1.rot.k5.there (by kernel_rfl) ONE.out ?_)
            rw [hU2]
            refine ⟨KEEP.out _ T2.low, ?_⟩
            simp only [Act.put]
            clear hU2
            refine wpAnyH_all (rs := [8]) (by kernel_rfl) (by simp) (fun i hi => ?_)
            obtain rfl : i = 8 := by simpa using hi
            have T3 := (T2.rot).whole #[.slice pt ts.length ct, .slice pp ps.length cp, .slice pu us.length cu, .string (S sn), .string (S ss), .int .i64 lim, .slice po own.length co] rfl
            obtain ⟨U3, hU3⟩ : ∃ U, U2.setCells p1 0 (#[.slice pt ts.length ct, .slice pp ps.length cp, .slice pu us.length cu, .string (S sn), .string (S ss), .int .i64 lim, .slice po own.length co] : Array Value).toList = U := ⟨_, rfl⟩
            rw [hU3] at T3
            refine wantN (i := 8) rfl (by rfl) (storeN none rfl _ _ _ rfl p1 0 #[.slice pt ts.length ct, .slice pp ps.length cp, .slice pu us.length cu, .string (S sn), .string (S ss), .int .i64 lim, .slice po own.length co] rfl rfl T2.rot.k5.there (by kernel_rfl) ONE.out ?_)
            rw [hU3]
            refine ⟨KEEP.out _ T3.low, ?_⟩
            simp only [Act.put]
            clear hU3
            refine wpAnyH_done (by kernel_rfl) ?_ _
            go_wp2_with fail
            go_meet
            exact ⟨_, _, _, rfl, rfl, rfl, T3.rot.top_of⟩
          · refine wantN (i := 4) rfl (by rfl) (allocN (some 6) rfl rfl ?_)
            rw [hA2, hp2]
            refine ⟨KEEP.out _ hl2, ?_⟩
            simp only [Act.put, List.setIfInBounds_toArray, List.set_cons_succ, List.set_cons_zero]
            refine wpAnyH_all (rs := [3]) (by kernel_rfl) (by simp) (fun i hi => ?_)
            obtain rfl : i = 3 := by simpa using hi
            refine wantN (i := 3) rfl (by rfl) (allocN (some 5) rfl rfl ?_)
            rw [hA3, hp3]
            refine ⟨KEEP.out _ hT.low, ?_⟩
            simp only [Act.put, List.setIfInBounds_toArray, List.set_cons_succ, List.set_cons_zero]
            have T0 := hT.rot.swap
            refine wpAnyH_all (rs := [6]) (by kernel_rfl) (by simp) (fun i hi => ?_)
            obtain rfl : i = 6 := by simpa using hi
            have T1 := (T0).whole #[.slice pt ts.length ct, .slice pp ps.length cp, .slice pu us.length cu, .string (S sn), .string (S ss), .int .i64 lim, .slice po own.length co] rfl
            obtain ⟨U1, hU1⟩ : ∃ U, A3.setCells p3 0 (#[.slice pt ts.length ct, .slice pp ps.length cp, .slice pu us.length cu, .string (S sn), .string (S ss), .int .i64 lim, .slice po own.length co] : Array Value).toList = U := ⟨_, rfl⟩
            rw [hU1] at T1
            refine wantN (i := 6) rfl (by rfl) (storeN none rfl _ _ _ rfl p3 0 #[.slice pt ts.length ct, .slice pp ps.length cp, .slice pu us.length cu, .string (S sn), .string (S ss), .int .i64 lim, .slice po own.length co] rfl rfl T0.k5.there (by kernel_rfl) ONE.out ?_)
            rw [hU1]
            refine ⟨KEEP.out _ T1.low, ?_⟩
            simp only [Act.put]
            clear hU1
            refine wpAnyH_all (rs := [7]) (by kernel_rfl) (by simp) (fun i hi => ?_)
            obtain rfl : i = 7 := by simpa using hi
            have T2 := (T1.rot).whole #[.slice pt ts.length ct, .slice pp ps.length cp, .slice pu us.length cu, .string (S sn), .string (S ss), .int .i64 lim, .slice po own.length co] rfl
            obtain ⟨U2, hU2⟩ : ∃ U, U1.setCells p2 0 (#[.slice pt ts.length ct, .slice pp ps.length cp, .slice pu us.length cu, .string (S sn), .string (S ss), .int .i64 lim, .slice po own.length co] : Array Value).toList = U := ⟨_, rfl⟩
            rw [hU2] at T2
            refine wantN (i := 7) rfl (by rfl) (storeN none rfl _ _ _ rfl p2 0 #[.slice pt ts.length ct, .slice pp ps.length cp, .slice pu us.length cu, .string (S sn), .string (S ss), .int .i64 lim, .slice po own.length co] rfl rfl T1.rot.k5.there (by kernel_rfl) ONE.out ?_)
            rw [hU2]
            refine ⟨KEEP.out _ T2.low, ?_⟩
            simp only [Act.put]
            clear hU2
            refine wpAnyH_all (rs := [8]) (by kernel_rfl) (by simp) (fun i hi => ?_)
            obtain rfl : i = 8 := by simpa using hi
            have T3 := (T2.rot).whole #[.slice pt ts.length ct, .slice pp ps.length cp, .slice pu us.length cu, .string (S sn), .string (S ss), .int .i64 lim, .slice po own.length co] rfl
            obtain ⟨U3, hU3⟩ : ∃ U, U2.setCells p1 0 (#[.slice pt ts.length ct, .slice pp ps.length cp, .slice pu us.length cu, .string (S sn), .string (S ss), .int .i64 lim, .slice po own.length co] : Array Value).toList = U := ⟨_, rfl⟩
            rw [hU3] at T3
            refine wantN (i := 8) rfl (by rfl) (storeN none rfl _ _ _ rfl p1 0 #[.slice pt ts.length ct, .slice pp ps.length cp, .slice pu us.length cu, .string (S sn), .string (S ss), .int .i64 lim, .slice po own.length co] rfl rfl T2.rot.k5.there (by kernel_rfl) ONE.out ?_)
            rw [hU3]
            refine ⟨KEEP.out _ T3.low, ?_⟩
            simp only [Act.put]
            clear hU3
            refine wpAnyH_done (by kernel_rfl) ?_ _
            go_wp2_with fail
            go_meet
            exact ⟨_, _, _, rfl, rfl, rfl, T3.rot.top_of⟩
      case rest =>
        obtain ⟨b5, b6, b7, rfl, rfl, rfl, hT⟩ := hcut
        obtain ⟨lm, hlm⟩ : ∃ lm, wc.heap.size = lm := ⟨_, rfl⟩
        rw [hlm] at hT
        have HT := Lib.hid hT
        have htb := Hf.out.tb
        simp only at htb
        clear hT hlm ONE
        go_step
        go_step
        go_cut [8] from 23 to 39 (fun v8 W => ∃ v5 x5, Tri w4 W lm b5 b6 b7 #[v5, .slice pp ps.length cp, .slice pu us.length cu, .string (S sn), .string (S ss), .int .i64 lim, .slice po own.length co] #[.slice pt ts.length ct, .slice pp ps.length cp, .slice pu us.length cu, .string (S sn), .string (S ss), .int .i64 lim, .slice po own.length co] #[.slice pt ts.length ct, .slice pp ps.length cp, .slice pu us.length cu, .string (S sn), .string (S ss), .int .i64 lim, .slice po own.length co] ∧ RowB 9 1 lm W v5 (ts.eraseIdx x5).length (strVs (ts.eraseIdx x5)))
        case first =>
          obtain ⟨_, k0, k1, k2, k3, k4, k5, k6⟩ := KEEP.out _ HT.out.low
          by_cases h0 : ts = []
          · subst h0
            go_wp2_with fail
            go_meet
            exact ⟨_, 0, HT.out, .inr ⟨rfl, _, _, rfl⟩⟩
          · have hpos : 0 < ts.length := List.length_pos_iff.2 h0
            have hposI : (0 : Int) < (ts.length : Int) := by omega
            obtain ⟨K, hKe⟩ : ∃ K, pickI a ts.length = K := ⟨_, rfl⟩
            have hKl : K < ts.length := hKe ▸ pickI_lt a ts.length hpos
            have PK := pick_any a ts.length wc hpos (by omega)
            rw [hKe] at PK
            have PK := Lib.hid PK
            have hvl := (HV.out.later (below_then Hb4.out HT.out.low)).ts
            simp only at hvl
            have CL := cloneS_any ts _ wc hvl (by omega)
            unfold RetSB2 at CL
            have CL := Lib.hid CL
            obtain ⟨z0, hz0⟩ : ∃ z0, wc.heap.size = z0 := ⟨_, rfl⟩
            have hlz : lm ≤ z0 := hz0 ▸ HT.out.top
            rw [hz0] at CL
            clear hvl hKe
            go_wp2_with fail
            refine PK.out.mono ?_
            rintro e w' ⟨rfl, rfl⟩
            go_wp2_with fail
            refine CL.out.mono ?_
            rintro e wd ⟨vd, rfl, hbd, hd⟩
            have DL := Lib.hid (lessS_any ts K z0 vd wd hbd hKl (by omega))
            have Hd := Lib.hid hd
            have Hge := Lib.hid hbd.ge
            obtain ⟨pd, cd, hfd⟩ := hbd.form
            subst hfd
            clear hbd hd k0 k1 k2 k3 k4 k5 k6
            go_wp2_with fail
            refine DL.out.mono ?_
            rintro e we ⟨ve, rfl, hro, hgr⟩
            have hwe : Below wc.heap.size wc we := by rw [hz0]; exact Hd.out.grown hgr (by have := Hd.out.size; omega) Hge.out
            obtain ⟨pe, ce, hfe⟩ := ownsRow_form hro
            obtain ⟨nE, hnE⟩ : ∃ nE, (ts.eraseIdx K).length = nE := ⟨_, rfl⟩
            rw [hnE] at hfe
            subst hfe
            have HT2 := Lib.hid (HT.out.later hwe)
            have HRO := Lib.hid hro
            obtain ⟨q0, q1, q2, q3, q4, q5, q6⟩ := HT2.out.k5.seven
            have f0 := HT2.out.k5.frozen 0
            clear hwe hro hgr hnE
            go_wp2_with fail
            go_meet
            exact ⟨_, K, (HT2.out.set 0 _), .inl ⟨z0, hlz, owns_stored HRO.out (Nat.lt_of_lt_of_le HT2.out.l5.2 hlz)⟩⟩
        case rest =>
          obtain ⟨v5, x5, hT, hr5⟩ := hcut
          have HT := Lib.hid hT
          have HR5 := Lib.hid hr5
          clear hT hr5
          go_step
          go_step
          go_cut [9] from 40 to 56 (fun v9 W => ∃ v6 x6, Tri w4 W lm b5 b6 b7 #[v5, .slice pp ps.length cp, .slice pu us.length cu, .string (S sn), .string (S ss), .int .i64 lim, .slice po own.length co] #[.slice pt ts.length ct, v6, .slice pu us.length cu, .string (S sn), .string (S ss), .int .i64 lim, .slice po own.length co] #[.slice pt ts.length ct, .slice pp ps.length cp, .slice pu us.length cu, .string (S sn), .string (S ss), .int .i64 lim, .slice po own.length co] ∧ RowB 9 1 lm W v5 (ts.eraseIdx x5).length (strVs (ts.eraseIdx x5)) ∧ RowB 50 2 lm W v6 (ps.eraseIdx x6).length (poVs (ps.eraseIdx x6)))
          case first =>
            obtain ⟨_, k0, k1, k2, k3, k4, k5, k6⟩ := KEEP.out _ HT.out.low
            by_cases h0 : ps = []
            · subst h0
              go_wp2_with fail
              go_meet
              exact ⟨_, 0, HT.out, HR5.out, .inr ⟨rfl, _, _, rfl⟩⟩
            · have hpos : 0 < ps.length := List.length_pos_iff.2 h0
              have hposI : (0 : Int) < (ps.length : Int) := by omega
              obtain ⟨K, hKe⟩ : ∃ K, pickI a ps.length = K := ⟨_, rfl⟩
              have hKl : K < ps.length := hKe ▸ pickI_lt a ps.length hpos
              have PK := pick_any a ps.length wc hpos (by omega)
              rw [hKe] at PK
              have PK := Lib.hid PK
              have hvl := (HV.out.later (below_then Hb4.out HT.out.low)).ps
              simp only at hvl
              have CL := cloneO_any ps _ wc hvl (by omega)
              unfold RetOB at CL
              have CL := Lib.hid CL
              obtain ⟨z0, hz0⟩ : ∃ z0, wc.heap.size = z0 := ⟨_, rfl⟩
              have hlz : lm ≤ z0 := hz0 ▸ HT.out.top
              rw [hz0] at CL
              clear hvl hKe
              go_wp2_with fail
              refine PK.out.mono ?_
              rintro e w' ⟨rfl, rfl⟩
              go_wp2_with fail
              refine CL.out.mono ?_
              rintro e wd ⟨vd, rfl, hbd, hd⟩
              have DL := Lib.hid (lessO_any ps K z0 vd wd hbd hKl (by omega))
              have Hd := Lib.hid hd
              have Hge := Lib.hid hbd.ge
              obtain ⟨pd, cd, hfd⟩ := hbd.form
              subst hfd
              clear hbd hd k0 k1 k2 k3 k4 k5 k6
              go_wp2_with fail
              refine DL.out.mono ?_
              rintro e we ⟨ve, rfl, hro, hgr⟩
              have hwe : Below wc.heap.size wc we := by rw [hz0]; exact Hd.out.grown hgr (by have := Hd.out.size; omega) Hge.out
              obtain ⟨pe, ce, hfe⟩ := ownsRow_form hro
              obtain ⟨nE, hnE⟩ : ∃ nE, (ps.eraseIdx K).length = nE := ⟨_, rfl⟩
              rw [hnE] at hfe
              subst hfe
              have HT2 := Lib.hid (HT.out.later hwe)
              have HR5e := Lib.hid (HR5.out.later hwe)
              have HRO := Lib.hid hro
              obtain ⟨q0, q1, q2, q3, q4, q5, q6⟩ := HT2.out.k6.seven
              have f0 := HT2.out.k6.frozen 1
              clear hwe hro hgr hnE
              go_wp2_with fail
              go_meet
              exact ⟨_, K, (HT2.out.rot.set 1 _).rot.rot, HR5e.out.stored HT2.out.l6.2, .inl ⟨z0, hlz, owns_stored HRO.out (Nat.lt_of_lt_of_le HT2.out.l6.2 hlz)⟩⟩
          case rest =>
            obtain ⟨v6, x6, hT, hr5, hr6⟩ := hcut
            have HT := Lib.hid hT
            have HR5 := Lib.hid hr5
            have HR6 := Lib.hid hr6
            clear hT hr5 hr6
            go_step
            go_step
            go_cut [10] from 57 to 73 (fun v10 W => ∃ v7 x7, Tri w4 W lm b5 b6 b7 #[v5, .slice pp ps.length cp, .slice pu us.length cu, .string (S sn), .string (S ss), .int .i64 lim, .slice po own.length co] #[.slice pt ts.length ct, v6, .slice pu us.length cu, .string (S sn), .string (S ss), .int .i64 lim, .slice po own.length co] #[.slice pt ts.length ct, .slice pp ps.length cp, v7, .string (S sn), .string (S ss), .int .i64 lim, .slice po own.length co] ∧ RowB 9 1 lm W v5 (ts.eraseIdx x5).length (strVs (ts.eraseIdx x5)) ∧ RowB 50 2 lm W v6 (ps.eraseIdx x6).length (poVs (ps.eraseIdx x6)) ∧ RowB 26 2 lm W v7 (us.eraseIdx x7).length (usVs (us.eraseIdx x7)))
            case first =>
              obtain ⟨_, k0, k1, k2, k3, k4, k5, k6⟩ := KEEP.out _ HT.out.low
              by_cases h0 : us = []
              · subst h0
                go_wp2_with fail
                go_meet
                exact ⟨_, 0, HT.out, HR5.out, HR6.out, .inr ⟨rfl, _, _, rfl⟩⟩
              · have hpos : 0 < us.length := List.length_pos_iff.2 h0
                have hposI : (0 : Int) < (us.length : Int) := by omega
                obtain ⟨K, hKe⟩ : ∃ K, pickI a us.length = K := ⟨_, rfl⟩
                have hKl : K < us.length := hKe ▸ pickI_lt a us.length hpos
                have PK := pick_any a us.length wc hpos (by omega)
                rw [hKe] at PK
                have PK := Lib.hid PK
                have hvl := (HV.out.later (below_then Hb4.out HT.out.low)).us
                simp only at hvl
                have CL := cloneU_any us _ wc hvl (by omega)
                unfold RetUB at CL
                have CL := Lib.hid CL
                obtain ⟨z0, hz0⟩ : ∃ z0, wc.heap.size = z0 := ⟨_, rfl⟩
                have hlz : lm ≤ z0 := hz0 ▸ HT.out.top
                rw [hz0] at CL
                clear hvl hKe
                go_wp2_with fail
                refine PK.out.mono ?_
                rintro e w' ⟨rfl, rfl⟩
                go_wp2_with fail
                refine CL.out.mono ?_
                rintro e wd ⟨vd, rfl, hbd, hd⟩
                have DL := Lib.hid (lessU_any us K z0 vd wd hbd hKl (by omega))
                have Hd := Lib.hid hd
                have Hge := Lib.hid hbd.ge
                obtain ⟨pd, cd, hfd⟩ := hbd.form
                subst hfd
                clear hbd hd k0 k1 k2 k3 k4 k5 k6
                go_wp2_with fail
                refine DL.out.mono ?_
                rintro e we ⟨ve, rfl, hro, hgr⟩
                have hwe : Below wc.heap.size wc we := by rw [hz0]; exact Hd.out.grown hgr (by have := Hd.out.size; omega) Hge.out
                obtain ⟨pe, ce, hfe⟩ := ownsRow_form hro
                obtain ⟨nE, hnE⟩ : ∃ nE, (us.eraseIdx K).length = nE := ⟨_, rfl⟩
                rw [hnE] at hfe
                subst hfe
                have HT2 := Lib.hid (HT.out.later hwe)
                have HR5e := Lib.hid (HR5.out.later hwe)
                have HR6e := Lib.hid (HR6.out.later hwe)
                have HRO := Lib.hid hro
                obtain ⟨q0, q1, q2, q3, q4, q5, q6⟩ := HT2.out.k7.seven
                have f0 := HT2.out.k7.frozen 2
                clear hwe hro hgr hnE
                go_wp2_with fail
                go_meet
                exact ⟨_, K, (HT2.out.rot.rot.set 2 _).rot, HR5e.out.stored HT2.out.l7.2, HR6e.out.stored HT2.out.l7.2, .inl ⟨z0, hlz, owns_stored HRO.out (Nat.lt_of_lt_of_le HT2.out.l7.2 hlz)⟩⟩
            case rest =>
              obtain ⟨v7, x7, hT, hr5, hr6, hr7⟩ := hcut
              have HT := Lib.hid hT
              have hw0c := below_then Hb4.out hT.low
              have HW := Lib.hid hw0c
              have HR5 := Lib.hid hr5
              have HR6 := Lib.hid hr6
              have HR7 := Lib.hid hr7
              have P5 := fun W (h : Below wc.heap.size wc W) => H2.out W ⟨ts.eraseIdx x5, ps, us, sn, ss, lim, own⟩ v5 (.slice pp ps.length cp) (.slice pu us.length cu) (.slice po own.length co) (below_then hw0c h) ⟨(hr5.later h).strs, (HV.out.later (below_then hw0c h)).ps, (HV.out.later (below_then hw0c h)).us, (HV.out.later (below_then hw0c h)).own, fun p n k e => by obtain ⟨p', c', e', hle⟩ := hr5.form; rw [e'] at e; cases e; exact hle⟩ (Hf.out.lessT x5)
              have P6 := fun W (h : Below wc.heap.size wc W) => H2.out W ⟨ts, ps.eraseIdx x6, us, sn, ss, lim, own⟩ (.slice pt ts.length ct) v6 (.slice pu us.length cu) (.slice po own.length co) (below_then hw0c h) ⟨(HV.out.later (below_then hw0c h)).ts, (hr6.later h).pos, (HV.out.later (below_then hw0c h)).us, (HV.out.later (below_then hw0c h)).own, (HV.out).tc⟩ (Hf.out.lessP x6)
              have P7 := fun W (h : Below wc.heap.size wc W) => H2.out W ⟨ts, ps, us.eraseIdx x7, sn, ss, lim, own⟩ (.slice pt ts.length ct) (.slice pp ps.length cp) v7 (.slice po own.length co) (below_then hw0c h) ⟨(HV.out.later (below_then hw0c h)).ts, (HV.out.later (below_then hw0c h)).ps, (hr7.later h).uss, (HV.out.later (below_then hw0c h)).own, (HV.out).tc⟩ (Hf.out.lessU x7)
              have g5 : tgtR ⟨ts.eraseIdx x5, ps, us, sn, ss, lim, own⟩ = (0, (tgtR ⟨ts.eraseIdx x5, ps, us, sn, ss, lim, own⟩).2) := Prod.ext (tgtR_ok.2 (HOK.out.lessT x5)) rfl
              have g6 : tgtR ⟨ts, ps.eraseIdx x6, us, sn, ss, lim, own⟩ = (0, (tgtR ⟨ts, ps.eraseIdx x6, us, sn, ss, lim, own⟩).2) := Prod.ext (tgtR_ok.2 (HOK.out.lessP x6)) rfl
              have g7 : tgtR ⟨ts, ps, us.eraseIdx x7, sn, ss, lim, own⟩ = (0, (tgtR ⟨ts, ps, us.eraseIdx x7, sn, ss, lim, own⟩).2) := Prod.ext (tgtR_ok.2 (HOK.out.lessU x7)) rfl
              rw [g5] at P5
              rw [g6] at P6
              rw [g7] at P7
              unfold confV at P5 P6 P7
              simp only at P5 P6 P7
              have P5 := Lib.hid P5
              have P6 := Lib.hid P6
              have P7 := Lib.hid P7
              obtain ⟨a0, a1, a2, a3, a4, a5, a6⟩ := hT.k5.seven
              obtain ⟨c0, c1, c2, c3, c4, c5, c6⟩ := hT.k6.seven
              obtain ⟨d0, d1, d2, d3, d4, d5, d6⟩ := hT.k7.seven
              clear hT hw0c hr5 hr6 hr7 g5 g6 g7 HR5 HR6 HR7
              go_step
              go_step
              go_wp2_with fail
              refine (P5.out _ (Below.refl _ _)).mono ?_
              rintro e w5 ⟨ev5, rfl, he5, hb5⟩
              simp only at he5
              obtain rfl := he5.zero
              have Hb5 := Lib.hid hb5
              clear a0 a1 a2 a3 a4 a5 a6 c0 c1 c2 c3 c4 c5 c6 d0 d1 d2 d3 d4 d5 d6 he5 hb5
              obtain ⟨c0, c1, c2, c3, c4, c5, c6⟩ := (HT.out.later Hb5.out).k6.seven
              obtain ⟨d0, d1, d2, d3, d4, d5, d6⟩ := (HT.out.later Hb5.out).k7.seven
              go_wp2_with fail
              refine (P6.out _ Hb5.out).mono ?_
              rintro e w6 ⟨ev6, rfl, he6, hb6⟩
              simp only at he6
              obtain rfl := he6.zero
              have Hb6 := Lib.hid (below_then Hb5.out hb6)
              clear c0 c1 c2 c3 c4 c5 c6 d0 d1 d2 d3 d4 d5 d6 he6 hb6
              obtain ⟨d0, d1, d2, d3, d4, d5, d6⟩ := (HT.out.later Hb6.out).k7.seven
              go_wp2_with fail
              refine (P7.out _ Hb6.out).mono ?_
              rintro e w7 ⟨ev7, rfl, he7, hb7⟩
              simp only at he7
              obtain rfl := he7.zero
              have Hend := Lib.hid (below_then HA.out (below_then HW.out (below_then Hb6.out hb7)))
              clear he7 hb7 d0 d1 d2 d3 d4 d5 d6
              go_wp2_with fail
              go_ret
              exact ⟨rfl, Hend.out⟩
    · obtain ⟨tt, xx, rfl⟩ := he.iface hr
      go_wp2_with fail
      go_ret
      exact ⟨rfl, below_then HA.out Hb4.out⟩
end Go.Proofs.YtlcadichpcdgpaaGreatDoor
