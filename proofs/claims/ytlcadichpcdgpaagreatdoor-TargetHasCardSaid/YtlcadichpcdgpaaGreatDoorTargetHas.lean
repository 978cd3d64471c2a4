/- TargetHas: a target more, of a new name, is there, and all others are as they were. -/
import Derived.Test.YtlcadichpcdgpaaGreatDoorTgtC
import Derived.Test.YtlcadichpcdgpaaGreatDoorGP
import Derived.Test.YtlcadichpcdgpaaGreatDoorGQ
import Derived.Test.YtlcadichpcdgpaaGreatDoorGB
import Derived.Deep.RegionHeld3
namespace Go.Proofs.YtlcadichpcdgpaaGreatDoor
open Go Go.RowKit
set_option linter.unusedVariables false
theorem keep77 {Wb W W1 : World} {b d : Nat} {u0 v0 v1 v2 v3 v4 v5 v6 : Value} (h : Below Wb.heap.size Wb W ∧ W.cell? ⟨b, 0, none⟩ = some v0 ∧ W.cell? ⟨b, 1, none⟩ = some v1 ∧ W.cell? ⟨b, 2, none⟩ = some v2 ∧ W.cell? ⟨b, 3, none⟩ = some v3 ∧ W.cell? ⟨b, 4, none⟩ = some v4 ∧ W.cell? ⟨b, 5, none⟩ = some v5 ∧ W.cell? ⟨b, 6, none⟩ = some v6 ∧ W.cell? ⟨d, 0, none⟩ = some u0 ∧ W.cell? ⟨d, 1, none⟩ = some v1 ∧ W.cell? ⟨d, 2, none⟩ = some v2 ∧ W.cell? ⟨d, 3, none⟩ = some v3 ∧ W.cell? ⟨d, 4, none⟩ = some v4 ∧ W.cell? ⟨d, 5, none⟩ = some v5 ∧ W.cell? ⟨d, 6, none⟩ = some v6) (hb : Below W.heap.size W W1) :
    Below Wb.heap.size Wb W1 ∧ W1.cell? ⟨b, 0, none⟩ = some v0 ∧ W1.cell? ⟨b, 1, none⟩ = some v1 ∧ W1.cell? ⟨b, 2, none⟩ = some v2 ∧ W1.cell? ⟨b, 3, none⟩ = some v3 ∧ W1.cell? ⟨b, 4, none⟩ = some v4 ∧ W1.cell? ⟨b, 5, none⟩ = some v5 ∧ W1.cell? ⟨b, 6, none⟩ = some v6 ∧ W1.cell? ⟨d, 0, none⟩ = some u0 ∧ W1.cell? ⟨d, 1, none⟩ = some v1 ∧ W1.cell? ⟨d, 2, none⟩ = some v2 ∧ W1.cell? ⟨d, 3, none⟩ = some v3 ∧ W1.cell? ⟨d, 4, none⟩ = some v4 ∧ W1.cell? ⟨d, 5, none⟩ = some v5 ∧ W1.cell? ⟨d, 6, none⟩ = some v6 := by
  obtain ⟨h, h0, h1, h2, h3, h4, h5, h6, g0, g1, g2, g3, g4, g5, g6⟩ := h
  have k : ∀ {b o : Nat} {v : Value}, W.cell? ⟨b, o, none⟩ = some v → W1.cell? ⟨b, o, none⟩ = some v := fun {b o v} hc => ((bcell hb).1 b o (block_lt_of_cell (w := W) (a := ⟨b, o, none⟩) hc)).trans hc
  exact ⟨below_then h hb, k h0, k h1, k h2, k h3, k h4, k h5, k h6, k g0, k g1, k g2, k g3, k g4, k g5, k g6⟩
theorem StBuf.stored {base : Nat} {W : World} {v x : Value} {l : List (List UInt8)} {b i : Nat} (h : StBuf base W v l) (hb : b < base) : StBuf base (W.setCell ⟨b, i, none⟩ x) v l := by
  refine World.ownsRow.kept (row := some b) h ⟨rfl, rfl, rfl, by simp [World.setCell], fun k hk hne => setCell_heap_other (fun e => hne (by rw [e])) x⟩ ?_
  cases hv : v.ownBlock with
  | none => exact .inl rfl
  | some k => exact .inr (fun e => by
      have h1 := (World.ownsRow.lt h k hv).1
      have h2 : k = b := by simpa using e
      omega)
set_option maxRecDepth 100000 in
set_option maxHeartbeats 8000000 in
theorem targetHas_any (c : Cf) (vt vp vu vo : Value) (n o : List UInt8) (w : World) (hv : ConfAt w c vt vp vu vo) (hf : FitCf c) (hn : n.length ≤ 140737488351232) (ho : o.length ≤ 140737488351232) (h1 : TgtHasOk w) (h2 : TgtRightOk w) (h3 : TgtListOk w) :
    Calls Tryz.prog 6 #[confV c vt vp vu vo, .string (S n), .string (S o)] w fun e w' => e = .returned (.bool true) ∧ Below w.heap.size w w' := by
  obtain ⟨ts, ps, us, sn, ss, lim, own⟩ := c
  obtain ⟨pt, ct, et, -⟩ := hv.ts
  obtain ⟨pp, cp, ep⟩ := hv.ps.form
  obtain ⟨pu, cu, eu, -⟩ := hv.us
  obtain ⟨po, co, eo, -⟩ := hv.own
  simp only at et ep eu eo
  subst et ep eu eo
  have hA := (Below.refl w.heap.size w).alloc (Nat.le_refl _) (.cells #[(.slice pt ts.length ct), (.slice pp ps.length cp), (.slice pu us.length cu), .string (S sn), .string (S ss), .int .i64 lim, (.slice po own.length co)] 29)
  have hK := Blk.new w #[(.slice pt ts.length ct), (.slice pp ps.length cp), (.slice pu us.length cu), .string (S sn), .string (S ss), .int .i64 lim, (.slice po own.length co)] 29
  obtain ⟨w0, hw0⟩ : ∃ w0, w.alloc (.cells #[(.slice pt ts.length ct), (.slice pp ps.length cp), (.slice pu us.length cu), .string (S sn), .string (S ss), .int .i64 lim, (.slice po own.length co)] 29) = w0 := ⟨_, rfl⟩
  rw [hw0] at hA hK
  have g1 : TgtHasOk w0 := fun W c vt vp vu vo name h => h1 W c vt vp vu vo name (below_then hA h)
  have g2 : TgtRightOk w0 := fun W c vt vp vu vo h => h2 W c vt vp vu vo (below_then hA h)
  have g3 : TgtListOk w0 := fun W c vt vp vu vo name all h => h3 W c vt vp vu vo name all (below_then hA h)
  have F := Lib.hid (listed_fact w0 g1 g2 g3)
  have HV := Lib.hid (hv.later hA)
  have Hf := Lib.hid hf
  have HK := Lib.hid hK
  have HA := Lib.hid hA
  have H1 := Lib.hid g1
  clear hA hK hv hf h1 h2 h3 g1 g2 g3
  unfold confV
  simp only
  go_enter Tryz.func6, Tryz.ntmps6
  go_wp2_with fail
  refine F.out.mono ?_
  rintro e w1 ⟨rfl, hb1⟩
  have CR := Lib.hid (crowdedK_any ⟨ts, ps, us, sn, ss, lim, own⟩ (.slice pt ts.length ct) (.slice pp ps.length cp) (.slice pu us.length cu) (.slice po own.length co) w1 (HV.out.later hb1) Hf.out)
  have Hb1 := Lib.hid hb1
  obtain ⟨k0, k1, k2, k3, k4, k5, k6⟩ := (HK.out.later hb1).seven
  clear hb1 F
  go_wp2_with fail
  refine CR.out.mono ?_
  rintro e w2 ⟨b, rfl, _, hb2⟩
  have Hb2 := Lib.hid (below_then Hb1.out hb2)
  clear hb2 k0 k1 k2 k3 k4 k5 k6 CR Hb1
  cases b with
  | true =>
    go_wp2_with fail
    go_ret
    exact ⟨rfl, below_then HA.out Hb2.out⟩
  | false =>
    by_cases hl : (300 : Int) < (n.length : Int) + (o.length : Int)
    · go_wp2_with fail
      go_ret
      exact ⟨rfl, below_then HA.out Hb2.out⟩
    · have hK2 := HK.out.later Hb2.out
      obtain ⟨k0, k1, k2, k3, k4, k5, k6⟩ := hK2.seven
      have htb := Hf.out.tb
      simp only at htb
      have hbz := (Below.refl w2.heap.size w2).alloc (Nat.le_refl _) (.cells #[.slice none 0 0, .slice none 0 0, .slice none 0 0, .string (S []), .string (S []), .int .i64 0, .slice none 0 0] 29)
      have hZ := Blk.new w2 #[.slice none 0 0, .slice none 0 0, .slice none 0 0, .string (S []), .string (S []), .int .i64 0, .slice none 0 0] 29
      have hKz := hK2.alloc (.cells #[.slice none 0 0, .slice none 0 0, .slice none 0 0, .string (S []), .string (S []), .int .i64 0, .slice none 0 0] 29)
      obtain ⟨wz, hwz⟩ : ∃ wz, w2.alloc (.cells #[.slice none 0 0, .slice none 0 0, .slice none 0 0, .string (S []), .string (S []), .int .i64 0, .slice none 0 0] 29) = wz := ⟨_, rfl⟩
      rw [hwz] at hbz hZ hKz
      obtain ⟨z0, z1, z2, z3, z4, z5, z6⟩ := hZ.seven
      obtain ⟨kz0, kz1, kz2, kz3, kz4, kz5, kz6⟩ := hKz.seven
      have fz0 := hZ.frozen 0
      have fz1 := hZ.frozen 1
      have fz2 := hZ.frozen 2
      have fz3 := hZ.frozen 3
      have fz4 := hZ.frozen 4
      have fz5 := hZ.frozen 5
      have fz6 := hZ.frozen 6
      have hne0 : w.heap.size ≠ w2.heap.size := by
        have h1 := hK2.lt
        omega
      have hal3 : Below w2.heap.size w2 (((((((wz.setCell ⟨w2.heap.size, 0, none⟩ (.slice pt ts.length ct)).setCell ⟨w2.heap.size, 1, none⟩ (.slice pp ps.length cp)).setCell ⟨w2.heap.size, 2, none⟩ (.slice pu us.length cu)).setCell ⟨w2.heap.size, 3, none⟩ (.string (S sn))).setCell ⟨w2.heap.size, 4, none⟩ (.string (S ss))).setCell ⟨w2.heap.size, 5, none⟩ (.int .i64 lim)).setCell ⟨w2.heap.size, 6, none⟩ (.slice po own.length co)) := ((((((hbz.setCell (p := ⟨w2.heap.size, 0, none⟩) (Nat.le_refl _) _).setCell (p := ⟨w2.heap.size, 1, none⟩) (Nat.le_refl _) _).setCell (p := ⟨w2.heap.size, 2, none⟩) (Nat.le_refl _) _).setCell (p := ⟨w2.heap.size, 3, none⟩) (Nat.le_refl _) _).setCell (p := ⟨w2.heap.size, 4, none⟩) (Nat.le_refl _) _).setCell (p := ⟨w2.heap.size, 5, none⟩) (Nat.le_refl _) _).setCell (p := ⟨w2.heap.size, 6, none⟩) (Nat.le_refl _) _
      have hD3 : Blk (((((((wz.setCell ⟨w2.heap.size, 0, none⟩ (.slice pt ts.length ct)).setCell ⟨w2.heap.size, 1, none⟩ (.slice pp ps.length cp)).setCell ⟨w2.heap.size, 2, none⟩ (.slice pu us.length cu)).setCell ⟨w2.heap.size, 3, none⟩ (.string (S sn))).setCell ⟨w2.heap.size, 4, none⟩ (.string (S ss))).setCell ⟨w2.heap.size, 5, none⟩ (.int .i64 lim)).setCell ⟨w2.heap.size, 6, none⟩ (.slice po own.length co)) w2.heap.size #[(.slice pt ts.length ct), (.slice pp ps.length cp), (.slice pu us.length cu), .string (S sn), .string (S ss), .int .i64 lim, (.slice po own.length co)] 29 := (((((((hZ.set 0 (.slice pt ts.length ct)).set 1 (.slice pp ps.length cp)).set 2 (.slice pu us.length cu)).set 3 (.string (S sn))).set 4 (.string (S ss))).set 5 (.int .i64 lim)).set 6 (.slice po own.length co))
      have hK3 : Blk (((((((wz.setCell ⟨w2.heap.size, 0, none⟩ (.slice pt ts.length ct)).setCell ⟨w2.heap.size, 1, none⟩ (.slice pp ps.length cp)).setCell ⟨w2.heap.size, 2, none⟩ (.slice pu us.length cu)).setCell ⟨w2.heap.size, 3, none⟩ (.string (S sn))).setCell ⟨w2.heap.size, 4, none⟩ (.string (S ss))).setCell ⟨w2.heap.size, 5, none⟩ (.int .i64 lim)).setCell ⟨w2.heap.size, 6, none⟩ (.slice po own.length co)) w.heap.size #[(.slice pt ts.length ct), (.slice pp ps.length cp), (.slice pu us.length cu), .string (S sn), .string (S ss), .int .i64 lim, (.slice po own.length co)] 29 := (((((((hKz.other (i := 0) hne0 (.slice pt ts.length ct)).other (i := 1) hne0 (.slice pp ps.length cp)).other (i := 2) hne0 (.slice pu us.length cu)).other (i := 3) hne0 (.string (S sn))).other (i := 4) hne0 (.string (S ss))).other (i := 5) hne0 (.int .i64 lim)).other (i := 6) hne0 (.slice po own.length co))
      obtain ⟨w3, hw3⟩ : ∃ w3, (((((((wz.setCell ⟨w2.heap.size, 0, none⟩ (.slice pt ts.length ct)).setCell ⟨w2.heap.size, 1, none⟩ (.slice pp ps.length cp)).setCell ⟨w2.heap.size, 2, none⟩ (.slice pu us.length cu)).setCell ⟨w2.heap.size, 3, none⟩ (.string (S sn))).setCell ⟨w2.heap.size, 4, none⟩ (.string (S ss))).setCell ⟨w2.heap.size, 5, none⟩ (.int .i64 lim)).setCell ⟨w2.heap.size, 6, none⟩ (.slice po own.length co)) = w3 := ⟨_, rfl⟩
      rw [hw3] at hal3 hD3 hK3
      have hsz : w2.heap.size < w3.heap.size := hD3.lt
      have hne := hne0
      have hb03 := below_then Hb2.out hal3
      obtain ⟨k0', k1', k2', k3', k4', k5', k6'⟩ := hK3.seven
      have CL := Lib.hid (cloneS_any ts (.slice pt ts.length ct) w3 (HV.out.later hb03).ts htb)
      have HD3 := Lib.hid hD3
      have HK3 := Lib.hid hK3
      have Hb03 := Lib.hid hb03
      have Hsz := Lib.hid hsz
      have Hne := Lib.hid hne
      have Hw2 := Lib.hid Hb2.out.size
      clear hal3 hD3 hK3 hb03 hK2 hsz hne hne0 hbz hZ hKz
      go_wp2_with fail
      clear k0 k1 k2 k3 k4 k5 k6 k0' k1' k2' k3' k4' k5' k6' z0 z1 z2 z3 z4 z5 z6 kz0 kz1 kz2 kz3 kz4 kz5 kz6 fz0 fz1 fz2 fz3 fz4 fz5 fz6
      refine CL.out.mono ?_
      rintro e w4 ⟨v4, rfl, hbuf4, hb4⟩
      have hD4 := HD3.out.later hb4
      have hK4 := HK3.out.later hb4
      have hal5 := hb4.alloc hb4.size (.cells #[.string (S n)] 9)
      have hD5 := hD4.alloc (.cells #[.string (S n)] 9)
      have hK5 := hK4.alloc (.cells #[.string (S n)] 9)
      obtain ⟨v6, w6, hrun, hbuf6, hgrow⟩ := run_append_text (s := n) (a := ⟨w4.heap.size, 0, none⟩) (hbuf4.alloc (.cells #[.string (S n)] 9)) (fun j u h => by
        have hbk := (Blk.new w4 #[.string (S n)] 9).cell j
        have e1 : (⟨w4.heap.size, 0, none⟩ : Addr).add j = ⟨w4.heap.size, j, none⟩ := by simp only [Addr.add]; split <;> simp_all
        rw [e1, hbk]; simpa using h) (by omega) hal5.size
      have hge := hbuf4.ge
      have hb36 : Below w3.heap.size w3 w6 := hal5.grown hgrow hal5.size hge
      have hD6 : Blk w6 w2.heap.size #[(.slice pt ts.length ct), (.slice pp ps.length cp), (.slice pu us.length cu), .string (S sn), .string (S ss), .int .i64 lim, (.slice po own.length co)] 29 := HD3.out.later hb36
      have hK6 : Blk w6 w.heap.size #[(.slice pt ts.length ct), (.slice pp ps.length cp), (.slice pu us.length cu), .string (S sn), .string (S ss), .int .i64 lim, (.slice po own.length co)] 29 := HK3.out.later hb36
      have hD7 := hD6.set 0 v6
      have hK7 := hK6.other (i := 0) Hne.out v6
      have hst7 := (hbuf6.stored (i := 0) (x := v6) Hsz.out).strs
      have hb07 : Below w0.heap.size w0 (w6.setCell ⟨w2.heap.size, 0, none⟩ v6) := (below_then Hb03.out hb36).setCell (p := ⟨w2.heap.size, 0, none⟩) Hw2.out _
      obtain ⟨p6, c6, rfl⟩ := hbuf6.form
      obtain ⟨l6, hl6⟩ : ∃ k, k = (ts ++ [n]).length := ⟨_, rfl⟩
      rw [← hl6] at hrun hD7 hK7 hst7 hb07
      have f0 := hD6.frozen 0
      have q0 : w6.cell? ⟨w2.heap.size, 0, none⟩ = some (.slice pt ts.length ct) := hD6.cell 0
      obtain ⟨p4, c4, rfl⟩ := hbuf4.form
      have HRun := Lib.hid hrun
      have HD7 := Lib.hid hD7
      have HK7 := Lib.hid hK7
      have HS7 := Lib.hid hst7
      have HB07 := Lib.hid hb07
      obtain ⟨d0, d1, d2, d3, d4, d5, d6⟩ := (HD3.out.later (hb4)).seven
      obtain ⟨k0, k1, k2, k3, k4, k5, k6⟩ := (HK3.out.later (hb4)).seven
      clear hD4 hK4 hal5 hD5 hK5 hrun hbuf6 hgrow hge hb36 hD6 hK6 hD7 hK7 hst7 hb07 hbuf4 hl6
      go_wp2_with (at_builtin; refine wpList_append_ran _ (by rfl) _ _ _ _ rfl _ _ rfl rfl _ _ HRun.out ?_)
      clear q0 f0 d0 d1 d2 d3 d4 d5 d6 k0 k1 k2 k3 k4 k5 k6 hw0 hw3 hwz HRun
      generalize w6.setCell ⟨w2.heap.size, 0, none⟩ (.slice p6 l6 c6) = w7 at *
      have hD8 : Blk w7 w2.heap.size #[.slice p6 l6 c6, .slice pp ps.length cp, .slice pu us.length cu, .string (S sn), .string (S ss), .int .i64 lim, .slice po own.length co] 29 := HD7.out
      obtain ⟨d0, d1, d2, d3, d4, d5, d6⟩ := hD8.seven
      obtain ⟨k0, k1, k2, k3, k4, k5, k6⟩ := HK7.out.seven
      have Q1 := fun W (h : Below w7.heap.size w7 W) => H1.out W ⟨ts ++ [n], ps, us, sn, ss, lim, own⟩ (.slice p6 l6 c6) (.slice pp ps.length cp) (.slice pu us.length cu) (.slice po own.length co) n (below_then HB07.out h) (HS7.out.later h) (by simp only [List.length_append, List.length_singleton]; omega)
      have Q2 := fun W (h : Below w7.heap.size w7 W) => H1.out W ⟨ts ++ [n], ps, us, sn, ss, lim, own⟩ (.slice p6 l6 c6) (.slice pp ps.length cp) (.slice pu us.length cu) (.slice po own.length co) o (below_then HB07.out h) (HS7.out.later h) (by simp only [List.length_append, List.length_singleton]; omega)
      have Q3 := fun W (h : Below w7.heap.size w7 W) => H1.out W ⟨ts, ps, us, sn, ss, lim, own⟩ (.slice pt ts.length ct) (.slice pp ps.length cp) (.slice pu us.length cu) (.slice po own.length co) o (below_then HB07.out h) (HV.out.later (below_then HB07.out h)).ts (by simp only; omega)
      have e1 : hasT (ts ++ [n]) n = true := by rw [hasT_app, hasT_one]; simp
      unfold confV at Q1 Q2 Q3
      simp only at Q1 Q2 Q3
      rw [e1] at Q1
      have HwE := Lib.hid (below_then HA.out HB07.out)
      have q1 := Lib.hid Q1
      have q2 := Lib.hid Q2
      have q3 := Lib.hid Q3
      have KEEP := Lib.hid (fun W (h : Below w7.heap.size w7 W) => keep77 (Wb := w7) ⟨Below.refl _ _, k0, k1, k2, k3, k4, k5, k6, d0, d1, d2, d3, d4, d5, d6⟩ h)
      clear Q1 Q2 Q3 e1 hD8 HD7 HK7 HS7 HB07 HV HK HA H1 Hb2 Hf CL HD3 HK3 Hb03 Hsz Hne Hw2 hb4 k0 k1 k2 k3 k4 k5 k6 d0 d1 d2 d3 d4 d5 d6
      by_cases hon : o = n
      · subst hon
        refine wp_region_held (S := (fun w' => Below w7.heap.size w7 w' ∧ w'.cell? ⟨w.heap.size, 0, none⟩ = some (.slice pt ts.length ct) ∧ w'.cell? ⟨w.heap.size, 1, none⟩ = some (.slice pp ps.length cp) ∧ w'.cell? ⟨w.heap.size, 2, none⟩ = some (.slice pu us.length cu) ∧ w'.cell? ⟨w.heap.size, 3, none⟩ = some (.string (S sn)) ∧ w'.cell? ⟨w.heap.size, 4, none⟩ = some (.string (S ss)) ∧ w'.cell? ⟨w.heap.size, 5, none⟩ = some (.int .i64 lim) ∧ w'.cell? ⟨w.heap.size, 6, none⟩ = some (.slice po own.length co) ∧ w'.cell? ⟨w2.heap.size, 0, none⟩ = some (.slice p6 l6 c6) ∧ w'.cell? ⟨w2.heap.size, 1, none⟩ = some (.slice pp ps.length cp) ∧ w'.cell? ⟨w2.heap.size, 2, none⟩ = some (.slice pu us.length cu) ∧ w'.cell? ⟨w2.heap.size, 3, none⟩ = some (.string (S sn)) ∧ w'.cell? ⟨w2.heap.size, 4, none⟩ = some (.string (S ss)) ∧ w'.cell? ⟨w2.heap.size, 5, none⟩ = some (.int .i64 lim) ∧ w'.cell? ⟨w2.heap.size, 6, none⟩ = some (.slice po own.length co))) (by kernel_rfl) ?_
        have e9 : Below w7.heap.size w7 { w7 with drawn := w7.drawn + 1 } := (Below.refl _ _).drew
        generalize ({ w7 with drawn := w7.drawn + 1 } : World) = wx at e9 ⊢
        have hS0 := KEEP.out _ e9
        refine takeN (.agg #[.slice p6 l6 c6, .slice pp ps.length cp, .slice pu us.length cu, .string (S sn), .string (S ss), .int .i64 lim, .slice po own.length co]) (some 28) (i := 0) rfl rfl (by kernel_rfl) (by kernel_rfl) (by kernel_rfl) (fun _ _ _ h => h) (Or.inl ⟨by rfl, fun w' hw' => ?_⟩) hS0 ?_
        · obtain ⟨_, k0, k1, k2, k3, k4, k5, k6, d0, d1, d2, d3, d4, d5, d6⟩ := hw'
          go_simp
        simp only [Act.put, List.setIfInBounds_toArray, List.set_cons_succ, List.set_cons_zero]
        refine takeN (.string (S o)) (some 29) (i := 1) rfl rfl (by kernel_rfl) (by kernel_rfl) (by kernel_rfl) (fun _ _ _ h => h) (Or.inl ⟨by rfl, fun w' hw' => ?_⟩) hS0 ?_
        · obtain ⟨_, k0, k1, k2, k3, k4, k5, k6, d0, d1, d2, d3, d4, d5, d6⟩ := hw'
          go_simp
        simp only [Act.put, List.setIfInBounds_toArray, List.set_cons_succ, List.set_cons_zero]
        refine wpAnyH_all (rs := [2]) (by kernel_rfl) (by simp) (fun i hi => ?_)
        obtain rfl : i = 2 := by simpa using hi
        refine wantN (i := 2) rfl (by rfl) (callN (f := 12) (some 30) rfl Tryz.func12 (by kernel_rfl) (by kernel_rfl) rfl rfl ?_)
        simp only [List.map_toArray, List.map_cons, List.map_nil]
        refine (q1.out _ e9).mono ?_
        rintro e wc1 ⟨rfl, hbc1⟩
        have hw1 := below_then e9 hbc1
        have hS1 := KEEP.out _ hw1
        refine ⟨_, rfl, hS1, ?_⟩
        try dsimp only
        simp only [Act.put, List.setIfInBounds_toArray, List.set_cons_succ, List.set_cons_zero]
        refine takeN (.bool true) (some 31) (i := 3) rfl rfl (by kernel_rfl) (by kernel_rfl) (by kernel_rfl) (fun _ _ _ h => h) (Or.inl ⟨by rfl, fun w' hw' => ?_⟩) hS1 ?_
        · obtain ⟨_, k0, k1, k2, k3, k4, k5, k6, d0, d1, d2, d3, d4, d5, d6⟩ := hw'
          go_simp
        simp only [Act.put, List.setIfInBounds_toArray, List.set_cons_succ, List.set_cons_zero]
        refine takeN (.string (S o)) (some 32) (i := 4) rfl rfl (by kernel_rfl) (by kernel_rfl) (by kernel_rfl) (fun _ _ _ h => h) (Or.inl ⟨by rfl, fun w' hw' => ?_⟩) hS1 ?_
        · obtain ⟨_, k0, k1, k2, k3, k4, k5, k6, d0, d1, d2, d3, d4, d5, d6⟩ := hw'
          go_simp
        simp only [Act.put, List.setIfInBounds_toArray, List.set_cons_succ, List.set_cons_zero]
        refine takeN (.string (S o)) (some 33) (i := 5) rfl rfl (by kernel_rfl) (by kernel_rfl) (by kernel_rfl) (fun _ _ _ h => h) (Or.inl ⟨by rfl, fun w' hw' => ?_⟩) hS1 ?_
        · obtain ⟨_, k0, k1, k2, k3, k4, k5, k6, d0, d1, d2, d3, d4, d5, d6⟩ := hw'
          go_simp
        simp only [Act.put, List.setIfInBounds_toArray, List.set_cons_succ, List.set_cons_zero]
        refine takeN (.bool true) (some 34) (i := 6) rfl rfl (by kernel_rfl) (by kernel_rfl) (by kernel_rfl) (fun _ _ _ h => h) (Or.inl ⟨by rfl, fun w' hw' => ?_⟩) hS1 ?_
        · obtain ⟨_, k0, k1, k2, k3, k4, k5, k6, d0, d1, d2, d3, d4, d5, d6⟩ := hw'
          go_simp
        simp only [Act.put, List.setIfInBounds_toArray, List.set_cons_succ, List.set_cons_zero]
        refine takeN (.bool true) (some 35) (i := 7) rfl rfl (by kernel_rfl) (by kernel_rfl) (by kernel_rfl) (fun _ _ _ h => h) (Or.inl ⟨by rfl, fun w' hw' => ?_⟩) hS1 ?_
        · obtain ⟨_, k0, k1, k2, k3, k4, k5, k6, d0, d1, d2, d3, d4, d5, d6⟩ := hw'
          go_simp
        simp only [Act.put, List.setIfInBounds_toArray, List.set_cons_succ, List.set_cons_zero]
        refine takeN undef (some 36) (i := 8) rfl rfl (by kernel_rfl) (by kernel_rfl) (by kernel_rfl) (fun _ _ _ h => h) (Or.inr ⟨by rfl, rfl⟩) hS1 ?_
        simp only [Act.put, List.setIfInBounds_toArray, List.set_cons_succ, List.set_cons_zero]
        refine takeN undef (some 37) (i := 9) rfl rfl (by kernel_rfl) (by kernel_rfl) (by kernel_rfl) (fun _ _ _ h => h) (Or.inr ⟨by rfl, rfl⟩) hS1 ?_
        simp only [Act.put, List.setIfInBounds_toArray, List.set_cons_succ, List.set_cons_zero]
        refine takeN undef (some 38) (i := 10) rfl rfl (by kernel_rfl) (by kernel_rfl) (by kernel_rfl) (fun _ _ _ h => h) (Or.inr ⟨by rfl, rfl⟩) hS1 ?_
        simp only [Act.put, List.setIfInBounds_toArray, List.set_cons_succ, List.set_cons_zero]
        refine takeN undef (some 39) (i := 11) rfl rfl (by kernel_rfl) (by kernel_rfl) (by kernel_rfl) (fun _ _ _ h => h) (Or.inr ⟨by rfl, rfl⟩) hS1 ?_
        simp only [Act.put, List.setIfInBounds_toArray, List.set_cons_succ, List.set_cons_zero]
        refine takeN undef (some 40) (i := 12) rfl rfl (by kernel_rfl) (by kernel_rfl) (by kernel_rfl) (fun _ _ _ h => h) (Or.inr ⟨by rfl, rfl⟩) hS1 ?_
        simp only [Act.put, List.setIfInBounds_toArray, List.set_cons_succ, List.set_cons_zero]
        refine takeN undef (some 41) (i := 13) rfl rfl (by kernel_rfl) (by kernel_rfl) (by kernel_rfl) (fun _ _ _ h => h) (Or.inr ⟨by rfl, rfl⟩) hS1 ?_
        simp only [Act.put, List.setIfInBounds_toArray, List.set_cons_succ, List.set_cons_zero]
        refine takeN undef (some 42) (i := 14) rfl rfl (by kernel_rfl) (by kernel_rfl) (by kernel_rfl) (fun _ _ _ h => h) (Or.inr ⟨by rfl, rfl⟩) hS1 ?_
        simp only [Act.put, List.setIfInBounds_toArray, List.set_cons_succ, List.set_cons_zero]
        refine takeN (.bool true) (some 43) (i := 15) rfl rfl (by kernel_rfl) (by kernel_rfl) (by kernel_rfl) (fun _ _ _ h => h) (Or.inl ⟨by rfl, fun w' hw' => ?_⟩) hS1 ?_
        · obtain ⟨_, k0, k1, k2, k3, k4, k5, k6, d0, d1, d2, d3, d4, d5, d6⟩ := hw'
          go_simp
        simp only [Act.put, List.setIfInBounds_toArray, List.set_cons_succ, List.set_cons_zero]
        refine takeN (.bool true) (some 44) (i := 16) rfl rfl (by kernel_rfl) (by kernel_rfl) (by kernel_rfl) (fun _ _ _ h => h) (Or.inl ⟨by rfl, fun w' hw' => ?_⟩) hS1 ?_
        · obtain ⟨_, k0, k1, k2, k3, k4, k5, k6, d0, d1, d2, d3, d4, d5, d6⟩ := hw'
          go_simp
        simp only [Act.put, List.setIfInBounds_toArray, List.set_cons_succ, List.set_cons_zero]
        refine takeN (.bool true) (some 6) (i := 17) rfl rfl (by kernel_rfl) (by kernel_rfl) (by kernel_rfl) (fun _ _ _ h => h) (Or.inl ⟨by rfl, fun w' hw' => ?_⟩) hS1 ?_
        · obtain ⟨_, k0, k1, k2, k3, k4, k5, k6, d0, d1, d2, d3, d4, d5, d6⟩ := hw'
          go_simp
        simp only [Act.put, List.setIfInBounds_toArray, List.set_cons_succ, List.set_cons_zero]
        refine wpAnyH_done (by kernel_rfl) ?_ _
        have Hend := Lib.hid (below_then HwE.out hw1)
        clear KEEP
        go_wp2_with fail
        go_ret
        exact ⟨rfl, Hend.out⟩
      · have hS : ¬ S o = S n := fun h => hon (S_inj h)
        have e2 : hasT (ts ++ [n]) o = hasT ts o := by
          rw [hasT_app, hasT_one]
          have : (n == o) = false := by simp; exact fun h => hon h.symm
          rw [this, Bool.or_false]
        generalize hx : hasT ts o = x at q3 e2
        simp only [e2] at q2
        clear hx e2
        have hbb : (x == x) = true := by simp
        refine wp_region_held (S := (fun w' => Below w7.heap.size w7 w' ∧ w'.cell? ⟨w.heap.size, 0, none⟩ = some (.slice pt ts.length ct) ∧ w'.cell? ⟨w.heap.size, 1, none⟩ = some (.slice pp ps.length cp) ∧ w'.cell? ⟨w.heap.size, 2, none⟩ = some (.slice pu us.length cu) ∧ w'.cell? ⟨w.heap.size, 3, none⟩ = some (.string (S sn)) ∧ w'.cell? ⟨w.heap.size, 4, none⟩ = some (.string (S ss)) ∧ w'.cell? ⟨w.heap.size, 5, none⟩ = some (.int .i64 lim) ∧ w'.cell? ⟨w.heap.size, 6, none⟩ = some (.slice po own.length co) ∧ w'.cell? ⟨w2.heap.size, 0, none⟩ = some (.slice p6 l6 c6) ∧ w'.cell? ⟨w2.heap.size, 1, none⟩ = some (.slice pp ps.length cp) ∧ w'.cell? ⟨w2.heap.size, 2, none⟩ = some (.slice pu us.length cu) ∧ w'.cell? ⟨w2.heap.size, 3, none⟩ = some (.string (S sn)) ∧ w'.cell? ⟨w2.heap.size, 4, none⟩ = some (.string (S ss)) ∧ w'.cell? ⟨w2.heap.size, 5, none⟩ = some (.int .i64 lim) ∧ w'.cell? ⟨w2.heap.size, 6, none⟩ = some (.slice po own.length co))) (by kernel_rfl) ?_
        have e9 : Below w7.heap.size w7 { w7 with drawn := w7.drawn + 1 } := (Below.refl _ _).drew
        generalize ({ w7 with drawn := w7.drawn + 1 } : World) = wx at e9 ⊢
        have hS0 := KEEP.out _ e9
        refine takeN (.agg #[.slice p6 l6 c6, .slice pp ps.length cp, .slice pu us.length cu, .string (S sn), .string (S ss), .int .i64 lim, .slice po own.length co]) (some 28) (i := 0) rfl rfl (by kernel_rfl) (by kernel_rfl) (by kernel_rfl) (fun _ _ _ h => h) (Or.inl ⟨by rfl, fun w' hw' => ?_⟩) hS0 ?_
        · obtain ⟨_, k0, k1, k2, k3, k4, k5, k6, d0, d1, d2, d3, d4, d5, d6⟩ := hw'
          go_simp
        simp only [Act.put, List.setIfInBounds_toArray, List.set_cons_succ, List.set_cons_zero]
        refine takeN (.string (S n)) (some 29) (i := 1) rfl rfl (by kernel_rfl) (by kernel_rfl) (by kernel_rfl) (fun _ _ _ h => h) (Or.inl ⟨by rfl, fun w' hw' => ?_⟩) hS0 ?_
        · obtain ⟨_, k0, k1, k2, k3, k4, k5, k6, d0, d1, d2, d3, d4, d5, d6⟩ := hw'
          go_simp
        simp only [Act.put, List.setIfInBounds_toArray, List.set_cons_succ, List.set_cons_zero]
        refine wpAnyH_all (rs := [2]) (by kernel_rfl) (by simp) (fun i hi => ?_)
        obtain rfl : i = 2 := by simpa using hi
        refine wantN (i := 2) rfl (by rfl) (callN (f := 12) (some 30) rfl Tryz.func12 (by kernel_rfl) (by kernel_rfl) rfl rfl ?_)
        simp only [List.map_toArray, List.map_cons, List.map_nil]
        refine (q1.out _ e9).mono ?_
        rintro e wc1 ⟨rfl, hbc1⟩
        have hw1 := below_then e9 hbc1
        have hS1 := KEEP.out _ hw1
        refine ⟨_, rfl, hS1, ?_⟩
        try dsimp only
        simp only [Act.put, List.setIfInBounds_toArray, List.set_cons_succ, List.set_cons_zero]
        refine takeN (.bool true) (some 31) (i := 3) rfl rfl (by kernel_rfl) (by kernel_rfl) (by kernel_rfl) (fun _ _ _ h => h) (Or.inl ⟨by rfl, fun w' hw' => ?_⟩) hS1 ?_
        · obtain ⟨_, k0, k1, k2, k3, k4, k5, k6, d0, d1, d2, d3, d4, d5, d6⟩ := hw'
          go_simp
        simp only [Act.put, List.setIfInBounds_toArray, List.set_cons_succ, List.set_cons_zero]
        refine takeN (.string (S o)) (some 32) (i := 4) rfl rfl (by kernel_rfl) (by kernel_rfl) (by kernel_rfl) (fun _ _ _ h => h) (Or.inl ⟨by rfl, fun w' hw' => ?_⟩) hS1 ?_
        · obtain ⟨_, k0, k1, k2, k3, k4, k5, k6, d0, d1, d2, d3, d4, d5, d6⟩ := hw'
          go_simp
        simp only [Act.put, List.setIfInBounds_toArray, List.set_cons_succ, List.set_cons_zero]
        refine takeN (.string (S n)) (some 33) (i := 5) rfl rfl (by kernel_rfl) (by kernel_rfl) (by kernel_rfl) (fun _ _ _ h => h) (Or.inl ⟨by rfl, fun w' hw' => ?_⟩) hS1 ?_
        · obtain ⟨_, k0, k1, k2, k3, k4, k5, k6, d0, d1, d2, d3, d4, d5, d6⟩ := hw'
          go_simp
        simp only [Act.put, List.setIfInBounds_toArray, List.set_cons_succ, List.set_cons_zero]
        refine takeN (.bool false) (some 34) (i := 6) rfl rfl (by kernel_rfl) (by kernel_rfl) (by kernel_rfl) (fun _ _ _ h => h) (Or.inl ⟨by rfl, fun w' hw' => ?_⟩) hS1 ?_
        · obtain ⟨_, k0, k1, k2, k3, k4, k5, k6, d0, d1, d2, d3, d4, d5, d6⟩ := hw'
          go_simp
        simp only [Act.put, List.setIfInBounds_toArray, List.set_cons_succ, List.set_cons_zero]
        refine takeN (.bool false) (some 35) (i := 7) rfl rfl (by kernel_rfl) (by kernel_rfl) (by kernel_rfl) (fun _ _ _ h => h) (Or.inl ⟨by rfl, fun w' hw' => ?_⟩) hS1 ?_
        · obtain ⟨_, k0, k1, k2, k3, k4, k5, k6, d0, d1, d2, d3, d4, d5, d6⟩ := hw'
          go_simp
        simp only [Act.put, List.setIfInBounds_toArray, List.set_cons_succ, List.set_cons_zero]
        refine takeN (.agg #[.slice p6 l6 c6, .slice pp ps.length cp, .slice pu us.length cu, .string (S sn), .string (S ss), .int .i64 lim, .slice po own.length co]) (some 36) (i := 8) rfl rfl (by kernel_rfl) (by kernel_rfl) (by kernel_rfl) (fun _ _ _ h => h) (Or.inl ⟨by rfl, fun w' hw' => ?_⟩) hS1 ?_
        · obtain ⟨_, k0, k1, k2, k3, k4, k5, k6, d0, d1, d2, d3, d4, d5, d6⟩ := hw'
          go_simp
        simp only [Act.put, List.setIfInBounds_toArray, List.set_cons_succ, List.set_cons_zero]
        refine takeN (.string (S o)) (some 37) (i := 9) rfl rfl (by kernel_rfl) (by kernel_rfl) (by kernel_rfl) (fun _ _ _ h => h) (Or.inl ⟨by rfl, fun w' hw' => ?_⟩) hS1 ?_
        · obtain ⟨_, k0, k1, k2, k3, k4, k5, k6, d0, d1, d2, d3, d4, d5, d6⟩ := hw'
          go_simp
        simp only [Act.put, List.setIfInBounds_toArray, List.set_cons_succ, List.set_cons_zero]
        refine takeN (.agg #[.slice pt ts.length ct, .slice pp ps.length cp, .slice pu us.length cu, .string (S sn), .string (S ss), .int .i64 lim, .slice po own.length co]) (some 39) (i := 11) rfl rfl (by kernel_rfl) (by kernel_rfl) (by kernel_rfl) (fun _ _ _ h => h) (Or.inl ⟨by rfl, fun w' hw' => ?_⟩) hS1 ?_
        · obtain ⟨_, k0, k1, k2, k3, k4, k5, k6, d0, d1, d2, d3, d4, d5, d6⟩ := hw'
          go_simp
        simp only [Act.put, List.setIfInBounds_toArray, List.set_cons_succ, List.set_cons_zero]
        refine takeN (.string (S o)) (some 40) (i := 12) rfl rfl (by kernel_rfl) (by kernel_rfl) (by kernel_rfl) (fun _ _ _ h => h) (Or.inl ⟨by rfl, fun w' hw' => ?_⟩) hS1 ?_
        · obtain ⟨_, k0, k1, k2, k3, k4, k5, k6, d0, d1, d2, d3, d4, d5, d6⟩ := hw'
          go_simp
        simp only [Act.put, List.setIfInBounds_toArray, List.set_cons_succ, List.set_cons_zero]
        refine wpAnyH_all (rs := [10]) (by kernel_rfl) (by simp) (fun i hi => ?_)
        obtain rfl : i = 10 := by simpa using hi
        refine wantN (i := 10) rfl (by rfl) (callN (f := 12) (some 38) rfl Tryz.func12 (by kernel_rfl) (by kernel_rfl) rfl rfl ?_)
        simp only [List.map_toArray, List.map_cons, List.map_nil]
        refine (q2.out _ hw1).mono ?_
        rintro e wc2 ⟨rfl, hbc2⟩
        have hw2 := below_then hw1 hbc2
        have hS2 := KEEP.out _ hw2
        refine ⟨_, rfl, hS2, ?_⟩
        try dsimp only
        simp only [Act.put, List.setIfInBounds_toArray, List.set_cons_succ, List.set_cons_zero]
        refine wpAnyH_all (rs := [13]) (by kernel_rfl) (by simp) (fun i hi => ?_)
        obtain rfl : i = 13 := by simpa using hi
        refine wantN (i := 13) rfl (by rfl) (callN (f := 12) (some 41) rfl Tryz.func12 (by kernel_rfl) (by kernel_rfl) rfl rfl ?_)
        simp only [List.map_toArray, List.map_cons, List.map_nil]
        refine (q3.out _ hw2).mono ?_
        rintro e wc3 ⟨rfl, hbc3⟩
        have hw3 := below_then hw2 hbc3
        have hS3 := KEEP.out _ hw3
        refine ⟨_, rfl, hS3, ?_⟩
        try dsimp only
        simp only [Act.put, List.setIfInBounds_toArray, List.set_cons_succ, List.set_cons_zero]
        refine takeN (.bool true) (some 42) (i := 14) rfl rfl (by kernel_rfl) (by kernel_rfl) (by kernel_rfl) (fun _ _ _ h => h) (Or.inl ⟨by rfl, fun w' hw' => ?_⟩) hS3 ?_
        · obtain ⟨_, k0, k1, k2, k3, k4, k5, k6, d0, d1, d2, d3, d4, d5, d6⟩ := hw'
          go_simp
        simp only [Act.put, List.setIfInBounds_toArray, List.set_cons_succ, List.set_cons_zero]
        refine takeN (.bool true) (some 43) (i := 15) rfl rfl (by kernel_rfl) (by kernel_rfl) (by kernel_rfl) (fun _ _ _ h => h) (Or.inl ⟨by rfl, fun w' hw' => ?_⟩) hS3 ?_
        · obtain ⟨_, k0, k1, k2, k3, k4, k5, k6, d0, d1, d2, d3, d4, d5, d6⟩ := hw'
          go_simp
        simp only [Act.put, List.setIfInBounds_toArray, List.set_cons_succ, List.set_cons_zero]
        refine takeN (.bool true) (some 44) (i := 16) rfl rfl (by kernel_rfl) (by kernel_rfl) (by kernel_rfl) (fun _ _ _ h => h) (Or.inl ⟨by rfl, fun w' hw' => ?_⟩) hS3 ?_
        · obtain ⟨_, k0, k1, k2, k3, k4, k5, k6, d0, d1, d2, d3, d4, d5, d6⟩ := hw'
          go_simp
        simp only [Act.put, List.setIfInBounds_toArray, List.set_cons_succ, List.set_cons_zero]
        refine takeN (.bool true) (some 6) (i := 17) rfl rfl (by kernel_rfl) (by kernel_rfl) (by kernel_rfl) (fun _ _ _ h => h) (Or.inl ⟨by rfl, fun w' hw' => ?_⟩) hS3 ?_
        · obtain ⟨_, k0, k1, k2, k3, k4, k5, k6, d0, d1, d2, d3, d4, d5, d6⟩ := hw'
          go_simp
        simp only [Act.put, List.setIfInBounds_toArray, List.set_cons_succ, List.set_cons_zero]
        refine wpAnyH_done (by kernel_rfl) ?_ _
        have Hend := Lib.hid (below_then HwE.out hw3)
        clear KEEP
        go_wp2_with fail
        go_ret
        exact ⟨rfl, Hend.out⟩
end Go.Proofs.YtlcadichpcdgpaaGreatDoor
