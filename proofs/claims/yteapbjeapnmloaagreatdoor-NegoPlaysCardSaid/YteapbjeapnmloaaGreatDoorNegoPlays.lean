/- NegoPlays: what comes of any offers, round by round, is the document's. -/
import Derived.Test.YteapbjeapnmloaaGreatDoorPlaysN
import Derived.Test.YteapbjeapnmloaaGreatDoorPlaced
import Derived.Test.YteapbjeapnmloaaGreatDoorBare
import Derived.Test.YteapbjeapnmloaaGreatDoorThickL
import Derived.Test.YteapbjeapnmloaaGreatDoorOpenRounds
import Derived.Test.YteapbjeapnmloaaGreatDoorGB
import Derived.Test.YteapbjeapnmloaaGreatDoorSaidLen
namespace Go.Proofs.YteapbjeapnmloaaGreatDoor
open Go Go.RowKit
set_option linter.unusedVariables false
theorem PN.err {w0 W : World} {H : Nat → Prop} {na rb : Nat} {am rm rv : Value} {mine reca recr : List Pr} (h : PN w0 W H na rb am rm rv mine reca recr) (hg : ErrCell w0) : ErrCell W := hg.later h.low
set_option maxRecDepth 100000 in
set_option maxHeartbeats 8000000 in
theorem negoPlays_any (l : List Pr) (v : Value) (m : List Rd) (u : Value) (key : List UInt8) (w : World) (hv : PrsV w v l) (hf : WideP l) (hu : RdsV w u m) (hfu : (∀ r ∈ m, WideP r.o) ∧ m.length ≤ 140737488355328) (hk : key.length ≤ 140737488351232) (hE : Env w) (hg : ErrCell w) :
    Calls Tryz.prog 16 #[v, u, .string (S key)] w fun e w' => e = .returned (.bool true) ∧ Below w.heap.size w w' := by
  have HV := Lib.hid hv
  have HU := Lib.hid hu
  have HF := Lib.hid hf.1
  have HFU := Lib.hid hfu.1
  have HE := Lib.hid hE
  have Hg := Lib.hid hg
  obtain ⟨p, c, rfl⟩ := hv.form
  obtain ⟨pu, cu, rfl⟩ := hu.form
  have T := Lib.hid (thickL_any l _ w hv hf.1.1)
  clear hv hu hE hg hf hfu
  go_enter Tryz.func16, Tryz.ntmps16
  go_wp2_with fail
  refine T.out.mono ?_
  rintro e w1 ⟨b, rfl, hb1⟩
  have Hb1 := Lib.hid hb1
  clear hb1 T
  rcases b_cases b with rfl | rfl
  · go_wp2_with fail
    go_ret
    exact ⟨rfl, Hb1.out⟩
  by_cases h20 : (20 : Int) < (m.length : Int)
  · go_wp2_with fail
    go_ret
    exact ⟨rfl, Hb1.out⟩
  by_cases h100 : (100 : Int) < (key.length : Int)
  · go_wp2_with fail
    go_ret
    exact ⟨rfl, Hb1.out⟩
  go_wp2_with fail
  go_loopw [41] (fun i wr => ∃ j : Nat, j ≤ m.length ∧ i = .int .i64 j ∧ Below w.heap.size w wr) (fun i _ => m.length - (intOf i).toNat)
  case atStart => exact ⟨0, by omega, rfl, Hb1.out⟩
  case round =>
    obtain ⟨j, hj, rfl, hb⟩ := hrel
    have Hb := Lib.hid hb
    by_cases hlt : j < m.length
    · obtain ⟨b, o, ov, rfl, hov, h0, h1, h2⟩ := HU.out.cell hlt
      have hfo := (HFU.out m[j] (List.getElem_mem hlt)).1
      obtain ⟨⟨ro, lg, dc⟩, ha⟩ : ∃ a, m[j] = a := ⟨_, rfl⟩
      rw [ha] at hov h1 h2 hfo
      simp only at hov h1 h2 hfo
      obtain ⟨po, co, rfl⟩ := hov.form
      rw [← (bcell hb).1 b (o + j * 3) (block_lt_of_cell (w := w) (a := ⟨b, o + j * 3, none⟩) h0)] at h0
      rw [← (bcell hb).1 b (o + j * 3 + 1) (block_lt_of_cell (w := w) (a := ⟨b, o + j * 3 + 1, none⟩) h1)] at h1
      rw [← (bcell hb).1 b (o + j * 3 + 2) (block_lt_of_cell (w := w) (a := ⟨b, o + j * 3 + 2, none⟩) h2)] at h2
      have hjI : (j : Int) < (m.length : Int) := by omega
      obtain ⟨w4, hw4⟩ : ∃ w4, wr.alloc (.cells #[.slice po ro.length co, .bool lg, .bool dc] 75) = w4 := ⟨_, rfl⟩
      have hb4 : Below wr.heap.size wr w4 := by rw [← hw4]; exact (Below.refl _ _).alloc (Nat.le_refl _) _
      have hP4 : Blk w4 wr.heap.size #[.slice po ro.length co, .bool lg, .bool dc] 75 := by rw [← hw4]; exact Blk.new wr _ _
      have x0 : w4.cell? ⟨wr.heap.size, 0, none⟩ = some (.slice po ro.length co) := hP4.cell 0
      have x1 : w4.cell? ⟨wr.heap.size, 1, none⟩ = some (.bool lg) := hP4.cell 1
      have x2 : w4.cell? ⟨wr.heap.size, 2, none⟩ = some (.bool dc) := hP4.cell 2
      have T2 := Lib.hid (thickL_any ro _ w4 (hov.later (below_then hb hb4)) hfo.1)
      have Hb4 := Lib.hid (below_then hb hb4)
      clear hb hb4 hP4 hov ha hfo
      go_wp2_with fail
      refine T2.out.mono ?_
      rintro e w5 ⟨b5, rfl, hb5⟩
      have Hb5 := Lib.hid (below_then Hb4.out hb5)
      clear hb5 T2
      rcases b_cases b5 with rfl | rfl
      · go_wp2_with fail
        go_ret
        exact ⟨rfl, Hb5.out⟩
      · go_wp2_with fail
        go_roundw
        case rel => exact ⟨j + 1, by omega, by go_num, Hb5.out⟩
        case measure => simp [intOf]; omega
    · obtain rfl : j = m.length := by omega
      have RNN := Lib.hid (refNew_any l _ wr (HV.out.later hb) HF.out (HE.out.mc.later hb))
      clear hb hlt
      go_wp2_with fail
      refine RNN.out.mono ?_
      rintro e w2 h
      clear RNN
      rcases h with ⟨h0, rb, rfl, hge, hR, hb2⟩ | ⟨h0, rfl, hb2⟩
      · obtain ⟨w3, hw3⟩ : ∃ w3, w2.alloc (.cells #[.int .i64 0, .int .i64 (-1)] 78) = w3 := ⟨_, rfl⟩
        have hb3 : Below w2.heap.size w2 w3 := by rw [← hw3]; exact (Below.refl _ _).alloc (Nat.le_refl _) _
        have HC3 := Lib.hid (show Cell2 w3 w2.heap.size 0 (-1) by rw [← hw3]; exact heap_alloc_new w2 _)
        have Hb3 := Lib.hid (below_then (below_then Hb.out hb2) hb3)
        have NW := Lib.hid (newN_any l _ w3 (HV.out.later Hb3.out) HF.out (HE.out.later Hb3.out) (Hg.out.later Hb3.out))
        have HR := Lib.hid (hR.later hb3)
        have Hge := Lib.hid (Nat.le_trans Hb.out.size hge)
        have H0 := Lib.hid h0
        clear hb2 hb3 hR hge h0
        go_wp2_with fail
        refine NW.out.mono ?_
        rintro e w4 h
        clear NW
        rcases h with ⟨_, nb, mv, rfl, hN, hbf, hb4⟩ | ⟨h1, _⟩
        rotate_left
        · exact absurd H0.out h1
        have HPN := Lib.hid (PN.mk' Hb3.out Hge.out HR.out HV.out hN hbf hb4 (newN_is H0.out).1)
        have HC4 := Lib.hid (HC3.out.later hb4)
        have PL := Lib.hid (placed_same (w := w4) (v := .nilIface) (n := 0) (p := -1) .good (HPN.out.err Hg.out))
        obtain ⟨x0, x1⟩ := HC4.out.cells
        clear hN hbf hb4
        go_wp2_with fail
        refine PL.out.mono ?_
        rintro e w5 ⟨rfl, hb5⟩
        have HPN := Lib.hid (HPN.out.later hb5)
        obtain ⟨y0, y1⟩ := (HC4.out.later hb5).cells
        have IF := Lib.hid (isF_good (-1) w5)
        clear hb5 PL x0 x1
        go_wp2_with fail
        refine IF.out.mono ?_
        rintro e w6 ⟨rfl, hb6⟩
        have HPN := Lib.hid (HPN.out.later hb6)
        clear hb6 IF y0 y1 HC3 HC4 HR hw3
        go_wp2_with fail
        go_loopw [74] (fun i W => ∃ (j : Nat) (H : Nat → Prop) (rv : Value) (rec : List Pr), j ≤ m.length ∧ i = .int .i64 j ∧ PN w W H nb rb mv (.slice p l.length c) rv l rec rec) (fun i _ => m.length - (intOf i).toNat)
        case atStart => exact ⟨0, _, _, _, by omega, rfl, HPN.out⟩
        case round =>
          obtain ⟨j, H, rv, rec, hj, rfl, hPN⟩ := hrel
          have hb := hPN.low
          have HPN := Lib.hid hPN
          by_cases hlt : j < m.length
          · obtain ⟨b, o, ov, rfl, hov, h0, h1, h2⟩ := HU.out.cell hlt
            have hfo := (HFU.out m[j] (List.getElem_mem hlt)).1
            obtain ⟨⟨ro, lg, dc⟩, ha⟩ : ∃ a, m[j] = a := ⟨_, rfl⟩
            rw [ha] at hov h1 h2 hfo
            simp only at hov h1 h2 hfo
            obtain ⟨po, co, rfl⟩ := hov.form
            rw [← (bcell hb).1 b (o + j * 3) (block_lt_of_cell (w := w) (a := ⟨b, o + j * 3, none⟩) h0)] at h0
            rw [← (bcell hb).1 b (o + j * 3 + 1) (block_lt_of_cell (w := w) (a := ⟨b, o + j * 3 + 1, none⟩) h1)] at h1
            rw [← (bcell hb).1 b (o + j * 3 + 2) (block_lt_of_cell (w := w) (a := ⟨b, o + j * 3 + 2, none⟩) h2)] at h2
            have hjI : (j : Int) < (m.length : Int) := by omega
            obtain ⟨w4, hw4⟩ : ∃ w4, wr.alloc (.cells #[.slice po ro.length co, .bool lg, .bool dc] 75) = w4 := ⟨_, rfl⟩
            have hb4 : Below wr.heap.size wr w4 := by rw [← hw4]; exact (Below.refl _ _).alloc (Nat.le_refl _) _
            have hP4 : Blk w4 wr.heap.size #[.slice po ro.length co, .bool lg, .bool dc] 75 := by rw [← hw4]; exact Blk.new wr _ _
            have x0 : w4.cell? ⟨wr.heap.size, 0, none⟩ = some (.slice po ro.length co) := hP4.cell 0
            have x1 : w4.cell? ⟨wr.heap.size, 1, none⟩ = some (.bool lg) := hP4.cell 1
            have x2 : w4.cell? ⟨wr.heap.size, 2, none⟩ = some (.bool dc) := hP4.cell 2
            obtain ⟨⟨⟨s, n, q⟩, r⟩, hr⟩ : ∃ x, ansN l rec ro lg dc = x := ⟨_, rfl⟩
            have Hr := Lib.hid hr
            have A := Lib.hid (ref_pn hr (hPN.later hb4) hov hfo HE.out)
            have HOV := Lib.hid hov
            have HFO := Lib.hid hfo
            have HP4 := Lib.hid hP4
            clear hb hb4 hP4 hov ha hfo hr hPN
            go_wp2_with fail
            refine A.out.mono ?_
            rintro e w5 ⟨v5, rv5, rfl, hs5, hPN5, hk5⟩
            obtain ⟨w6, hw6⟩ : ∃ w6, w5.alloc (.cells #[.int .i64 n, .int .i64 q] 78) = w6 := ⟨_, rfl⟩
            have hb6 : Below w5.heap.size w5 w6 := by rw [← hw6]; exact (Below.refl _ _).alloc (Nat.le_refl _) _
            have hF6 : Blk w6 w5.heap.size #[.int .i64 n, .int .i64 q] 78 := by rw [← hw6]; exact Blk.new w5 _ _
            have hHlt : ∀ k, H k → k < w5.heap.size := fun k hh => (hPN5.a.base k hh).2
            have HPN6 := Lib.hid (hPN5.later hb6)
            have HV6 := Lib.hid (hs5.bl hb6)
            have HF6 := Lib.hid hF6
            have HHlt := Lib.hid hHlt
            have A := Lib.hid (neg_pn Hr.out HPN6.out HOV.out HFO.out HE.out)
            have hP5 : Blk w5 wr.heap.size #[.slice po ro.length co, .bool lg, .bool dc] 75 := (hk5.block wr.heap.size HP4.out.lt (fun e => by have := HPN.out.blk.lt; have e : wr.heap.size = rb := e; omega)).trans HP4.out
            have hP6 := hP5.later hb6
            have x0 : w6.cell? ⟨wr.heap.size, 0, none⟩ = some (.slice po ro.length co) := hP6.cell 0
            have x1 : w6.cell? ⟨wr.heap.size, 1, none⟩ = some (.bool lg) := hP6.cell 1
            have x2 : w6.cell? ⟨wr.heap.size, 2, none⟩ = some (.bool dc) := hP6.cell 2
            clear hs5 hPN5 hk5 hb6 hF6 hHlt hP5 hP6
            go_wp2_with fail
            refine A.out.mono ?_
            rintro e w7 ⟨v7, ev7, H7, rfl, hs7, he7, hPN7, hk7⟩
            have HF7 := Lib.hid (show Blk w7 w5.heap.size #[.int .i64 n, .int .i64 q] 78 from (hk7.block _ HF6.out.lt (fun hh => by have := HHlt.out _ hh; omega)).trans HF6.out)
            have HPN7 := Lib.hid hPN7
            have HV7 := Lib.hid hs7
            have HE7 := Lib.hid he7
            have HV5 := Lib.hid (HV6.out.kp hk7).off
            have KEEP := Lib.hid (fun (W : World) (h : Below w7.heap.size w7 W) => show Below w7.heap.size w7 W ∧ W.cell? ⟨w5.heap.size, 0, none⟩ = some (.int .i64 n) ∧ W.cell? ⟨w5.heap.size, 1, none⟩ = some (.int .i64 q) ∧ W.cell? ⟨rb, 1, none⟩ = some rv5 from ⟨h, (HF7.out.later h).cell 0, (HF7.out.later h).cell 1, (HPN7.out.blk.later h).cell 1⟩)
            clear hs7 he7 hPN7 hk7 A x0 x1 x2 HV6 HF6 HPN6 HP4 hw6
            go_wp2_with fail
            refine wp_region_held (S := (fun w' => Below w7.heap.size w7 w' ∧ w'.cell? ⟨w5.heap.size, 0, none⟩ = some (.int .i64 n) ∧ w'.cell? ⟨w5.heap.size, 1, none⟩ = some (.int .i64 q) ∧ w'.cell? ⟨rb, 1, none⟩ = some rv5)) (by kernel_rfl) ?_
            have e9 : Below w7.heap.size w7 { w7 with drawn := w7.drawn + 1 } := (Below.refl _ _).drew
            generalize ({ w7 with drawn := w7.drawn + 1 } : World) = wx at e9 ⊢
            have hS := KEEP.out _ e9
            refine takeN (ev7) (some 100) (i := 0) rfl rfl (by kernel_rfl) (by kernel_rfl) (by kernel_rfl) (fun _ _ _ h => h) (Or.inl ⟨by rfl, fun w' hw' => ?_⟩) hS ?_
            · obtain ⟨_, k0, k1, k2⟩ := hw'
              go_simp
            simp only [Act.put, List.setIfInBounds_toArray, List.set_cons_succ, List.set_cons_zero]
            refine takeN (.agg #[.int .i64 n, .int .i64 q]) (some 101) (i := 1) rfl rfl (by kernel_rfl) (by kernel_rfl) (by kernel_rfl) (fun _ _ _ h => h) (Or.inl ⟨by rfl, fun w' hw' => ?_⟩) hS ?_
            · obtain ⟨_, k0, k1, k2⟩ := hw'
              go_simp
            simp only [Act.put, List.setIfInBounds_toArray, List.set_cons_succ, List.set_cons_zero]
            refine wpAnyH_all (rs := [2]) (by kernel_rfl) (by simp) (fun i hi => ?_)
            obtain rfl : i = 2 := by simpa using hi
            refine wantN (i := 2) rfl (by rfl) (callN (f := 47) (some 102) rfl Tryz.func47 (by kernel_rfl) (by kernel_rfl) rfl rfl ?_)
            simp only [List.map_toArray, List.map_cons, List.map_nil]
            refine (placed_same (HE7.out.later e9) ((HPN7.out.err Hg.out).later e9)).mono ?_
            rintro e wa ⟨rfl, hba⟩
            have hwa := below_then e9 hba
            have hSa := KEEP.out _ hwa
            refine ⟨_, rfl, hSa, ?_⟩
            try dsimp only
            simp only [Act.put, List.setIfInBounds_toArray, List.set_cons_succ, List.set_cons_zero]
            refine takeN (.bool false) (some 103) (i := 3) rfl rfl (by kernel_rfl) (by kernel_rfl) (by kernel_rfl) (fun _ _ _ h => h) (Or.inl ⟨by rfl, fun w' hw' => ?_⟩) hSa ?_
            · obtain ⟨_, k0, k1, k2⟩ := hw'
              go_simp
            simp only [Act.put, List.setIfInBounds_toArray, List.set_cons_succ, List.set_cons_zero]
            refine takeN (.bool false) (some 104) (i := 4) rfl rfl (by kernel_rfl) (by kernel_rfl) (by kernel_rfl) (fun _ _ _ h => h) (Or.inl ⟨by rfl, fun w' hw' => ?_⟩) hSa ?_
            · obtain ⟨_, k0, k1, k2⟩ := hw'
              go_simp
            simp only [Act.put, List.setIfInBounds_toArray, List.set_cons_succ, List.set_cons_zero]
            refine takeN (v5) (some 105) (i := 5) rfl rfl (by kernel_rfl) (by kernel_rfl) (by kernel_rfl) (fun _ _ _ h => h) (Or.inl ⟨by rfl, fun w' hw' => ?_⟩) hSa ?_
            · obtain ⟨_, k0, k1, k2⟩ := hw'
              go_simp
            simp only [Act.put, List.setIfInBounds_toArray, List.set_cons_succ, List.set_cons_zero]
            refine takeN (v7) (some 106) (i := 6) rfl rfl (by kernel_rfl) (by kernel_rfl) (by kernel_rfl) (fun _ _ _ h => h) (Or.inl ⟨by rfl, fun w' hw' => ?_⟩) hSa ?_
            · obtain ⟨_, k0, k1, k2⟩ := hw'
              go_simp
            simp only [Act.put, List.setIfInBounds_toArray, List.set_cons_succ, List.set_cons_zero]
            refine wpAnyH_all (rs := [7]) (by kernel_rfl) (by simp) (fun i hi => ?_)
            obtain rfl : i = 7 := by simpa using hi
            refine wantN (i := 7) rfl (by rfl) (callN (f := 23) (some 107) rfl Tryz.func23 (by kernel_rfl) (by kernel_rfl) rfl rfl ?_)
            simp only [List.map_toArray, List.map_cons, List.map_nil]
            refine (equalP_same s _ _ wa (by have := said_len2 Hr.out; omega) (HV5.out.later hwa) (HV7.out.later hwa)).mono ?_
            rintro e wb ⟨rfl, hbb⟩
            have hwb := below_then hwa hbb
            have hSb := KEEP.out _ hwb
            refine ⟨_, rfl, hSb, ?_⟩
            try dsimp only
            simp only [Act.put, List.setIfInBounds_toArray, List.set_cons_succ, List.set_cons_zero]
            refine takeN (.bool false) (some 108) (i := 8) rfl rfl (by kernel_rfl) (by kernel_rfl) (by kernel_rfl) (fun _ _ _ h => h) (Or.inl ⟨by rfl, fun w' hw' => ?_⟩) hSb ?_
            · obtain ⟨_, k0, k1, k2⟩ := hw'
              go_simp
            simp only [Act.put, List.setIfInBounds_toArray, List.set_cons_succ, List.set_cons_zero]
            refine takeN (.bool false) (some 109) (i := 9) rfl rfl (by kernel_rfl) (by kernel_rfl) (by kernel_rfl) (fun _ _ _ h => h) (Or.inl ⟨by rfl, fun w' hw' => ?_⟩) hSb ?_
            · obtain ⟨_, k0, k1, k2⟩ := hw'
              go_simp
            simp only [Act.put, List.setIfInBounds_toArray, List.set_cons_succ, List.set_cons_zero]
            refine takeN (.bool false) (some 110) (i := 10) rfl rfl (by kernel_rfl) (by kernel_rfl) (by kernel_rfl) (fun _ _ _ h => h) (Or.inl ⟨by rfl, fun w' hw' => ?_⟩) hSb ?_
            · obtain ⟨_, k0, k1, k2⟩ := hw'
              go_simp
            simp only [Act.put, List.setIfInBounds_toArray, List.set_cons_succ, List.set_cons_zero]
            refine takeN (.pointer (some ⟨nb, 0, none⟩)) (some 111) (i := 11) rfl rfl (by kernel_rfl) (by kernel_rfl) (by kernel_rfl) (fun _ _ _ h => h) (Or.inl ⟨by rfl, fun w' hw' => ?_⟩) hSb ?_
            · obtain ⟨_, k0, k1, k2⟩ := hw'
              go_simp
            simp only [Act.put, List.setIfInBounds_toArray, List.set_cons_succ, List.set_cons_zero]
            refine takeN (.pointer (some ⟨rb, 0, none⟩)) (some 113) (i := 13) rfl rfl (by kernel_rfl) (by kernel_rfl) (by kernel_rfl) (fun _ _ _ h => h) (Or.inl ⟨by rfl, fun w' hw' => ?_⟩) hSb ?_
            · obtain ⟨_, k0, k1, k2⟩ := hw'
              go_simp
            simp only [Act.put, List.setIfInBounds_toArray, List.set_cons_succ, List.set_cons_zero]
            refine takeN (.pointer (some ⟨rb, 0, none⟩)) (some 114) (i := 14) rfl rfl (by kernel_rfl) (by kernel_rfl) (by kernel_rfl) (fun _ _ _ h => h) (Or.inl ⟨by rfl, fun w' hw' => ?_⟩) hSb ?_
            · obtain ⟨_, k0, k1, k2⟩ := hw'
              go_simp
            simp only [Act.put, List.setIfInBounds_toArray, List.set_cons_succ, List.set_cons_zero]
            refine takeN (.pointer (some ⟨rb, 1, none⟩)) (some 115) (i := 15) rfl rfl (by kernel_rfl) (by kernel_rfl) (by kernel_rfl) (fun _ _ _ h => h) (Or.inl ⟨by rfl, fun w' hw' => ?_⟩) hSb ?_
            · obtain ⟨_, k0, k1, k2⟩ := hw'
              go_simp
            simp only [Act.put, List.setIfInBounds_toArray, List.set_cons_succ, List.set_cons_zero]
            refine takeN (rv5) (some 116) (i := 16) rfl rfl (by kernel_rfl) (by kernel_rfl) (by kernel_rfl) (fun _ _ _ h => h) (Or.inl ⟨by rfl, fun w' hw' => ?_⟩) hSb ?_
            · obtain ⟨_, k0, k1, k2⟩ := hw'
              go_simp
            simp only [Act.put, List.setIfInBounds_toArray, List.set_cons_succ, List.set_cons_zero]
            refine wpAnyH_all (rs := [12]) (by kernel_rfl) (by simp) (fun i hi => ?_)
            obtain rfl : i = 12 := by simpa using hi
            refine wantN (i := 12) rfl (by rfl) (callN (f := 22) (some 112) rfl Tryz.func22 (by kernel_rfl) (by kernel_rfl) rfl rfl ?_)
            simp only [List.map_toArray, List.map_cons, List.map_nil]
            refine (recordN_any (HPN7.out.later hwb).a (by have := HPN7.out.oka.few; omega)).mono ?_
            rintro e wc ⟨vc, rfl, hbc, hlc⟩
            have hwc := below_then hwb hlc
            have hSc := KEEP.out _ hwc
            refine ⟨_, rfl, hSc, ?_⟩
            try dsimp only
            simp only [Act.put, List.setIfInBounds_toArray, List.set_cons_succ, List.set_cons_zero]
            refine wpAnyH_all (rs := [17]) (by kernel_rfl) (by simp) (fun i hi => ?_)
            obtain rfl : i = 17 := by simpa using hi
            refine wantN (i := 17) rfl (by rfl) (callN (f := 23) (some 117) rfl Tryz.func23 (by kernel_rfl) (by kernel_rfl) rfl rfl ?_)
            simp only [List.map_toArray, List.map_cons, List.map_nil]
            refine (equalP_same r _ _ wc (by have := HPN7.out.oka.few; omega) hbc.prs (HPN7.out.later hwc).rn.recd).mono ?_
            rintro e wd ⟨rfl, hbd⟩
            have hwd := below_then hwc hbd
            have hSd := KEEP.out _ hwd
            refine ⟨_, rfl, hSd, ?_⟩
            try dsimp only
            simp only [Act.put, List.setIfInBounds_toArray, List.set_cons_succ, List.set_cons_zero]
            refine takeN (.bool false) (some 118) (i := 18) rfl rfl (by kernel_rfl) (by kernel_rfl) (by kernel_rfl) (fun _ _ _ h => h) (Or.inl ⟨by rfl, fun w' hw' => ?_⟩) hSd ?_
            · obtain ⟨_, k0, k1, k2⟩ := hw'
              go_simp
            simp only [Act.put, List.setIfInBounds_toArray, List.set_cons_succ, List.set_cons_zero]
            refine takeN (.bool false) (some 119) (i := 19) rfl rfl (by kernel_rfl) (by kernel_rfl) (by kernel_rfl) (fun _ _ _ h => h) (Or.inl ⟨by rfl, fun w' hw' => ?_⟩) hSd ?_
            · obtain ⟨_, k0, k1, k2⟩ := hw'
              go_simp
            simp only [Act.put, List.setIfInBounds_toArray, List.set_cons_succ, List.set_cons_zero]
            refine takeN (.bool false) (some 120) (i := 20) rfl rfl (by kernel_rfl) (by kernel_rfl) (by kernel_rfl) (fun _ _ _ h => h) (Or.inl ⟨by rfl, fun w' hw' => ?_⟩) hSd ?_
            · obtain ⟨_, k0, k1, k2⟩ := hw'
              go_simp
            simp only [Act.put, List.setIfInBounds_toArray, List.set_cons_succ, List.set_cons_zero]
            refine takeN (.pointer (some ⟨nb, 0, none⟩)) (some 121) (i := 21) rfl rfl (by kernel_rfl) (by kernel_rfl) (by kernel_rfl) (fun _ _ _ h => h) (Or.inl ⟨by rfl, fun w' hw' => ?_⟩) hSd ?_
            · obtain ⟨_, k0, k1, k2⟩ := hw'
              go_simp
            simp only [Act.put, List.setIfInBounds_toArray, List.set_cons_succ, List.set_cons_zero]
            refine takeN (.pointer (some ⟨rb, 0, none⟩)) (some 123) (i := 23) rfl rfl (by kernel_rfl) (by kernel_rfl) (by kernel_rfl) (fun _ _ _ h => h) (Or.inl ⟨by rfl, fun w' hw' => ?_⟩) hSd ?_
            · obtain ⟨_, k0, k1, k2⟩ := hw'
              go_simp
            simp only [Act.put, List.setIfInBounds_toArray, List.set_cons_succ, List.set_cons_zero]
            refine wpAnyH_all (rs := [22]) (by kernel_rfl) (by simp) (fun i hi => ?_)
            obtain rfl : i = 22 := by simpa using hi
            refine wantN (i := 22) rfl (by rfl) (callN (f := 34) (some 122) rfl Tryz.func34 (by kernel_rfl) (by kernel_rfl) rfl rfl ?_)
            simp only [List.map_toArray, List.map_cons, List.map_nil]
            refine (digN_any (HPN7.out.later hwd).a (by have := HPN7.out.oka.few; omega)).mono ?_
            rintro e we ⟨rfl, hbwe⟩
            have hwe := below_then hwd hbwe
            have hSe := KEEP.out _ hwe
            refine ⟨_, rfl, hSe, ?_⟩
            try dsimp only
            simp only [Act.put, List.setIfInBounds_toArray, List.set_cons_succ, List.set_cons_zero]
            refine wpAnyH_all (rs := [24]) (by kernel_rfl) (by simp) (fun i hi => ?_)
            obtain rfl : i = 24 := by simpa using hi
            refine wantN (i := 24) rfl (by rfl) (callN (f := 50) (some 124) rfl Tryz.func50 (by kernel_rfl) (by kernel_rfl) rfl rfl ?_)
            simp only [List.map_toArray, List.map_cons, List.map_nil]
            refine (refDig_any (HPN7.out.later hwe).rn (by have := HPN7.out.oka.few; omega)).mono ?_
            rintro e wf ⟨rfl, hbwf⟩
            have hwf := below_then hwe hbwf
            have hSf := KEEP.out _ hwf
            refine ⟨_, rfl, hSf, ?_⟩
            try dsimp only
            simp only [Act.put, List.setIfInBounds_toArray, List.set_cons_succ, List.set_cons_zero]
            refine takeN (.bool false) (some 125) (i := 25) rfl rfl (by kernel_rfl) (by kernel_rfl) (by kernel_rfl) (fun _ _ _ h => h) (Or.inl ⟨by rfl, fun w' hw' => ?_⟩) hSf ?_
            · obtain ⟨_, k0, k1, k2⟩ := hw'
              go_simp
            simp only [Act.put, List.setIfInBounds_toArray, List.set_cons_succ, List.set_cons_zero]
            refine takeN (.bool false) (some 126) (i := 26) rfl rfl (by kernel_rfl) (by kernel_rfl) (by kernel_rfl) (fun _ _ _ h => h) (Or.inl ⟨by rfl, fun w' hw' => ?_⟩) hSf ?_
            · obtain ⟨_, k0, k1, k2⟩ := hw'
              go_simp
            simp only [Act.put, List.setIfInBounds_toArray, List.set_cons_succ, List.set_cons_zero]
            refine wpAnyH_done (by kernel_rfl) ?_ _
            have HPNf := Lib.hid (HPN7.out.later hSf.1)
            clear hSf
            go_wp2_with fail
            go_roundw
            case rel => exact ⟨j + 1, H7, rv5, r, by omega, by go_num, HPNf.out⟩
            case measure => simp [intOf]; omega
          · obtain rfl : j = m.length := by omega
            obtain ⟨y, n1, hval⟩ : ∃ y n1, valN l key = (y, n1) := ⟨_, _, rfl⟩
            obtain ⟨z, n2, hval2⟩ : ∃ z n2, valN rec key = (z, n2) := ⟨_, _, rfl⟩
            have hl60 := hPN.ok.few
            have hr18 := hPN.oka.few
            obtain ⟨ev1, hev1⟩ : ∃ ev1, errV n1 = ev1 := ⟨_, rfl⟩
            obtain ⟨ev2, hev2⟩ : ∃ ev2, errV n2 = ev2 := ⟨_, rfl⟩
            have O1 := refOwn_any key hPN.rn (by omega)
            have O2 := Lib.hid (fun W (h : Below wr.heap.size wr W) => show Calls Tryz.prog 35 #[.pointer (some ⟨nb, 0, none⟩), .string (S key)] W (fun e w' => e = .returned (.tuple #[.string (S y), ev1]) ∧ Below W.heap.size W w') by
              have := ownN_any key (hPN.later h).a (by omega)
              unfold RetVE at this
              rw [hval] at this
              simp only at this
              rwa [hev1] at this)
            have V1 := Lib.hid (fun W (h : Below wr.heap.size wr W) => show Calls Tryz.prog 52 #[.pointer (some ⟨rb, 0, none⟩), .string (S key)] W (fun e w' => e = .returned (.tuple #[.string (S z), .int .i64 n2]) ∧ Below W.heap.size W w') by
              have := refValue_any key (hPN.later h).rn (by omega)
              unfold RetVI at this
              rwa [hval2] at this)
            have V2 := Lib.hid (fun W (h : Below wr.heap.size wr W) => show Calls Tryz.prog 27 #[.pointer (some ⟨nb, 0, none⟩), .string (S key)] W (fun e w' => e = .returned (.tuple #[.string (S z), ev2]) ∧ Below W.heap.size W w') by
              have := valueN_any key (hPN.later h).a (by omega)
              unfold RetVE at this
              rw [hval2] at this
              simp only at this
              rwa [hev2] at this)
            unfold RetVI at O1
            rw [hval] at O1
            have O1 := Lib.hid O1
            have B1 := Lib.hid (fun W (h : Below wr.heap.size wr W) => show Calls Tryz.prog 53 #[ev1, .int .i64 n1] W (fun e w' => e = .returned (.bool true) ∧ Below W.heap.size W w') by rw [← hev1]; exact bare_any n1 W ((hPN.later h).err Hg.out))
            have B2 := Lib.hid (fun W (h : Below wr.heap.size wr W) => show Calls Tryz.prog 53 #[ev2, .int .i64 n2] W (fun e w' => e = .returned (.bool true) ∧ Below W.heap.size W w') by rw [← hev2]; exact bare_any n2 W ((hPN.later h).err Hg.out))
            have ey : (y == y) = true := by simp
            have ez : (z == z) = true := by simp
            clear hb hPN hlt hval hval2 hev1 hev2
            go_wp2_with fail
            refine O1.out.mono ?_
            rintro e wa ⟨rfl, hba⟩
            have Hba := Lib.hid hba
            clear hba O1
            go_wp2_with fail
            refine (O2.out _ Hba.out).mono ?_
            rintro e wb ⟨rfl, hbb⟩
            have Hbb := Lib.hid (below_then Hba.out hbb)
            clear hbb
            go_wp2_with fail
            refine (V1.out _ Hbb.out).mono ?_
            rintro e wc ⟨rfl, hbc⟩
            have Hbc := Lib.hid (below_then Hbb.out hbc)
            clear hbc
            go_wp2_with fail
            refine (V2.out _ Hbc.out).mono ?_
            rintro e wd ⟨rfl, hbd⟩
            have Hbd := Lib.hid (below_then Hbc.out hbd)
            clear hbd
            go_wp2_with fail
            refine (B1.out _ Hbd.out).mono ?_
            rintro e we ⟨rfl, hbe⟩
            have Hbe := Lib.hid (below_then Hbd.out hbe)
            clear hbe
            go_wp2_with fail
            refine (B2.out _ Hbe.out).mono ?_
            rintro e wf ⟨rfl, hbf⟩
            have Hbf := Lib.hid (below_then HPN.out.low (below_then Hbe.out hbf))
            clear hbf
            go_wp2_with fail
            go_ret
            exact ⟨rfl, Hbf.out⟩
      · obtain ⟨⟨n, q⟩, hn⟩ : ∃ x, newN l = x := ⟨_, rfl⟩
        rw [hn] at h0
        simp only at h0
        try rw [hn]
        obtain ⟨w3, hw3⟩ : ∃ w3, w2.alloc (.cells #[.int .i64 n, .int .i64 q] 78) = w3 := ⟨_, rfl⟩
        have hb3 : Below w2.heap.size w2 w3 := by rw [← hw3]; exact (Below.refl _ _).alloc (Nat.le_refl _) _
        have HC3 := Lib.hid (show Cell2 w3 w2.heap.size n q by rw [← hw3]; exact heap_alloc_new w2 _)
        have Hb3 := Lib.hid (below_then (below_then Hb.out hb2) hb3)
        have NW := Lib.hid (newN_any l _ w3 (HV.out.later Hb3.out) HF.out (HE.out.later Hb3.out) (Hg.out.later Hb3.out))
        have H0 := Lib.hid h0
        have Hn := Lib.hid hn
        clear hb2 hb3 h0 hn
        go_wp2_with fail
        refine NW.out.mono ?_
        rintro e w4 h
        clear NW
        rcases h with ⟨h1, _⟩ | ⟨_, ev, rfl, he, hb4⟩
        · rw [Hn.out] at h1; exact absurd h1 H0.out
        rw [Hn.out] at he
        simp only at he
        have HC4 := Lib.hid (HC3.out.later hb4)
        have Hb4 := Lib.hid (below_then Hb3.out hb4)
        have PL := Lib.hid (placed_same he (Hg.out.later Hb4.out))
        obtain ⟨x0, x1⟩ := HC4.out.cells
        clear he hb4
        go_wp2_with fail
        refine PL.out.mono ?_
        rintro e w5 ⟨rfl, hb5⟩
        have Hb5 := Lib.hid (below_then Hb4.out hb5)
        obtain ⟨y0, y1⟩ := (HC4.out.later hb5).cells
        have IF := Lib.hid (isF_bad n q w5 H0.out)
        clear hb5 PL x0 x1
        go_wp2_with fail
        refine IF.out.mono ?_
        rintro e w6 ⟨rfl, hb6⟩
        have Hb6 := Lib.hid (below_then Hb5.out hb6)
        clear hb6 IF y0 y1
        go_wp2_with fail
        go_ret
        exact ⟨rfl, Hb6.out⟩
end Go.Proofs.YteapbjeapnmloaaGreatDoor
