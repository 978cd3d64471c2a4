/- ChapUsers: whoever stands behind a user, or has another name, changes nothing. -/
import Derived.Test.YtoponmdfjbhnoaaDoorChapProved
import Derived.Test.YtoponmdfjbhnoaaDoorSoleU
import Derived.Test.YtoponmdfjbhnoaaDoorOpenDraw
namespace Go.Proofs.YtoponmdfjbhnoaaDoor
open Go Go.RowKit
set_option linter.unusedVariables false
theorem tell_num (n : Int) (w : World) (hg : ErrCell w) : Calls Tryd.prog 15 #[errV n] w fun e w' => e = .returned (.int .i64 n) ∧ Below w.heap.size w w' := by
  by_cases h : n = 0
  · subst h
    rw [errV_0]
    exact (tell_nil w).mono fun e w' ⟨he, hw⟩ => ⟨he, hw ▸ Below.refl _ _⟩
  · rw [errV_pos n h]
    exact tell_err n w hg
set_option maxRecDepth 100000 in
set_option maxHeartbeats 8000000 in
theorem chapUsers_any (l : List Us) (v : Value) (n s : List UInt8) (d : Dw) (u : Us) (w : World) (hv : UsV w v l) (hf : WideU l) (hn : n.length ≤ 140737488351232) (hs : s.length ≤ 140737488351232) (hd : (Lit.int .i64 d.id).wf = true ∧ d.ch.length ≤ 140737488351232) (hu : u.nm.length ≤ 140737488351232 ∧ u.sc.length ≤ 140737488351232) (ht : MdTabs w) (hg : ErrCell w) :
    Calls Tryd.prog 4 #[v, .string (S n), .string (S s), .agg #[.int .i64 d.id, .string (S d.ch)], .agg #[.string (S u.nm), .string (S u.sc)]] w fun e w' => e = .returned (.bool true) ∧ Below w.heap.size w w' := by
  obtain ⟨i0, hi, hz0, hz1, hz2⟩ := infoUs
  obtain ⟨p, cp, rfl⟩ := hv.form
  obtain ⟨id, c⟩ := d
  obtain ⟨un, us⟩ := u
  simp only at hd hu ⊢
  have hA := (Below.refl w.heap.size w).alloc (Nat.le_refl _) (.cells #[.int .i64 id, .string (S c)] 23)
  have hD := Blk.new w #[.int .i64 id, .string (S c)] 23
  generalize hW1 : w.alloc (.cells #[.int .i64 id, .string (S c)] 23) = W1 at hA hD
  have hB := (Below.refl W1.heap.size W1).alloc (Nat.le_refl _) (.cells #[.string (S un), .string (S us)] 27)
  have hU := Blk.new W1 #[.string (S un), .string (S us)] 27
  have hD := hD.later hB
  have hAB := below_then hA hB
  have F := Lib.hid (proved_fact _ (ht.later hAB) (hg.later hAB))
  have HV := Lib.hid (hv.later hAB)
  have Ht := Lib.hid (ht.later hAB)
  have Hg := Lib.hid (hg.later hAB)
  have HD := Lib.hid hD
  have HU := Lib.hid hU
  have HAB := Lib.hid hAB
  have Hf := Lib.hid hf
  have hl32 := hf.2
  clear hA hB hD hU hAB hv hf ht hg
  go_enter Tryd.func4, Tryd.ntmps4
  go_wp2_with fail
  clear hW1
  generalize W1.alloc (.cells #[.string (S un), .string (S us)] 27) = W2 at *
  refine F.out.mono ?_
  rintro e w1 ⟨rfl, hb1⟩
  have Hb1 := Lib.hid (below_then HAB.out hb1)
  have HV1 := Lib.hid (HV.out.later hb1)
  have HD1 := Lib.hid (HD.out.later hb1)
  have HU1 := Lib.hid (HU.out.later hb1)
  have Ht1 := Lib.hid (Ht.out.later hb1)
  have Hg1 := Lib.hid (Hg.out.later hb1)
  clear hb1 F HV HD HU Ht Hg
  obtain ⟨d0, d1⟩ := HD1.out.two
  obtain ⟨u0, u1⟩ := HU1.out.two
  by_cases h3 : 30 < l.length
  · have h3i : (30 : Int) < (l.length : Int) := by omega
    go_wp2_with fail
    go_ret
    exact ⟨rfl, Hb1.out⟩
  · have h3i : ¬ (30 : Int) < (l.length : Int) := by omega
    by_cases h6 : 600 < n.length + s.length + c.length + un.length + us.length
    · have h6i : (600 : Int) < (n.length : Int) + (s.length : Int) + (c.length : Int) + (un.length : Int) + (us.length : Int) := by omega
      go_wp2_with fail
      go_ret
      exact ⟨rfl, Hb1.out⟩
    · have h6i : ¬ (600 : Int) < (n.length : Int) + (s.length : Int) + (c.length : Int) + (un.length : Int) + (us.length : Int) := by omega
      go_wp2_with fail
      clear d0 d1 u0 u1
      go_loopw [44] (fun i wr => ∃ j : Nat, j ≤ l.length ∧ i = .int .i64 j ∧ Below w1.heap.size w1 wr) (fun i _ => l.length - (intOf i).toNat)
      case atStart => exact ⟨0, by omega, rfl, Below.refl _ _⟩
      case round =>
        obtain ⟨j, hj, rfl, hb⟩ := hrel
        have Hb := Lib.hid hb
        have HVr := Lib.hid (HV1.out.later hb)
        by_cases hlt : j < l.length
        · obtain ⟨b, o, rfl, q0, q1⟩ := HVr.out.cell hlt
          obtain ⟨y, hy⟩ : ∃ y, l[j] = y := ⟨_, rfl⟩
          rw [hy] at q0 q1
          obtain ⟨k, e⟩ := y
          simp only at q0 q1
          have Hb2 := Lib.hid (hb.alloc hb.size (.cells #[.string (S k), .string (S e)] 27))
          have hke : k.length ≤ 140737488355328 ∧ e.length ≤ 140737488355328 := by
            have := Hf.out.1.2 l[j] (List.getElem_mem hlt)
            rw [hy] at this
            exact this
          clear hb hy
          by_cases h9 : 300 < k.length + e.length
          · have h9i : (300 : Int) < (k.length : Int) + (e.length : Int) := by omega
            go_wp2_with fail
            go_ret
            exact ⟨rfl, below_then Hb1.out Hb2.out⟩
          · have h9i : ¬ (300 : Int) < (k.length : Int) + (e.length : Int) := by omega
            go_wp2_with fail
            go_roundw
            case rel => exact ⟨j + 1, by omega, by go_num, Hb2.out⟩
            case measure => simp [intOf]; omega
        · obtain rfl : j = l.length := by omega
          have HDr := Lib.hid (HD1.out.later hb)
          have HUr := Lib.hid (HU1.out.later hb)
          have Htr := Lib.hid (Ht1.out.later hb)
          have Hgr := Lib.hid (Hg1.out.later hb)
          have FD := Lib.hid (findU_any l n _ wr HVr.out (by omega))
          clear hb
          go_wp2_with fail
          refine FD.out.mono ?_
          rintro e w3 ⟨he, hb3⟩
          obtain rfl := he
          obtain ⟨x, ok, hux⟩ : ∃ (x : Us) (ok : Bool), usR (usFind l n) = .tuple #[.agg #[.string (S x.nm), .string (S x.sc)], .bool ok] ∧ (ok = false → usFind l n = none) ∧ (ok = true → usFind l n ≠ none) := by
            cases hq : usFind l n with
            | none => exact ⟨⟨[], []⟩, false, rfl, fun _ => rfl, fun h => by cases h⟩
            | some x => exact ⟨x, true, rfl, fun h => (by cases h), fun _ h => by cases h⟩
          obtain ⟨hux, hno, hyes⟩ := hux
          rw [hux]
          obtain ⟨xn, xs⟩ := x
          simp only
          have hb4r := hb3.alloc hb3.size (.cells #[.string (S xn), .string (S xs)] 27)
          have HV4 := Lib.hid (HVr.out.later hb4r)
          have HD4 := Lib.hid (HDr.out.later hb4r)
          have HU4 := Lib.hid (HUr.out.later hb4r)
          have Ht4 := Lib.hid (Htr.out.later hb4r)
          have Hg4 := Lib.hid (Hgr.out.later hb4r)
          have Hb4 := Lib.hid (below_then Hb1.out (below_then Hb.out hb4r))
          obtain ⟨d0, d1⟩ := HD4.out.two
          obtain ⟨u0, u1⟩ := HU4.out.two
          clear hb3 hb4r HVr HDr HUr Htr Hgr HV1 HD1 HU1 Ht1 Hg1 hux FD
          by_cases hsame : ok = false ∧ un = n
          · obtain ⟨rfl, rfl⟩ := hsame
            go_wp2_with fail
            go_ret
            exact ⟨rfl, Hb4.out⟩
          · have hmore : chkL (l ++ [⟨un, us⟩]) n s id c = chkL l n s id c := chkL_app l n s id c ⟨un, us⟩ (by
              cases ok with
              | true => exact .inl (hyes rfl)
              | false => exact .inr fun e => hsame ⟨rfl, e⟩)
            obtain ⟨N, hN⟩ : ∃ N, chkL l n s id c = N := ⟨_, rfl⟩
            have C1 := check_any l _ n s c id _ HV4.out (by omega) (by omega) Ht4.out Hg4.out
            rw [hN] at hmore C1
            have C1 := Lib.hid C1
            have T := Lib.hid (fun W (h : ErrCell W) => tell_num N W h)
            have Hmore := Lib.hid hmore
            have hsl : s.length ≤ 4294967270 := by omega
            have hll : (l ++ [(⟨un, us⟩ : Us)]).length ≤ 140737488355328 := by simp; omega
            have hw : ok = true ∨ (ok = false ∧ (un == n) = false) := by
              cases ok with
              | true => exact .inl rfl
              | false => exact .inr ⟨rfl, beq_eq_false_iff_ne.2 fun e => hsame ⟨rfl, e⟩⟩
            clear hsame hno hyes hN hmore
            rcases hw with rfl | ⟨rfl, hS⟩
            case' inl => go_wp2_with fail
            case' inr => go_wp2_with fail
            all_goals
              generalize w3.alloc (.cells #[.string (S xn), .string (S xs)] 27) = w4 at *
              clear d0 d1 u0 u1
              refine C1.out.mono ?_
              rintro e w5a ⟨rfl, hb5a⟩
              go_wp2_with fail
              refine (T.out _ (Hg4.out.later hb5a)).mono ?_
              rintro e w5 ⟨rfl, hb5b⟩
              have hb5 := below_then hb5a hb5b
              have HV5 := Lib.hid (HV4.out.later hb5)
              have HD5 := Lib.hid (HD4.out.later hb5)
              have HU5 := Lib.hid (HU4.out.later hb5)
              have Ht5 := Lib.hid (Ht4.out.later hb5)
              have Hg5 := Lib.hid (Hg4.out.later hb5)
              have Hb5 := Lib.hid (below_then Hb4.out hb5)
              obtain ⟨d0, d1⟩ := HD5.out.two
              obtain ⟨u0, u1⟩ := HU5.out.two
              clear hb5a hb5b hb5 HV4 HD4 HU4 Ht4 Hg4 C1
              have CLN := Lib.hid (fun W (h : Below w5.heap.size w5 W) => cloneU_any l _ W (HV5.out.later h) hl32)
              have GD := Lib.hid (fun (v : Value) (W : World) (h : UsV W v (l ++ [⟨un, us⟩])) (hb : Below w5.heap.size w5 W) => by
                have := check_any (l ++ [⟨un, us⟩]) v n s c id W h hll hsl (Ht5.out.later hb) (Hg5.out.later hb)
                rw [Hmore.out] at this
                exact this)
              have KEEP := Lib.hid (fun (W : World) (h : Below w5.heap.size w5 W) => show Below w5.heap.size w5 W ∧ W.cell? ⟨w.heap.size, 0, none⟩ = some (.int .i64 id) ∧ W.cell? ⟨w.heap.size, 1, none⟩ = some (.string (S c)) ∧ W.cell? ⟨W1.heap.size, 0, none⟩ = some (.string (S un)) ∧ W.cell? ⟨W1.heap.size, 1, none⟩ = some (.string (S us)) from ⟨h, (HD5.out.later h).cell 0, (HD5.out.later h).cell 1, (HU5.out.later h).cell 0, (HU5.out.later h).cell 1⟩)
              clear d0 d1 u0 u1
              go_wp2_with fail
              refine wp_region_held (S := (fun w' => Below w5.heap.size w5 w' ∧ w'.cell? ⟨w.heap.size, 0, none⟩ = some (.int .i64 id) ∧ w'.cell? ⟨w.heap.size, 1, none⟩ = some (.string (S c)) ∧ w'.cell? ⟨W1.heap.size, 0, none⟩ = some (.string (S un)) ∧ w'.cell? ⟨W1.heap.size, 1, none⟩ = some (.string (S us)))) (by kernel_rfl) ?_
              have e9 : Below w5.heap.size w5 { w5 with drawn := w5.drawn + 1 } := (Below.refl _ _).drew
              generalize ({ w5 with drawn := w5.drawn + 1 } : World) = w6 at e9 ⊢
              have hS := KEEP.out _ e9
              refine takeN (.slice p l.length cp) (some 77) (i := 0) rfl rfl (by kernel_rfl) (by kernel_rfl) (by kernel_rfl) (fun _ _ _ h => h) (Or.inl ⟨by rfl, fun w' hw' => ?_⟩) hS ?_
              · obtain ⟨_, k0, k1, k2, k3⟩ := hw'
                go_simp
              simp only [Act.put, List.setIfInBounds_toArray, List.set_cons_succ, List.set_cons_zero]
              refine takeN (.agg #[.string (S un), .string (S us)]) (some 79) (i := 2) rfl rfl (by kernel_rfl) (by kernel_rfl) (by kernel_rfl) (fun _ _ _ h => h) (Or.inl ⟨by rfl, fun w' hw' => ?_⟩) hS ?_
              · obtain ⟨_, k0, k1, k2, k3⟩ := hw'
                go_simp
              simp only [Act.put, List.setIfInBounds_toArray, List.set_cons_succ, List.set_cons_zero]
              refine takeN (.string (S n)) (some 82) (i := 5) rfl rfl (by kernel_rfl) (by kernel_rfl) (by kernel_rfl) (fun _ _ _ h => h) (Or.inl ⟨by rfl, fun w' hw' => ?_⟩) hS ?_
              · obtain ⟨_, k0, k1, k2, k3⟩ := hw'
                go_simp
              simp only [Act.put, List.setIfInBounds_toArray, List.set_cons_succ, List.set_cons_zero]
              refine takeN (.string (S s)) (some 83) (i := 6) rfl rfl (by kernel_rfl) (by kernel_rfl) (by kernel_rfl) (fun _ _ _ h => h) (Or.inl ⟨by rfl, fun w' hw' => ?_⟩) hS ?_
              · obtain ⟨_, k0, k1, k2, k3⟩ := hw'
                go_simp
              simp only [Act.put, List.setIfInBounds_toArray, List.set_cons_succ, List.set_cons_zero]
              refine takeN (.agg #[.int .i64 id, .string (S c)]) (some 84) (i := 7) rfl rfl (by kernel_rfl) (by kernel_rfl) (by kernel_rfl) (fun _ _ _ h => h) (Or.inl ⟨by rfl, fun w' hw' => ?_⟩) hS ?_
              · obtain ⟨_, k0, k1, k2, k3⟩ := hw'
                go_simp
              simp only [Act.put, List.setIfInBounds_toArray, List.set_cons_succ, List.set_cons_zero]
              refine wpAnyH_all (rs := [1, 3]) (by kernel_rfl) (by simp) (fun i hi => ?_)
              rcases (show i = 1 ∨ i = 3 by simpa using hi) with rfl | rfl
              · refine wantN (i := 1) rfl (by rfl) (callN (f := 16) (some 78) rfl Tryd.func16 (by kernel_rfl) (by kernel_rfl) rfl rfl ?_)
                simp only [List.map_toArray, List.map_cons, List.map_nil]
                refine (CLN.out _ e9).mono ?_
                rintro e w7 ⟨v7, rfl, hcl7, hb7⟩
                have hw7 := below_then e9 hb7
                obtain ⟨p7, c7, rfl⟩ := hcl7.form
                have hcl7 := hcl7.mono e9.size
                have hS7 := KEEP.out _ hw7
                refine ⟨_, rfl, hS7, ?_⟩
                try dsimp only
                simp only [Act.put, List.setIfInBounds_toArray, List.set_cons_succ, List.set_cons_zero]
                refine wpAnyH_all (rs := [3]) (by kernel_rfl) (by simp) (fun i hi => ?_)
                obtain rfl : i = 3 := by simpa using hi
                have hbA := hw7.alloc hw7.size (.cells #[.string (S un), .string (S us)] 27)
                have NB := appU_big un us w7 _ l.length w5.heap.size rfl hl32 hw7.size
                have hO := hcl7.alloc (.cells #[.string (S un), .string (S us)] 27)
                refine wantN (i := 3) rfl (by rfl) (buildU un us (some 80) rfl _ rfl rfl ⟨KEEP.out _ hbA, ?_⟩)
                generalize hab : (⟨w7.heap.size, 0, none⟩ : Addr) = ab at NB ⊢
                generalize w7.alloc (.cells #[.string (S un), .string (S us)] 27) = w8 at hbA NB hO ⊢
                simp only [Act.put, List.setIfInBounds_toArray, List.set_cons_succ, List.set_cons_zero]
                refine wpAnyH_all (rs := [4]) (by kernel_rfl) (by simp) (fun i hi => ?_)
                obtain rfl : i = 4 := by simpa using hi
                refine wantN (i := 4) rfl (by rfl) (appU (some 81) rfl _ _ rfl rfl hO rfl NB ?_)
                intro v8 w9 hp8 hgrow8
                have hw9 := hbA.grown hgrow8 hbA.size hO.ge
                have G8 := Lib.hid (GD.out _ _ hp8.us hw9)
                refine ⟨KEEP.out _ hw9, ?_⟩
                try dsimp only
                simp only [Act.put, List.setIfInBounds_toArray, List.set_cons_succ, List.set_cons_zero]
                clear hgrow8 hp8
                refine wpAnyH_all (rs := [8]) (by kernel_rfl) (by simp) (fun i hi => ?_)
                obtain rfl : i = 8 := by simpa using hi
                refine wantN (i := 8) rfl (by rfl) (callN (f := 11) (some 85) rfl Tryd.func11 (by kernel_rfl) (by kernel_rfl) rfl rfl ?_)
                simp only [List.map_toArray, List.map_cons, List.map_nil]
                refine G8.out.mono ?_
                rintro e w10 ⟨rfl, hb9⟩
                have hw10 := below_then hw9 hb9
                have T9 := Lib.hid (T.out w10 (Hg5.out.later hw10))
                refine ⟨_, rfl, KEEP.out _ hw10, ?_⟩
                try dsimp only
                simp only [Act.put, List.setIfInBounds_toArray, List.set_cons_succ, List.set_cons_zero]
                refine wpAnyH_all (rs := [9]) (by kernel_rfl) (by simp) (fun i hi => ?_)
                obtain rfl : i = 9 := by simpa using hi
                refine wantN (i := 9) rfl (by rfl) (callN (f := 15) (some 86) rfl Tryd.func15 (by kernel_rfl) (by kernel_rfl) rfl rfl ?_)
                simp only [List.map_toArray, List.map_cons, List.map_nil]
                refine T9.out.mono ?_
                rintro e w11 ⟨rfl, hb11⟩
                have hw11 := below_then hw10 hb11
                have hS11 := KEEP.out _ hw11
                refine ⟨_, rfl, hS11, ?_⟩
                try dsimp only
                simp only [Act.put, List.setIfInBounds_toArray, List.set_cons_succ, List.set_cons_zero]
                refine takeN (.int .i64 N) (some 16) (i := 10) rfl rfl (by kernel_rfl) (by kernel_rfl) (by kernel_rfl) (fun _ _ _ h => h) (Or.inl ⟨by rfl, fun w' hw' => ?_⟩) hS11 ?_
                · obtain ⟨_, k0, k1, k2, k3⟩ := hw'
                  go_simp
                simp only [Act.put, List.setIfInBounds_toArray, List.set_cons_succ, List.set_cons_zero]
                refine wpAnyH_done (by kernel_rfl) ?_ _
                have HwE := Lib.hid (below_then Hb5.out hw11)
                clear hb11 hw11 hS11 T9 hw10 hb9 G8 hw9 hbA hO NB hw7 hcl7 hS7 hS e9
                go_wp2_with fail
                go_ret
                exact ⟨by simp, HwE.out⟩
              · have hbA := e9.alloc e9.size (.cells #[.string (S un), .string (S us)] 27)
                have NB := appU_big un us w6 _ l.length w5.heap.size rfl hl32 e9.size
                refine wantN (i := 3) rfl (by rfl) (buildU un us (some 80) rfl _ rfl rfl ⟨KEEP.out _ hbA, ?_⟩)
                generalize hab : (⟨w6.heap.size, 0, none⟩ : Addr) = ab at NB ⊢
                generalize w6.alloc (.cells #[.string (S un), .string (S us)] 27) = w7 at hbA NB ⊢
                simp only [Act.put, List.setIfInBounds_toArray, List.set_cons_succ, List.set_cons_zero]
                refine wpAnyH_all (rs := [1]) (by kernel_rfl) (by simp) (fun i hi => ?_)
                obtain rfl : i = 1 := by simpa using hi
                refine wantN (i := 1) rfl (by rfl) (callN (f := 16) (some 78) rfl Tryd.func16 (by kernel_rfl) (by kernel_rfl) rfl rfl ?_)
                simp only [List.map_toArray, List.map_cons, List.map_nil]
                refine (CLN.out _ hbA).mono ?_
                rintro e w8 ⟨v7, rfl, hcl7, hb7⟩
                have hw8 := below_then hbA hb7
                obtain ⟨p7, c7, rfl⟩ := hcl7.form
                have hO := hcl7.mono hbA.size
                have hNB1 : Hid (∀ j u, ([.string (S un), .string (S us)] : List Value)[j]? = some u → w8.cell? (ab.add j) = some u) := Lib.hid (fun j u hu => (hb7.cell (block_lt_of_cell (NB.1.out j u hu))).trans (NB.1.out j u hu))
                have NB := (⟨hNB1, NB.2.1, NB.2.2.1, NB.2.2.2.1, Lib.hid hw8.size⟩ : _ ∧ _ ∧ _ ∧ _ ∧ Hid (w5.heap.size ≤ w8.heap.size))
                refine ⟨_, rfl, KEEP.out _ hw8, ?_⟩
                try dsimp only
                simp only [Act.put, List.setIfInBounds_toArray, List.set_cons_succ, List.set_cons_zero]
                refine wpAnyH_all (rs := [4]) (by kernel_rfl) (by simp) (fun i hi => ?_)
                obtain rfl : i = 4 := by simpa using hi
                refine wantN (i := 4) rfl (by rfl) (appU (some 81) rfl _ _ rfl rfl hO rfl NB ?_)
                intro v8 w9 hp8 hgrow8
                have hw9 := hw8.grown hgrow8 hw8.size hO.ge
                have G8 := Lib.hid (GD.out _ _ hp8.us hw9)
                refine ⟨KEEP.out _ hw9, ?_⟩
                try dsimp only
                simp only [Act.put, List.setIfInBounds_toArray, List.set_cons_succ, List.set_cons_zero]
                clear hgrow8 hp8
                refine wpAnyH_all (rs := [8]) (by kernel_rfl) (by simp) (fun i hi => ?_)
                obtain rfl : i = 8 := by simpa using hi
                refine wantN (i := 8) rfl (by rfl) (callN (f := 11) (some 85) rfl Tryd.func11 (by kernel_rfl) (by kernel_rfl) rfl rfl ?_)
                simp only [List.map_toArray, List.map_cons, List.map_nil]
                refine G8.out.mono ?_
                rintro e w10 ⟨rfl, hb9⟩
                have hw10 := below_then hw9 hb9
                have T9 := Lib.hid (T.out w10 (Hg5.out.later hw10))
                refine ⟨_, rfl, KEEP.out _ hw10, ?_⟩
                try dsimp only
                simp only [Act.put, List.setIfInBounds_toArray, List.set_cons_succ, List.set_cons_zero]
                refine wpAnyH_all (rs := [9]) (by kernel_rfl) (by simp) (fun i hi => ?_)
                obtain rfl : i = 9 := by simpa using hi
                refine wantN (i := 9) rfl (by rfl) (callN (f := 15) (some 86) rfl Tryd.func15 (by kernel_rfl) (by kernel_rfl) rfl rfl ?_)
                simp only [List.map_toArray, List.map_cons, List.map_nil]
                refine T9.out.mono ?_
                rintro e w11 ⟨rfl, hb11⟩
                have hw11 := below_then hw10 hb11
                have hS11 := KEEP.out _ hw11
                refine ⟨_, rfl, hS11, ?_⟩
                try dsimp only
                simp only [Act.put, List.setIfInBounds_toArray, List.set_cons_succ, List.set_cons_zero]
                refine takeN (.int .i64 N) (some 16) (i := 10) rfl rfl (by kernel_rfl) (by kernel_rfl) (by kernel_rfl) (fun _ _ _ h => h) (Or.inl ⟨by rfl, fun w' hw' => ?_⟩) hS11 ?_
                · obtain ⟨_, k0, k1, k2, k3⟩ := hw'
                  go_simp
                simp only [Act.put, List.setIfInBounds_toArray, List.set_cons_succ, List.set_cons_zero]
                refine wpAnyH_done (by kernel_rfl) ?_ _
                have HwE := Lib.hid (below_then Hb5.out hw11)
                clear hb11 hw11 hS11 T9 hw10 hb9 G8 hw9 hw8 hbA hO NB hS e9
                go_wp2_with fail
                go_ret
                exact ⟨by simp, HwE.out⟩
end Go.Proofs.YtoponmdfjbhnoaaDoor
