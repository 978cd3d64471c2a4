/- NegoMade: one more may be had just if it isn't had yet and fits. -/
import Derived.Test.YteapbjeapnmloaaGreatDoorGJ
import Derived.Test.YteapbjeapnmloaaGreatDoorSole
import Derived.Test.YteapbjeapnmloaaGreatDoorAppBig
import Derived.Test.YteapbjeapnmloaaGreatDoorGK
import Derived.Test.YteapbjeapnmloaaGreatDoorPlaceAt
namespace Go.Proofs.YteapbjeapnmloaaGreatDoor
open Go Go.RowKit
set_option linter.unusedVariables false
set_option maxRecDepth 100000 in
set_option maxHeartbeats 4000000 in
theorem negoMade_any (l : List Pr) (v : Value) (x : Pr) (w : World) (hv : PrsV w v l) (hf : WideP l) (hx : x.k.length ≤ 140737488351232 ∧ x.v.length ≤ 140737488351232) (hE : Env w) (hg : ErrCell w) :
    Calls Tryz.prog 15 #[v, .agg #[.string (S x.k), .string (S x.v)]] w fun e w' => e = .returned (.bool true) ∧ Below w.heap.size w w' := by
  obtain ⟨p, c, rfl⟩ := hv.form
  obtain ⟨k, d⟩ := x
  simp only at hx ⊢
  obtain ⟨wp, hwp⟩ : ∃ wp, w.alloc (.cells #[.string (S k), .string (S d)] 35) = wp := ⟨_, rfl⟩
  have hbp : Below w.heap.size w wp := by rw [← hwp]; exact (Below.refl _ _).alloc (Nat.le_refl _) _
  have HK0 := Lib.hid (show Blk wp w.heap.size #[.string (S k), .string (S d)] 35 by rw [← hwp]; exact Blk.new w _ _)
  have HV := Lib.hid (hv.later hbp)
  have HF := Lib.hid hf.1
  have hl32 := hf.2
  have HX := Lib.hid hx
  have HE := Lib.hid (hE.later hbp)
  have Hg := Lib.hid (hg.later hbp)
  have F := Lib.hid (settled_any wp HE.out Hg.out)
  have Hbp := Lib.hid hbp
  clear hv hE hg hf hx hbp
  go_enter Tryz.func15, Tryz.ntmps15
  go_wp2_with fail
  refine F.out.mono ?_
  rintro e w0 ⟨rfl, hb0⟩
  have Hb0 := Lib.hid hb0
  clear hb0 F
  have KY := Lib.hid (keyed_any w0 (HE.out.later Hb0.out) (Hg.out.later Hb0.out))
  go_wp2_with fail
  refine KY.out.mono ?_
  rintro e w0k ⟨rfl, hbk⟩
  have Hb0 := Lib.hid (below_then Hb0.out hbk)
  clear hbk KY
  have PD := Lib.hid (paired_any w0k (HE.out.mc.later Hb0.out))
  go_wp2_with fail
  refine PD.out.mono ?_
  rintro e w0p ⟨rfl, hbp⟩
  have Hb0 := Lib.hid (below_then Hb0.out hbp)
  clear hbp PD
  have M := Lib.hid (made_any (w := w0p) l _ Hb0.out HV.out HF.out HE.out Hg.out)
  go_wp2_with fail
  refine M.out.mono ?_
  rintro e w1 hM
  clear M
  rcases hM with ⟨rfl, hb1⟩ | ⟨nb, mv, rfl, hS1, hbf1, hge1, hb1⟩
  · have Hb1 := Lib.hid (below_then Hb0.out hb1)
    clear hb1
    go_wp2_with fail
    go_ret
    exact ⟨rfl, below_then Hbp.out Hb1.out⟩
  have HS1 := Lib.hid hS1
  clear hS1 hbf1 hge1 hb1
  have hl60 := HS1.out.ok.few
  by_cases h60 : (l.length : Int) = 60
  · go_wp2_with fail
    go_ret
    exact ⟨rfl, below_then Hbp.out HS1.out.low⟩
  obtain ⟨w2, hw2⟩ : ∃ w2, w1.alloc (.cells #[.string (S k), .string (S d)] 35) = w2 := ⟨_, rfl⟩
  have hb2 : Below w1.heap.size w1 w2 := by rw [← hw2]; exact (Below.refl _ _).alloc (Nat.le_refl _) _
  have hl2 := lit_one HS1.out ⟨k, d⟩
  simp only at hl2
  rw [hw2] at hl2
  have Hb2 := Lib.hid (below_then HS1.out.low hb2)
  have R := right_prs [⟨k, d⟩] _ w2 hl2.off ⟨by simp, fun q hq => by rw [List.mem_singleton.1 hq]; have := HX.out; simp only; omega⟩
  rw [right_sole] at R
  have R := Lib.hid R
  have HM := Lib.hid HS1.out.ok
  obtain ⟨q0, q1⟩ := (HK0.out.later HS1.out.low).two
  clear hb2 hl2 
  go_wp2_with fail
  refine R.out.mono ?_
  rintro e w3 ⟨ev, rfl, he, hb3⟩
  have Hb3 := Lib.hid (below_then Hb2.out hb3)
  have HK3 := Lib.hid (HK0.out.later Hb3.out)
  by_cases hR : wrongP ⟨k, d⟩ = 0
  case neg =>
    rw [if_neg hR] at he
    obtain ⟨te, xe, rfl⟩ := he.iface hR
    clear he hb3 R q0 q1
    go_wp2_with fail
    go_ret
    exact ⟨rfl, below_then Hbp.out Hb3.out⟩
  rw [if_pos hR] at he
  obtain rfl := he.zero
  have HR0 := Lib.hid hR
  have CLN := Lib.hid (fun W (h : Below w3.heap.size w3 W) => cloneP_any l _ W (HV.out.later (below_then Hb3.out h)) hl32)
  have NW := Lib.hid (fun (v : Value) (W : World) (h : PrsV W v (l ++ [⟨k, d⟩])) (hb : Below w3.heap.size w3 W) => new_snoc HM.out (by omega) HF.out HR0.out h (HE.out.later (below_then Hb3.out hb)) (Hg.out.later (below_then Hb3.out hb)))
  have KEEP := Lib.hid (fun (W : World) (h : Below w3.heap.size w3 W) => show Below w3.heap.size w3 W ∧ W.cell? ⟨w.heap.size, 0, none⟩ = some (.string (S k)) ∧ W.cell? ⟨w.heap.size, 1, none⟩ = some (.string (S d)) from ⟨h, (HK3.out.later h).cell 0, (HK3.out.later h).cell 1⟩)
  clear he hb3 R q0 q1 hR hwp hw2 HS1
  go_wp2_with fail
  refine wp_region_held (S := (fun w' => Below w3.heap.size w3 w' ∧ w'.cell? ⟨w.heap.size, 0, none⟩ = some (.string (S k)) ∧ w'.cell? ⟨w.heap.size, 1, none⟩ = some (.string (S d)))) (by kernel_rfl) ?_
  have e9 : Below w3.heap.size w3 { w3 with drawn := w3.drawn + 1 } := (Below.refl _ _).drew
  generalize ({ w3 with drawn := w3.drawn + 1 } : World) = w4 at e9 ⊢
  have hS := KEEP.out _ e9
  refine takeN (.slice p l.length c) (some 37) (i := 0) rfl rfl (by kernel_rfl) (by kernel_rfl) (by kernel_rfl) (fun _ _ _ h => h) (Or.inl ⟨by rfl, fun w' hw' => ?_⟩) hS ?_
  · obtain ⟨_, k0, k1⟩ := hw'
    go_simp
  simp only [Act.put, List.setIfInBounds_toArray, List.set_cons_succ, List.set_cons_zero]
  refine takeN (.agg #[.string (S k), .string (S d)]) (some 39) (i := 2) rfl rfl (by kernel_rfl) (by kernel_rfl) (by kernel_rfl) (fun _ _ _ h => h) (Or.inl ⟨by rfl, fun w' hw' => ?_⟩) hS ?_
  · obtain ⟨_, k0, k1⟩ := hw'
    go_simp
  simp only [Act.put, List.setIfInBounds_toArray, List.set_cons_succ, List.set_cons_zero]
  refine wpAnyH_all (rs := [1, 3]) (by kernel_rfl) (by simp) (fun i hi => ?_)
  rcases (show i = 1 ∨ i = 3 by simpa using hi) with rfl | rfl
  · refine wantN (i := 1) rfl (by rfl) (callN (f := 41) (some 38) rfl Tryz.func41 (by kernel_rfl) (by kernel_rfl) rfl rfl ?_)
    simp only [List.map_toArray, List.map_cons, List.map_nil]
    refine (CLN.out _ e9).mono ?_
    rintro e w7 ⟨v7, rfl, hcl7, hb7⟩
    have hw7 := below_then e9 hb7
    obtain ⟨p7, c7, rfl⟩ := hcl7.form
    have hcl7 := hcl7.mono e9.size
    have hS7 := KEEP.out _ hw7
    refine ⟨_, rfl, hS7, ?_⟩
    try dsimp only
    simp only [Act.put, List.setIfInBounds_toArray, List.set_cons_succ, List.set_cons_zero]
    refine wpAnyH_all (rs := [3]) (by kernel_rfl) (by simp) (fun i hi => ?_)
    obtain rfl : i = 3 := by simpa using hi
    have hbA := hw7.alloc hw7.size (.cells #[.string (S k), .string (S d)] 35)
    have NB := appP_big k d w7 _ l.length w3.heap.size rfl hl32 hw7.size
    have hO := hcl7.alloc (.cells #[.string (S k), .string (S d)] 35)
    refine wantN (i := 3) rfl (by rfl) (buildN k d (some 40) rfl _ rfl rfl ⟨KEEP.out _ hbA, ?_⟩)
    generalize hab : (⟨w7.heap.size, 0, none⟩ : Addr) = ab at NB ⊢
    generalize w7.alloc (.cells #[.string (S k), .string (S d)] 35) = w8 at hbA NB hO ⊢
    simp only [Act.put, List.setIfInBounds_toArray, List.set_cons_succ, List.set_cons_zero]
    refine wpAnyH_all (rs := [4]) (by kernel_rfl) (by simp) (fun i hi => ?_)
    obtain rfl : i = 4 := by simpa using hi
    refine wantN (i := 4) rfl (by rfl) (appN (some 41) rfl _ _ rfl rfl hO rfl NB ?_)
    intro v8 w9 hp8 hgrow8
    have hw9 := hbA.grown hgrow8 hbA.size hO.ge
    have G8 := Lib.hid (NW.out _ _ hp8.prs hw9)
    refine ⟨KEEP.out _ hw9, ?_⟩
    try dsimp only
    simp only [Act.put, List.setIfInBounds_toArray, List.set_cons_succ, List.set_cons_zero]
    clear hgrow8 hp8
    refine wpAnyH_all (rs := [5]) (by kernel_rfl) (by simp) (fun i hi => ?_)
    obtain rfl : i = 5 := by simpa using hi
    refine wantN (i := 5) rfl (by rfl) (callN (f := 43) (some 42) rfl Tryz.func43 (by kernel_rfl) (by kernel_rfl) rfl rfl ?_)
    simp only [List.map_toArray, List.map_cons, List.map_nil]
    refine G8.out.mono ?_
    rintro e w10 ⟨rv, ev9, rfl, hr9, hb9⟩
    have hw10 := below_then hw9 hb9
    have hS10 := KEEP.out _ hw10
    refine ⟨_, rfl, hS10, ?_⟩
    try dsimp only
    simp only [Act.put, List.setIfInBounds_toArray, List.set_cons_succ, List.set_cons_zero]
    refine takeN (.tuple #[rv, ev9]) (some 36) (i := 6) rfl rfl (by kernel_rfl) (by kernel_rfl) (by kernel_rfl) (fun _ _ _ h => h) (Or.inl ⟨by rfl, fun w' hw' => ?_⟩) hS10 ?_
    · obtain ⟨_, k0, k1⟩ := hw'
      go_simp
    simp only [Act.put, List.setIfInBounds_toArray, List.set_cons_succ, List.set_cons_zero]
    refine takeN (rv) (some 43) (i := 7) rfl rfl (by kernel_rfl) (by kernel_rfl) (by kernel_rfl) (fun _ _ _ h => h) (Or.inl ⟨by rfl, fun w' hw' => ?_⟩) hS10 ?_
    · obtain ⟨_, k0, k1⟩ := hw'
      go_simp
    simp only [Act.put, List.setIfInBounds_toArray, List.set_cons_succ, List.set_cons_zero]
    refine takeN (ev9) (some 44) (i := 8) rfl rfl (by kernel_rfl) (by kernel_rfl) (by kernel_rfl) (fun _ _ _ h => h) (Or.inl ⟨by rfl, fun w' hw' => ?_⟩) hS10 ?_
    · obtain ⟨_, k0, k1⟩ := hw'
      go_simp
    simp only [Act.put, List.setIfInBounds_toArray, List.set_cons_succ, List.set_cons_zero]
    refine takeN (rv) (some 5) (i := 9) rfl rfl (by kernel_rfl) (by kernel_rfl) (by kernel_rfl) (fun _ _ _ h => h) (Or.inl ⟨by rfl, fun w' hw' => ?_⟩) hS10 ?_
    · obtain ⟨_, k0, k1⟩ := hw'
      go_simp
    simp only [Act.put, List.setIfInBounds_toArray, List.set_cons_succ, List.set_cons_zero]
    refine takeN (ev9) (some 6) (i := 10) rfl rfl (by kernel_rfl) (by kernel_rfl) (by kernel_rfl) (fun _ _ _ h => h) (Or.inl ⟨by rfl, fun w' hw' => ?_⟩) hS10 ?_
    · obtain ⟨_, k0, k1⟩ := hw'
      go_simp
    simp only [Act.put, List.setIfInBounds_toArray, List.set_cons_succ, List.set_cons_zero]
    refine wpAnyH_done (by kernel_rfl) ?_ _
    have Hw9 := Lib.hid hw10
    have HR9 := Lib.hid hr9
    clear hr9 hb9 hw10 hS10 G8 hw9 hbA hO NB hS e9
    have Hb9 := Lib.hid (below_then Hb3.out Hw9.out)
    obtain ⟨u0, u1⟩ := (HK0.out.later Hb9.out).two
    have FD := find_prs l k _ w10 (HV.out.later Hb9.out) HF.out.1
    have hd255 := (isVal_is (wrongP_ok HR0.out).2).1
    have HNS := Lib.hid HR9.out
    obtain ⟨z, b, hfd, hin⟩ := find_keys l k
    rw [hfd] at FD
    have FD := Lib.hid FD
    have Hin := Lib.hid hin
    clear hfd hin
    go_wp2_with fail
    refine FD.out.mono ?_
    rintro e wa ⟨rfl, hb10⟩
    have Hb10 := Lib.hid (below_then Hb9.out hb10)
    have HNS := Lib.hid (HNS.out.later hb10)
    obtain ⟨u0', u1'⟩ := (HK0.out.later Hb10.out).two
    have FT := Lib.hid (fits_any k d wa (by omega) (HE.out.later Hb10.out))
    clear FD hb10 u0 u1
    go_wp2_with fail
    refine FT.out.mono ?_
    rintro e w11 ⟨rfl, hb11⟩
    have Hb11 := Lib.hid (below_then Hb10.out hb11)
    have hns := HNS.out.later hb11
    clear FT hb11 u0' u1' HNS
    rcases hns with ⟨hk, rfl, he⟩ | ⟨hk, hfit, ⟨nb9, rfl⟩, rfl⟩ | ⟨hk, hfit, rfl, he⟩
    · obtain ⟨te, xe, rfl⟩ := he.iface (by decide)
      obtain rfl := Hin.out.1 hk
      have P := Lib.hid (place_is he (Hg.out.later Hb11.out))
      clear he
      obtain ⟨ev11, hev⟩ : ∃ ev11, errV (keyFits k d : Int) = ev11 := ⟨_, rfl⟩
      rw [hev]
      go_wp2_with fail
      refine P.out.mono ?_
      rintro e w12 ⟨rfl, hb12⟩
      have Hb12 := Lib.hid (below_then Hb11.out hb12)
      clear hb12 P
      go_wp2_with fail
      go_ret
      exact ⟨rfl, below_then Hbp.out Hb12.out⟩
    · have hbf : b = false := by
        cases b with
        | false => rfl
        | true => exact absurd (Hin.out.2 rfl) hk
      subst hbf
      rw [hfit]
      simp only [Int.natCast_zero, errV_0]
      go_wp2_with fail
      go_ret
      exact ⟨rfl, below_then Hbp.out Hb11.out⟩
    · have hbf : b = false := by
        cases b with
        | false => rfl
        | true => exact absurd (Hin.out.2 rfl) hk
      subst hbf
      rw [errV_ne hfit]
      obtain ⟨te, xe, rfl⟩ := he.iface (by omega)
      have P := Lib.hid (place_is he (Hg.out.later Hb11.out))
      clear he
      obtain ⟨nf, hnf⟩ : ∃ nf : Int, (keyFits k d : Int) = nf := ⟨_, rfl⟩
      rw [hnf] at P ⊢
      have hnn : (nf == nf) = true := by simp
      go_wp2_with fail
      refine P.out.mono ?_
      rintro e w12 ⟨rfl, hb12⟩
      have Hb12 := Lib.hid (below_then Hb11.out hb12)
      have T := Lib.hid (tell_err nf w12 (Hg.out.later Hb12.out))
      clear hb12 P
      go_wp2_with fail
      refine T.out.mono ?_
      rintro e w13 ⟨rfl, hb13⟩
      have Hb13 := Lib.hid (below_then Hb12.out hb13)
      clear hb13 T
      go_wp2_with fail
      go_ret
      exact ⟨rfl, below_then Hbp.out Hb13.out⟩
  · have hbA := e9.alloc e9.size (.cells #[.string (S k), .string (S d)] 35)
    have NB := appP_big k d w4 _ l.length w3.heap.size rfl hl32 e9.size
    refine wantN (i := 3) rfl (by rfl) (buildN k d (some 40) rfl _ rfl rfl ⟨KEEP.out _ hbA, ?_⟩)
    generalize hab : (⟨w4.heap.size, 0, none⟩ : Addr) = ab at NB ⊢
    generalize w4.alloc (.cells #[.string (S k), .string (S d)] 35) = w5 at hbA NB ⊢
    simp only [Act.put, List.setIfInBounds_toArray, List.set_cons_succ, List.set_cons_zero]
    refine wpAnyH_all (rs := [1]) (by kernel_rfl) (by simp) (fun i hi => ?_)
    obtain rfl : i = 1 := by simpa using hi
    refine wantN (i := 1) rfl (by rfl) (callN (f := 41) (some 38) rfl Tryz.func41 (by kernel_rfl) (by kernel_rfl) rfl rfl ?_)
    simp only [List.map_toArray, List.map_cons, List.map_nil]
    refine (CLN.out _ hbA).mono ?_
    rintro e w8 ⟨v7, rfl, hcl7, hb7⟩
    have hw8 := below_then hbA hb7
    obtain ⟨p7, c7, rfl⟩ := hcl7.form
    have hO := hcl7.mono hbA.size
    have hNB1 : Hid (∀ j u, ([.string (S k), .string (S d)] : List Value)[j]? = some u → w8.cell? (ab.add j) = some u) := Lib.hid (fun j u hu => (hb7.cell (block_lt_of_cell (NB.1.out j u hu))).trans (NB.1.out j u hu))
    have NB := (⟨hNB1, NB.2.1, NB.2.2.1, NB.2.2.2.1, Lib.hid hw8.size⟩ : _ ∧ _ ∧ _ ∧ _ ∧ Hid (w3.heap.size ≤ w8.heap.size))
    refine ⟨_, rfl, KEEP.out _ hw8, ?_⟩
    try dsimp only
    simp only [Act.put, List.setIfInBounds_toArray, List.set_cons_succ, List.set_cons_zero]
    refine wpAnyH_all (rs := [4]) (by kernel_rfl) (by simp) (fun i hi => ?_)
    obtain rfl : i = 4 := by simpa using hi
    refine wantN (i := 4) rfl (by rfl) (appN (some 41) rfl _ _ rfl rfl hO rfl NB ?_)
    intro v8 w9 hp8 hgrow8
    have hw9 := hw8.grown hgrow8 hw8.size hO.ge
    have G8 := Lib.hid (NW.out _ _ hp8.prs hw9)
    refine ⟨KEEP.out _ hw9, ?_⟩
    try dsimp only
    simp only [Act.put, List.setIfInBounds_toArray, List.set_cons_succ, List.set_cons_zero]
    clear hgrow8 hp8
    refine wpAnyH_all (rs := [5]) (by kernel_rfl) (by simp) (fun i hi => ?_)
    obtain rfl : i = 5 := by simpa using hi
    refine wantN (i := 5) rfl (by rfl) (callN (f := 43) (some 42) rfl Tryz.func43 (by kernel_rfl) (by kernel_rfl) rfl rfl ?_)
    simp only [List.map_toArray, List.map_cons, List.map_nil]
    refine G8.out.mono ?_
    rintro e w10 ⟨rv, ev9, rfl, hr9, hb9⟩
    have hw10 := below_then hw9 hb9
    have hS10 := KEEP.out _ hw10
    refine ⟨_, rfl, hS10, ?_⟩
    try dsimp only
    simp only [Act.put, List.setIfInBounds_toArray, List.set_cons_succ, List.set_cons_zero]
    refine takeN (.tuple #[rv, ev9]) (some 36) (i := 6) rfl rfl (by kernel_rfl) (by kernel_rfl) (by kernel_rfl) (fun _ _ _ h => h) (Or.inl ⟨by rfl, fun w' hw' => ?_⟩) hS10 ?_
    · obtain ⟨_, k0, k1⟩ := hw'
      go_simp
    simp only [Act.put, List.setIfInBounds_toArray, List.set_cons_succ, List.set_cons_zero]
    refine takeN (rv) (some 43) (i := 7) rfl rfl (by kernel_rfl) (by kernel_rfl) (by kernel_rfl) (fun _ _ _ h => h) (Or.inl ⟨by rfl, fun w' hw' => ?_⟩) hS10 ?_
    · obtain ⟨_, k0, k1⟩ := hw'
      go_simp
    simp only [Act.put, List.setIfInBounds_toArray, List.set_cons_succ, List.set_cons_zero]
    refine takeN (ev9) (some 44) (i := 8) rfl rfl (by kernel_rfl) (by kernel_rfl) (by kernel_rfl) (fun _ _ _ h => h) (Or.inl ⟨by rfl, fun w' hw' => ?_⟩) hS10 ?_
    · obtain ⟨_, k0, k1⟩ := hw'
      go_simp
    simp only [Act.put, List.setIfInBounds_toArray, List.set_cons_succ, List.set_cons_zero]
    refine takeN (rv) (some 5) (i := 9) rfl rfl (by kernel_rfl) (by kernel_rfl) (by kernel_rfl) (fun _ _ _ h => h) (Or.inl ⟨by rfl, fun w' hw' => ?_⟩) hS10 ?_
    · obtain ⟨_, k0, k1⟩ := hw'
      go_simp
    simp only [Act.put, List.setIfInBounds_toArray, List.set_cons_succ, List.set_cons_zero]
    refine takeN (ev9) (some 6) (i := 10) rfl rfl (by kernel_rfl) (by kernel_rfl) (by kernel_rfl) (fun _ _ _ h => h) (Or.inl ⟨by rfl, fun w' hw' => ?_⟩) hS10 ?_
    · obtain ⟨_, k0, k1⟩ := hw'
      go_simp
    simp only [Act.put, List.setIfInBounds_toArray, List.set_cons_succ, List.set_cons_zero]
    refine wpAnyH_done (by kernel_rfl) ?_ _
    have Hw9 := Lib.hid hw10
    have HR9 := Lib.hid hr9
    clear hr9 hb9 hw10 hS10 G8 hw9 hw8 hO NB hS e9
    have Hb9 := Lib.hid (below_then Hb3.out Hw9.out)
    obtain ⟨u0, u1⟩ := (HK0.out.later Hb9.out).two
    have FD := find_prs l k _ w10 (HV.out.later Hb9.out) HF.out.1
    have hd255 := (isVal_is (wrongP_ok HR0.out).2).1
    have HNS := Lib.hid HR9.out
    obtain ⟨z, b, hfd, hin⟩ := find_keys l k
    rw [hfd] at FD
    have FD := Lib.hid FD
    have Hin := Lib.hid hin
    clear hfd hin
    go_wp2_with fail
    refine FD.out.mono ?_
    rintro e wa ⟨rfl, hb10⟩
    have Hb10 := Lib.hid (below_then Hb9.out hb10)
    have HNS := Lib.hid (HNS.out.later hb10)
    obtain ⟨u0', u1'⟩ := (HK0.out.later Hb10.out).two
    have FT := Lib.hid (fits_any k d wa (by omega) (HE.out.later Hb10.out))
    clear FD hb10 u0 u1
    go_wp2_with fail
    refine FT.out.mono ?_
    rintro e w11 ⟨rfl, hb11⟩
    have Hb11 := Lib.hid (below_then Hb10.out hb11)
    have hns := HNS.out.later hb11
    clear FT hb11 u0' u1' HNS
    rcases hns with ⟨hk, rfl, he⟩ | ⟨hk, hfit, ⟨nb9, rfl⟩, rfl⟩ | ⟨hk, hfit, rfl, he⟩
    · obtain ⟨te, xe, rfl⟩ := he.iface (by decide)
      obtain rfl := Hin.out.1 hk
      have P := Lib.hid (place_is he (Hg.out.later Hb11.out))
      clear he
      obtain ⟨ev11, hev⟩ : ∃ ev11, errV (keyFits k d : Int) = ev11 := ⟨_, rfl⟩
      rw [hev]
      go_wp2_with fail
      refine P.out.mono ?_
      rintro e w12 ⟨rfl, hb12⟩
      have Hb12 := Lib.hid (below_then Hb11.out hb12)
      clear hb12 P
      go_wp2_with fail
      go_ret
      exact ⟨rfl, below_then Hbp.out Hb12.out⟩
    · have hbf : b = false := by
        cases b with
        | false => rfl
        | true => exact absurd (Hin.out.2 rfl) hk
      subst hbf
      rw [hfit]
      simp only [Int.natCast_zero, errV_0]
      go_wp2_with fail
      go_ret
      exact ⟨rfl, below_then Hbp.out Hb11.out⟩
    · have hbf : b = false := by
        cases b with
        | false => rfl
        | true => exact absurd (Hin.out.2 rfl) hk
      subst hbf
      rw [errV_ne hfit]
      obtain ⟨te, xe, rfl⟩ := he.iface (by omega)
      have P := Lib.hid (place_is he (Hg.out.later Hb11.out))
      clear he
      obtain ⟨nf, hnf⟩ : ∃ nf : Int, (keyFits k d : Int) = nf := ⟨_, rfl⟩
      rw [hnf] at P ⊢
      have hnn : (nf == nf) = true := by simp
      go_wp2_with fail
      refine P.out.mono ?_
      rintro e w12 ⟨rfl, hb12⟩
      have Hb12 := Lib.hid (below_then Hb11.out hb12)
      have T := Lib.hid (tell_err nf w12 (Hg.out.later Hb12.out))
      clear hb12 P
      go_wp2_with fail
      refine T.out.mono ?_
      rintro e w13 ⟨rfl, hb13⟩
      have Hb13 := Lib.hid (below_then Hb12.out hb13)
      clear hb13 T
      go_wp2_with fail
      go_ret
      exact ⟨rfl, below_then Hbp.out Hb13.out⟩
end Go.Proofs.YteapbjeapnmloaaGreatDoor
