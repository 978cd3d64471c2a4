/- NegoAlone: what comes of an offer alone is what comes of it and of what one has. -/
import Derived.Test.YteapbjeapnmloaaGreatDoorGJ
import Derived.Test.YteapbjeapnmloaaGreatDoorSole
import Derived.Test.YteapbjeapnmloaaGreatDoorAloneMath
import Derived.Test.YteapbjeapnmloaaGreatDoorAppBig
import Derived.Test.YteapbjeapnmloaaGreatDoorGK
import Derived.Test.YteapbjeapnmloaaGreatDoorPair2
namespace Go.Proofs.YteapbjeapnmloaaGreatDoor
open Go Go.RowKit
set_option linter.unusedVariables false
set_option maxRecDepth 100000 in
set_option maxHeartbeats 8000000 in
theorem negoAlone_any (l : List Pr) (v : Value) (x : Pr) (w : World) (hv : PrsV w v l) (hf : WideP l) (hx : x.k.length ≤ 140737488351232 ∧ x.v.length ≤ 140737488351232) (hE : Env w) (hg : ErrCell w) :
    Calls Tryz.prog 11 #[v, .agg #[.string (S x.k), .string (S x.v)]] w fun e w' => e = .returned (.bool true) ∧ Below w.heap.size w w' := by
  obtain ⟨p, c, rfl⟩ := hv.form
  obtain ⟨k, d⟩ := x
  simp only at hx ⊢
  obtain ⟨wp, hwp⟩ : ∃ wp, w.alloc (.cells #[.string (S k), .string (S d)] 35) = wp := ⟨_, rfl⟩
  have hbp : Below w.heap.size w wp := by rw [← hwp]; exact (Below.refl _ _).alloc (Nat.le_refl _) _
  have HK0 := Lib.hid (show Blk wp w.heap.size #[.string (S k), .string (S d)] 35 by rw [← hwp]; exact Blk.new w _ _)
  have HV := Lib.hid (hv.later hbp)
  have HF := Lib.hid hf.1
  have HX := Lib.hid hx
  have HE := Lib.hid (hE.later hbp)
  have Hg := Lib.hid (hg.later hbp)
  have F := Lib.hid (settled_any wp HE.out Hg.out)
  have Hbp := Lib.hid hbp
  clear hv hE hg hf hx hbp
  go_enter Tryz.func11, Tryz.ntmps11
  go_wp2_with fail
  refine F.out.mono ?_
  rintro e w0 ⟨rfl, hb0⟩
  have Hb0 := Lib.hid hb0
  clear hb0 F
  have KY := Lib.hid (keyed_any w0 (HE.out.later Hb0.out) (Hg.out.later Hb0.out))
  go_wp2_with fail
  refine KY.out.mono ?_
  rintro e w0k ⟨rfl, hbk⟩
  have Hb0 := Lib.hid (below_then Hb0.out hbk)
  clear hbk KY
  have PD := Lib.hid (paired_any w0k (HE.out.mc.later Hb0.out))
  go_wp2_with fail
  refine PD.out.mono ?_
  rintro e w0p ⟨rfl, hbp⟩
  have Hb0 := Lib.hid (below_then Hb0.out hbp)
  clear hbp PD
  have M := Lib.hid (made_any (w := w0p) l _ Hb0.out HV.out HF.out HE.out Hg.out)
  go_wp2_with fail
  refine M.out.mono ?_
  rintro e w1 hM
  clear M
  rcases hM with ⟨rfl, hb1⟩ | ⟨nb, mv, rfl, hS1, hbf1, hge1, hb1⟩
  · have Hb1 := Lib.hid (below_then Hb0.out hb1)
    clear hb1
    go_wp2_with fail
    go_ret
    exact ⟨rfl, below_then Hbp.out Hb1.out⟩
  have HS1 := Lib.hid hS1
  clear hS1 hbf1 hge1 hb1
  obtain ⟨w2, hw2⟩ : ∃ w2, w1.alloc (.cells #[.string (S k), .string (S d)] 35) = w2 := ⟨_, rfl⟩
  have hb2 : Below w1.heap.size w1 w2 := by rw [← hw2]; exact (Below.refl _ _).alloc (Nat.le_refl _) _
  have hl2 := lit_one HS1.out ⟨k, d⟩
  simp only at hl2
  rw [hw2] at hl2
  have HS2 := Lib.hid (HS1.out.later hb2)
  have R := right_prs [⟨k, d⟩] _ w2 hl2.off ⟨by simp, fun q hq => by rw [List.mem_singleton.1 hq]; have := HX.out; simp only; omega⟩
  rw [right_sole] at R
  have R := Lib.hid R
  obtain ⟨q0, q1⟩ := (HK0.out.later HS1.out.low).two
  clear hb2 hl2
  go_wp2_with fail
  refine R.out.mono ?_
  rintro e w3 ⟨ev, rfl, he, hb3⟩
  have HS3 := Lib.hid (HS2.out.later hb3)
  by_cases hR : wrongP ⟨k, d⟩ = 0
  case neg =>
    rw [if_neg hR] at he
    obtain ⟨te, xe, rfl⟩ := he.iface hR
    clear he hb3 R q0 q1
    go_wp2_with fail
    go_ret
    exact ⟨rfl, below_then Hbp.out HS3.out.low⟩
  rw [if_pos hR] at he
  obtain rfl := he.zero
  have HR0 := Lib.hid hR
  have hd255 := (isVal_is (wrongP_ok hR).2).1
  have hans := ans_one (mine := l) (dc := false) hR
  simp only at hans
  obtain ⟨s, hs⟩ : ∃ s, asP k (oneN l true false ⟨k, d⟩).1 = s := ⟨_, rfl⟩
  obtain ⟨r, hr⟩ : ∃ r, asP k (oneN l true false ⟨k, d⟩).2 = r := ⟨_, rfl⟩
  rw [hs, hr] at hans
  have HA := Lib.hid hans
  have Hs := Lib.hid hs
  have Hr := Lib.hid hr
  obtain ⟨y, n1, hval⟩ : ∃ y n1, valN l k = (y, n1) := ⟨_, _, rfl⟩
  obtain ⟨ev1, hev1⟩ : ∃ ev1, errV n1 = ev1 := ⟨_, rfl⟩
  have O := Lib.hid (own_at hval hev1 HS3.out)
  have Hval := Lib.hid hval
  have Hev := Lib.hid hev1
  clear he hb3 R q0 q1 hR hwp hw2 HS1 HS2 hans hs hr hval hev1
  obtain ⟨q0, q1⟩ := (HK0.out.later HS3.out.low).two
  go_wp2_with fail
  refine O.out.mono ?_
  rintro e w4 ⟨rfl, hb4⟩
  have HS4 := Lib.hid (HS3.out.later hb4)
  obtain ⟨w5, hw5⟩ : ∃ w5, w4.alloc (.cells #[.string (S k), .string (S d)] 35) = w5 := ⟨_, rfl⟩
  have hb5 : Below w4.heap.size w4 w5 := by rw [← hw5]; exact (Below.refl _ _).alloc (Nat.le_refl _) _
  have hl5 := lit_one HS4.out ⟨k, d⟩
  simp only at hl5
  rw [hw5] at hl5
  have HS5 := Lib.hid (HS4.out.later hb5)
  have A := Lib.hid (ans_ns HA.out HS5.out hl5 (fit_one HR0.out) HE.out)
  clear q0 q1 hb4 hb5 hl5 O
  obtain ⟨q0, q1⟩ := (HK0.out.later HS4.out.low).two
  go_wp2_with fail
  refine A.out.mono ?_
  rintro e w6 ⟨v6, ev6, H6, rfl, hb6, he6, hS6, hk6⟩
  obtain rfl := he6.zero
  have HS6 := Lib.hid hS6
  have HF6 := Lib.hid hb6.form
  have HB6 := Lib.hid hb6.prs.off
  clear he6 hb6 hS6 hk6 A q0 q1 HS4 HS5 HS3 hw5
  cases hrow : rowOf k with
  | none =>
    have h1 := valN_no (rec := l) hrow
    rw [Hval.out] at h1
    obtain ⟨rfl, rfl⟩ : y = [] ∧ n1 = 5 := by simpa using h1
    obtain rfl : Value.iface 38 (.int .i64 5) = ev1 := (errV_pos 5 (by decide)).symm.trans Hev.out
    obtain ⟨hs, hr⟩ := alone_no (l := l) (d := d) hrow
    rw [Hs.out] at hs
    rw [Hr.out] at hr
    subst hs hr
    clear h1 hrow
    obtain ⟨q0, q1⟩ := (HK0.out.later HS6.out.low).two
    have P := Lib.hid (pair_any k [78, 111, 116, 85, 110, 100, 101, 114, 115, 116, 111, 111, 100] w6)
    go_wp2_with fail
    refine P.out.mono ?_
    rintro e wa ⟨rfl, hba⟩
    obtain ⟨wb, hwb⟩ : ∃ wb, wa.alloc (.cells #[.string (S k), .string (S [78, 111, 116, 85, 110, 100, 101, 114, 115, 116, 111, 111, 100])] 35) = wb := ⟨_, rfl⟩
    have hbb : Below wa.heap.size wa wb := by rw [← hwb]; exact (Below.refl _ _).alloc (Nat.le_refl _) _
    have hpb : PrsV wb (.slice (some ⟨wa.heap.size, 0, none⟩) 1 1) [⟨k, [78, 111, 116, 85, 110, 100, 101, 114, 115, 116, 111, 111, 100]⟩] := by rw [← hwb]; exact prs_new wa [⟨k, [78, 111, 116, 85, 110, 100, 101, 114, 115, 116, 111, 111, 100]⟩] 35
    have HSb := Lib.hid ((HS6.out.later hba).later hbb)
    have E := Lib.hid (equalP_same [⟨k, [78, 111, 116, 85, 110, 100, 101, 114, 115, 116, 111, 111, 100]⟩] _ _ wb (by simp) ((HB6.out.later hba).later hbb) hpb)
    clear hba hbb hpb P q0 q1
    go_wp2_with fail
    refine E.out.mono ?_
    rintro e wc ⟨rfl, hbc⟩
    have HSc := Lib.hid (HSb.out.later hbc)
    have RC := Lib.hid (rec_ns HSc.out)
    clear hbc E
    go_wp2_with fail
    refine RC.out.mono ?_
    rintro e wd ⟨vd, rfl, hbd, hld⟩
    obtain ⟨pd, cd, rfl⟩ : ∃ pd cd, vd = .slice pd 0 cd := hbd.form
    have HSd := Lib.hid (HSc.out.later hld)
    clear hbd hld RC
    go_wp2_with fail
    go_ret
    exact ⟨rfl, below_then Hbp.out HSd.out.low⟩
  | some ke =>
    have h1 := valN_own (mine := l) hrow
    rw [Hval.out] at h1
    obtain ⟨rfl, rfl⟩ : y = ownV l ke ∧ n1 = 0 := by simpa using h1
    obtain rfl : Value.nilIface = ev1 := Hev.out
    have HM := Lib.hid HS6.out.ok
    have hy := ownV_len HM.out (rowOf_ok hrow).2.2.2.2.2.1
    have Hrow := Lib.hid hrow
    obtain ⟨y, hyy⟩ : ∃ y, ownV l ke = y := ⟨_, rfl⟩
    rw [hyy] at hy
    have Hyy := Lib.hid hyy
    try rw [hyy]
    obtain ⟨kn, kd, lo, hi2, df, no, lg⟩ := ke
    have C0 := of_row w6 hrow
    obtain ⟨K, hKd⟩ : ∃ K : Int, (kd : Int) = K := ⟨_, rfl⟩
    rw [hKd] at C0
    have C := Lib.hid C0
    have HK67 := Lib.hid (fun (h : K = 6 ∨ K = 7) => show kd = 6 ∨ kd = 7 by omega)
    have HKn := Lib.hid (fun (h : K ≠ 6 ∧ K ≠ 7) => show ¬ (kd = 6 ∨ kd = 7) by omega)
    clear h1 hrow hyy hKd C0
    obtain ⟨q0, q1⟩ := (HK0.out.later HS6.out.low).two
    go_wp2_with fail
    refine C.out.mono ?_
    rintro e w7 ⟨rfl, hb7⟩
    obtain ⟨w8, hw8⟩ : ∃ w8, w7.alloc (.cells #[.string (S kn), .int .i64 K, .int .i64 (lo : Int), .int .i64 (hi2 : Int), .string (S df), .bool no, .bool lg] 48) = w8 := ⟨_, rfl⟩
    have hb8 : Below w7.heap.size w7 w8 := by rw [← hw8]; exact (Below.refl _ _).alloc (Nat.le_refl _) _
    have hK8 : Blk w8 w7.heap.size #[.string (S kn), .int .i64 K, .int .i64 (lo : Int), .int .i64 (hi2 : Int), .string (S df), .bool no, .bool lg] 48 := by rw [← hw8]; exact Blk.new w7 _ _
    have HS8 := Lib.hid ((HS6.out.later hb7).later hb8)
    have HB8 := Lib.hid ((HB6.out.later hb7).later hb8)
    obtain ⟨c0, c1, c2, c3, c4, c5, c6x⟩ := hK8.seven
    clear hb7 hb8 hK8 C q0 q1
    by_cases k6 : K = 6
    · subst k6
      have FT := Lib.hid (fits_any k d w8 (by omega) (HE.out.later HS8.out.low))
      obtain ⟨q0, q1⟩ := (HK0.out.later HS8.out.low).two
      go_wp2_with fail
      refine FT.out.mono ?_
      rintro e w9 ⟨rfl, hb9⟩
      have HS9 := Lib.hid (HS8.out.later hb9)
      have HB9 := Lib.hid (HB8.out.later hb9)
      clear hb9 FT q0 q1
      have KEEP := Lib.hid (fun (W : World) (h : Below w9.heap.size w9 W) => show Below w9.heap.size w9 W ∧ W.cell? ⟨w.heap.size, 0, none⟩ = some (.string (S k)) ∧ W.cell? ⟨w.heap.size, 1, none⟩ = some (.string (S d)) from ⟨h, (HK0.out.later (below_then HS9.out.low h)).cell 0, (HK0.out.later (below_then HS9.out.low h)).cell 1⟩)
      have RECN := Lib.hid (fun (W : World) (h : Below w9.heap.size w9 W) => rec_ns (HS9.out.later h))
      rcases alone_67 (l := l) (d := d) Hrow.out (HK67.out (by decide)) with ⟨hf0, h1, h2⟩ | ⟨hf0, h1, h2⟩
      · rw [Hs.out] at h1
        rw [Hr.out] at h2
        subst h1 h2
        rw [hf0]
        simp only [Int.natCast_zero, errV_0]
        obtain ⟨p6, c6, rfl⟩ : ∃ p6 c6, v6 = .slice p6 0 c6 := HF6.out
        clear hf0 c0 c1 c2 c3 c4 c5 c6x
        go_wp2_with fail
        refine wp_region_held (S := (fun w' => Below w9.heap.size w9 w' ∧ w'.cell? ⟨w.heap.size, 0, none⟩ = some (.string (S k)) ∧ w'.cell? ⟨w.heap.size, 1, none⟩ = some (.string (S d)))) (by kernel_rfl) ?_
        have e9 : Below w9.heap.size w9 { w9 with drawn := w9.drawn + 1 } := (Below.refl _ _).drew
        generalize ({ w9 with drawn := w9.drawn + 1 } : World) = wx at e9 ⊢
        have hS := KEEP.out _ e9
        refine takeN (.nilIface) (some 87) (i := 0) rfl rfl (by kernel_rfl) (by kernel_rfl) (by kernel_rfl) (fun _ _ _ h => h) (Or.inl ⟨by rfl, fun w' hw' => ?_⟩) hS ?_
        · obtain ⟨_, k0, k1⟩ := hw'
          go_simp
        simp only [Act.put, List.setIfInBounds_toArray, List.set_cons_succ, List.set_cons_zero]
        refine takeN (.bool true) (some 88) (i := 1) rfl rfl (by kernel_rfl) (by kernel_rfl) (by kernel_rfl) (fun _ _ _ h => h) (Or.inl ⟨by rfl, fun w' hw' => ?_⟩) hS ?_
        · obtain ⟨_, k0, k1⟩ := hw'
          go_simp
        simp only [Act.put, List.setIfInBounds_toArray, List.set_cons_succ, List.set_cons_zero]
        refine takeN (.bool true) (some 89) (i := 2) rfl rfl (by kernel_rfl) (by kernel_rfl) (by kernel_rfl) (fun _ _ _ h => h) (Or.inl ⟨by rfl, fun w' hw' => ?_⟩) hS ?_
        · obtain ⟨_, k0, k1⟩ := hw'
          go_simp
        simp only [Act.put, List.setIfInBounds_toArray, List.set_cons_succ, List.set_cons_zero]
        refine takeN (.nilIface) (some 90) (i := 3) rfl rfl (by kernel_rfl) (by kernel_rfl) (by kernel_rfl) (fun _ _ _ h => h) (Or.inl ⟨by rfl, fun w' hw' => ?_⟩) hS ?_
        · obtain ⟨_, k0, k1⟩ := hw'
          go_simp
        simp only [Act.put, List.setIfInBounds_toArray, List.set_cons_succ, List.set_cons_zero]
        refine takeN (.bool true) (some 91) (i := 4) rfl rfl (by kernel_rfl) (by kernel_rfl) (by kernel_rfl) (fun _ _ _ h => h) (Or.inl ⟨by rfl, fun w' hw' => ?_⟩) hS ?_
        · obtain ⟨_, k0, k1⟩ := hw'
          go_simp
        simp only [Act.put, List.setIfInBounds_toArray, List.set_cons_succ, List.set_cons_zero]
        refine takeN (.bool true) (some 92) (i := 5) rfl rfl (by kernel_rfl) (by kernel_rfl) (by kernel_rfl) (fun _ _ _ h => h) (Or.inl ⟨by rfl, fun w' hw' => ?_⟩) hS ?_
        · obtain ⟨_, k0, k1⟩ := hw'
          go_simp
        simp only [Act.put, List.setIfInBounds_toArray, List.set_cons_succ, List.set_cons_zero]
        refine takeN (.bool true) (some 93) (i := 6) rfl rfl (by kernel_rfl) (by kernel_rfl) (by kernel_rfl) (fun _ _ _ h => h) (Or.inl ⟨by rfl, fun w' hw' => ?_⟩) hS ?_
        · obtain ⟨_, k0, k1⟩ := hw'
          go_simp
        simp only [Act.put, List.setIfInBounds_toArray, List.set_cons_succ, List.set_cons_zero]
        refine takeN (.bool true) (some 94) (i := 7) rfl rfl (by kernel_rfl) (by kernel_rfl) (by kernel_rfl) (fun _ _ _ h => h) (Or.inl ⟨by rfl, fun w' hw' => ?_⟩) hS ?_
        · obtain ⟨_, k0, k1⟩ := hw'
          go_simp
        simp only [Act.put, List.setIfInBounds_toArray, List.set_cons_succ, List.set_cons_zero]
        refine takeN (.bool true) (some 95) (i := 8) rfl rfl (by kernel_rfl) (by kernel_rfl) (by kernel_rfl) (fun _ _ _ h => h) (Or.inl ⟨by rfl, fun w' hw' => ?_⟩) hS ?_
        · obtain ⟨_, k0, k1⟩ := hw'
          go_simp
        simp only [Act.put, List.setIfInBounds_toArray, List.set_cons_succ, List.set_cons_zero]
        refine takeN (.slice p6 0 c6) (some 96) (i := 9) rfl rfl (by kernel_rfl) (by kernel_rfl) (by kernel_rfl) (fun _ _ _ h => h) (Or.inl ⟨by rfl, fun w' hw' => ?_⟩) hS ?_
        · obtain ⟨_, k0, k1⟩ := hw'
          go_simp
        simp only [Act.put, List.setIfInBounds_toArray, List.set_cons_succ, List.set_cons_zero]
        refine takeN (.int .i64 0) (some 97) (i := 10) rfl rfl (by kernel_rfl) (by kernel_rfl) (by kernel_rfl) (fun _ _ _ h => h) (Or.inl ⟨by rfl, fun w' hw' => ?_⟩) hS ?_
        · obtain ⟨_, k0, k1⟩ := hw'
          go_simp
        simp only [Act.put, List.setIfInBounds_toArray, List.set_cons_succ, List.set_cons_zero]
        refine takeN (.bool true) (some 98) (i := 11) rfl rfl (by kernel_rfl) (by kernel_rfl) (by kernel_rfl) (fun _ _ _ h => h) (Or.inl ⟨by rfl, fun w' hw' => ?_⟩) hS ?_
        · obtain ⟨_, k0, k1⟩ := hw'
          go_simp
        simp only [Act.put, List.setIfInBounds_toArray, List.set_cons_succ, List.set_cons_zero]
        refine takeN (.bool true) (some 99) (i := 12) rfl rfl (by kernel_rfl) (by kernel_rfl) (by kernel_rfl) (fun _ _ _ h => h) (Or.inl ⟨by rfl, fun w' hw' => ?_⟩) hS ?_
        · obtain ⟨_, k0, k1⟩ := hw'
          go_simp
        simp only [Act.put, List.setIfInBounds_toArray, List.set_cons_succ, List.set_cons_zero]
        refine takeN (.bool true) (some 100) (i := 13) rfl rfl (by kernel_rfl) (by kernel_rfl) (by kernel_rfl) (fun _ _ _ h => h) (Or.inl ⟨by rfl, fun w' hw' => ?_⟩) hS ?_
        · obtain ⟨_, k0, k1⟩ := hw'
          go_simp
        simp only [Act.put, List.setIfInBounds_toArray, List.set_cons_succ, List.set_cons_zero]
        refine takeN (.pointer (some ⟨nb, 0, none⟩)) (some 101) (i := 14) rfl rfl (by kernel_rfl) (by kernel_rfl) (by kernel_rfl) (fun _ _ _ h => h) (Or.inl ⟨by rfl, fun w' hw' => ?_⟩) hS ?_
        · obtain ⟨_, k0, k1⟩ := hw'
          go_simp
        simp only [Act.put, List.setIfInBounds_toArray, List.set_cons_succ, List.set_cons_zero]
        refine takeN (.agg #[.string (S k), .string (S d)]) (some 103) (i := 16) rfl rfl (by kernel_rfl) (by kernel_rfl) (by kernel_rfl) (fun _ _ _ h => h) (Or.inl ⟨by rfl, fun w' hw' => ?_⟩) hS ?_
        · obtain ⟨_, k0, k1⟩ := hw'
          go_simp
        simp only [Act.put, List.setIfInBounds_toArray, List.set_cons_succ, List.set_cons_zero]
        refine wpAnyH_all (rs := [15, 17]) (by kernel_rfl) (by simp) (fun i hi => ?_)
        rcases (show i = 15 ∨ i = 17 by simpa using hi) with rfl | rfl
        · refine wantN (i := 15) rfl (by rfl) (callN (f := 22) (some 102) rfl Tryz.func22 (by kernel_rfl) (by kernel_rfl) rfl rfl ?_)
          simp only [List.map_toArray, List.map_cons, List.map_nil]
          refine (RECN.out _ e9).mono ?_
          rintro e wa ⟨va, rfl, hba, hla⟩
          have hwa := below_then e9 hla
          refine ⟨_, rfl, KEEP.out _ hwa, ?_⟩
          try dsimp only
          simp only [Act.put, List.setIfInBounds_toArray, List.set_cons_succ, List.set_cons_zero]
          refine wpAnyH_all (rs := [17]) (by kernel_rfl) (by simp) (fun i hi => ?_)
          obtain rfl : i = 17 := by simpa using hi
          have hwb := hwa.alloc hwa.size (.cells #[.string (S k), .string (S d)] 35)
          have hlit := prs_new wa [⟨k, d⟩] 35
          have hva := hba.prs.later ((Below.refl wa.heap.size wa).alloc (Nat.le_refl _) (.cells #[.string (S k), .string (S d)] 35))
          have EQ := equalP_same [⟨k, d⟩] _ _ _ (by simp) hva hlit
          refine wantN (i := 17) rfl (by rfl) (buildN k d (some 104) rfl _ rfl rfl ⟨KEEP.out _ hwb, ?_⟩)
          simp only [List.length_cons, List.length_nil, Nat.zero_add] at EQ
          generalize (⟨wa.heap.size, 0, none⟩ : Addr) = ab at EQ ⊢
          generalize wa.alloc (.cells #[.string (S k), .string (S d)] 35) = wb at hwb EQ ⊢
          have hSb := KEEP.out _ hwb
          try dsimp only
          simp only [Act.put, List.setIfInBounds_toArray, List.set_cons_succ, List.set_cons_zero]
          refine wpAnyH_all (rs := [18]) (by kernel_rfl) (by simp) (fun i hi => ?_)
          obtain rfl : i = 18 := by simpa using hi
          refine wantN (i := 18) rfl (by rfl) (callN (f := 23) (some 105) rfl Tryz.func23 (by kernel_rfl) (by kernel_rfl) rfl rfl ?_)
          simp only [List.map_toArray, List.map_cons, List.map_nil]
          refine EQ.mono ?_
          rintro e wc ⟨rfl, hbc⟩
          have hwc := below_then hwb hbc
          have hSc := KEEP.out _ hwc
          refine ⟨_, rfl, hSc, ?_⟩
          try dsimp only
          simp only [Act.put, List.setIfInBounds_toArray, List.set_cons_succ, List.set_cons_zero]
          refine takeN (.bool true) (some 106) (i := 19) rfl rfl (by kernel_rfl) (by kernel_rfl) (by kernel_rfl) (fun _ _ _ h => h) (Or.inl ⟨by rfl, fun w' hw' => ?_⟩) hSc ?_
          · obtain ⟨_, k0, k1⟩ := hw'
            go_simp
          simp only [Act.put, List.setIfInBounds_toArray, List.set_cons_succ, List.set_cons_zero]
          refine takeN (.bool true) (some 107) (i := 20) rfl rfl (by kernel_rfl) (by kernel_rfl) (by kernel_rfl) (fun _ _ _ h => h) (Or.inl ⟨by rfl, fun w' hw' => ?_⟩) hSc ?_
          · obtain ⟨_, k0, k1⟩ := hw'
            go_simp
          simp only [Act.put, List.setIfInBounds_toArray, List.set_cons_succ, List.set_cons_zero]
          refine takeN undef (some 108) (i := 21) rfl rfl (by kernel_rfl) (by kernel_rfl) (by kernel_rfl) (fun _ _ _ h => h) (Or.inr ⟨by rfl, rfl⟩) hSc ?_
          simp only [Act.put, List.setIfInBounds_toArray, List.set_cons_succ, List.set_cons_zero]
          refine takeN undef (some 109) (i := 22) rfl rfl (by kernel_rfl) (by kernel_rfl) (by kernel_rfl) (fun _ _ _ h => h) (Or.inr ⟨by rfl, rfl⟩) hSc ?_
          simp only [Act.put, List.setIfInBounds_toArray, List.set_cons_succ, List.set_cons_zero]
          refine takeN undef (some 110) (i := 23) rfl rfl (by kernel_rfl) (by kernel_rfl) (by kernel_rfl) (fun _ _ _ h => h) (Or.inr ⟨by rfl, rfl⟩) hSc ?_
          simp only [Act.put, List.setIfInBounds_toArray, List.set_cons_succ, List.set_cons_zero]
          refine takeN undef (some 111) (i := 24) rfl rfl (by kernel_rfl) (by kernel_rfl) (by kernel_rfl) (fun _ _ _ h => h) (Or.inr ⟨by rfl, rfl⟩) hSc ?_
          simp only [Act.put, List.setIfInBounds_toArray, List.set_cons_succ, List.set_cons_zero]
          refine takeN undef (some 112) (i := 25) rfl rfl (by kernel_rfl) (by kernel_rfl) (by kernel_rfl) (fun _ _ _ h => h) (Or.inr ⟨by rfl, rfl⟩) hSc ?_
          simp only [Act.put, List.setIfInBounds_toArray, List.set_cons_succ, List.set_cons_zero]
          refine takeN undef (some 113) (i := 26) rfl rfl (by kernel_rfl) (by kernel_rfl) (by kernel_rfl) (fun _ _ _ h => h) (Or.inr ⟨by rfl, rfl⟩) hSc ?_
          simp only [Act.put, List.setIfInBounds_toArray, List.set_cons_succ, List.set_cons_zero]
          refine takeN undef (some 114) (i := 27) rfl rfl (by kernel_rfl) (by kernel_rfl) (by kernel_rfl) (fun _ _ _ h => h) (Or.inr ⟨by rfl, rfl⟩) hSc ?_
          simp only [Act.put, List.setIfInBounds_toArray, List.set_cons_succ, List.set_cons_zero]
          refine takeN undef (some 115) (i := 28) rfl rfl (by kernel_rfl) (by kernel_rfl) (by kernel_rfl) (fun _ _ _ h => h) (Or.inr ⟨by rfl, rfl⟩) hSc ?_
          simp only [Act.put, List.setIfInBounds_toArray, List.set_cons_succ, List.set_cons_zero]
          refine takeN undef (some 116) (i := 29) rfl rfl (by kernel_rfl) (by kernel_rfl) (by kernel_rfl) (fun _ _ _ h => h) (Or.inr ⟨by rfl, rfl⟩) hSc ?_
          simp only [Act.put, List.setIfInBounds_toArray, List.set_cons_succ, List.set_cons_zero]
          refine takeN undef (some 117) (i := 30) rfl rfl (by kernel_rfl) (by kernel_rfl) (by kernel_rfl) (fun _ _ _ h => h) (Or.inr ⟨by rfl, rfl⟩) hSc ?_
          simp only [Act.put, List.setIfInBounds_toArray, List.set_cons_succ, List.set_cons_zero]
          refine takeN undef (some 118) (i := 31) rfl rfl (by kernel_rfl) (by kernel_rfl) (by kernel_rfl) (fun _ _ _ h => h) (Or.inr ⟨by rfl, rfl⟩) hSc ?_
          simp only [Act.put, List.setIfInBounds_toArray, List.set_cons_succ, List.set_cons_zero]
          refine takeN undef (some 119) (i := 32) rfl rfl (by kernel_rfl) (by kernel_rfl) (by kernel_rfl) (fun _ _ _ h => h) (Or.inr ⟨by rfl, rfl⟩) hSc ?_
          simp only [Act.put, List.setIfInBounds_toArray, List.set_cons_succ, List.set_cons_zero]
          refine takeN undef (some 120) (i := 33) rfl rfl (by kernel_rfl) (by kernel_rfl) (by kernel_rfl) (fun _ _ _ h => h) (Or.inr ⟨by rfl, rfl⟩) hSc ?_
          simp only [Act.put, List.setIfInBounds_toArray, List.set_cons_succ, List.set_cons_zero]
          refine takeN undef (some 121) (i := 34) rfl rfl (by kernel_rfl) (by kernel_rfl) (by kernel_rfl) (fun _ _ _ h => h) (Or.inr ⟨by rfl, rfl⟩) hSc ?_
          simp only [Act.put, List.setIfInBounds_toArray, List.set_cons_succ, List.set_cons_zero]
          refine takeN undef (some 122) (i := 35) rfl rfl (by kernel_rfl) (by kernel_rfl) (by kernel_rfl) (fun _ _ _ h => h) (Or.inr ⟨by rfl, rfl⟩) hSc ?_
          simp only [Act.put, List.setIfInBounds_toArray, List.set_cons_succ, List.set_cons_zero]
          refine takeN undef (some 123) (i := 36) rfl rfl (by kernel_rfl) (by kernel_rfl) (by kernel_rfl) (fun _ _ _ h => h) (Or.inr ⟨by rfl, rfl⟩) hSc ?_
          simp only [Act.put, List.setIfInBounds_toArray, List.set_cons_succ, List.set_cons_zero]
          refine takeN (.bool true) (some 124) (i := 37) rfl rfl (by kernel_rfl) (by kernel_rfl) (by kernel_rfl) (fun _ _ _ h => h) (Or.inl ⟨by rfl, fun w' hw' => ?_⟩) hSc ?_
          · obtain ⟨_, k0, k1⟩ := hw'
            go_simp
          simp only [Act.put, List.setIfInBounds_toArray, List.set_cons_succ, List.set_cons_zero]
          refine takeN (.bool true) (some 125) (i := 38) rfl rfl (by kernel_rfl) (by kernel_rfl) (by kernel_rfl) (fun _ _ _ h => h) (Or.inl ⟨by rfl, fun w' hw' => ?_⟩) hSc ?_
          · obtain ⟨_, k0, k1⟩ := hw'
            go_simp
          simp only [Act.put, List.setIfInBounds_toArray, List.set_cons_succ, List.set_cons_zero]
          refine takeN (.bool true) (some 4) (i := 39) rfl rfl (by kernel_rfl) (by kernel_rfl) (by kernel_rfl) (fun _ _ _ h => h) (Or.inl ⟨by rfl, fun w' hw' => ?_⟩) hSc ?_
          · obtain ⟨_, k0, k1⟩ := hw'
            go_simp
          simp only [Act.put, List.setIfInBounds_toArray, List.set_cons_succ, List.set_cons_zero]
          refine wpAnyH_done (by kernel_rfl) ?_ _
          have Hend := Lib.hid (HS9.out.later hSc.1).low
          clear hSc
          go_wp2_with fail
          go_ret
          exact ⟨rfl, below_then Hbp.out Hend.out⟩
        · have hwb := e9.alloc e9.size (.cells #[.string (S k), .string (S d)] 35)
          have hlit := prs_new wx [⟨k, d⟩] 35
          refine wantN (i := 17) rfl (by rfl) (buildN k d (some 104) rfl _ rfl rfl ⟨KEEP.out _ hwb, ?_⟩)
          simp only [prsVs, List.flatMap_cons, List.flatMap_nil, List.append_nil, List.length_cons, List.length_nil, Nat.zero_add] at hlit
          generalize (⟨wx.heap.size, 0, none⟩ : Addr) = ab at hlit ⊢
          change PrsV (wx.alloc (.cells #[.string (S k), .string (S d)] 35)) _ _ at hlit
          generalize wx.alloc (.cells #[.string (S k), .string (S d)] 35) = wb at hwb hlit ⊢
          have hSb := KEEP.out _ hwb
          try dsimp only
          simp only [Act.put, List.setIfInBounds_toArray, List.set_cons_succ, List.set_cons_zero]
          refine wpAnyH_all (rs := [15]) (by kernel_rfl) (by simp) (fun i hi => ?_)
          obtain rfl : i = 15 := by simpa using hi
          refine wantN (i := 15) rfl (by rfl) (callN (f := 22) (some 102) rfl Tryz.func22 (by kernel_rfl) (by kernel_rfl) rfl rfl ?_)
          simp only [List.map_toArray, List.map_cons, List.map_nil]
          refine (RECN.out _ hwb).mono ?_
          rintro e wa ⟨va, rfl, hba, hla⟩
          have hwa := below_then hwb hla
          refine ⟨_, rfl, KEEP.out _ hwa, ?_⟩
          try dsimp only
          simp only [Act.put, List.setIfInBounds_toArray, List.set_cons_succ, List.set_cons_zero]
          have EQ := equalP_same [⟨k, d⟩] _ _ _ (by simp) hba.prs (hlit.later hla)
          refine wpAnyH_all (rs := [18]) (by kernel_rfl) (by simp) (fun i hi => ?_)
          obtain rfl : i = 18 := by simpa using hi
          refine wantN (i := 18) rfl (by rfl) (callN (f := 23) (some 105) rfl Tryz.func23 (by kernel_rfl) (by kernel_rfl) rfl rfl ?_)
          simp only [List.map_toArray, List.map_cons, List.map_nil]
          refine EQ.mono ?_
          rintro e wc ⟨rfl, hbc⟩
          have hwc := below_then hwa hbc
          have hSc := KEEP.out _ hwc
          refine ⟨_, rfl, hSc, ?_⟩
          try dsimp only
          simp only [Act.put, List.setIfInBounds_toArray, List.set_cons_succ, List.set_cons_zero]
          refine takeN (.bool true) (some 106) (i := 19) rfl rfl (by kernel_rfl) (by kernel_rfl) (by kernel_rfl) (fun _ _ _ h => h) (Or.inl ⟨by rfl, fun w' hw' => ?_⟩) hSc ?_
          · obtain ⟨_, k0, k1⟩ := hw'
            go_simp
          simp only [Act.put, List.setIfInBounds_toArray, List.set_cons_succ, List.set_cons_zero]
          refine takeN (.bool true) (some 107) (i := 20) rfl rfl (by kernel_rfl) (by kernel_rfl) (by kernel_rfl) (fun _ _ _ h => h) (Or.inl ⟨by rfl, fun w' hw' => ?_⟩) hSc ?_
          · obtain ⟨_, k0, k1⟩ := hw'
            go_simp
          simp only [Act.put, List.setIfInBounds_toArray, List.set_cons_succ, List.set_cons_zero]
          refine takeN undef (some 108) (i := 21) rfl rfl (by kernel_rfl) (by kernel_rfl) (by kernel_rfl) (fun _ _ _ h => h) (Or.inr ⟨by rfl, rfl⟩) hSc ?_
          simp only [Act.put, List.setIfInBounds_toArray, List.set_cons_succ, List.set_cons_zero]
          refine takeN undef (some 109) (i := 22) rfl rfl (by kernel_rfl) (by kernel_rfl) (by kernel_rfl) (fun _ _ _ h => h) (Or.inr ⟨by rfl, rfl⟩) hSc ?_
          simp only [Act.put, List.setIfInBounds_toArray, List.set_cons_succ, List.set_cons_zero]
          refine takeN undef (some 110) (i := 23) rfl rfl (by kernel_rfl) (by kernel_rfl) (by kernel_rfl) (fun _ _ _ h => h) (Or.inr ⟨by rfl, rfl⟩) hSc ?_
          simp only [Act.put, List.setIfInBounds_toArray, List.set_cons_succ, List.set_cons_zero]
          refine takeN undef (some 111) (i := 24) rfl rfl (by kernel_rfl) (by kernel_rfl) (by kernel_rfl) (fun _ _ _ h => h) (Or.inr ⟨by rfl, rfl⟩) hSc ?_
          simp only [Act.put, List.setIfInBounds_toArray, List.set_cons_succ, List.set_cons_zero]
          refine takeN undef (some 112) (i := 25) rfl rfl (by kernel_rfl) (by kernel_rfl) (by kernel_rfl) (fun _ _ _ h => h) (Or.inr ⟨by rfl, rfl⟩) hSc ?_
          simp only [Act.put, List.setIfInBounds_toArray, List.set_cons_succ, List.set_cons_zero]
          refine takeN undef (some 113) (i := 26) rfl rfl (by kernel_rfl) (by kernel_rfl) (by kernel_rfl) (fun _ _ _ h => h) (Or.inr ⟨by rfl, rfl⟩) hSc ?_
          simp only [Act.put, List.setIfInBounds_toArray, List.set_cons_succ, List.set_cons_zero]
          refine takeN undef (some 114) (i := 27) rfl rfl (by kernel_rfl) (by kernel_rfl) (by kernel_rfl) (fun _ _ _ h => h) (Or.inr ⟨by rfl, rfl⟩) hSc ?_
          simp only [Act.put, List.setIfInBounds_toArray, List.set_cons_succ, List.set_cons_zero]
          refine takeN undef (some 115) (i := 28) rfl rfl (by kernel_rfl) (by kernel_rfl) (by kernel_rfl) (fun _ _ _ h => h) (Or.inr ⟨by rfl, rfl⟩) hSc ?_
          simp only [Act.put, List.setIfInBounds_toArray, List.set_cons_succ, List.set_cons_zero]
          refine takeN undef (some 116) (i := 29) rfl rfl (by kernel_rfl) (by kernel_rfl) (by kernel_rfl) (fun _ _ _ h => h) (Or.inr ⟨by rfl, rfl⟩) hSc ?_
          simp only [Act.put, List.setIfInBounds_toArray, List.set_cons_succ, List.set_cons_zero]
          refine takeN undef (some 117) (i := 30) rfl rfl (by kernel_rfl) (by kernel_rfl) (by kernel_rfl) (fun _ _ _ h => h) (Or.inr ⟨by rfl, rfl⟩) hSc ?_
          simp only [Act.put, List.setIfInBounds_toArray, List.set_cons_succ, List.set_cons_zero]
          refine takeN undef (some 118) (i := 31) rfl rfl (by kernel_rfl) (by kernel_rfl) (by kernel_rfl) (fun _ _ _ h => h) (Or.inr ⟨by rfl, rfl⟩) hSc ?_
          simp only [Act.put, List.setIfInBounds_toArray, List.set_cons_succ, List.set_cons_zero]
          refine takeN undef (some 119) (i := 32) rfl rfl (by kernel_rfl) (by kernel_rfl) (by kernel_rfl) (fun _ _ _ h => h) (Or.inr ⟨by rfl, rfl⟩) hSc ?_
          simp only [Act.put, List.setIfInBounds_toArray, List.set_cons_succ, List.set_cons_zero]
          refine takeN undef (some 120) (i := 33) rfl rfl (by kernel_rfl) (by kernel_rfl) (by kernel_rfl) (fun _ _ _ h => h) (Or.inr ⟨by rfl, rfl⟩) hSc ?_
          simp only [Act.put, List.setIfInBounds_toArray, List.set_cons_succ, List.set_cons_zero]
          refine takeN undef (some 121) (i := 34) rfl rfl (by kernel_rfl) (by kernel_rfl) (by kernel_rfl) (fun _ _ _ h => h) (Or.inr ⟨by rfl, rfl⟩) hSc ?_
          simp only [Act.put, List.setIfInBounds_toArray, List.set_cons_succ, List.set_cons_zero]
          refine takeN undef (some 122) (i := 35) rfl rfl (by kernel_rfl) (by kernel_rfl) (by kernel_rfl) (fun _ _ _ h => h) (Or.inr ⟨by rfl, rfl⟩) hSc ?_
          simp only [Act.put, List.setIfInBounds_toArray, List.set_cons_succ, List.set_cons_zero]
          refine takeN undef (some 123) (i := 36) rfl rfl (by kernel_rfl) (by kernel_rfl) (by kernel_rfl) (fun _ _ _ h => h) (Or.inr ⟨by rfl, rfl⟩) hSc ?_
          simp only [Act.put, List.setIfInBounds_toArray, List.set_cons_succ, List.set_cons_zero]
          refine takeN (.bool true) (some 124) (i := 37) rfl rfl (by kernel_rfl) (by kernel_rfl) (by kernel_rfl) (fun _ _ _ h => h) (Or.inl ⟨by rfl, fun w' hw' => ?_⟩) hSc ?_
          · obtain ⟨_, k0, k1⟩ := hw'
            go_simp
          simp only [Act.put, List.setIfInBounds_toArray, List.set_cons_succ, List.set_cons_zero]
          refine takeN (.bool true) (some 125) (i := 38) rfl rfl (by kernel_rfl) (by kernel_rfl) (by kernel_rfl) (fun _ _ _ h => h) (Or.inl ⟨by rfl, fun w' hw' => ?_⟩) hSc ?_
          · obtain ⟨_, k0, k1⟩ := hw'
            go_simp
          simp only [Act.put, List.setIfInBounds_toArray, List.set_cons_succ, List.set_cons_zero]
          refine takeN (.bool true) (some 4) (i := 39) rfl rfl (by kernel_rfl) (by kernel_rfl) (by kernel_rfl) (fun _ _ _ h => h) (Or.inl ⟨by rfl, fun w' hw' => ?_⟩) hSc ?_
          · obtain ⟨_, k0, k1⟩ := hw'
            go_simp
          simp only [Act.put, List.setIfInBounds_toArray, List.set_cons_succ, List.set_cons_zero]
          refine wpAnyH_done (by kernel_rfl) ?_ _
          have Hend := Lib.hid (HS9.out.later hSc.1).low
          clear hSc
          go_wp2_with fail
          go_ret
          exact ⟨rfl, below_then Hbp.out Hend.out⟩

      · rw [Hs.out] at h1
        rw [Hr.out] at h2
        subst h1 h2
        rw [errV_ne hf0]
        clear hf0 c0 c1 c2 c3 c4 c5 c6x
        go_wp2_with fail
        refine wp_region_held (S := (fun w' => Below w9.heap.size w9 w' ∧ w'.cell? ⟨w.heap.size, 0, none⟩ = some (.string (S k)) ∧ w'.cell? ⟨w.heap.size, 1, none⟩ = some (.string (S d)))) (by kernel_rfl) ?_
        have e9 : Below w9.heap.size w9 { w9 with drawn := w9.drawn + 1 } := (Below.refl _ _).drew
        generalize ({ w9 with drawn := w9.drawn + 1 } : World) = wx at e9 ⊢
        have hS := KEEP.out _ e9
        refine takeN (.nilIface) (some 87) (i := 0) rfl rfl (by kernel_rfl) (by kernel_rfl) (by kernel_rfl) (fun _ _ _ h => h) (Or.inl ⟨by rfl, fun w' hw' => ?_⟩) hS ?_
        · obtain ⟨_, k0, k1⟩ := hw'
          go_simp
        simp only [Act.put, List.setIfInBounds_toArray, List.set_cons_succ, List.set_cons_zero]
        refine takeN (.bool true) (some 88) (i := 1) rfl rfl (by kernel_rfl) (by kernel_rfl) (by kernel_rfl) (fun _ _ _ h => h) (Or.inl ⟨by rfl, fun w' hw' => ?_⟩) hS ?_
        · obtain ⟨_, k0, k1⟩ := hw'
          go_simp
        simp only [Act.put, List.setIfInBounds_toArray, List.set_cons_succ, List.set_cons_zero]
        refine takeN (.bool true) (some 89) (i := 2) rfl rfl (by kernel_rfl) (by kernel_rfl) (by kernel_rfl) (fun _ _ _ h => h) (Or.inl ⟨by rfl, fun w' hw' => ?_⟩) hS ?_
        · obtain ⟨_, k0, k1⟩ := hw'
          go_simp
        simp only [Act.put, List.setIfInBounds_toArray, List.set_cons_succ, List.set_cons_zero]
        refine takeN (.nilIface) (some 90) (i := 3) rfl rfl (by kernel_rfl) (by kernel_rfl) (by kernel_rfl) (fun _ _ _ h => h) (Or.inl ⟨by rfl, fun w' hw' => ?_⟩) hS ?_
        · obtain ⟨_, k0, k1⟩ := hw'
          go_simp
        simp only [Act.put, List.setIfInBounds_toArray, List.set_cons_succ, List.set_cons_zero]
        refine takeN (.bool true) (some 91) (i := 4) rfl rfl (by kernel_rfl) (by kernel_rfl) (by kernel_rfl) (fun _ _ _ h => h) (Or.inl ⟨by rfl, fun w' hw' => ?_⟩) hS ?_
        · obtain ⟨_, k0, k1⟩ := hw'
          go_simp
        simp only [Act.put, List.setIfInBounds_toArray, List.set_cons_succ, List.set_cons_zero]
        refine takeN (.bool true) (some 92) (i := 5) rfl rfl (by kernel_rfl) (by kernel_rfl) (by kernel_rfl) (fun _ _ _ h => h) (Or.inl ⟨by rfl, fun w' hw' => ?_⟩) hS ?_
        · obtain ⟨_, k0, k1⟩ := hw'
          go_simp
        simp only [Act.put, List.setIfInBounds_toArray, List.set_cons_succ, List.set_cons_zero]
        refine takeN (.bool true) (some 93) (i := 6) rfl rfl (by kernel_rfl) (by kernel_rfl) (by kernel_rfl) (fun _ _ _ h => h) (Or.inl ⟨by rfl, fun w' hw' => ?_⟩) hS ?_
        · obtain ⟨_, k0, k1⟩ := hw'
          go_simp
        simp only [Act.put, List.setIfInBounds_toArray, List.set_cons_succ, List.set_cons_zero]
        refine takeN (.bool false) (some 94) (i := 7) rfl rfl (by kernel_rfl) (by kernel_rfl) (by kernel_rfl) (fun _ _ _ h => h) (Or.inl ⟨by rfl, fun w' hw' => ?_⟩) hS ?_
        · obtain ⟨_, k0, k1⟩ := hw'
          go_simp
        simp only [Act.put, List.setIfInBounds_toArray, List.set_cons_succ, List.set_cons_zero]
        refine takeN (.bool false) (some 95) (i := 8) rfl rfl (by kernel_rfl) (by kernel_rfl) (by kernel_rfl) (fun _ _ _ h => h) (Or.inl ⟨by rfl, fun w' hw' => ?_⟩) hS ?_
        · obtain ⟨_, k0, k1⟩ := hw'
          go_simp
        simp only [Act.put, List.setIfInBounds_toArray, List.set_cons_succ, List.set_cons_zero]
        refine takeN undef (some 96) (i := 9) rfl rfl (by kernel_rfl) (by kernel_rfl) (by kernel_rfl) (fun _ _ _ h => h) (Or.inr ⟨by rfl, rfl⟩) hS ?_
        simp only [Act.put, List.setIfInBounds_toArray, List.set_cons_succ, List.set_cons_zero]
        refine takeN undef (some 97) (i := 10) rfl rfl (by kernel_rfl) (by kernel_rfl) (by kernel_rfl) (fun _ _ _ h => h) (Or.inr ⟨by rfl, rfl⟩) hS ?_
        simp only [Act.put, List.setIfInBounds_toArray, List.set_cons_succ, List.set_cons_zero]
        refine takeN undef (some 98) (i := 11) rfl rfl (by kernel_rfl) (by kernel_rfl) (by kernel_rfl) (fun _ _ _ h => h) (Or.inr ⟨by rfl, rfl⟩) hS ?_
        simp only [Act.put, List.setIfInBounds_toArray, List.set_cons_succ, List.set_cons_zero]
        refine takeN (.bool false) (some 99) (i := 12) rfl rfl (by kernel_rfl) (by kernel_rfl) (by kernel_rfl) (fun _ _ _ h => h) (Or.inl ⟨by rfl, fun w' hw' => ?_⟩) hS ?_
        · obtain ⟨_, k0, k1⟩ := hw'
          go_simp
        simp only [Act.put, List.setIfInBounds_toArray, List.set_cons_succ, List.set_cons_zero]
        refine takeN (.bool false) (some 100) (i := 13) rfl rfl (by kernel_rfl) (by kernel_rfl) (by kernel_rfl) (fun _ _ _ h => h) (Or.inl ⟨by rfl, fun w' hw' => ?_⟩) hS ?_
        · obtain ⟨_, k0, k1⟩ := hw'
          go_simp
        simp only [Act.put, List.setIfInBounds_toArray, List.set_cons_succ, List.set_cons_zero]
        refine takeN undef (some 101) (i := 14) rfl rfl (by kernel_rfl) (by kernel_rfl) (by kernel_rfl) (fun _ _ _ h => h) (Or.inr ⟨by rfl, rfl⟩) hS ?_
        simp only [Act.put, List.setIfInBounds_toArray, List.set_cons_succ, List.set_cons_zero]
        refine takeN undef (some 102) (i := 15) rfl rfl (by kernel_rfl) (by kernel_rfl) (by kernel_rfl) (fun _ _ _ h => h) (Or.inr ⟨by rfl, rfl⟩) hS ?_
        simp only [Act.put, List.setIfInBounds_toArray, List.set_cons_succ, List.set_cons_zero]
        refine takeN undef (some 103) (i := 16) rfl rfl (by kernel_rfl) (by kernel_rfl) (by kernel_rfl) (fun _ _ _ h => h) (Or.inr ⟨by rfl, rfl⟩) hS ?_
        simp only [Act.put, List.setIfInBounds_toArray, List.set_cons_succ, List.set_cons_zero]
        refine takeN undef (some 104) (i := 17) rfl rfl (by kernel_rfl) (by kernel_rfl) (by kernel_rfl) (fun _ _ _ h => h) (Or.inr ⟨by rfl, rfl⟩) hS ?_
        simp only [Act.put, List.setIfInBounds_toArray, List.set_cons_succ, List.set_cons_zero]
        refine takeN undef (some 105) (i := 18) rfl rfl (by kernel_rfl) (by kernel_rfl) (by kernel_rfl) (fun _ _ _ h => h) (Or.inr ⟨by rfl, rfl⟩) hS ?_
        simp only [Act.put, List.setIfInBounds_toArray, List.set_cons_succ, List.set_cons_zero]
        refine takeN (.bool false) (some 106) (i := 19) rfl rfl (by kernel_rfl) (by kernel_rfl) (by kernel_rfl) (fun _ _ _ h => h) (Or.inl ⟨by rfl, fun w' hw' => ?_⟩) hS ?_
        · obtain ⟨_, k0, k1⟩ := hw'
          go_simp
        simp only [Act.put, List.setIfInBounds_toArray, List.set_cons_succ, List.set_cons_zero]
        refine takeN (.bool false) (some 107) (i := 20) rfl rfl (by kernel_rfl) (by kernel_rfl) (by kernel_rfl) (fun _ _ _ h => h) (Or.inl ⟨by rfl, fun w' hw' => ?_⟩) hS ?_
        · obtain ⟨_, k0, k1⟩ := hw'
          go_simp
        simp only [Act.put, List.setIfInBounds_toArray, List.set_cons_succ, List.set_cons_zero]
        refine takeN (.bool false) (some 108) (i := 21) rfl rfl (by kernel_rfl) (by kernel_rfl) (by kernel_rfl) (fun _ _ _ h => h) (Or.inl ⟨by rfl, fun w' hw' => ?_⟩) hS ?_
        · obtain ⟨_, k0, k1⟩ := hw'
          go_simp
        simp only [Act.put, List.setIfInBounds_toArray, List.set_cons_succ, List.set_cons_zero]
        refine takeN (.bool true) (some 109) (i := 22) rfl rfl (by kernel_rfl) (by kernel_rfl) (by kernel_rfl) (fun _ _ _ h => h) (Or.inl ⟨by rfl, fun w' hw' => ?_⟩) hS ?_
        · obtain ⟨_, k0, k1⟩ := hw'
          go_simp
        simp only [Act.put, List.setIfInBounds_toArray, List.set_cons_succ, List.set_cons_zero]
        refine takeN (.bool true) (some 110) (i := 23) rfl rfl (by kernel_rfl) (by kernel_rfl) (by kernel_rfl) (fun _ _ _ h => h) (Or.inl ⟨by rfl, fun w' hw' => ?_⟩) hS ?_
        · obtain ⟨_, k0, k1⟩ := hw'
          go_simp
        simp only [Act.put, List.setIfInBounds_toArray, List.set_cons_succ, List.set_cons_zero]
        refine takeN (v6) (some 111) (i := 24) rfl rfl (by kernel_rfl) (by kernel_rfl) (by kernel_rfl) (fun _ _ _ h => h) (Or.inl ⟨by rfl, fun w' hw' => ?_⟩) hS ?_
        · obtain ⟨_, k0, k1⟩ := hw'
          go_simp
        simp only [Act.put, List.setIfInBounds_toArray, List.set_cons_succ, List.set_cons_zero]
        refine takeN (.pointer (some ⟨w.heap.size, 0, none⟩)) (some 112) (i := 25) rfl rfl (by kernel_rfl) (by kernel_rfl) (by kernel_rfl) (fun _ _ _ h => h) (Or.inl ⟨by rfl, fun w' hw' => ?_⟩) hS ?_
        · obtain ⟨_, k0, k1⟩ := hw'
          go_simp
        simp only [Act.put, List.setIfInBounds_toArray, List.set_cons_succ, List.set_cons_zero]
        refine takeN (.string (S k)) (some 113) (i := 26) rfl rfl (by kernel_rfl) (by kernel_rfl) (by kernel_rfl) (fun _ _ _ h => h) (Or.inl ⟨by rfl, fun w' hw' => ?_⟩) hS ?_
        · obtain ⟨_, k0, k1⟩ := hw'
          go_simp
        simp only [Act.put, List.setIfInBounds_toArray, List.set_cons_succ, List.set_cons_zero]
        refine wpAnyH_all (rs := [27]) (by kernel_rfl) (by simp) (fun i hi => ?_)
        obtain rfl : i = 27 := by simpa using hi
        refine wantN (i := 27) rfl (by rfl) (callN (f := 39) (some 114) rfl Tryz.func39 (by kernel_rfl) (by kernel_rfl) rfl rfl ?_)
        simp only [List.map_toArray, List.map_cons, List.map_nil]
        refine (pair_any k [82, 101, 106, 101, 99, 116] wx).mono ?_
        rintro e wa ⟨rfl, hba⟩
        have hwa := below_then e9 hba
        refine ⟨_, rfl, KEEP.out _ hwa, ?_⟩
        try dsimp only
        simp only [Act.put, List.setIfInBounds_toArray, List.set_cons_succ, List.set_cons_zero]
        refine wpAnyH_all (rs := [28]) (by kernel_rfl) (by simp) (fun i hi => ?_)
        obtain rfl : i = 28 := by simpa using hi
        have hwb := hwa.alloc hwa.size (.cells #[.string (S k), .string (S [82, 101, 106, 101, 99, 116])] 35)
        have hlit := prs_new wa [⟨k, [82, 101, 106, 101, 99, 116]⟩] 35
        have hva := (HB9.out.later hwa).later ((Below.refl wa.heap.size wa).alloc (Nat.le_refl _) (.cells #[.string (S k), .string (S [82, 101, 106, 101, 99, 116])] 35))
        have EQ := equalP_same [⟨k, [82, 101, 106, 101, 99, 116]⟩] _ _ _ (by simp) hva hlit
        refine wantN (i := 28) rfl (by rfl) (buildN k [82, 101, 106, 101, 99, 116] (some 115) rfl _ rfl rfl ⟨KEEP.out _ hwb, ?_⟩)
        simp only [List.length_cons, List.length_nil, Nat.zero_add] at EQ
        generalize (⟨wa.heap.size, 0, none⟩ : Addr) = ab at EQ ⊢
        generalize wa.alloc (.cells #[.string (S k), .string (S [82, 101, 106, 101, 99, 116])] 35) = wb at hwb EQ ⊢
        try dsimp only
        simp only [Act.put, List.setIfInBounds_toArray, List.set_cons_succ, List.set_cons_zero]
        refine wpAnyH_all (rs := [29]) (by kernel_rfl) (by simp) (fun i hi => ?_)
        obtain rfl : i = 29 := by simpa using hi
        refine wantN (i := 29) rfl (by rfl) (callN (f := 23) (some 116) rfl Tryz.func23 (by kernel_rfl) (by kernel_rfl) rfl rfl ?_)
        simp only [List.map_toArray, List.map_cons, List.map_nil]
        refine EQ.mono ?_
        rintro e wc ⟨rfl, hbc⟩
        have hwc := below_then hwb hbc
        have hSc := KEEP.out _ hwc
        refine ⟨_, rfl, hSc, ?_⟩
        try dsimp only
        simp only [Act.put, List.setIfInBounds_toArray, List.set_cons_succ, List.set_cons_zero]
        refine takeN (.bool true) (some 117) (i := 30) rfl rfl (by kernel_rfl) (by kernel_rfl) (by kernel_rfl) (fun _ _ _ h => h) (Or.inl ⟨by rfl, fun w' hw' => ?_⟩) hSc ?_
        · obtain ⟨_, k0, k1⟩ := hw'
          go_simp
        simp only [Act.put, List.setIfInBounds_toArray, List.set_cons_succ, List.set_cons_zero]
        refine takeN (.bool true) (some 118) (i := 31) rfl rfl (by kernel_rfl) (by kernel_rfl) (by kernel_rfl) (fun _ _ _ h => h) (Or.inl ⟨by rfl, fun w' hw' => ?_⟩) hSc ?_
        · obtain ⟨_, k0, k1⟩ := hw'
          go_simp
        simp only [Act.put, List.setIfInBounds_toArray, List.set_cons_succ, List.set_cons_zero]
        refine takeN (.pointer (some ⟨nb, 0, none⟩)) (some 119) (i := 32) rfl rfl (by kernel_rfl) (by kernel_rfl) (by kernel_rfl) (fun _ _ _ h => h) (Or.inl ⟨by rfl, fun w' hw' => ?_⟩) hSc ?_
        · obtain ⟨_, k0, k1⟩ := hw'
          go_simp
        simp only [Act.put, List.setIfInBounds_toArray, List.set_cons_succ, List.set_cons_zero]
        refine wpAnyH_all (rs := [33]) (by kernel_rfl) (by simp) (fun i hi => ?_)
        obtain rfl : i = 33 := by simpa using hi
        refine wantN (i := 33) rfl (by rfl) (callN (f := 22) (some 120) rfl Tryz.func22 (by kernel_rfl) (by kernel_rfl) rfl rfl ?_)
        simp only [List.map_toArray, List.map_cons, List.map_nil]
        refine (RECN.out _ hwc).mono ?_
        rintro e wd ⟨vd, rfl, hbd, hld⟩
        obtain ⟨pd, cd, rfl⟩ : ∃ pd cd, vd = .slice pd 0 cd := hbd.form
        have hwd := below_then hwc hld
        have hSd := KEEP.out _ hwd
        refine ⟨_, rfl, hSd, ?_⟩
        try dsimp only
        simp only [Act.put, List.setIfInBounds_toArray, List.set_cons_succ, List.set_cons_zero]
        refine takeN (.int .i64 0) (some 121) (i := 34) rfl rfl (by kernel_rfl) (by kernel_rfl) (by kernel_rfl) (fun _ _ _ h => h) (Or.inl ⟨by rfl, fun w' hw' => ?_⟩) hSd ?_
        · obtain ⟨_, k0, k1⟩ := hw'
          go_simp
        simp only [Act.put, List.setIfInBounds_toArray, List.set_cons_succ, List.set_cons_zero]
        refine takeN (.bool true) (some 122) (i := 35) rfl rfl (by kernel_rfl) (by kernel_rfl) (by kernel_rfl) (fun _ _ _ h => h) (Or.inl ⟨by rfl, fun w' hw' => ?_⟩) hSd ?_
        · obtain ⟨_, k0, k1⟩ := hw'
          go_simp
        simp only [Act.put, List.setIfInBounds_toArray, List.set_cons_succ, List.set_cons_zero]
        refine takeN (.bool true) (some 123) (i := 36) rfl rfl (by kernel_rfl) (by kernel_rfl) (by kernel_rfl) (fun _ _ _ h => h) (Or.inl ⟨by rfl, fun w' hw' => ?_⟩) hSd ?_
        · obtain ⟨_, k0, k1⟩ := hw'
          go_simp
        simp only [Act.put, List.setIfInBounds_toArray, List.set_cons_succ, List.set_cons_zero]
        refine takeN (.bool true) (some 124) (i := 37) rfl rfl (by kernel_rfl) (by kernel_rfl) (by kernel_rfl) (fun _ _ _ h => h) (Or.inl ⟨by rfl, fun w' hw' => ?_⟩) hSd ?_
        · obtain ⟨_, k0, k1⟩ := hw'
          go_simp
        simp only [Act.put, List.setIfInBounds_toArray, List.set_cons_succ, List.set_cons_zero]
        refine takeN (.bool true) (some 125) (i := 38) rfl rfl (by kernel_rfl) (by kernel_rfl) (by kernel_rfl) (fun _ _ _ h => h) (Or.inl ⟨by rfl, fun w' hw' => ?_⟩) hSd ?_
        · obtain ⟨_, k0, k1⟩ := hw'
          go_simp
        simp only [Act.put, List.setIfInBounds_toArray, List.set_cons_succ, List.set_cons_zero]
        refine takeN (.bool true) (some 4) (i := 39) rfl rfl (by kernel_rfl) (by kernel_rfl) (by kernel_rfl) (fun _ _ _ h => h) (Or.inl ⟨by rfl, fun w' hw' => ?_⟩) hSd ?_
        · obtain ⟨_, k0, k1⟩ := hw'
          go_simp
        simp only [Act.put, List.setIfInBounds_toArray, List.set_cons_succ, List.set_cons_zero]
        refine wpAnyH_done (by kernel_rfl) ?_ _
        have Hend := Lib.hid (HS9.out.later hSd.1).low
        clear hSd
        go_wp2_with fail
        go_ret
        exact ⟨rfl, below_then Hbp.out Hend.out⟩


    by_cases k7 : K = 7
    · subst k7
      have FT := Lib.hid (fits_any k d w8 (by omega) (HE.out.later HS8.out.low))
      obtain ⟨q0, q1⟩ := (HK0.out.later HS8.out.low).two
      go_wp2_with fail
      refine FT.out.mono ?_
      rintro e w9 ⟨rfl, hb9⟩
      have HS9 := Lib.hid (HS8.out.later hb9)
      have HB9 := Lib.hid (HB8.out.later hb9)
      clear hb9 FT q0 q1
      have KEEP := Lib.hid (fun (W : World) (h : Below w9.heap.size w9 W) => show Below w9.heap.size w9 W ∧ W.cell? ⟨w.heap.size, 0, none⟩ = some (.string (S k)) ∧ W.cell? ⟨w.heap.size, 1, none⟩ = some (.string (S d)) from ⟨h, (HK0.out.later (below_then HS9.out.low h)).cell 0, (HK0.out.later (below_then HS9.out.low h)).cell 1⟩)
      have RECN := Lib.hid (fun (W : World) (h : Below w9.heap.size w9 W) => rec_ns (HS9.out.later h))
      rcases alone_67 (l := l) (d := d) Hrow.out (HK67.out (by decide)) with ⟨hf0, h1, h2⟩ | ⟨hf0, h1, h2⟩
      · rw [Hs.out] at h1
        rw [Hr.out] at h2
        subst h1 h2
        rw [hf0]
        simp only [Int.natCast_zero, errV_0]
        obtain ⟨p6, c6, rfl⟩ : ∃ p6 c6, v6 = .slice p6 0 c6 := HF6.out
        clear hf0 c0 c1 c2 c3 c4 c5 c6x
        go_wp2_with fail
        refine wp_region_held (S := (fun w' => Below w9.heap.size w9 w' ∧ w'.cell? ⟨w.heap.size, 0, none⟩ = some (.string (S k)) ∧ w'.cell? ⟨w.heap.size, 1, none⟩ = some (.string (S d)))) (by kernel_rfl) ?_
        have e9 : Below w9.heap.size w9 { w9 with drawn := w9.drawn + 1 } := (Below.refl _ _).drew
        generalize ({ w9 with drawn := w9.drawn + 1 } : World) = wx at e9 ⊢
        have hS := KEEP.out _ e9
        refine takeN (.nilIface) (some 87) (i := 0) rfl rfl (by kernel_rfl) (by kernel_rfl) (by kernel_rfl) (fun _ _ _ h => h) (Or.inl ⟨by rfl, fun w' hw' => ?_⟩) hS ?_
        · obtain ⟨_, k0, k1⟩ := hw'
          go_simp
        simp only [Act.put, List.setIfInBounds_toArray, List.set_cons_succ, List.set_cons_zero]
        refine takeN (.bool true) (some 88) (i := 1) rfl rfl (by kernel_rfl) (by kernel_rfl) (by kernel_rfl) (fun _ _ _ h => h) (Or.inl ⟨by rfl, fun w' hw' => ?_⟩) hS ?_
        · obtain ⟨_, k0, k1⟩ := hw'
          go_simp
        simp only [Act.put, List.setIfInBounds_toArray, List.set_cons_succ, List.set_cons_zero]
        refine takeN (.bool true) (some 89) (i := 2) rfl rfl (by kernel_rfl) (by kernel_rfl) (by kernel_rfl) (fun _ _ _ h => h) (Or.inl ⟨by rfl, fun w' hw' => ?_⟩) hS ?_
        · obtain ⟨_, k0, k1⟩ := hw'
          go_simp
        simp only [Act.put, List.setIfInBounds_toArray, List.set_cons_succ, List.set_cons_zero]
        refine takeN (.nilIface) (some 90) (i := 3) rfl rfl (by kernel_rfl) (by kernel_rfl) (by kernel_rfl) (fun _ _ _ h => h) (Or.inl ⟨by rfl, fun w' hw' => ?_⟩) hS ?_
        · obtain ⟨_, k0, k1⟩ := hw'
          go_simp
        simp only [Act.put, List.setIfInBounds_toArray, List.set_cons_succ, List.set_cons_zero]
        refine takeN (.bool true) (some 91) (i := 4) rfl rfl (by kernel_rfl) (by kernel_rfl) (by kernel_rfl) (fun _ _ _ h => h) (Or.inl ⟨by rfl, fun w' hw' => ?_⟩) hS ?_
        · obtain ⟨_, k0, k1⟩ := hw'
          go_simp
        simp only [Act.put, List.setIfInBounds_toArray, List.set_cons_succ, List.set_cons_zero]
        refine takeN (.bool true) (some 92) (i := 5) rfl rfl (by kernel_rfl) (by kernel_rfl) (by kernel_rfl) (fun _ _ _ h => h) (Or.inl ⟨by rfl, fun w' hw' => ?_⟩) hS ?_
        · obtain ⟨_, k0, k1⟩ := hw'
          go_simp
        simp only [Act.put, List.setIfInBounds_toArray, List.set_cons_succ, List.set_cons_zero]
        refine takeN (.bool true) (some 93) (i := 6) rfl rfl (by kernel_rfl) (by kernel_rfl) (by kernel_rfl) (fun _ _ _ h => h) (Or.inl ⟨by rfl, fun w' hw' => ?_⟩) hS ?_
        · obtain ⟨_, k0, k1⟩ := hw'
          go_simp
        simp only [Act.put, List.setIfInBounds_toArray, List.set_cons_succ, List.set_cons_zero]
        refine takeN (.bool true) (some 94) (i := 7) rfl rfl (by kernel_rfl) (by kernel_rfl) (by kernel_rfl) (fun _ _ _ h => h) (Or.inl ⟨by rfl, fun w' hw' => ?_⟩) hS ?_
        · obtain ⟨_, k0, k1⟩ := hw'
          go_simp
        simp only [Act.put, List.setIfInBounds_toArray, List.set_cons_succ, List.set_cons_zero]
        refine takeN (.bool true) (some 95) (i := 8) rfl rfl (by kernel_rfl) (by kernel_rfl) (by kernel_rfl) (fun _ _ _ h => h) (Or.inl ⟨by rfl, fun w' hw' => ?_⟩) hS ?_
        · obtain ⟨_, k0, k1⟩ := hw'
          go_simp
        simp only [Act.put, List.setIfInBounds_toArray, List.set_cons_succ, List.set_cons_zero]
        refine takeN (.slice p6 0 c6) (some 96) (i := 9) rfl rfl (by kernel_rfl) (by kernel_rfl) (by kernel_rfl) (fun _ _ _ h => h) (Or.inl ⟨by rfl, fun w' hw' => ?_⟩) hS ?_
        · obtain ⟨_, k0, k1⟩ := hw'
          go_simp
        simp only [Act.put, List.setIfInBounds_toArray, List.set_cons_succ, List.set_cons_zero]
        refine takeN (.int .i64 0) (some 97) (i := 10) rfl rfl (by kernel_rfl) (by kernel_rfl) (by kernel_rfl) (fun _ _ _ h => h) (Or.inl ⟨by rfl, fun w' hw' => ?_⟩) hS ?_
        · obtain ⟨_, k0, k1⟩ := hw'
          go_simp
        simp only [Act.put, List.setIfInBounds_toArray, List.set_cons_succ, List.set_cons_zero]
        refine takeN (.bool true) (some 98) (i := 11) rfl rfl (by kernel_rfl) (by kernel_rfl) (by kernel_rfl) (fun _ _ _ h => h) (Or.inl ⟨by rfl, fun w' hw' => ?_⟩) hS ?_
        · obtain ⟨_, k0, k1⟩ := hw'
          go_simp
        simp only [Act.put, List.setIfInBounds_toArray, List.set_cons_succ, List.set_cons_zero]
        refine takeN (.bool true) (some 99) (i := 12) rfl rfl (by kernel_rfl) (by kernel_rfl) (by kernel_rfl) (fun _ _ _ h => h) (Or.inl ⟨by rfl, fun w' hw' => ?_⟩) hS ?_
        · obtain ⟨_, k0, k1⟩ := hw'
          go_simp
        simp only [Act.put, List.setIfInBounds_toArray, List.set_cons_succ, List.set_cons_zero]
        refine takeN (.bool true) (some 100) (i := 13) rfl rfl (by kernel_rfl) (by kernel_rfl) (by kernel_rfl) (fun _ _ _ h => h) (Or.inl ⟨by rfl, fun w' hw' => ?_⟩) hS ?_
        · obtain ⟨_, k0, k1⟩ := hw'
          go_simp
        simp only [Act.put, List.setIfInBounds_toArray, List.set_cons_succ, List.set_cons_zero]
        refine takeN (.pointer (some ⟨nb, 0, none⟩)) (some 101) (i := 14) rfl rfl (by kernel_rfl) (by kernel_rfl) (by kernel_rfl) (fun _ _ _ h => h) (Or.inl ⟨by rfl, fun w' hw' => ?_⟩) hS ?_
        · obtain ⟨_, k0, k1⟩ := hw'
          go_simp
        simp only [Act.put, List.setIfInBounds_toArray, List.set_cons_succ, List.set_cons_zero]
        refine takeN (.agg #[.string (S k), .string (S d)]) (some 103) (i := 16) rfl rfl (by kernel_rfl) (by kernel_rfl) (by kernel_rfl) (fun _ _ _ h => h) (Or.inl ⟨by rfl, fun w' hw' => ?_⟩) hS ?_
        · obtain ⟨_, k0, k1⟩ := hw'
          go_simp
        simp only [Act.put, List.setIfInBounds_toArray, List.set_cons_succ, List.set_cons_zero]
        refine wpAnyH_all (rs := [15, 17]) (by kernel_rfl) (by simp) (fun i hi => ?_)
        rcases (show i = 15 ∨ i = 17 by simpa using hi) with rfl | rfl
        · refine wantN (i := 15) rfl (by rfl) (callN (f := 22) (some 102) rfl Tryz.func22 (by kernel_rfl) (by kernel_rfl) rfl rfl ?_)
          simp only [List.map_toArray, List.map_cons, List.map_nil]
          refine (RECN.out _ e9).mono ?_
          rintro e wa ⟨va, rfl, hba, hla⟩
          have hwa := below_then e9 hla
          refine ⟨_, rfl, KEEP.out _ hwa, ?_⟩
          try dsimp only
          simp only [Act.put, List.setIfInBounds_toArray, List.set_cons_succ, List.set_cons_zero]
          refine wpAnyH_all (rs := [17]) (by kernel_rfl) (by simp) (fun i hi => ?_)
          obtain rfl : i = 17 := by simpa using hi
          have hwb := hwa.alloc hwa.size (.cells #[.string (S k), .string (S d)] 35)
          have hlit := prs_new wa [⟨k, d⟩] 35
          have hva := hba.prs.later ((Below.refl wa.heap.size wa).alloc (Nat.le_refl _) (.cells #[.string (S k), .string (S d)] 35))
          have EQ := equalP_same [⟨k, d⟩] _ _ _ (by simp) hva hlit
          refine wantN (i := 17) rfl (by rfl) (buildN k d (some 104) rfl _ rfl rfl ⟨KEEP.out _ hwb, ?_⟩)
          simp only [List.length_cons, List.length_nil, Nat.zero_add] at EQ
          generalize (⟨wa.heap.size, 0, none⟩ : Addr) = ab at EQ ⊢
          generalize wa.alloc (.cells #[.string (S k), .string (S d)] 35) = wb at hwb EQ ⊢
          have hSb := KEEP.out _ hwb
          try dsimp only
          simp only [Act.put, List.setIfInBounds_toArray, List.set_cons_succ, List.set_cons_zero]
          refine wpAnyH_all (rs := [18]) (by kernel_rfl) (by simp) (fun i hi => ?_)
          obtain rfl : i = 18 := by simpa using hi
          refine wantN (i := 18) rfl (by rfl) (callN (f := 23) (some 105) rfl Tryz.func23 (by kernel_rfl) (by kernel_rfl) rfl rfl ?_)
          simp only [List.map_toArray, List.map_cons, List.map_nil]
          refine EQ.mono ?_
          rintro e wc ⟨rfl, hbc⟩
          have hwc := below_then hwb hbc
          have hSc := KEEP.out _ hwc
          refine ⟨_, rfl, hSc, ?_⟩
          try dsimp only
          simp only [Act.put, List.setIfInBounds_toArray, List.set_cons_succ, List.set_cons_zero]
          refine takeN (.bool true) (some 106) (i := 19) rfl rfl (by kernel_rfl) (by kernel_rfl) (by kernel_rfl) (fun _ _ _ h => h) (Or.inl ⟨by rfl, fun w' hw' => ?_⟩) hSc ?_
          · obtain ⟨_, k0, k1⟩ := hw'
            go_simp
          simp only [Act.put, List.setIfInBounds_toArray, List.set_cons_succ, List.set_cons_zero]
          refine takeN (.bool true) (some 107) (i := 20) rfl rfl (by kernel_rfl) (by kernel_rfl) (by kernel_rfl) (fun _ _ _ h => h) (Or.inl ⟨by rfl, fun w' hw' => ?_⟩) hSc ?_
          · obtain ⟨_, k0, k1⟩ := hw'
            go_simp
          simp only [Act.put, List.setIfInBounds_toArray, List.set_cons_succ, List.set_cons_zero]
          refine takeN undef (some 108) (i := 21) rfl rfl (by kernel_rfl) (by kernel_rfl) (by kernel_rfl) (fun _ _ _ h => h) (Or.inr ⟨by rfl, rfl⟩) hSc ?_
          simp only [Act.put, List.setIfInBounds_toArray, List.set_cons_succ, List.set_cons_zero]
          refine takeN undef (some 109) (i := 22) rfl rfl (by kernel_rfl) (by kernel_rfl) (by kernel_rfl) (fun _ _ _ h => h) (Or.inr ⟨by rfl, rfl⟩) hSc ?_
          simp only [Act.put, List.setIfInBounds_toArray, List.set_cons_succ, List.set_cons_zero]
          refine takeN undef (some 110) (i := 23) rfl rfl (by kernel_rfl) (by kernel_rfl) (by kernel_rfl) (fun _ _ _ h => h) (Or.inr ⟨by rfl, rfl⟩) hSc ?_
          simp only [Act.put, List.setIfInBounds_toArray, List.set_cons_succ, List.set_cons_zero]
          refine takeN undef (some 111) (i := 24) rfl rfl (by kernel_rfl) (by kernel_rfl) (by kernel_rfl) (fun _ _ _ h => h) (Or.inr ⟨by rfl, rfl⟩) hSc ?_
          simp only [Act.put, List.setIfInBounds_toArray, List.set_cons_succ, List.set_cons_zero]
          refine takeN undef (some 112) (i := 25) rfl rfl (by kernel_rfl) (by kernel_rfl) (by kernel_rfl) (fun _ _ _ h => h) (Or.inr ⟨by rfl, rfl⟩) hSc ?_
          simp only [Act.put, List.setIfInBounds_toArray, List.set_cons_succ, List.set_cons_zero]
          refine takeN undef (some 113) (i := 26) rfl rfl (by kernel_rfl) (by kernel_rfl) (by kernel_rfl) (fun _ _ _ h => h) (Or.inr ⟨by rfl, rfl⟩) hSc ?_
          simp only [Act.put, List.setIfInBounds_toArray, List.set_cons_succ, List.set_cons_zero]
          refine takeN undef (some 114) (i := 27) rfl rfl (by kernel_rfl) (by kernel_rfl) (by kernel_rfl) (fun _ _ _ h => h) (Or.inr ⟨by rfl, rfl⟩) hSc ?_
          simp only [Act.put, List.setIfInBounds_toArray, List.set_cons_succ, List.set_cons_zero]
          refine takeN undef (some 115) (i := 28) rfl rfl (by kernel_rfl) (by kernel_rfl) (by kernel_rfl) (fun _ _ _ h => h) (Or.inr ⟨by rfl, rfl⟩) hSc ?_
          simp only [Act.put, List.setIfInBounds_toArray, List.set_cons_succ, List.set_cons_zero]
          refine takeN undef (some 116) (i := 29) rfl rfl (by kernel_rfl) (by kernel_rfl) (by kernel_rfl) (fun _ _ _ h => h) (Or.inr ⟨by rfl, rfl⟩) hSc ?_
          simp only [Act.put, List.setIfInBounds_toArray, List.set_cons_succ, List.set_cons_zero]
          refine takeN undef (some 117) (i := 30) rfl rfl (by kernel_rfl) (by kernel_rfl) (by kernel_rfl) (fun _ _ _ h => h) (Or.inr ⟨by rfl, rfl⟩) hSc ?_
          simp only [Act.put, List.setIfInBounds_toArray, List.set_cons_succ, List.set_cons_zero]
          refine takeN undef (some 118) (i := 31) rfl rfl (by kernel_rfl) (by kernel_rfl) (by kernel_rfl) (fun _ _ _ h => h) (Or.inr ⟨by rfl, rfl⟩) hSc ?_
          simp only [Act.put, List.setIfInBounds_toArray, List.set_cons_succ, List.set_cons_zero]
          refine takeN undef (some 119) (i := 32) rfl rfl (by kernel_rfl) (by kernel_rfl) (by kernel_rfl) (fun _ _ _ h => h) (Or.inr ⟨by rfl, rfl⟩) hSc ?_
          simp only [Act.put, List.setIfInBounds_toArray, List.set_cons_succ, List.set_cons_zero]
          refine takeN undef (some 120) (i := 33) rfl rfl (by kernel_rfl) (by kernel_rfl) (by kernel_rfl) (fun _ _ _ h => h) (Or.inr ⟨by rfl, rfl⟩) hSc ?_
          simp only [Act.put, List.setIfInBounds_toArray, List.set_cons_succ, List.set_cons_zero]
          refine takeN undef (some 121) (i := 34) rfl rfl (by kernel_rfl) (by kernel_rfl) (by kernel_rfl) (fun _ _ _ h => h) (Or.inr ⟨by rfl, rfl⟩) hSc ?_
          simp only [Act.put, List.setIfInBounds_toArray, List.set_cons_succ, List.set_cons_zero]
          refine takeN undef (some 122) (i := 35) rfl rfl (by kernel_rfl) (by kernel_rfl) (by kernel_rfl) (fun _ _ _ h => h) (Or.inr ⟨by rfl, rfl⟩) hSc ?_
          simp only [Act.put, List.setIfInBounds_toArray, List.set_cons_succ, List.set_cons_zero]
          refine takeN undef (some 123) (i := 36) rfl rfl (by kernel_rfl) (by kernel_rfl) (by kernel_rfl) (fun _ _ _ h => h) (Or.inr ⟨by rfl, rfl⟩) hSc ?_
          simp only [Act.put, List.setIfInBounds_toArray, List.set_cons_succ, List.set_cons_zero]
          refine takeN (.bool true) (some 124) (i := 37) rfl rfl (by kernel_rfl) (by kernel_rfl) (by kernel_rfl) (fun _ _ _ h => h) (Or.inl ⟨by rfl, fun w' hw' => ?_⟩) hSc ?_
          · obtain ⟨_, k0, k1⟩ := hw'
            go_simp
          simp only [Act.put, List.setIfInBounds_toArray, List.set_cons_succ, List.set_cons_zero]
          refine takeN (.bool true) (some 125) (i := 38) rfl rfl (by kernel_rfl) (by kernel_rfl) (by kernel_rfl) (fun _ _ _ h => h) (Or.inl ⟨by rfl, fun w' hw' => ?_⟩) hSc ?_
          · obtain ⟨_, k0, k1⟩ := hw'
            go_simp
          simp only [Act.put, List.setIfInBounds_toArray, List.set_cons_succ, List.set_cons_zero]
          refine takeN (.bool true) (some 4) (i := 39) rfl rfl (by kernel_rfl) (by kernel_rfl) (by kernel_rfl) (fun _ _ _ h => h) (Or.inl ⟨by rfl, fun w' hw' => ?_⟩) hSc ?_
          · obtain ⟨_, k0, k1⟩ := hw'
            go_simp
          simp only [Act.put, List.setIfInBounds_toArray, List.set_cons_succ, List.set_cons_zero]
          refine wpAnyH_done (by kernel_rfl) ?_ _
          have Hend := Lib.hid (HS9.out.later hSc.1).low
          clear hSc
          go_wp2_with fail
          go_ret
          exact ⟨rfl, below_then Hbp.out Hend.out⟩
        · have hwb := e9.alloc e9.size (.cells #[.string (S k), .string (S d)] 35)
          have hlit := prs_new wx [⟨k, d⟩] 35
          refine wantN (i := 17) rfl (by rfl) (buildN k d (some 104) rfl _ rfl rfl ⟨KEEP.out _ hwb, ?_⟩)
          simp only [prsVs, List.flatMap_cons, List.flatMap_nil, List.append_nil, List.length_cons, List.length_nil, Nat.zero_add] at hlit
          generalize (⟨wx.heap.size, 0, none⟩ : Addr) = ab at hlit ⊢
          change PrsV (wx.alloc (.cells #[.string (S k), .string (S d)] 35)) _ _ at hlit
          generalize wx.alloc (.cells #[.string (S k), .string (S d)] 35) = wb at hwb hlit ⊢
          have hSb := KEEP.out _ hwb
          try dsimp only
          simp only [Act.put, List.setIfInBounds_toArray, List.set_cons_succ, List.set_cons_zero]
          refine wpAnyH_all (rs := [15]) (by kernel_rfl) (by simp) (fun i hi => ?_)
          obtain rfl : i = 15 := by simpa using hi
          refine wantN (i := 15) rfl (by rfl) (callN (f := 22) (some 102) rfl Tryz.func22 (by kernel_rfl) (by kernel_rfl) rfl rfl ?_)
          simp only [List.map_toArray, List.map_cons, List.map_nil]
          refine (RECN.out _ hwb).mono ?_
          rintro e wa ⟨va, rfl, hba, hla⟩
          have hwa := below_then hwb hla
          refine ⟨_, rfl, KEEP.out _ hwa, ?_⟩
          try dsimp only
          simp only [Act.put, List.setIfInBounds_toArray, List.set_cons_succ, List.set_cons_zero]
          have EQ := equalP_same [⟨k, d⟩] _ _ _ (by simp) hba.prs (hlit.later hla)
          refine wpAnyH_all (rs := [18]) (by kernel_rfl) (by simp) (fun i hi => ?_)
          obtain rfl : i = 18 := by simpa using hi
          refine wantN (i := 18) rfl (by rfl) (callN (f := 23) (some 105) rfl Tryz.func23 (by kernel_rfl) (by kernel_rfl) rfl rfl ?_)
          simp only [List.map_toArray, List.map_cons, List.map_nil]
          refine EQ.mono ?_
          rintro e wc ⟨rfl, hbc⟩
          have hwc := below_then hwa hbc
          have hSc := KEEP.out _ hwc
          refine ⟨_, rfl, hSc, ?_⟩
          try dsimp only
          simp only [Act.put, List.setIfInBounds_toArray, List.set_cons_succ, List.set_cons_zero]
          refine takeN (.bool true) (some 106) (i := 19) rfl rfl (by kernel_rfl) (by kernel_rfl) (by kernel_rfl) (fun _ _ _ h => h) (Or.inl ⟨by rfl, fun w' hw' => ?_⟩) hSc ?_
          · obtain ⟨_, k0, k1⟩ := hw'
            go_simp
          simp only [Act.put, List.setIfInBounds_toArray, List.set_cons_succ, List.set_cons_zero]
          refine takeN (.bool true) (some 107) (i := 20) rfl rfl (by kernel_rfl) (by kernel_rfl) (by kernel_rfl) (fun _ _ _ h => h) (Or.inl ⟨by rfl, fun w' hw' => ?_⟩) hSc ?_
          · obtain ⟨_, k0, k1⟩ := hw'
            go_simp
          simp only [Act.put, List.setIfInBounds_toArray, List.set_cons_succ, List.set_cons_zero]
          refine takeN undef (some 108) (i := 21) rfl rfl (by kernel_rfl) (by kernel_rfl) (by kernel_rfl) (fun _ _ _ h => h) (Or.inr ⟨by rfl, rfl⟩) hSc ?_
          simp only [Act.put, List.setIfInBounds_toArray, List.set_cons_succ, List.set_cons_zero]
          refine takeN undef (some 109) (i := 22) rfl rfl (by kernel_rfl) (by kernel_rfl) (by kernel_rfl) (fun _ _ _ h => h) (Or.inr ⟨by rfl, rfl⟩) hSc ?_
          simp only [Act.put, List.setIfInBounds_toArray, List.set_cons_succ, List.set_cons_zero]
          refine takeN undef (some 110) (i := 23) rfl rfl (by kernel_rfl) (by kernel_rfl) (by kernel_rfl) (fun _ _ _ h => h) (Or.inr ⟨by rfl, rfl⟩) hSc ?_
          simp only [Act.put, List.setIfInBounds_toArray, List.set_cons_succ, List.set_cons_zero]
          refine takeN undef (some 111) (i := 24) rfl rfl (by kernel_rfl) (by kernel_rfl) (by kernel_rfl) (fun _ _ _ h => h) (Or.inr ⟨by rfl, rfl⟩) hSc ?_
          simp only [Act.put, List.setIfInBounds_toArray, List.set_cons_succ, List.set_cons_zero]
          refine takeN undef (some 112) (i := 25) rfl rfl (by kernel_rfl) (by kernel_rfl) (by kernel_rfl) (fun _ _ _ h => h) (Or.inr ⟨by rfl, rfl⟩) hSc ?_
          simp only [Act.put, List.setIfInBounds_toArray, List.set_cons_succ, List.set_cons_zero]
          refine takeN undef (some 113) (i := 26) rfl rfl (by kernel_rfl) (by kernel_rfl) (by kernel_rfl) (fun _ _ _ h => h) (Or.inr ⟨by rfl, rfl⟩) hSc ?_
          simp only [Act.put, List.setIfInBounds_toArray, List.set_cons_succ, List.set_cons_zero]
          refine takeN undef (some 114) (i := 27) rfl rfl (by kernel_rfl) (by kernel_rfl) (by kernel_rfl) (fun _ _ _ h => h) (Or.inr ⟨by rfl, rfl⟩) hSc ?_
          simp only [Act.put, List.setIfInBounds_toArray, List.set_cons_succ, List.set_cons_zero]
          refine takeN undef (some 115) (i := 28) rfl rfl (by kernel_rfl) (by kernel_rfl) (by kernel_rfl) (fun _ _ _ h => h) (Or.inr ⟨by rfl, rfl⟩) hSc ?_
          simp only [Act.put, List.setIfInBounds_toArray, List.set_cons_succ, List.set_cons_zero]
          refine takeN undef (some 116) (i := 29) rfl rfl (by kernel_rfl) (by kernel_rfl) (by kernel_rfl) (fun _ _ _ h => h) (Or.inr ⟨by rfl, rfl⟩) hSc ?_
          simp only [Act.put, List.setIfInBounds_toArray, List.set_cons_succ, List.set_cons_zero]
          refine takeN undef (some 117) (i := 30) rfl rfl (by kernel_rfl) (by kernel_rfl) (by kernel_rfl) (fun _ _ _ h => h) (Or.inr ⟨by rfl, rfl⟩) hSc ?_
          simp only [Act.put, List.setIfInBounds_toArray, List.set_cons_succ, List.set_cons_zero]
          refine takeN undef (some 118) (i := 31) rfl rfl (by kernel_rfl) (by kernel_rfl) (by kernel_rfl) (fun _ _ _ h => h) (Or.inr ⟨by rfl, rfl⟩) hSc ?_
          simp only [Act.put, List.setIfInBounds_toArray, List.set_cons_succ, List.set_cons_zero]
          refine takeN undef (some 119) (i := 32) rfl rfl (by kernel_rfl) (by kernel_rfl) (by kernel_rfl) (fun _ _ _ h => h) (Or.inr ⟨by rfl, rfl⟩) hSc ?_
          simp only [Act.put, List.setIfInBounds_toArray, List.set_cons_succ, List.set_cons_zero]
          refine takeN undef (some 120) (i := 33) rfl rfl (by kernel_rfl) (by kernel_rfl) (by kernel_rfl) (fun _ _ _ h => h) (Or.inr ⟨by rfl, rfl⟩) hSc ?_
          simp only [Act.put, List.setIfInBounds_toArray, List.set_cons_succ, List.set_cons_zero]
          refine takeN undef (some 121) (i := 34) rfl rfl (by kernel_rfl) (by kernel_rfl) (by kernel_rfl) (fun _ _ _ h => h) (Or.inr ⟨by rfl, rfl⟩) hSc ?_
          simp only [Act.put, List.setIfInBounds_toArray, List.set_cons_succ, List.set_cons_zero]
          refine takeN undef (some 122) (i := 35) rfl rfl (by kernel_rfl) (by kernel_rfl) (by kernel_rfl) (fun _ _ _ h => h) (Or.inr ⟨by rfl, rfl⟩) hSc ?_
          simp only [Act.put, List.setIfInBounds_toArray, List.set_cons_succ, List.set_cons_zero]
          refine takeN undef (some 123) (i := 36) rfl rfl (by kernel_rfl) (by kernel_rfl) (by kernel_rfl) (fun _ _ _ h => h) (Or.inr ⟨by rfl, rfl⟩) hSc ?_
          simp only [Act.put, List.setIfInBounds_toArray, List.set_cons_succ, List.set_cons_zero]
          refine takeN (.bool true) (some 124) (i := 37) rfl rfl (by kernel_rfl) (by kernel_rfl) (by kernel_rfl) (fun _ _ _ h => h) (Or.inl ⟨by rfl, fun w' hw' => ?_⟩) hSc ?_
          · obtain ⟨_, k0, k1⟩ := hw'
            go_simp
          simp only [Act.put, List.setIfInBounds_toArray, List.set_cons_succ, List.set_cons_zero]
          refine takeN (.bool true) (some 125) (i := 38) rfl rfl (by kernel_rfl) (by kernel_rfl) (by kernel_rfl) (fun _ _ _ h => h) (Or.inl ⟨by rfl, fun w' hw' => ?_⟩) hSc ?_
          · obtain ⟨_, k0, k1⟩ := hw'
            go_simp
          simp only [Act.put, List.setIfInBounds_toArray, List.set_cons_succ, List.set_cons_zero]
          refine takeN (.bool true) (some 4) (i := 39) rfl rfl (by kernel_rfl) (by kernel_rfl) (by kernel_rfl) (fun _ _ _ h => h) (Or.inl ⟨by rfl, fun w' hw' => ?_⟩) hSc ?_
          · obtain ⟨_, k0, k1⟩ := hw'
            go_simp
          simp only [Act.put, List.setIfInBounds_toArray, List.set_cons_succ, List.set_cons_zero]
          refine wpAnyH_done (by kernel_rfl) ?_ _
          have Hend := Lib.hid (HS9.out.later hSc.1).low
          clear hSc
          go_wp2_with fail
          go_ret
          exact ⟨rfl, below_then Hbp.out Hend.out⟩

      · rw [Hs.out] at h1
        rw [Hr.out] at h2
        subst h1 h2
        rw [errV_ne hf0]
        clear hf0 c0 c1 c2 c3 c4 c5 c6x
        go_wp2_with fail
        refine wp_region_held (S := (fun w' => Below w9.heap.size w9 w' ∧ w'.cell? ⟨w.heap.size, 0, none⟩ = some (.string (S k)) ∧ w'.cell? ⟨w.heap.size, 1, none⟩ = some (.string (S d)))) (by kernel_rfl) ?_
        have e9 : Below w9.heap.size w9 { w9 with drawn := w9.drawn + 1 } := (Below.refl _ _).drew
        generalize ({ w9 with drawn := w9.drawn + 1 } : World) = wx at e9 ⊢
        have hS := KEEP.out _ e9
        refine takeN (.nilIface) (some 87) (i := 0) rfl rfl (by kernel_rfl) (by kernel_rfl) (by kernel_rfl) (fun _ _ _ h => h) (Or.inl ⟨by rfl, fun w' hw' => ?_⟩) hS ?_
        · obtain ⟨_, k0, k1⟩ := hw'
          go_simp
        simp only [Act.put, List.setIfInBounds_toArray, List.set_cons_succ, List.set_cons_zero]
        refine takeN (.bool true) (some 88) (i := 1) rfl rfl (by kernel_rfl) (by kernel_rfl) (by kernel_rfl) (fun _ _ _ h => h) (Or.inl ⟨by rfl, fun w' hw' => ?_⟩) hS ?_
        · obtain ⟨_, k0, k1⟩ := hw'
          go_simp
        simp only [Act.put, List.setIfInBounds_toArray, List.set_cons_succ, List.set_cons_zero]
        refine takeN (.bool true) (some 89) (i := 2) rfl rfl (by kernel_rfl) (by kernel_rfl) (by kernel_rfl) (fun _ _ _ h => h) (Or.inl ⟨by rfl, fun w' hw' => ?_⟩) hS ?_
        · obtain ⟨_, k0, k1⟩ := hw'
          go_simp
        simp only [Act.put, List.setIfInBounds_toArray, List.set_cons_succ, List.set_cons_zero]
        refine takeN (.nilIface) (some 90) (i := 3) rfl rfl (by kernel_rfl) (by kernel_rfl) (by kernel_rfl) (fun _ _ _ h => h) (Or.inl ⟨by rfl, fun w' hw' => ?_⟩) hS ?_
        · obtain ⟨_, k0, k1⟩ := hw'
          go_simp
        simp only [Act.put, List.setIfInBounds_toArray, List.set_cons_succ, List.set_cons_zero]
        refine takeN (.bool true) (some 91) (i := 4) rfl rfl (by kernel_rfl) (by kernel_rfl) (by kernel_rfl) (fun _ _ _ h => h) (Or.inl ⟨by rfl, fun w' hw' => ?_⟩) hS ?_
        · obtain ⟨_, k0, k1⟩ := hw'
          go_simp
        simp only [Act.put, List.setIfInBounds_toArray, List.set_cons_succ, List.set_cons_zero]
        refine takeN (.bool true) (some 92) (i := 5) rfl rfl (by kernel_rfl) (by kernel_rfl) (by kernel_rfl) (fun _ _ _ h => h) (Or.inl ⟨by rfl, fun w' hw' => ?_⟩) hS ?_
        · obtain ⟨_, k0, k1⟩ := hw'
          go_simp
        simp only [Act.put, List.setIfInBounds_toArray, List.set_cons_succ, List.set_cons_zero]
        refine takeN (.bool true) (some 93) (i := 6) rfl rfl (by kernel_rfl) (by kernel_rfl) (by kernel_rfl) (fun _ _ _ h => h) (Or.inl ⟨by rfl, fun w' hw' => ?_⟩) hS ?_
        · obtain ⟨_, k0, k1⟩ := hw'
          go_simp
        simp only [Act.put, List.setIfInBounds_toArray, List.set_cons_succ, List.set_cons_zero]
        refine takeN (.bool false) (some 94) (i := 7) rfl rfl (by kernel_rfl) (by kernel_rfl) (by kernel_rfl) (fun _ _ _ h => h) (Or.inl ⟨by rfl, fun w' hw' => ?_⟩) hS ?_
        · obtain ⟨_, k0, k1⟩ := hw'
          go_simp
        simp only [Act.put, List.setIfInBounds_toArray, List.set_cons_succ, List.set_cons_zero]
        refine takeN (.bool false) (some 95) (i := 8) rfl rfl (by kernel_rfl) (by kernel_rfl) (by kernel_rfl) (fun _ _ _ h => h) (Or.inl ⟨by rfl, fun w' hw' => ?_⟩) hS ?_
        · obtain ⟨_, k0, k1⟩ := hw'
          go_simp
        simp only [Act.put, List.setIfInBounds_toArray, List.set_cons_succ, List.set_cons_zero]
        refine takeN undef (some 96) (i := 9) rfl rfl (by kernel_rfl) (by kernel_rfl) (by kernel_rfl) (fun _ _ _ h => h) (Or.inr ⟨by rfl, rfl⟩) hS ?_
        simp only [Act.put, List.setIfInBounds_toArray, List.set_cons_succ, List.set_cons_zero]
        refine takeN undef (some 97) (i := 10) rfl rfl (by kernel_rfl) (by kernel_rfl) (by kernel_rfl) (fun _ _ _ h => h) (Or.inr ⟨by rfl, rfl⟩) hS ?_
        simp only [Act.put, List.setIfInBounds_toArray, List.set_cons_succ, List.set_cons_zero]
        refine takeN undef (some 98) (i := 11) rfl rfl (by kernel_rfl) (by kernel_rfl) (by kernel_rfl) (fun _ _ _ h => h) (Or.inr ⟨by rfl, rfl⟩) hS ?_
        simp only [Act.put, List.setIfInBounds_toArray, List.set_cons_succ, List.set_cons_zero]
        refine takeN (.bool false) (some 99) (i := 12) rfl rfl (by kernel_rfl) (by kernel_rfl) (by kernel_rfl) (fun _ _ _ h => h) (Or.inl ⟨by rfl, fun w' hw' => ?_⟩) hS ?_
        · obtain ⟨_, k0, k1⟩ := hw'
          go_simp
        simp only [Act.put, List.setIfInBounds_toArray, List.set_cons_succ, List.set_cons_zero]
        refine takeN (.bool false) (some 100) (i := 13) rfl rfl (by kernel_rfl) (by kernel_rfl) (by kernel_rfl) (fun _ _ _ h => h) (Or.inl ⟨by rfl, fun w' hw' => ?_⟩) hS ?_
        · obtain ⟨_, k0, k1⟩ := hw'
          go_simp
        simp only [Act.put, List.setIfInBounds_toArray, List.set_cons_succ, List.set_cons_zero]
        refine takeN undef (some 101) (i := 14) rfl rfl (by kernel_rfl) (by kernel_rfl) (by kernel_rfl) (fun _ _ _ h => h) (Or.inr ⟨by rfl, rfl⟩) hS ?_
        simp only [Act.put, List.setIfInBounds_toArray, List.set_cons_succ, List.set_cons_zero]
        refine takeN undef (some 102) (i := 15) rfl rfl (by kernel_rfl) (by kernel_rfl) (by kernel_rfl) (fun _ _ _ h => h) (Or.inr ⟨by rfl, rfl⟩) hS ?_
        simp only [Act.put, List.setIfInBounds_toArray, List.set_cons_succ, List.set_cons_zero]
        refine takeN undef (some 103) (i := 16) rfl rfl (by kernel_rfl) (by kernel_rfl) (by kernel_rfl) (fun _ _ _ h => h) (Or.inr ⟨by rfl, rfl⟩) hS ?_
        simp only [Act.put, List.setIfInBounds_toArray, List.set_cons_succ, List.set_cons_zero]
        refine takeN undef (some 104) (i := 17) rfl rfl (by kernel_rfl) (by kernel_rfl) (by kernel_rfl) (fun _ _ _ h => h) (Or.inr ⟨by rfl, rfl⟩) hS ?_
        simp only [Act.put, List.setIfInBounds_toArray, List.set_cons_succ, List.set_cons_zero]
        refine takeN undef (some 105) (i := 18) rfl rfl (by kernel_rfl) (by kernel_rfl) (by kernel_rfl) (fun _ _ _ h => h) (Or.inr ⟨by rfl, rfl⟩) hS ?_
        simp only [Act.put, List.setIfInBounds_toArray, List.set_cons_succ, List.set_cons_zero]
        refine takeN (.bool false) (some 106) (i := 19) rfl rfl (by kernel_rfl) (by kernel_rfl) (by kernel_rfl) (fun _ _ _ h => h) (Or.inl ⟨by rfl, fun w' hw' => ?_⟩) hS ?_
        · obtain ⟨_, k0, k1⟩ := hw'
          go_simp
        simp only [Act.put, List.setIfInBounds_toArray, List.set_cons_succ, List.set_cons_zero]
        refine takeN (.bool false) (some 107) (i := 20) rfl rfl (by kernel_rfl) (by kernel_rfl) (by kernel_rfl) (fun _ _ _ h => h) (Or.inl ⟨by rfl, fun w' hw' => ?_⟩) hS ?_
        · obtain ⟨_, k0, k1⟩ := hw'
          go_simp
        simp only [Act.put, List.setIfInBounds_toArray, List.set_cons_succ, List.set_cons_zero]
        refine takeN (.bool false) (some 108) (i := 21) rfl rfl (by kernel_rfl) (by kernel_rfl) (by kernel_rfl) (fun _ _ _ h => h) (Or.inl ⟨by rfl, fun w' hw' => ?_⟩) hS ?_
        · obtain ⟨_, k0, k1⟩ := hw'
          go_simp
        simp only [Act.put, List.setIfInBounds_toArray, List.set_cons_succ, List.set_cons_zero]
        refine takeN (.bool true) (some 109) (i := 22) rfl rfl (by kernel_rfl) (by kernel_rfl) (by kernel_rfl) (fun _ _ _ h => h) (Or.inl ⟨by rfl, fun w' hw' => ?_⟩) hS ?_
        · obtain ⟨_, k0, k1⟩ := hw'
          go_simp
        simp only [Act.put, List.setIfInBounds_toArray, List.set_cons_succ, List.set_cons_zero]
        refine takeN (.bool true) (some 110) (i := 23) rfl rfl (by kernel_rfl) (by kernel_rfl) (by kernel_rfl) (fun _ _ _ h => h) (Or.inl ⟨by rfl, fun w' hw' => ?_⟩) hS ?_
        · obtain ⟨_, k0, k1⟩ := hw'
          go_simp
        simp only [Act.put, List.setIfInBounds_toArray, List.set_cons_succ, List.set_cons_zero]
        refine takeN (v6) (some 111) (i := 24) rfl rfl (by kernel_rfl) (by kernel_rfl) (by kernel_rfl) (fun _ _ _ h => h) (Or.inl ⟨by rfl, fun w' hw' => ?_⟩) hS ?_
        · obtain ⟨_, k0, k1⟩ := hw'
          go_simp
        simp only [Act.put, List.setIfInBounds_toArray, List.set_cons_succ, List.set_cons_zero]
        refine takeN (.pointer (some ⟨w.heap.size, 0, none⟩)) (some 112) (i := 25) rfl rfl (by kernel_rfl) (by kernel_rfl) (by kernel_rfl) (fun _ _ _ h => h) (Or.inl ⟨by rfl, fun w' hw' => ?_⟩) hS ?_
        · obtain ⟨_, k0, k1⟩ := hw'
          go_simp
        simp only [Act.put, List.setIfInBounds_toArray, List.set_cons_succ, List.set_cons_zero]
        refine takeN (.string (S k)) (some 113) (i := 26) rfl rfl (by kernel_rfl) (by kernel_rfl) (by kernel_rfl) (fun _ _ _ h => h) (Or.inl ⟨by rfl, fun w' hw' => ?_⟩) hS ?_
        · obtain ⟨_, k0, k1⟩ := hw'
          go_simp
        simp only [Act.put, List.setIfInBounds_toArray, List.set_cons_succ, List.set_cons_zero]
        refine wpAnyH_all (rs := [27]) (by kernel_rfl) (by simp) (fun i hi => ?_)
        obtain rfl : i = 27 := by simpa using hi
        refine wantN (i := 27) rfl (by rfl) (callN (f := 39) (some 114) rfl Tryz.func39 (by kernel_rfl) (by kernel_rfl) rfl rfl ?_)
        simp only [List.map_toArray, List.map_cons, List.map_nil]
        refine (pair_any k [82, 101, 106, 101, 99, 116] wx).mono ?_
        rintro e wa ⟨rfl, hba⟩
        have hwa := below_then e9 hba
        refine ⟨_, rfl, KEEP.out _ hwa, ?_⟩
        try dsimp only
        simp only [Act.put, List.setIfInBounds_toArray, List.set_cons_succ, List.set_cons_zero]
        refine wpAnyH_all (rs := [28]) (by kernel_rfl) (by simp) (fun i hi => ?_)
        obtain rfl : i = 28 := by simpa using hi
        have hwb := hwa.alloc hwa.size (.cells #[.string (S k), .string (S [82, 101, 106, 101, 99, 116])] 35)
        have hlit := prs_new wa [⟨k, [82, 101, 106, 101, 99, 116]⟩] 35
        have hva := (HB9.out.later hwa).later ((Below.refl wa.heap.size wa).alloc (Nat.le_refl _) (.cells #[.string (S k), .string (S [82, 101, 106, 101, 99, 116])] 35))
        have EQ := equalP_same [⟨k, [82, 101, 106, 101, 99, 116]⟩] _ _ _ (by simp) hva hlit
        refine wantN (i := 28) rfl (by rfl) (buildN k [82, 101, 106, 101, 99, 116] (some 115) rfl _ rfl rfl ⟨KEEP.out _ hwb, ?_⟩)
        simp only [List.length_cons, List.length_nil, Nat.zero_add] at EQ
        generalize (⟨wa.heap.size, 0, none⟩ : Addr) = ab at EQ ⊢
        generalize wa.alloc (.cells #[.string (S k), .string (S [82, 101, 106, 101, 99, 116])] 35) = wb at hwb EQ ⊢
        try dsimp only
        simp only [Act.put, List.setIfInBounds_toArray, List.set_cons_succ, List.set_cons_zero]
        refine wpAnyH_all (rs := [29]) (by kernel_rfl) (by simp) (fun i hi => ?_)
        obtain rfl : i = 29 := by simpa using hi
        refine wantN (i := 29) rfl (by rfl) (callN (f := 23) (some 116) rfl Tryz.func23 (by kernel_rfl) (by kernel_rfl) rfl rfl ?_)
        simp only [List.map_toArray, List.map_cons, List.map_nil]
        refine EQ.mono ?_
        rintro e wc ⟨rfl, hbc⟩
        have hwc := below_then hwb hbc
        have hSc := KEEP.out _ hwc
        refine ⟨_, rfl, hSc, ?_⟩
        try dsimp only
        simp only [Act.put, List.setIfInBounds_toArray, List.set_cons_succ, List.set_cons_zero]
        refine takeN (.bool true) (some 117) (i := 30) rfl rfl (by kernel_rfl) (by kernel_rfl) (by kernel_rfl) (fun _ _ _ h => h) (Or.inl ⟨by rfl, fun w' hw' => ?_⟩) hSc ?_
        · obtain ⟨_, k0, k1⟩ := hw'
          go_simp
        simp only [Act.put, List.setIfInBounds_toArray, List.set_cons_succ, List.set_cons_zero]
        refine takeN (.bool true) (some 118) (i := 31) rfl rfl (by kernel_rfl) (by kernel_rfl) (by kernel_rfl) (fun _ _ _ h => h) (Or.inl ⟨by rfl, fun w' hw' => ?_⟩) hSc ?_
        · obtain ⟨_, k0, k1⟩ := hw'
          go_simp
        simp only [Act.put, List.setIfInBounds_toArray, List.set_cons_succ, List.set_cons_zero]
        refine takeN (.pointer (some ⟨nb, 0, none⟩)) (some 119) (i := 32) rfl rfl (by kernel_rfl) (by kernel_rfl) (by kernel_rfl) (fun _ _ _ h => h) (Or.inl ⟨by rfl, fun w' hw' => ?_⟩) hSc ?_
        · obtain ⟨_, k0, k1⟩ := hw'
          go_simp
        simp only [Act.put, List.setIfInBounds_toArray, List.set_cons_succ, List.set_cons_zero]
        refine wpAnyH_all (rs := [33]) (by kernel_rfl) (by simp) (fun i hi => ?_)
        obtain rfl : i = 33 := by simpa using hi
        refine wantN (i := 33) rfl (by rfl) (callN (f := 22) (some 120) rfl Tryz.func22 (by kernel_rfl) (by kernel_rfl) rfl rfl ?_)
        simp only [List.map_toArray, List.map_cons, List.map_nil]
        refine (RECN.out _ hwc).mono ?_
        rintro e wd ⟨vd, rfl, hbd, hld⟩
        obtain ⟨pd, cd, rfl⟩ : ∃ pd cd, vd = .slice pd 0 cd := hbd.form
        have hwd := below_then hwc hld
        have hSd := KEEP.out _ hwd
        refine ⟨_, rfl, hSd, ?_⟩
        try dsimp only
        simp only [Act.put, List.setIfInBounds_toArray, List.set_cons_succ, List.set_cons_zero]
        refine takeN (.int .i64 0) (some 121) (i := 34) rfl rfl (by kernel_rfl) (by kernel_rfl) (by kernel_rfl) (fun _ _ _ h => h) (Or.inl ⟨by rfl, fun w' hw' => ?_⟩) hSd ?_
        · obtain ⟨_, k0, k1⟩ := hw'
          go_simp
        simp only [Act.put, List.setIfInBounds_toArray, List.set_cons_succ, List.set_cons_zero]
        refine takeN (.bool true) (some 122) (i := 35) rfl rfl (by kernel_rfl) (by kernel_rfl) (by kernel_rfl) (fun _ _ _ h => h) (Or.inl ⟨by rfl, fun w' hw' => ?_⟩) hSd ?_
        · obtain ⟨_, k0, k1⟩ := hw'
          go_simp
        simp only [Act.put, List.setIfInBounds_toArray, List.set_cons_succ, List.set_cons_zero]
        refine takeN (.bool true) (some 123) (i := 36) rfl rfl (by kernel_rfl) (by kernel_rfl) (by kernel_rfl) (fun _ _ _ h => h) (Or.inl ⟨by rfl, fun w' hw' => ?_⟩) hSd ?_
        · obtain ⟨_, k0, k1⟩ := hw'
          go_simp
        simp only [Act.put, List.setIfInBounds_toArray, List.set_cons_succ, List.set_cons_zero]
        refine takeN (.bool true) (some 124) (i := 37) rfl rfl (by kernel_rfl) (by kernel_rfl) (by kernel_rfl) (fun _ _ _ h => h) (Or.inl ⟨by rfl, fun w' hw' => ?_⟩) hSd ?_
        · obtain ⟨_, k0, k1⟩ := hw'
          go_simp
        simp only [Act.put, List.setIfInBounds_toArray, List.set_cons_succ, List.set_cons_zero]
        refine takeN (.bool true) (some 125) (i := 38) rfl rfl (by kernel_rfl) (by kernel_rfl) (by kernel_rfl) (fun _ _ _ h => h) (Or.inl ⟨by rfl, fun w' hw' => ?_⟩) hSd ?_
        · obtain ⟨_, k0, k1⟩ := hw'
          go_simp
        simp only [Act.put, List.setIfInBounds_toArray, List.set_cons_succ, List.set_cons_zero]
        refine takeN (.bool true) (some 4) (i := 39) rfl rfl (by kernel_rfl) (by kernel_rfl) (by kernel_rfl) (fun _ _ _ h => h) (Or.inl ⟨by rfl, fun w' hw' => ?_⟩) hSd ?_
        · obtain ⟨_, k0, k1⟩ := hw'
          go_simp
        simp only [Act.put, List.setIfInBounds_toArray, List.set_cons_succ, List.set_cons_zero]
        refine wpAnyH_done (by kernel_rfl) ?_ _
        have Hend := Lib.hid (HS9.out.later hSd.1).low
        clear hSd
        go_wp2_with fail
        go_ret
        exact ⟨rfl, below_then Hbp.out Hend.out⟩


    have k6b : (K == 6) = false := by simp [k6]
    have k7b : (K == 7) = false := by simp [k7]
    rcases alone_rest (l := l) (d := d) Hrow.out (HKn.out ⟨k6, k7⟩) with ⟨z, n, hn, hres, h1, h2⟩ | ⟨z, hres, h1, h2⟩
    · rw [Hs.out] at h1
      rw [Hr.out] at h2
      subst h1 h2
      rw [Hyy.out] at hres
      have RS := Lib.hid (res_at w8 hres (errV_ne hn) (by omega) (by omega) (HE.out.later HS8.out.low))
      clear hres hn
      obtain ⟨q0, q1⟩ := (HK0.out.later HS8.out.low).two
      go_wp2_with fail
      refine RS.out.mono ?_
      rintro e w9 ⟨rfl, hb9⟩
      have HS9 := Lib.hid (HS8.out.later hb9)
      have HB9 := Lib.hid (HB8.out.later hb9)
      clear hb9 RS q0 q1 c0 c1 c2 c3 c4 c5 c6x
      obtain ⟨q0, q1⟩ := (HK0.out.later HS9.out.low).two
      have P := Lib.hid (pair_any k [82, 101, 106, 101, 99, 116] w9)
      go_wp2_with fail
      refine P.out.mono ?_
      rintro e wa ⟨rfl, hba⟩
      obtain ⟨wb, hwb⟩ : ∃ wb, wa.alloc (.cells #[.string (S k), .string (S [82, 101, 106, 101, 99, 116])] 35) = wb := ⟨_, rfl⟩
      have hbb : Below wa.heap.size wa wb := by rw [← hwb]; exact (Below.refl _ _).alloc (Nat.le_refl _) _
      have hpb : PrsV wb (.slice (some ⟨wa.heap.size, 0, none⟩) 1 1) [⟨k, [82, 101, 106, 101, 99, 116]⟩] := by rw [← hwb]; exact prs_new wa [⟨k, [82, 101, 106, 101, 99, 116]⟩] 35
      have HSb := Lib.hid ((HS9.out.later hba).later hbb)
      have E := Lib.hid (equalP_same [⟨k, [82, 101, 106, 101, 99, 116]⟩] _ _ wb (by simp) ((HB9.out.later hba).later hbb) hpb)
      clear hba hbb hpb P q0 q1
      go_wp2_with fail
      refine E.out.mono ?_
      rintro e wc ⟨rfl, hbc⟩
      have HSc := Lib.hid (HSb.out.later hbc)
      have RC := Lib.hid (rec_ns HSc.out)
      clear hbc E
      go_wp2_with fail
      refine RC.out.mono ?_
      rintro e wd ⟨vd, rfl, hbd, hld⟩
      obtain ⟨pd, cd, rfl⟩ : ∃ pd cd, vd = .slice pd 0 cd := hbd.form
      have HSd := Lib.hid (HSc.out.later hld)
      clear hbd hld RC
      go_wp2_with fail
      go_ret
      exact ⟨rfl, below_then Hbp.out HSd.out.low⟩
    · rw [Hs.out] at h1
      rw [Hr.out] at h2
      subst h1 h2
      rw [Hyy.out] at hres
      have RS := Lib.hid (res_at (ev := .nilIface) w8 hres rfl (by omega) (by omega) (HE.out.later HS8.out.low))
      clear hres
      obtain ⟨q0, q1⟩ := (HK0.out.later HS8.out.low).two
      go_wp2_with fail
      refine RS.out.mono ?_
      rintro e w9 ⟨rfl, hb9⟩
      have HS9 := Lib.hid (HS8.out.later hb9)
      have HB9 := Lib.hid (HB8.out.later hb9)
      clear hb9 RS q0 q1 c0 c1 c2 c3 c4 c5 c6x
      obtain ⟨q0, q1⟩ := (HK0.out.later HS9.out.low).two
      have P := Lib.hid (pair_any k z w9)
      go_wp2_with fail
      refine P.out.mono ?_
      rintro e wa ⟨rfl, hba⟩
      obtain ⟨wb, hwb⟩ : ∃ wb, wa.alloc (.cells #[.string (S k), .string (S z)] 35) = wb := ⟨_, rfl⟩
      have hbb : Below wa.heap.size wa wb := by rw [← hwb]; exact (Below.refl _ _).alloc (Nat.le_refl _) _
      have hpb : PrsV wb (.slice (some ⟨wa.heap.size, 0, none⟩) 1 1) [⟨k, z⟩] := by rw [← hwb]; exact prs_new wa [⟨k, z⟩] 35
      have HSb := Lib.hid ((HS9.out.later hba).later hbb)
      have HBa := Lib.hid (below_then hba hbb)
      have E := Lib.hid (equalP_same [⟨k, z⟩] _ _ wb (by simp) ((HB9.out.later hba).later hbb) hpb)
      clear hba hbb hpb P q0 q1
      go_wp2_with fail
      refine E.out.mono ?_
      rintro e wc ⟨rfl, hbc⟩
      have HSc := Lib.hid (HSb.out.later hbc)
      have HBc := Lib.hid hbc
      have RC := Lib.hid (rec_ns HSc.out)
      clear hbc E
      go_wp2_with fail
      refine RC.out.mono ?_
      rintro e wd ⟨vd, rfl, hbd, hld⟩
      have HSd := Lib.hid (HSc.out.later hld)
      have E := Lib.hid (equalP_same [⟨k, z⟩] _ _ wd (by simp) hbd.prs (((HB9.out.later HBa.out).later HBc.out).later hld))
      clear hbd hld RC
      go_wp2_with fail
      refine E.out.mono ?_
      rintro e wf ⟨rfl, hbf⟩
      have HSf := Lib.hid (HSd.out.later hbf)
      clear hbf E
      go_wp2_with fail
      go_ret
      exact ⟨rfl, below_then Hbp.out HSf.out.low⟩
end Go.Proofs.YteapbjeapnmloaaGreatDoor
