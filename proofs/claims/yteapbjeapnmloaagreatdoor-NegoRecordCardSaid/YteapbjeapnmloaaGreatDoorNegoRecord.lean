/- NegoRecord: what is recorded is so: each key once, of a value that fits, which is what it is then. -/
import Derived.Test.YteapbjeapnmloaaGreatDoorGJ
import Derived.Test.YteapbjeapnmloaaGreatDoorNames18
import Derived.Test.YteapbjeapnmloaaGreatDoorKeyIn
import Derived.Test.YteapbjeapnmloaaGreatDoorGE
import Derived.Test.YteapbjeapnmloaaGreatDoorOpenPrs
namespace Go.Proofs.YteapbjeapnmloaaGreatDoor
open Go.RowKit Go.Maps
set_option linter.unusedVariables false
theorem key_new {l : List Pr} {j : Nat} (h : (keysP l).Nodup) (hj : j < l.length) : l[j].k ∉ keysP (l.take j) := by
  have h2 : (keysP (l.take (j + 1))).Nodup := by
    have : keysP (l.take (j + 1)) = (keysP l).take (j + 1) := by unfold keysP; rw [List.map_take]
    rw [this]
    exact List.Nodup.sublist (List.take_sublist _ _) h
  rw [keys_take hj, List.nodup_append] at h2
  exact fun hm => h2.2.2 _ hm _ (List.mem_singleton.2 rfl) rfl
set_option maxRecDepth 100000 in
set_option maxHeartbeats 4000000 in
theorem negoRecord_any (l : List Pr) (v : Value) (m : List Pr) (u : Value) (n : List Pr) (x : Value) (lg dc : Bool) (w : World) (hv : PrsV w v l) (hf : WideP l) (hu : PrsV w u m) (hfu : WideP m) (hx : PrsV w x n) (hfx : WideP n) (hE : Env w) (hg : ErrCell w) :
    Calls Tryz.prog 5 #[v, u, x, .bool lg, .bool dc] w fun e w' => e = .returned (.bool true) ∧ Below w.heap.size w w' := by
  have HV := Lib.hid hv
  have HU := Lib.hid hu
  have HN := Lib.hid hx
  have HF := Lib.hid hf.1
  have HFU := Lib.hid hfu.1
  have HFN := Lib.hid hfx.1
  have HE := Lib.hid hE
  have Hg := Lib.hid hg
  obtain ⟨p, c, rfl⟩ := hv.form
  obtain ⟨pu, cu, rfl⟩ := hu.form
  obtain ⟨px, cx, rfl⟩ := hx.form
  have F := Lib.hid (settled_any w hE hg)
  have hmm := @run_makeMap Tryz.prog
  clear hv hu hE hg hx
  go_enter Tryz.func5, Tryz.ntmps5
  go_wp2_with fail
  refine F.out.mono ?_
  rintro e w0 ⟨rfl, hb0⟩
  have Hb0 := Lib.hid hb0
  clear hb0 F
  have KY := Lib.hid (keyed_any w0 (HE.out.later Hb0.out) (Hg.out.later Hb0.out))
  go_wp2_with fail
  refine KY.out.mono ?_
  rintro e w0k ⟨rfl, hbk⟩
  have Hb0 := Lib.hid (below_then Hb0.out hbk)
  clear hbk KY
  have M := Lib.hid (made_any (w := w0k) l _ Hb0.out HV.out HF.out HE.out Hg.out)
  go_wp2_with fail
  refine M.out.mono ?_
  rintro e w1 hM
  clear M
  rcases hM with ⟨rfl, hb1⟩ | ⟨nb, mv, rfl, hS1, hbf1, hge1, hb1⟩
  · have Hb1 := Lib.hid (below_then Hb0.out hb1)
    clear hb1
    go_wp2_with fail
    go_ret
    exact ⟨rfl, Hb1.out⟩
  have HS1 := Lib.hid hS1
  clear hS1 hbf1 hge1 hb1
  have T := Lib.hid (thickK_any m _ w1 (HU.out.later HS1.out.low) HFU.out.1)
  go_wp2_with fail
  refine T.out.mono ?_
  rintro e w2 ⟨b, rfl, hb2⟩
  have HS2 := Lib.hid (HS1.out.later hb2)
  clear hb2 T HS1
  rcases b_cases b with rfl | rfl
  · go_wp2_with fail
    go_ret
    exact ⟨rfl, HS2.out.low⟩
  have T := Lib.hid (thickK_any n _ w2 (HN.out.later HS2.out.low) HFN.out.1)
  go_wp2_with fail
  refine T.out.mono ?_
  rintro e w3 ⟨b, rfl, hb2⟩
  have HS3 := Lib.hid (HS2.out.later hb2)
  clear hb2 T HS2
  rcases b_cases b with rfl | rfl
  · go_wp2_with fail
    go_ret
    exact ⟨rfl, HS3.out.low⟩
  obtain ⟨⟨⟨s, a, q⟩, r1⟩, hr⟩ : ∃ x, ansN l [] m true dc = x := ⟨_, rfl⟩
  have A := Lib.hid (ans_ns hr HS3.out (HS3.out.args HU.out) HFU.out HE.out)
  clear hr
  go_wp2_with fail
  refine A.out.mono ?_
  rintro e w4 ⟨v4, ev4, H4, rfl, hb4, he4, hS4, hk4⟩
  have HS4 := Lib.hid hS4
  obtain ⟨⟨⟨s2, a2, q2⟩, r⟩, hr⟩ : ∃ x, ansN l r1 n lg dc = x := ⟨_, rfl⟩
  have A := Lib.hid (ans_ns hr HS4.out (HS4.out.args HN.out) HFN.out HE.out)
  clear hr hb4 he4 hS4 hk4 HS3
  go_wp2_with fail
  refine A.out.mono ?_
  rintro e w5 ⟨v5, ev5, H5, rfl, hb5, he5, hS5, hk5⟩
  have HS5 := Lib.hid hS5
  clear hb5 he5 hS5 hk5 A HS4
  obtain ⟨W6, hW6⟩ : ∃ W6, w5.alloc (.map #[] 0) = W6 := ⟨_, rfl⟩
  have hb6 : Below w5.heap.size w5 W6 := by rw [← hW6]; exact (Below.refl _ _).alloc (Nat.le_refl _) _
  have HM6 := Lib.hid (show BMap 9 W6 w5.heap.size 0 (keyIn (keysP (r.take 0))) by rw [← hW6]; exact (BMap.made 9 w5).as (fun x => ⟨fun h => h.elim, fun ⟨y, hy, _⟩ => absurd hy List.not_mem_nil⟩))
  have HS6 := Lib.hid (HS5.out.later hb6)
  have R := Lib.hid (rec_ns HS6.out)
  have HB6 := Lib.hid (show w5.heap.size < W6.heap.size by rw [← hW6]; simp)
  obtain ⟨mb, hmb⟩ : ∃ mb, w5.heap.size = mb := ⟨_, rfl⟩
  have Hmb := Lib.hid hmb
  rw [hmb] at HM6
  clear hb6
  go_wp2_with fail
  refine R.out.mono ?_
  rintro e w7 ⟨v7, rfl, hb7, hlow7⟩
  obtain ⟨p7, c7, rfl⟩ := hb7.form
  have HS7 := Lib.hid (HS6.out.later hlow7)
  have HB7 := Lib.hid hb7
  have HM7 := Lib.hid (HM6.out.later hlow7)
  have hr18 : r.length ≤ 18 := HS7.out.rok.few
  have Hrok := Lib.hid HS7.out.rok
  have Hlow7 := Lib.hid (show Below w5.heap.size w5 w7 by rw [← hW6] at hlow7; exact ((Below.refl _ _).alloc (Nat.le_refl _) _).trans (hlow7.mono (by simp)))
  obtain ⟨B7, hB7⟩ : ∃ B, W6.heap.size = B := ⟨_, rfl⟩
  rw [hB7] at HB7 HB6
  clear hmm hW6 R hlow7 hb7 HM6 HS6 HS7 hB7 hmb
  go_wp2_with fail
  go_loopw [60] (fun i wr => ∃ j : Nat, j ≤ r.length ∧ i = .int .i64 j ∧ Hid (BMap 9 wr mb j (keyIn (keysP (r.take j)))) ∧ Hid (PrBuf B7 wr (.slice p7 r.length c7) r) ∧ Hid (Below w5.heap.size w5 wr)) (fun i _ => r.length - (intOf i).toNat)
  case atStart => exact ⟨0, by omega, rfl, HM7, HB7, Hlow7⟩
  case round =>
    obtain ⟨j, hj, rfl, HMr, HBr, Hlr⟩ := hrel
    by_cases hlt : j < r.length
    · obtain ⟨b, o, hp7, h1, h2⟩ := HBr.out.prs.cell hlt
      have Hbe := Lib.hid HBr.out
      subst hp7
      have hkt := keys_take hlt
      have hnew := key_new Hrok.out.one hlt
      have hval := valN_rec Hrok.out (List.getElem_mem hlt)
      obtain ⟨ke, hrow, hfit, hwr, _⟩ := Hrok.out.each r[j] (List.getElem_mem hlt)
      have hkf := (keyFits_of (v := r[j].v) hrow).trans hfit
      have hka := thick_okP hwr
      obtain ⟨⟨k, d⟩, ha⟩ : ∃ a, r[j] = a := ⟨_, rfl⟩
      rw [ha] at h1 h2 hkt hnew hval hkf hka
      simp only at h1 h2 hkt hnew hval hkf hka
      obtain ⟨w8, hw8⟩ : ∃ w8, wr.alloc (.cells #[.string (S k), .string (S d)] 35) = w8 := ⟨_, rfl⟩
      have hb8 : Below wr.heap.size wr w8 := by rw [← hw8]; exact (Below.refl _ _).alloc (Nat.le_refl _) _
      have hP8 : Blk w8 wr.heap.size #[.string (S k), .string (S d)] 35 := by rw [← hw8]; exact Blk.new wr _ _
      obtain ⟨xb, hxb⟩ : ∃ xb, wr.heap.size = xb := ⟨_, rfl⟩
      rw [hxb] at hP8
      have HP8 := Lib.hid hP8
      have HM8 := Lib.hid (HMr.out.later hb8)
      have HB8 := Lib.hid (HBr.out.later hb8)
      have Hl8 := Lib.hid (below_then Hlr.out hb8)
      have V := Lib.hid (val_at (ev := .nilIface) hval rfl (HS5.out.later Hl8.out))
      have Hxm := Lib.hid (show xb ≠ mb from fun e => by have := HMr.out.lt; omega)
      have hjI : (j : Int) < (r.length : Int) := by omega
      have hee : (d == d) = true := by simp
      have hee2 : (d != d) = false := by simp
      obtain ⟨x0, x1⟩ := HP8.out.two
      clear hb8 hP8 ha hrow hfit hwr hval
      go_wp2_with fail
      refine V.out.mono ?_
      rintro e w9 ⟨rfl, hb9⟩
      have HP9 := Lib.hid (HP8.out.later hb9)
      have hM9 := HM8.out.later hb9
      have HM9 := Lib.hid hM9
      have HB9 := Lib.hid (HB8.out.later hb9)
      have hl9 := below_then Hl8.out hb9
      have Hl9 := Lib.hid hl9
      have L1 := (hM9.look keyedS Tryz.underlying41 (keyS k (by omega))).2 (fun h => hnew (keyIn_iff.1 h))
      have KF := Lib.hid (fits_at (ev := .nilIface) w9 hkf rfl (by omega) (HE.out.later (HS5.out.later hl9).low))
      obtain ⟨y0, y1⟩ := HP9.out.two
      clear hb9 hM9 hl9 x0 x1 V HM8 HB8 Hl8 HP8
      go_wp2_with fail
      refine KF.out.mono ?_
      rintro e w10 ⟨rfl, hb10⟩
      have hP10 := HP9.out.later hb10
      obtain ⟨z0, z1⟩ := hP10.two
      have hM10 := HM9.out.later hb10
      have hB10 := HB9.out.later hb10
      have hl10 := below_then Hl9.out hb10
      obtain ⟨w11, hr11, hM11, hg11⟩ := hM10.put keyedS Tryz.underlying41 (by omega) (keyS k (by omega)) trivial
      have HM11 := Lib.hid (show BMap 9 w11 mb (j + 1) (keyIn (keysP (r.take (j + 1)))) by rw [hkt]; exact hM11.as (fun x => keyIn_snoc x))
      have HB11 := Lib.hid (show PrBuf B7 w11 (.slice (some ⟨b, o, none⟩) r.length c7) r from World.ownsRow.kept hB10 hg11 (.inr (fun e => by have := hB10.ge mb e; have := HB6.out; have := Hmb.out; omega)))
      have Hl11 := Lib.hid (Below.grownB hl10 hg11 (by have := Hmb.out; omega) hl10.size)
      clear hb10 hP10 hM10 hB10 hl10 hM11 hg11 hkt hnew hkf hka y0 y1 L1 KF HM9 HB9 Hl9 HP9
      go_wp2_with fail
      go_roundw
      case rel => exact ⟨j + 1, by omega, by go_num, HM11, HB11, Hl11⟩
      case measure => simp [intOf]; omega
    · obtain rfl : j = r.length := by omega
      have hMq := HMr.out
      rw [List.take_length] at hMq
      have HMq := Lib.hid hMq
      have HSq := Lib.hid (HS5.out.later Hlr.out)
      have NM := Lib.hid (names18_any wr)
      clear hMq HMr HBr Hlr hlt
      go_wp2_with fail
      refine NM.out.mono ?_
      rintro e wn ⟨bn, on, cn, rfl, hnm, hbn⟩
      have HSn := Lib.hid (HSq.out.later hbn)
      have HNM := Lib.hid hnm
      have HMn := Lib.hid (HMq.out.later hbn)
      clear hnm hbn NM HSq HMq
      go_wp2_with fail
      go_loopw [99] (fun i wr => ∃ j : Nat, j ≤ 18 ∧ i = .int .i64 j ∧ Below wn.heap.size wn wr) (fun i _ => 18 - (intOf i).toNat)
      case atStart => exact ⟨0, by omega, rfl, Below.refl _ _⟩
      case round =>
        obtain ⟨j, hj, rfl, hb⟩ := hrel
        have Hb := Lib.hid hb
        by_cases hlt : j < 18
        · have q0 := (HNM.out.later hb) j hlt
          obtain ⟨ke, hrow⟩ := name_row hlt
          obtain ⟨kk, hkk⟩ : ∃ kk, nameAt j = kk := ⟨_, rfl⟩
          rw [hkk] at q0 hrow
          have hok := rowOf_ok hrow
          rw [(rowOf_isKey hrow).2] at hok
          have hkl : kk.length ≤ 63 := hok.2.2.2.2.1
          obtain ⟨kn, kd, lo, hi2, df, no, klg⟩ := ke
          obtain ⟨y, hy⟩ := val_known (recd := r) hrow
          have hdef : kk ∉ keysP r → y = df := fun h => by rw [valN_not hrow h] at hy; exact (congrArg Prod.fst hy).symm
          have OF := Lib.hid (of_row (s := kk) wr hrow)
          have VV := Lib.hid (fun W (hW : Below wn.heap.size wn W) => val_at (ev := .nilIface) hy rfl (HSn.out.later hW))
          have hjI : (j : Int) < 18 := by omega
          clear hb hrow hok hkk hy
          go_wp2_with fail
          refine OF.out.mono ?_
          rintro e w8 ⟨rfl, hb8⟩
          obtain ⟨w9, hw9⟩ : ∃ w9, w8.alloc (.cells #[.string (S kn), .int .i64 (kd : Int), .int .i64 (lo : Int), .int .i64 (hi2 : Int), .string (S df), .bool no, .bool klg] 48) = w9 := ⟨_, rfl⟩
          have hb9 : Below w8.heap.size w8 w9 := by rw [← hw9]; exact (Below.refl _ _).alloc (Nat.le_refl _) _
          have bK : Blk w9 w8.heap.size #[.string (S kn), .int .i64 (kd : Int), .int .i64 (lo : Int), .int .i64 (hi2 : Int), .string (S df), .bool no, .bool klg] 48 := by rw [← hw9]; exact Blk.new w8 _ _
          have hb10 := below_then (below_then Hb.out hb8) hb9
          have Hb9 := Lib.hid hb10
          have HK9 := Lib.hid bK
          have V9 := Lib.hid (VV.out w9 hb10)
          clear hb8 hb9 bK hb10 OF VV q0
          go_wp2_with fail
          refine V9.out.mono ?_
          rintro e w10 ⟨rfl, hb11⟩
          have hb12 := below_then Hb9.out hb11
          have Hb12 := Lib.hid hb12
          obtain ⟨d0, d1, d2, d3, d4, d5, d6⟩ := (HK9.out.later hb11).seven
          have hM12 := HMn.out.later hb12
          by_cases hin : kk ∈ keysP r
          · have L1 := (hM12.look keyedS Tryz.underlying41 (keyS kk (by omega))).1 (keyIn_iff.2 hin)
            clear hb11 hb12 hM12 V9 hdef hin
            go_wp2_with fail
            go_roundw
            case rel => exact ⟨j + 1, by omega, by go_num, Hb12.out⟩
            case measure => simp [intOf]; omega
          · have L1 := (hM12.look keyedS Tryz.underlying41 (keyS kk (by omega))).2 (fun h => hin (keyIn_iff.1 h))
            obtain rfl := hdef hin
            have hyy : (y == y) = true := by simp
            have hyy2 : (y != y) = false := by simp
            clear hb11 hb12 hM12 V9 hdef hin
            go_wp2_with fail
            go_roundw
            case rel => exact ⟨j + 1, by omega, by go_num, Hb12.out⟩
            case measure => simp [intOf]; omega
        · have Hl := Lib.hid (HSn.out.later hb).low
          clear hb
          go_wp2_with fail
          go_ret
          exact ⟨rfl, Hl.out⟩
end Go.Proofs.YteapbjeapnmloaaGreatDoor
