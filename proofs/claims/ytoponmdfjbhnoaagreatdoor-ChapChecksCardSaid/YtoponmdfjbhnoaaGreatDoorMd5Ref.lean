/- ref.Md5. -/
import Derived.Test.YtoponmdfjbhnoaaGreatDoorMd5RefMap
import Derived.Test.YtoponmdfjbhnoaaGreatDoorSine
import Derived.Test.YtoponmdfjbhnoaaGreatDoorBufM
import Derived.BigRegion
import Derived.LoopN
import Derived.Deep.CutBlock
import Derived.Deep.CutRange
namespace Go.Proofs.YtoponmdfjbhnoaaGreatDoor
open Go.RowKit Go.Maps
theorem info8m : (Tryz.prog.info? 5).map (fun i => (i.zero, i.size, i.bytes)) = some (some (.int .u8 0), 1, 1) := by kernel_rfl
set_option maxRecDepth 100000 in
set_option maxHeartbeats 4000000 in
theorem refMd5_any (l : List UInt8) (w : World) (hl : l.length ≤ 1000) :
    Calls Tryz.prog 13 #[.string (S l)] w fun e w' => e = .returned (.string (S (md5L l))) ∧ Below w.heap.size w w' := by
  obtain ⟨i0, hi, hz0, hz1, hz2⟩ := info_parts info8m
  obtain ⟨cap, hc1, hc2, hrun⟩ := run_bytes_S (P := Tryz.prog) 9 44 5 Tryz.underlying9 Tryz.underlying44 Tryz.underlying5 w l
  have hc2' := hc2 (by unfold maxLen; omega)
  have hb0 := bufM_string w 5 l cap hc1 hc2'
  have hlo0 : Below w.heap.size w (w.alloc (.cells (cells8 (l ++ List.replicate (cap - l.length) 0)) 5 (cap, cap + 1))).drew := ((Below.refl _ _).alloc (Nat.le_refl _) _).drew
  generalize hW : (w.alloc (.cells (cells8 (l ++ List.replicate (cap - l.length) 0)) 5 (cap, cap + 1))).drew = W0 at hrun hb0 hlo0
  clear hW hc2 hc2' hc1
  have hmm := @run_makeMap Tryz.prog
  go_enter Tryz.func13, Tryz.ntmps13
  go_wp2_with (at_builtin; refine wpList_append1 rfl _ _ _ _ rfl 5 i0 Tryz.underlying44 hi hz0 hz1 hz2 w.heap.size _ l rfl (hb0.alloc _) (by have := hlo0.size; simp; omega) _ 128 rfl (src_one Tryz.underlying44 W0 128 5 (0, 0) 1) (by omega) ?_; intro v1 W1 hb1 hlo1 hsz1)
  have hlow1 : Below w.heap.size w W1 := (hlo0.alloc hlo0.size _).trans hlo1
  obtain ⟨Z, hZ⟩ : ∃ Z, zerosTo l.length = Z := ⟨_, rfl⟩
  clear hlo1 hsz1 hrun hb0 hlo0
  go_loopg [4] (Z + 1) (fun g v wr => ∃ k : Nat, k ≤ Z ∧ g + k = Z + 1 ∧ BufM 5 w.heap.size wr v (l ++ [128] ++ List.replicate k 0) ∧ Below w.heap.size w wr)
  case atStart => exact ⟨0, by omega, by omega, by simpa using hb1, hlow1⟩
  case round =>
    obtain ⟨k, hk, hg, hb, hlo⟩ := hrel
    have Hg := Lib.hid hg
    clear hg hb1 hlow1
    obtain ⟨p, hp⟩ : ∃ p, l ++ [128] ++ List.replicate k 0 = p := ⟨_, rfl⟩
    have hpl : p.length = l.length + 1 + k := by rw [← hp]; simp; omega
    have Hp := Lib.hid hp
    rw [hp] at hb
    clear hp
    obtain ⟨g, cp, rfl, hbg, hglt, hlc, hcm, hcells⟩ := hb.lt
    have Hb := Lib.hid hb
    have Hpl := Lib.hid hpl
    have hpm : p.length ≤ 1064 := by unfold zerosTo at hZ; omega
    clear hb hcells hpl
    by_cases hlt : k < Z
    · have hmod : (p.length : Int) % 64 ≠ 56 := by have := Hpl.out; unfold zerosTo at hZ; omega
      go_wp2_with (at_builtin; refine wpList_append1 rfl _ _ _ _ rfl 5 i0 Tryz.underlying44 hi hz0 hz1 hz2 w.heap.size _ p rfl (Hb.out.alloc _) (by have := hlo.size; simp; omega) _ 0 rfl (src_one Tryz.underlying44 wr 0 5 (0, 0) 1) (by omega) ?_; intro v2 W2 hb2 hlo2 hsz2)
      go_roundg (gk - 1)
      case measure => have := Hg.out; omega
      case rel => exact ⟨k + 1, by omega, by have := Hg.out; omega, by rw [List.replicate_succ', ← List.append_assoc, Hp.out]; exact hb2, (hlo.alloc hlo.size _).trans hlo2⟩
    · have hkZ : k = Z := by omega
      subst hkZ
      have hmod : (p.length : Int) % 64 = 56 := by have := Hpl.out; unfold zerosTo at hZ; omega
      have hmn : p.length % 64 = 56 := by omega
      have Hmn := Lib.hid hmn
      clear hmn
      go_wp2_with fail
      obtain ⟨N, hN⟩ : ∃ N, l.length * 8 = N := ⟨_, rfl⟩
      go_loopg [3, 4, 37] 9 (fun g vn v c wr => ∃ j m : Nat, j ≤ 8 ∧ g + j = 9 ∧ c = .int .i64 j ∧ vn = .int .u64 m ∧ m = N / 256 ^ j ∧ BufM 5 w.heap.size wr v (p ++ le8 N j) ∧ Below w.heap.size w wr)
      case atStart => exact ⟨0, N, by omega, by omega, rfl, by rw [← hN]; simp, by simp, by simpa [le8] using Hb.out, hlo⟩
      case round =>
        obtain ⟨j, m, hj, hg, rfl, rfl, hm, hb, hlo⟩ := hrel
        have Hg := Lib.hid hg
        have Hm := Lib.hid hm
        have hmN : m ≤ N := by rw [hm]; exact Nat.div_le_self _ _
        have hm18 : m < 18446744073709551616 := by omega
        clear hg hm hglt hlc hcm hbg hmod Hb Hpl
        obtain ⟨q, hq⟩ : ∃ q, p ++ le8 N j = q := ⟨_, rfl⟩
        have hql : q.length = p.length + j := by rw [← hq]; simp [le8]
        have Hq := Lib.hid hq
        have Hql := Lib.hid hql
        have hqm : q.length ≤ 1072 := by omega
        rw [hq] at hb
        clear hq hql
        by_cases hlt8 : j < 8
        · have hji : (j : Int) < 8 := by omega
          obtain ⟨y, hy⟩ : ∃ y : UInt8, UInt8.ofNat (m % 256) = y := ⟨_, rfl⟩
          have hyt : (m : Int) % 256 = (y.toNat : Int) := by rw [← hy, UInt8.toNat_ofNat']; omega
          have hq2 : p ++ le8 N (j + 1) = q ++ [y] := by rw [le8_succ, ← List.append_assoc, Hq.out, ← Hm.out, hy]
          have Hq2 := Lib.hid hq2
          clear hy hq2
          go_wp2_with (at_builtin; refine wpList_append1 rfl _ _ _ _ rfl 5 i0 Tryz.underlying44 hi hz0 hz1 hz2 w.heap.size _ q rfl (hb.alloc _) (by have := hlo.size; simp; omega) _ y rfl (src_one Tryz.underlying44 wr y 5 (0, 0) 1) (by omega) ?_; intro v2 W2 hb2 hlo2 hsz2)
          go_roundg (gk - 1)
          case measure => have := Hg.out; omega
          case rel => exact ⟨j + 1, m / 256, by omega, by have := Hg.out; omega, by go_num, by go_num, by rw [Hm.out, Nat.div_div_eq_div_mul, ← Nat.pow_succ], by rw [Hq2.out]; exact hb2, (hlo.alloc hlo.size _).trans hlo2⟩
        · have hj8 : j = 8 := by omega
          subst hj8
          have hqe : q = l ++ mTail l.length := by
            rw [← Hq.out, ← Hp.out, mTail_le8 _ (by omega), hZ, hN]; simp
          have hq64 : q.length % 64 = 0 := by have := Hql.out; have := Hmn.out; omega
          have hres : md5L l = outM (stirsTo mInit q (q.length / 64)) := by unfold md5L; rw [← hqe]
          have Hres := Lib.hid hres
          obtain ⟨gb, cp, rfl, hbg, hglt, hlc, hcm, hcells⟩ := hb.lt
          have Hcells := Lib.hid hcells
          have Hlo := Lib.hid hlo
          clear hqe hres hcells hlo Hq Hp Hm hmN hm18 hpm hZ hN hb
          have hown : ((wr.alloc (.cells #[.int .u32 1732584193, .int .u32 4023233417, .int .u32 2562383102, .int .u32 271733878] 55)).alloc (.map #[] 0)).ownsMap Tryz.prog 3 (plainElem (H := Unit) Tryz.prog 3) (wr.heap.size + 1) 0 (.map []) := by
            have := World.ownsMap_made (wr.alloc (.cells #[.int .u32 1732584193, .int .u32 4023233417, .int .u32 2562383102, .int .u32 271733878] 55)) Tryz.prog 3 (plainElem (H := Unit) Tryz.prog 3)
            simpa using this
          have hgr := World.grownBy.refl ((wr.alloc (.cells #[.int .u32 1732584193, .int .u32 4023233417, .int .u32 2562383102, .int .u32 271733878] 55)).alloc (.map #[] 0)) (some (wr.heap.size + 1))
          go_wp2_with (refine wpList_insert_own _ rfl _ _ _ 57 rfl 3 3 keyedInt Tryz.underlying57 (plainElem (H := Unit) Tryz.prog 3) _ _ _ rfl hown (by decide) _ _ _ rfl rfl (keyOf_int_mk Tryz.underlying3 (by decide)) _ _ (plainElem_int Tryz.underlying3 (by decide)) ?_; clear hown; intro wm hown hgrow; replace hgr := hgr.trans hgrow; clear hgrow)
          have hst := refSt_start (w := w) (q := q) (gb := gb) Hcells.out Hlo.out hglt hown rfl hgr
          clear hgr hown Hcells Hlo hglt hbg hj hlt8 Hg hmm hi hz0 hz1 hz2 Hmn Hql hlo
          obtain ⟨hb, hhb⟩ : ∃ x, wr.heap.size = x := ⟨_, rfl⟩
          obtain ⟨mb, hmb⟩ : ∃ x, wr.heap.size + 1 = x := ⟨_, rfl⟩
          rw [hmb] at hst ⊢
          rw [hhb] at hst ⊢
          clear hmb hhb
          obtain ⟨M, hM⟩ : ∃ M, q.length / 64 = M := ⟨_, rfl⟩
          have hqM : q.length = 64 * M := by omega
          have hMm : M ≤ 16 := by omega
          have HqM := Lib.hid hqM
          rw [hM] at Hres
          clear hqM hM hq64
          go_loopg [4] (M + 1) (fun g v wr => ∃ (j c o : Nat) (s : St), j ≤ M ∧ g + j = M + 1 ∧ v = .slice (some ⟨gb, o, none⟩) (64 * (M - j)) c ∧ 64 * (M - j) ≤ c ∧ c ≤ 9223372036854775807 ∧ (j < M → o = 64 * j) ∧ stirsTo mInit q j = s ∧ Lt32 s ∧ RefSt w q gb hb mb s wr)
          case atStart => exact ⟨0, cp, 0, mInit, by omega, by omega, by rw [HqM.out]; rfl, by have := HqM.out; omega, hcm, fun _ => rfl, rfl, by unfold Lt32 mInit; decide, hst⟩
          case round =>
            obtain ⟨j, c, o, s, hj, hg, rfl, hc1, hc2, ho, hrun, hs4, hst⟩ := hrel
            have Hg := Lib.hid hg
            have Hst := Lib.hid hst
            have Hrun := Lib.hid hrun
            clear hg hst hrun
            by_cases hltM : j < M
            · obtain rfl := ho hltM
              obtain ⟨L, hL⟩ : ∃ L, 64 * (M - j) = L := ⟨_, rfl⟩
              have hL64 : 64 ≤ L := by omega
              have hLm : L ≤ 1072 := by omega
              rw [hL] at hc1 ⊢
              obtain ⟨a, b, cc, d⟩ := s
              obtain ⟨la, lb, lc, ld⟩ := hs4
              simp only at la lb lc ld
              obtain ⟨q0, q1, q2, q3⟩ := Hst.out.row.cells
              simp only at q0 q1 q2 q3
              go_wp2_with fail
              go_region
              have hst0 := Hst.out.later ((Below.refl wr.heap.size wr).drew)
              have hjq : 64 * j + 64 ≤ q.length := by have := HqM.out; omega
              have Hjq := Lib.hid hjq
              clear hjq q0 q1 q2 q3 Hst
              obtain ⟨ws, hws⟩ : ∃ ws, wordsL ((q.drop (64 * j)).take 64) = ws := ⟨_, rfl⟩
              have Hws := Lib.hid hws
              clear hws
              go_wp2_with fail
              go_loopg [7, 8, 9, 10, 68] 65 (fun g va vb vc vd vi W => ∃ (i : Nat) (s : St), i ≤ 64 ∧ g + i = 65 ∧ vi = .int .i64 i ∧ mRun ws (a, b, cc, d) i = s ∧ va = .int .u32 (s.1 : Nat) ∧ vb = .int .u32 (s.2.1 : Nat) ∧ vc = .int .u32 (s.2.2.1 : Nat) ∧ vd = .int .u32 (s.2.2.2 : Nat) ∧ RefSt w q gb hb mb (a, b, cc, d) W)
              case atStart => exact ⟨0, (a, b, cc, d), by omega, by omega, rfl, rfl, rfl, rfl, rfl, rfl, hst0⟩
              case round =>
                obtain ⟨i, s, hi, hg, rfl, hrun, rfl, rfl, rfl, rfl, hst⟩ := hrel
                have Hg2 := Lib.hid hg
                have Hst := Lib.hid hst
                have hlt4 := mRun_lt ws (a, b, cc, d) ⟨la, lb, lc, ld⟩ i
                rw [hrun] at hlt4
                clear hg hst hst0
                by_cases hlt : i < 64
                · have hnew : mRun ws (a, b, cc, d) (i + 1) = mStep ws i s := by show mStep ws i (mRun ws (a, b, cc, d) i) = _; rw [hrun]
                  have Hnew := Lib.hid hnew
                  clear hnew hrun
                  obtain ⟨sa, sb, sc, sd⟩ := s
                  obtain ⟨ka, kb, kc, kd⟩ := hlt4
                  simp only at ka kb kc kd
                  have hii : (i : Int) < 64 := by omega
                  have hGl := mG_lt i hlt
                  obtain ⟨G, hG⟩ : ∃ G, mG i = G := ⟨_, rfl⟩
                  obtain ⟨F, hF⟩ : ∃ F, mF i sb sc sd = F := ⟨_, rfl⟩
                  have hFl : F < 4294967296 := by rw [← hF]; exact mF_lt i sb sc sd kb kc kd
                  obtain ⟨x0, x1, x2, x3, l0, l1, l2, l3, c0, c1, c2, c3, hX⟩ := Hst.out.word j G Hjq.out (by omega)
                  rw [Hws.out] at hX
                  have hq : i / 16 = 0 ∨ i / 16 = 1 ∨ i / 16 = 2 ∨ i / 16 = 3 := by omega
                  have Hbits := Lib.hid (⟨hG, hF⟩ : mG i = G ∧ mF i sb sc sd = F)
                  clear hG hF hX c0 c1 c2 c3 hGl
                  go_upto_block 8 with (fail)
                  go_cut [12, 13] from 71 to 116 (fun vf vg W => vf = .int .u32 (F : Nat) ∧ vg = .int .i64 (G : Nat) ∧ W = wr)
                  case first =>
                    obtain ⟨hG, hF⟩ := Hbits.out
                    rcases hq with h | h | h | h
                    · have hn : (i : Int) < 16 := by omega
                      obtain rfl : i = G := by rw [← hG, mG_0 i h]
                      have b1 := u32_xor_nat sc sd kc kd
                      have b2 := u32_and_nat sb (sc ^^^ sd) kb (xor_lt32 _ _ kc kd)
                      have b3 := u32_xor_nat sd (sb &&& (sc ^^^ sd)) kd (and_lt32 _ _ (xor_lt32 _ _ kc kd))
                      rw [mux1 sb sc sd kb kc kd, ← mF_0 i sb sc sd h, hF] at b3
                      clear h hG hF Hbits
                      go_wp2_with fail
                      go_meet
                      exact ⟨rfl, rfl, rfl⟩
                    · have hn : ¬ (i : Int) < 16 := by omega
                      have hn2 : (i : Int) < 32 := by omega
                      have hgi : (5 * (i : Int) + 1) % 16 = (G : Int) := by rw [← hG, mG_1 i h]; omega
                      have b1 := u32_xor_nat sb sc kb kc
                      have b2 := u32_and_nat sd (sb ^^^ sc) kd (xor_lt32 _ _ kb kc)
                      have b3 := u32_xor_nat sc (sd &&& (sb ^^^ sc)) kc (and_lt32 _ _ (xor_lt32 _ _ kb kc))
                      rw [mux2 sb sc sd kb kc kd, ← mF_1 i sb sc sd h, hF] at b3
                      clear h hG hF Hbits
                      go_wp2_with fail
                      go_meet
                      exact ⟨rfl, rfl, rfl⟩
                    · have hn : ¬ (i : Int) < 16 := by omega
                      have hn2 : ¬ (i : Int) < 32 := by omega
                      have hn3 : (i : Int) < 48 := by omega
                      have hgi : (3 * (i : Int) + 5) % 16 = (G : Int) := by rw [← hG, mG_2 i h]; omega
                      have b1 := u32_xor_nat sb sc kb kc
                      have b2 := u32_xor_nat (sb ^^^ sc) sd (xor_lt32 _ _ kb kc) kd
                      rw [← mF_2 i sb sc sd h, hF] at b2
                      clear h hG hF Hbits
                      go_wp2_with fail
                      go_meet
                      exact ⟨rfl, rfl, rfl⟩
                    · have hn : ¬ (i : Int) < 16 := by omega
                      have hn2 : ¬ (i : Int) < 32 := by omega
                      have hn3 : ¬ (i : Int) < 48 := by omega
                      have hgi : (7 * (i : Int)) % 16 = (G : Int) := by rw [← hG, mG_3 i h]; omega
                      have b1 : bits .xor .u32 (4294967295 : Int) (sd : Int) = ((4294967295 ^^^ sd : Nat) : Int) := u32_xor_nat 4294967295 sd (by decide) kd
                      have b2 := u32_or_nat sb (4294967295 ^^^ sd) kb (xor_lt32 _ _ (by decide) kd)
                      have b3 := u32_xor_nat sc (sb ||| (4294967295 ^^^ sd)) kc (or_lt32 _ _ kb (xor_lt32 _ _ (by decide) kd))
                      rw [mux4 sb sc sd kd, ← mF_3 i sb sc sd h, hF] at b3
                      clear h hG hF Hbits
                      go_wp2_with fail
                      go_meet
                      exact ⟨rfl, rfl, rfl⟩
                  case rest =>
                    obtain ⟨rfl, rfl, rfl⟩ := hcut
                    obtain ⟨hG, hF⟩ := Hbits.out
                    have hGl : G < 16 := by rw [← hG]; exact mG_lt i hlt
                    obtain ⟨x0, x1, x2, x3, l0, l1, l2, l3, c0, c1, c2, c3, hX⟩ := Hst.out.word j G Hjq.out hGl
                    rw [Hws.out] at hX
                    obtain ⟨X, hXe⟩ : ∃ X, ws.getD G 0 = X := ⟨_, rfl⟩
                    rw [hXe] at hX
                    have hXi : (x0 : Int) + (x1 : Int) * 256 + (x2 : Int) * 65536 + (x3 : Int) * 16777216 = (X : Int) := by omega
                    have hXl : X < 4294967296 := by omega
                    obtain ⟨kk, hkk⟩ : ∃ kk, mK.getD i 0 = kk := ⟨_, rfl⟩
                    obtain ⟨r, hr⟩ : ∃ r, mS i = r := ⟨_, rfl⟩
                    obtain ⟨m', hm'⟩ : ∃ m', (sa + F + X + kk) % 4294967296 = m' := ⟨_, rfl⟩
                    have hml : m' < 4294967296 := by rw [← hm']; exact Nat.mod_lt _ (by decide)
                    have hms : mSum ws i (sa, sb, sc, sd) = m' := by unfold mSum; simp only [hF, hkk, hG, hXe]; rw [← stir_sum]; exact hm'
                    have hstep : mStep ws i (sa, sb, sc, sd) = (sd, (sb + rot m' r) % 4294967296, sb, sc) := by unfold mStep; rw [hms, hr]
                    have hrb := mS_bd i hlt
                    rw [hr] at hrb
                    obtain ⟨hr0, hr32⟩ := hrb
                    have Hstep := Lib.hid hstep
                    have Hkk := Lib.hid hkk
                    have Hr := Lib.hid hr
                    have Hm' := Lib.hid hm'
                    have hG4 : (G : Int) < 16 := by omega
                    clear hG hF Hbits hX hXe hms hstep hkk hr hm' hq hGl
                    go_upto_region 27 with (fail)
                    go_cut [14] from 117 to 149 (fun v W => v = .int .u32 (X : Nat) ∧ W = wc.drew)
                    case first =>
                      go_region
                      go_wp2_with fail
                      go_meet
                      exact ⟨rfl, rfl⟩
                    case rest =>
                      obtain ⟨rfl, rfl⟩ := hcut
                      clear c0 c1 c2 c3 l0 l1 l2 l3 hXi
                      go_wp2_with fail
                      have hsi := sine_any i wc.drew hlt
                      rw [Hkk.out] at hsi
                      refine hsi.mono ?_
                      rintro e W3 ⟨rfl, hb3⟩
                      have hst3 := Hst.out.later (((Below.refl _ _).drew).trans hb3)
                      clear hsi hb3
                      have hkey := turnKey i hlt
                      have hsum : ((sa : Int) + (F : Int) + (X : Int) + (kk : Int)) % 4294967296 = (m' : Int) := by have := Hm'.out; omega
                      have Hst3 := Lib.hid hst3
                      have Hkey := Lib.hid hkey
                      clear hst3 hkey Hst Hm'
                      go_wp2_with (at_lookup; refine wpList_lookup_own_int _ rfl _ _ 57 rfl 3 3 .i64 keyedInt Tryz.underlying57 Tryz.underlying3 (zeroInt _) mb 16 _ rfl Hst3.out.turns _ _ rfl Hkey.out ?_; intro cv hat hwc)
                      obtain rfl := turnsD_val i r hlt Hr.out cv hat
                      obtain ⟨r2, hr2n⟩ : ∃ r2, 32 - r = r2 := ⟨_, rfl⟩
                      have hr2 : (32 : Int) - (r : Int) = (r2 : Int) := by omega
                      have hrot := rot_bits m' r hml
                      rw [hr2n] at hrot
                      have hr0i : (0 : Int) < (r : Int) := by omega
                      have hr32i : (r : Int) < 32 := by omega
                      have hr2i : (r2 : Int) < 32 := by omega
                      clear hat hwc hr2n
                      go_wp2_with fail
                      go_region
                      go_wp2_with fail
                      go_roundg (gk - 1)
                      case measure => have := Hg2.out; omega
                      case rel => exact ⟨i + 1, (sd, (sb + rot m' r) % 4294967296, sb, sc), by omega, by have := Hg2.out; omega, by go_num, by rw [Hnew.out, Hstep.out], rfl, congrArg (Value.int .u32) (by show _ = (((sb + rot m' r) % 4294967296 : Nat) : Int); omega), rfl, rfl, Hst3.out.later ((Below.refl _ _).drew)⟩
                · have hi64 : i = 64 := by omega
                  subst hi64
                  obtain ⟨sa, sb, sc, sd⟩ := s
                  obtain ⟨ka, kb, kc, kd⟩ := hlt4
                  simp only at ka kb kc kd
                  have hadd : mStir (a, b, cc, d) ws = ((a + sa) % 4294967296, (b + sb) % 4294967296, (cc + sc) % 4294967296, (d + sd) % 4294967296) := by unfold mStir; rw [hrun]; rfl
                  have Hadd := Lib.hid hadd
                  have hst5 := Hst.out.later ((Below.refl wr.heap.size wr).alloc (Nat.le_refl _) (.cells #[.int .u32 (sa : Nat), .int .u32 (sb : Nat), .int .u32 (sc : Nat), .int .u32 (sd : Nat)] 55))
                  have hbl : hb < wr.heap.size := block_lt_of_cell Hst.out.row.cells.1
                  have hne : hb ≠ wr.heap.size := by omega
                  have hne2 : ¬ wr.heap.size = hb := by omega
                  obtain ⟨q0, q1, q2, q3⟩ := hst5.row.cells
                  have f0 := hst5.row.frozen 0
                  have f1 := hst5.row.frozen 1
                  have f2 := hst5.row.frozen 2
                  have f3 := hst5.row.frozen 3
                  simp only at q0 q1 q2 q3
                  have Hst5 := Lib.hid hst5
                  have Hbl := Lib.hid hbl
                  clear hadd hst5 hbl hrun Hst
                  go_wp2_with fail
                  refine wp_loop_rounds 5 ?_
                  rw [rounds_succ]
                  go_wp2_with fail
                  rw [rounds_succ]
                  go_wp2_with fail
                  rw [rounds_succ]
                  go_wp2_with fail
                  rw [rounds_succ]
                  go_wp2_with fail
                  rw [rounds_succ]
                  go_wp2_with fail
                  all_goals
                    have e0 : ((a : Int) + (sa : Int)) % 4294967296 = (((a + sa) % 4294967296 : Nat) : Int) := by omega
                    have e1 : ((b : Int) + (sb : Int)) % 4294967296 = (((b + sb) % 4294967296 : Nat) : Int) := by omega
                    have e2 : ((cc : Int) + (sc : Int)) % 4294967296 = (((cc + sc) % 4294967296 : Nat) : Int) := by omega
                    have e3 : ((d : Int) + (sd : Int)) % 4294967296 = (((d + sd) % 4294967296 : Nat) : Int) := by omega
                    rw [e0, e1, e2, e3]
                    have hnext : stirsTo mInit q (j + 1) = ((a + sa) % 4294967296, (b + sb) % 4294967296, (cc + sc) % 4294967296, (d + sd) % 4294967296) := by
                      show mStir (stirsTo mInit q j) _ = _
                      rw [Hrun.out, Hws.out, Hadd.out]
                    have Hnext := Lib.hid hnext
                    have hl6 := stirsTo_lt mInit q (by unfold Lt32 mInit; decide) (j + 1)
                    rw [hnext] at hl6
                    have Hl6 := Lib.hid hl6
                    have hst6 := Hst5.out.stored ((a + sa) % 4294967296) ((b + sb) % 4294967296) ((cc + sc) % 4294967296) ((d + sd) % 4294967296)
                    obtain ⟨W5, hW5⟩ : ∃ W5, wr.alloc (.cells #[.int .u32 (sa : Nat), .int .u32 (sb : Nat), .int .u32 (sc : Nat), .int .u32 (sd : Nat)] 55) = W5 := ⟨_, rfl⟩
                    rw [hW5] at hst6 ⊢
                    obtain ⟨W6, hW6⟩ : ∃ W6, (((W5.setCell ⟨hb, 0, none⟩ (.int .u32 (((a + sa) % 4294967296 : Nat) : Int))).setCell ⟨hb, 1, none⟩ (.int .u32 (((b + sb) % 4294967296 : Nat) : Int))).setCell ⟨hb, 2, none⟩ (.int .u32 (((cc + sc) % 4294967296 : Nat) : Int))).setCell ⟨hb, 3, none⟩ (.int .u32 (((d + sd) % 4294967296 : Nat) : Int)) = W6 := ⟨_, rfl⟩
                    rw [hW6] at hst6 ⊢
                    obtain ⟨s6, hs6⟩ : ∃ s6 : St, ((a + sa) % 4294967296, (b + sb) % 4294967296, (cc + sc) % 4294967296, (d + sd) % 4294967296) = s6 := ⟨_, rfl⟩
                    rw [hs6] at hst6 Hnext Hl6
                    have Hst6 := Lib.hid hst6
                    clear hW5 hW6 hs6 hst6 hl6 hnext Hst5 Hadd Hws Hrun e0 e1 e2 e3 q0 q1 q2 q3 f0 f1 f2 f3
                    have hLj : 64 * (M - (j + 1)) = L - 64 := by omega
                    go_roundg (M - j)
                    case measure => have := Hg.out; omega
                    case rel =>
                      first
                        | (have hz : c = 64 := by assumption
                           exact ⟨j + 1, c - 64, 64 * j, s6, by omega, by omega, by rw [hLj, hz], by omega, by omega, fun h => by omega, Hnext.out, Hl6.out, Hst6.out⟩)
                        | exact ⟨j + 1, c - 64, 64 * j + 64, s6, by omega, by omega, by rw [hLj], by omega, by omega, fun h => by omega, Hnext.out, Hl6.out, Hst6.out⟩
            · have hjM : j = M := by omega
              subst hjM
              obtain ⟨ys, hys⟩ : ∃ ys, [s.1, s.2.1, s.2.2.1, s.2.2.2] = ys := ⟨_, rfl⟩
              have hyl : ys.length = 4 := by rw [← hys]; rfl
              have hout : md5L l = ys.flatMap le4 := by rw [Hres.out, Hrun.out, outM_flat, hys]
              have hyb : ∀ k (hk : k < 4), ys[k]'(by omega) < 4294967296 := by
                intro k hk
                obtain ⟨h1, h2, h3, h4⟩ := hs4
                subst hys
                match k, hk with
                | 0, _ => exact h1
                | 1, _ => exact h2
                | 2, _ => exact h3
                | 3, _ => exact h4
              have hyc : ∀ W, RefSt w q gb hb mb s W → ∀ k (hk : k < 4), W.cell? ⟨hb, k, none⟩ = some (.int .u32 ((ys[k]'(by omega) : Nat) : Int)) := by
                intro W hW k hk
                obtain ⟨h1, h2, h3, h4⟩ := hW.row.cells
                subst hys
                match k, hk with
                | 0, _ => exact h1
                | 1, _ => exact h2
                | 2, _ => exact h3
                | 3, _ => exact h4
              have Hout := Lib.hid hout
              have Hyc := Lib.hid hyc
              have Hyl := Lib.hid hyl
              clear hout hyc hys hs4 Hres Hrun
              go_wp2_with fail
              go_loopg [19, 201] 5 (fun g vo vk W => ∃ k : Nat, k ≤ 4 ∧ g + k = 5 ∧ vk = .int .i64 k ∧ vo = .string (S ((ys.take k).flatMap le4)) ∧ RefSt w q gb hb mb s W)
              case atStart => exact ⟨0, by omega, by omega, rfl, by rw [List.take_zero]; rfl, Hst.out⟩
              case round =>
                obtain ⟨k, hk, hg, rfl, rfl, hst⟩ := hrel
                have Hg2 := Lib.hid hg
                have Hst2 := Lib.hid hst
                clear hg hst
                by_cases hk4 : k < 4
                · have hkl : k < ys.length := by have := Hyl.out; omega
                  have hcell := Hyc.out _ Hst2.out k hk4
                  have hyk := hyb k hk4
                  have hnext : (ys.take (k + 1)).flatMap le4 = (ys.take k).flatMap le4 ++ le4 (ys[k]'hkl) := by
                    rw [List.take_succ_eq_append_getElem hkl, List.flatMap_append, List.flatMap_cons, List.flatMap_nil, List.append_nil]
                  have Hnext := Lib.hid hnext
                  obtain ⟨pre, hpre⟩ : ∃ pre, (ys.take k).flatMap le4 = pre := ⟨_, rfl⟩
                  rw [hpre] at Hnext ⊢
                  obtain ⟨y, hy⟩ : ∃ y, ys[k]'hkl = y := ⟨_, rfl⟩
                  rw [hy] at hcell hyk Hnext
                  have hprel : pre.length ≤ 16 := by
                    rw [← hpre]
                    have : ((ys.take k).flatMap le4).length = 4 * (ys.take k).length := by simp [le4, List.length_flatMap, List.map_const', Nat.mul_comm]
                    rw [this, List.length_take]; omega
                  have hki : (k : Int) < 4 := by omega
                  clear hnext hpre hy
                  go_wp2_with fail
                  go_loopg [19, 21, 205] 5 (fun g vo vx vi W => ∃ i m : Nat, i ≤ 4 ∧ g + i = 5 ∧ vi = .int .i64 i ∧ vx = .int .u32 m ∧ m = y / 256 ^ i ∧ vo = .string (S (pre ++ le8 y i)) ∧ RefSt w q gb hb mb s W)
                  case atStart => exact ⟨0, y, by omega, by omega, rfl, rfl, by simp, by simp [le8], Hst2.out⟩
                  case round =>
                    obtain ⟨i, m, hi, hg, rfl, rfl, hm, rfl, hst⟩ := hrel
                    have Hg3 := Lib.hid hg
                    have Hst3 := Lib.hid hst
                    have Hm := Lib.hid hm
                    have hmy : m < 4294967296 := by rw [hm]; exact Nat.lt_of_le_of_lt (Nat.div_le_self _ _) hyk
                    have hll : (le8 y i).length = i := by simp [le8]
                    clear hg hst hm
                    by_cases hi4 : i < 4
                    · have hii : (i : Int) < 4 := by omega
                      have hle : pre ++ le8 y i ++ [UInt8.ofNat (m % 256)] = pre ++ le8 y (i + 1) := by rw [le8_succ, Hm.out, List.append_assoc]
                      have Hle := Lib.hid hle
                      have hpl : (pre ++ le8 y i).length ≤ 20 := by simp; omega
                      generalize pre ++ le8 y i = z at hpl Hle ⊢
                      have hcv := run_string_new1 (P := Tryz.prog) 44 9 5 Tryz.underlying44 Tryz.underlying5 Tryz.underlying9 wr m 5
                      clear hle
                      go_wp2_with fail
                      go_roundg (gk - 1)
                      case measure => have := Hg3.out; omega
                      case rel => exact ⟨i + 1, m / 256, by omega, by have := Hg3.out; omega, by go_num, by go_num, by rw [Hm.out, Nat.div_div_eq_div_mul, ← Nat.pow_succ], by rw [Hle.out], Hst3.out.later ((Below.refl _ _).alloc (Nat.le_refl _) _)⟩
                    · have hi4' : i = 4 := by omega
                      subst hi4'
                      have hl4 : le8 y 4 = le4 y := by
                        unfold le8 le4
                        simp only [List.range, List.range.loop, List.map_cons, List.map_nil, Nat.pow_zero, Nat.div_one, Nat.reducePow]
                      go_wp2_with fail
                      go_roundg (4 - k)
                      case measure => have := Hg2.out; omega
                      case rel => exact ⟨k + 1, by omega, by omega, by go_num, by rw [Hnext.out, hl4], Hst3.out⟩
                · have hk4' : k = 4 := by omega
                  subst hk4'
                  have hall : (ys.take 4).flatMap le4 = md5L l := by rw [Hout.out, List.take_of_length_le (by have := Hyl.out; omega)]
                  rw [hall]
                  go_wp2_with fail
                  go_ret
                  exact ⟨rfl, Hst2.out.low⟩
end Go.Proofs.YtoponmdfjbhnoaaGreatDoor
