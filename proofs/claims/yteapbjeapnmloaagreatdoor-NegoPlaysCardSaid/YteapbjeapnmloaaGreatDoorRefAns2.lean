/- The reference's Nego: Answer, walked. -/
import Derived.Test.YteapbjeapnmloaaGreatDoorRefAns
namespace Go.Proofs.YteapbjeapnmloaaGreatDoor
open Go Go.RowKit Go.Maps
set_option linter.unusedVariables false
set_option maxRecDepth 100000 in
set_option maxHeartbeats 8000000 in
theorem refAns_any {w : World} {rb : Nat} {mv rv : Value} {mine rec : List Pr} (l : List Pr) (v : Value) (lg dc : Bool) (hR : RN w rb mv rv mine rec) (hv : PrsV w v l) (hf : fitPs l) (hM : MineOk mine) (hK : RecOk rec) (hE : Env (offW (fun k => k = rb) w)) :
    Calls Tryz.prog 49 #[.pointer (some ⟨rb, 0, none⟩), v, .bool lg, .bool dc] w (RetAN w rb mv rv mine (ansN mine rec l lg dc)) := by
  obtain ⟨i0, hi, hz0, hz1, hz2⟩ := infoPr
  have hb0 := (Below.refl w.heap.size w).alloc (Nat.le_refl _) (.cells #[.int .i64 0, .int .i64 0] 78)
  have HF0 := Lib.hid (cell2_new w)
  have Hb0 := Lib.hid hb0
  have HV := Lib.hid hv
  have HR := Lib.hid hR
  have HE := Lib.hid hE
  have HM := Lib.hid hM
  have R := refPRight_any l v _ (hv.later hb0) hf
  have hrbl : rb < w.heap.size := hR.blk.lt
  obtain ⟨p, c, rfl⟩ := hv.form
  by_cases h0 : (prRight l).1 = 0
  case neg =>
    rw [ansN_bad h0]
    obtain ⟨⟨n, q⟩, hr⟩ : ∃ r, prRight l = r := ⟨_, rfl⟩
    rw [hr] at R h0 ⊢
    have R := Lib.hid R
    have IF := fun p w => Lib.hid (isF_bad n p w h0)
    clear hb0 hv hf hr h0 hR hE hM hK
    go_enter Tryz.func49, Tryz.ntmps49
    go_wp2_with fail
    refine R.out.mono ?_
    rintro e w1 ⟨rfl, hb1⟩
    have hb1n := (Below.refl w1.heap.size w1).alloc (Nat.le_refl _) (.cells #[.int .i64 n, .int .i64 q] 78)
    have HF1 := Lib.hid ((HF0.out.later hb1).later hb1n)
    have Hb1 := Lib.hid (below_then (below_then Hb0.out hb1) hb1n)
    have HG1 := Lib.hid (show Cell2 (w1.alloc (.cells #[.int .i64 n, .int .i64 q] 78)) w1.heap.size n q from heap_alloc_new w1 _)
    have hsz := Hb0.out.size
    have Hne := Lib.hid (show w.heap.size ≠ w1.heap.size by have := hb1.size; simp at this; omega)
    clear hb1 R hb1n
    go_wp2_with fail
    refine (IF _ _).out.mono ?_
    rintro e w2 ⟨rfl, hb2⟩
    have HF2 := Lib.hid (HF1.out.later hb2)
    have HG2 := Lib.hid (HG1.out.later hb2)
    have Hb2 := Lib.hid (below_then Hb1.out hb2)
    obtain ⟨x0, x1⟩ := HF2.out.cells
    have f0 := HF2.out.frozen 0
    have f1 := HF2.out.frozen 1
    obtain ⟨y0, y1⟩ := HG2.out.cells
    clear hb2
    go_wp2_with fail
    go_region
    all_goals
      try go_wp2_with fail
      obtain ⟨g1, g2⟩ := fault_set n q HF2.out Hb2.out
      refine bodyPost_ret (v := .tuple #[.slice none 0 0, .agg #[.int .i64 n, .int .i64 q]]) (by simp [results, Tryz.results49, go_sem, x0, x1]) rfl ?_
      exact ⟨_, _, rfl, PrsV.nil _, HR.out.later g2.drew, Keeps.of g2.drew _, NewAt.nil _ _ _, .inl rfl⟩
  obtain ⟨hok, hfew, hr'⟩ := prRight_is h0
  rw [hr'] at R
  have R := Lib.hid R
  have Hok := Lib.hid hok
  have HK := Lib.hid hK
  have hrec18 := hK.few
  have IF := fun p w => Lib.hid (isF_good p w)
  have GF := fun w => Lib.hid (goodF w)
  have hmm := @run_makeMap Tryz.prog
  have Bad := Lib.hid (fun i (h : twiceF 0 (seenR lg rec) l = some i) => ansN_twice (mine := mine) (rec := rec) (l := l) (lg := lg) (dc := dc) h0 h)
  have Good := Lib.hid (fun (h : twiceF 0 (seenR lg rec) l = none) => ansN_go (mine := mine) (rec := rec) (l := l) (lg := lg) (dc := dc) h0 h)
  obtain ⟨Q, hQ⟩ : ∃ Q, ansN mine rec l lg dc = Q := ⟨_, rfl⟩
  rw [hQ] at Bad Good ⊢
  clear hb0 hv hf hr' h0 hok hQ hR hE hM hK
  go_enter Tryz.func49, Tryz.ntmps49
  go_wp2_with fail
  refine R.out.mono ?_
  rintro e w1 ⟨rfl, hb1⟩
  have hb1n := (Below.refl w1.heap.size w1).alloc (Nat.le_refl _) (.cells #[.int .i64 0, .int .i64 (-1)] 78)
  have HF1 := Lib.hid ((HF0.out.later hb1).later hb1n)
  have Hb1 := Lib.hid (below_then (below_then Hb0.out hb1) hb1n)
  clear hb1 R hb1n
  go_wp2_with fail
  refine (IF _ _).out.mono ?_
  rintro e w2 ⟨rfl, hb2⟩
  have HF2 := Lib.hid (HF1.out.later hb2)
  have Hb2 := Lib.hid (below_then Hb1.out hb2)
  have Hlt2 := Lib.hid (show w.heap.size < w2.heap.size from (Array.getElem?_eq_some_iff.1 HF2.out).1)
  clear hb2 HF1 Hb1
  obtain ⟨W3, hW3⟩ : ∃ W3, w2.alloc (.map #[] 0) = W3 := ⟨_, rfl⟩
  have HM3 := Lib.hid (show BMap 9 W3 w2.heap.size 0 (keyIn (seenR lg (rec.take 0))) by rw [← hW3]; exact (BMap.made 9 w2).as (fun x => ⟨fun h => h.elim, fun ⟨y, hy, _⟩ => by unfold seenR at hy; split at hy <;> exact absurd hy List.not_mem_nil⟩))
  have HF3 := Lib.hid (show Cell2 W3 w.heap.size 0 0 by rw [← hW3]; exact HF2.out.later ((Below.refl _ _).alloc (Nat.le_refl _) _))
  have Hb3 := Lib.hid (show Below w.heap.size w W3 by rw [← hW3]; exact Hb2.out.alloc Hb2.out.size _)
  obtain ⟨mb, hmb⟩ : ∃ mb, w2.heap.size = mb := ⟨_, rfl⟩
  rw [hmb] at HM3 Hlt2
  have HR3 := HR.out.later Hb3.out
  obtain ⟨q0, q1⟩ := HR3.blk.two
  obtain ⟨pr, cr, rfl⟩ := HR.out.recd.form
  obtain ⟨pm, cm, rfl⟩ := HR.out.mine.form
  go_wp2_with fail
  clear hmb hmm hW3 HR3 q0 q1
  go_loopw [42] (fun i wr => ∃ j : Nat, j ≤ rec.length ∧ i = .int .i64 j ∧ BMap 9 wr mb j (keyIn (seenR lg (rec.take j))) ∧ Cell2 wr w.heap.size 0 0 ∧ Below w.heap.size w wr) (fun i _ => rec.length - (intOf i).toNat)
  case atStart => exact ⟨0, by omega, rfl, HM3.out, HF3.out, Hb3.out⟩
  case round =>
    obtain ⟨j, hj, rfl, hMp, hF, hb⟩ := hrel
    have Hb := Lib.hid hb
    have HF := Lib.hid hF
    have HMp := Lib.hid hMp
    clear hF hMp
    by_cases hlt : j < rec.length
    · obtain ⟨b, o, rfl, h1, h2⟩ := (HR.out.later hb).recd.cell hlt
      have hstep := seenR_step lg hlt
      obtain ⟨kr, hrr, _, hwp, _⟩ := HK.out.each rec[j] (List.getElem_mem hlt)
      have hka := thick_okP hwp
      obtain ⟨⟨k, d⟩, ha⟩ : ∃ a, rec[j] = a := ⟨_, rfl⟩
      rw [ha] at h1 h2 hka hstep
      simp only at h1 h2 hka hstep
      obtain ⟨w4, hw4⟩ : ∃ w4, wr.alloc (.cells #[.string (S k), .string (S d)] 35) = w4 := ⟨_, rfl⟩
      have hb4 : Below wr.heap.size wr w4 := by rw [← hw4]; exact (Below.refl _ _).alloc (Nat.le_refl _) _
      have hP4 : Blk w4 wr.heap.size #[.string (S k), .string (S d)] 35 := by rw [← hw4]; exact Blk.new wr _ _
      have hM4 := HMp.out.later hb4
      have HF4 := Lib.hid (HF.out.later hb4)
      have Hb4 := Lib.hid (below_then Hb.out hb4)
      have hjI : (j : Int) < (rec.length : Int) := by omega
      obtain ⟨x0, x1⟩ := hP4.two
      have hfne : w.heap.size ≠ mb := fun e => by have := Hlt2.out; omega
      obtain ⟨w5, hr5, hM5, hg5⟩ := hM4.putV keyedS Tryz.underlying41 (by omega) (keyS k (by omega)) trivial lg
      have HM5 := Lib.hid (hM5.as hstep)
      have HF5 := Lib.hid (show Cell2 w5 w.heap.size 0 0 from Blk.otherB (show Blk w4 w.heap.size #[.int .i64 0, .int .i64 0] 78 from HF4.out) hg5 hfne)
      have Hb5 := Lib.hid (Below.grownB Hb4.out hg5 (Nat.le_of_lt Hlt2.out) Hb4.out.size)
      clear hb hka ha hb4 hP4 hM4 hstep hM5 hg5 hrr hwp
      go_wp2_with fail
      go_roundw
      case rel => exact ⟨j + 1, by omega, by go_num, HM5.out, HF5.out, Hb5.out⟩
      case measure => simp [intOf]; omega
    · obtain rfl : j = rec.length := by omega
      have hMq := HMp.out
      rw [List.take_length] at hMq
      have HMq := Lib.hid (show BMap 9 wr mb (18 + 0) (keyIn (seenR lg rec ++ keysP (l.take 0))) by
        have := hMq.mono (n' := 18 + 0) (by omega)
        unfold keysP
        simpa using this)
      clear hb hMq HMp hlt hj Hb3 HF3 HM3 HF2 Hb2
      obtain ⟨s0, hs0⟩ : ∃ s0, seenR lg rec = s0 := ⟨_, rfl⟩
      rw [hs0] at HMq Bad Good
      clear hs0
      go_wp2_with fail
      go_loopw [53] (fun i wr => ∃ j : Nat, j ≤ l.length ∧ i = .int .i64 j ∧ Hid (twiceF j (s0 ++ keysP (l.take j)) (l.drop j) = twiceF 0 s0 l) ∧ BMap 9 wr mb (18 + j) (keyIn (s0 ++ keysP (l.take j))) ∧ Cell2 wr w.heap.size 0 0 ∧ Below w.heap.size w wr) (fun i _ => l.length - (intOf i).toNat)
      case atStart => exact ⟨0, by omega, rfl, Lib.hid (by unfold keysP; simp), HMq.out, HF.out, Hb.out⟩
      case round =>
        obtain ⟨j, hj, rfl, Hr, hMp, hF, hb⟩ := hrel
        have Hbq := Lib.hid hb
        have HFq := Lib.hid hF
        have HMp := Lib.hid hMp
        clear hF hMp
        by_cases hlt : j < l.length
        · obtain ⟨b, o, rfl, h1, h2⟩ := (HV.out.later hb).cell hlt
          have hst := twiceF_step (s := s0) hlt
          rw [Hr.out] at hst
          have hka := thick_okP (Hok.out l[j] (List.getElem_mem hlt))
          have hkt := keys_take hlt
          obtain ⟨⟨k, d⟩, ha⟩ : ∃ a, l[j] = a := ⟨_, rfl⟩
          rw [ha] at h1 h2 hst hka hkt
          simp only at h1 h2 hst hka hkt
          obtain ⟨w4, hw4⟩ : ∃ w4, wr.alloc (.cells #[.string (S k), .string (S d)] 35) = w4 := ⟨_, rfl⟩
          have hb4 : Below wr.heap.size wr w4 := by rw [← hw4]; exact (Below.refl _ _).alloc (Nat.le_refl _) _
          have hP4 : Blk w4 wr.heap.size #[.string (S k), .string (S d)] 35 := by rw [← hw4]; exact Blk.new wr _ _
          have hM4 := HMp.out.later hb4
          have HF4 := Lib.hid (HFq.out.later hb4)
          have Hb4 := Lib.hid (below_then Hbq.out hb4)
          have hjI : (j : Int) < (l.length : Int) := by omega
          have hmbne : wr.heap.size ≠ mb := fun e => by have := HMp.out.lt; omega
          have hfne : w.heap.size ≠ mb := fun e => by have := Hlt2.out; omega
          obtain ⟨x0, x1⟩ := hP4.two
          by_cases hin : k ∈ s0 ++ keysP (l.take j)
          · rw [if_pos hin] at hst
            have Hst := Lib.hid (Bad.out j hst)
            have L1 := (hM4.look keyedS Tryz.underlying41 (keyS k (by omega))).1 (keyIn_iff.2 hin)
            obtain ⟨y0, y1⟩ := HF4.out.cells
            have f0 := HF4.out.frozen 0
            have f1 := HF4.out.frozen 1
            clear hb hka hkt ha hb4 hP4 hM4 hst hin
            go_wp2_with fail
            obtain ⟨g1, g2⟩ := fault_set 9 (j : Int) HF4.out Hb4.out
            refine bodyPost_ret (v := .tuple #[.slice none 0 0, .agg #[.int .i64 9, .int .i64 (j : Int)]]) (by simp [results, Tryz.results49, go_sem, y0, y1]) rfl ?_
            rw [Hst.out]
            exact ⟨_, _, rfl, PrsV.nil _, HR.out.later g2, Keeps.of g2 _, NewAt.nil _ _ _, .inl rfl⟩
          · rw [if_neg hin] at hst
            have Hst := Lib.hid hst
            have L1 := (hM4.look keyedS Tryz.underlying41 (keyS k (by omega))).2 (fun h => hin (keyIn_iff.1 h))
            obtain ⟨w5, hr5, hM5, hg5⟩ := hM4.put keyedS Tryz.underlying41 (by omega) (keyS k (by omega)) trivial
            have HM5 := Lib.hid (show BMap 9 w5 mb (18 + (j + 1)) (keyIn (s0 ++ keysP (l.take (j + 1)))) by rw [hkt, ← List.append_assoc]; exact hM5.as (fun x => keyIn_snoc x))
            have HF5 := Lib.hid (show Cell2 w5 w.heap.size 0 0 from Blk.otherB (show Blk w4 w.heap.size #[.int .i64 0, .int .i64 0] 78 from HF4.out) hg5 hfne)
            have hP5 := hP4.otherB hg5 hmbne
            obtain ⟨z0, z1⟩ := hP5.two
            have Hb5 := Lib.hid (Below.grownB Hb4.out hg5 (Nat.le_of_lt Hlt2.out) Hb4.out.size)
            clear hb hka hkt ha hb4 hP4 hM4 hst hin hM5 hg5 hP5
            go_wp2_with fail
            go_roundw
            case rel => exact ⟨j + 1, by omega, by go_num, Lib.hid Hst.out.symm, HM5.out, HF5.out, Hb5.out⟩
            case measure => simp [intOf]; omega
        · obtain rfl : j = l.length := by omega
          have hr := Hr.out
          rw [List.drop_length] at hr
          have hG := Good.out hr.symm
          rw [hG]
          clear hr Hr hb HMp hlt hj HMq Bad Good HF Hb
          have HK0 := Lib.hid (Keeps.of Hbq.out (fun k => k = rb))
          have HRq := Lib.hid (HR.out.later Hbq.out)
          have Hwl := Lib.hid (show w.heap.size < wr.heap.size from (Array.getElem?_eq_some_iff.1 HFq.out).1)
          go_wp2_with fail
          go_loopw [16, 70] (fun ov i W => ∃ (j : Nat) (out recj : List Pr) (rvj : Value), j ≤ l.length ∧ i = .int .i64 j ∧ Hid (goN (oneN mine lg dc) l rec = (out ++ (goN (oneN mine lg dc) (l.drop j) recj).1, (goN (oneN mine lg dc) (l.drop j) recj).2)) ∧ out.length ≤ j ∧ Hid (RecOk recj) ∧ PrBuf (w.heap.size + 1) W ov out ∧ RN W rb (.slice pm mine.length cm) rvj mine recj ∧ ApartP ov rvj ∧ Cell2 W w.heap.size 0 0 ∧ Keeps w.heap.size w W (fun k => k = rb) (fun k => k = rb) ∧ Hid (rvj = .slice pr rec.length cr ∨ NewAt w.heap.size rvj)) (fun _ i _ => l.length - (intOf i).toNat)
          case atStart => exact ⟨0, [], rec, _, by omega, rfl, Lib.hid (by simp), by simp, HK, PrBuf.nil _ _, HRq.out, ApartP.nil _, HFq.out, HK0.out, Lib.hid (.inl rfl)⟩
          case round =>
            obtain ⟨j, out, recj, rvj, hj, rfl, Hgo, hol, HKj, hbuf, hRN, hap, hF, hk, Hnw⟩ := hrel
            obtain ⟨po, co, rfl⟩ := hbuf.form
            obtain ⟨prj, crj, rfl⟩ := hRN.recd.form
            have HBf := Lib.hid hbuf
            have HRj := Lib.hid hRN
            have Hap := Lib.hid hap
            have HFj := Lib.hid hF
            have HKp := Lib.hid hk
            by_cases hlt : j < l.length
            · obtain ⟨b, o, rfl, h1, h2⟩ := (HV.out.keepsR HR.out.blk (Nat.le_refl _) hk).cell hlt
              have hwp := Hok.out l[j] (List.getElem_mem hlt)
              have hka := thick_okP hwp
              have hsum := one_some (mine := mine) (lg := lg) (dc := dc) hwp
              have hgo := Hgo.out
              rw [List.drop_eq_getElem_cons hlt, goN_cons] at hgo
              have hrec2 : RecOk (recN recj l[j].k (oneN mine lg dc l[j]).2) := (goN_ok (mine := mine) (lg := lg) (dc := dc) (l := [l[j]]) HKj.out (fun q hq => by rw [List.mem_singleton.1 hq]; exact hwp))
              obtain ⟨⟨k, d⟩, ha⟩ : ∃ a, l[j] = a := ⟨_, rfl⟩
              rw [ha] at h1 h2 hwp hka hsum hgo hrec2
              simp only at h1 h2 hka hgo hrec2
              rw [asP_getD hsum.1, recN_getD hsum.2] at hgo
              rw [recN_getD hsum.2] at hrec2
              obtain ⟨said, hsaid⟩ : ∃ said, (oneN mine lg dc ⟨k, d⟩).1.getD [] = said := ⟨_, rfl⟩
              obtain ⟨rcd, hrcd⟩ : ∃ rcd, (oneN mine lg dc ⟨k, d⟩).2.getD [] = rcd := ⟨_, rfl⟩
              rw [hsaid, hrcd] at hgo
              rw [hrcd] at hrec2
              have Hka := Lib.hid hka
              have Hgo := Lib.hid hgo
              have Hrec2 := Lib.hid hrec2
              have Hsaid := Lib.hid hsaid
              have Hrcd := Lib.hid hrcd
              obtain ⟨nm, df, kd, lo, hi', no, kg, n, hkT, hcase⟩ := keyT_ways k
              have Hcase := Lib.hid hcase
              obtain ⟨w4, hw4⟩ : ∃ w4, wr.alloc (.cells #[.string (S k), .string (S d)] 35) = w4 := ⟨_, rfl⟩
              have hb4 : Below wr.heap.size wr w4 := by rw [← hw4]; exact (Below.refl _ _).alloc (Nat.le_refl _) _
              have hP4 : Blk w4 wr.heap.size #[.string (S k), .string (S d)] 35 := by rw [← hw4]; exact Blk.new wr _ _
              obtain ⟨pb, hpb⟩ : ∃ pb, wr.heap.size = pb := ⟨_, rfl⟩
              have Hpb := Lib.hid (show w.heap.size < pb ∧ rb < pb by have h3 := (Array.getElem?_eq_some_iff.1 hF).1; rw [← hpb]; exact ⟨h3, by omega⟩)
              have HP4 := Lib.hid (show Blk w4 pb #[.string (S k), .string (S d)] 35 by rw [← hpb]; exact hP4)
              have Hb4 := Lib.hid hb4
              have C4 := refKeyOf_any k w4
              unfold RetKeyT at C4
              rw [hkT] at C4
              have C4 := Lib.hid C4
              have hjI : (j : Int) < (l.length : Int) := by omega
              obtain ⟨x0, x1⟩ := HP4.out.two
              have HRN4 := Lib.hid (hRN.later hb4)
              have HK4 := Lib.hid (HKp.out.then (Keeps.of hb4 _))
              clear hbuf hRN hap hF hk hwp hka hsum hgo hrec2 hsaid hrcd hcase hkT ha hb4 hP4
              go_wp2_with fail
              refine C4.out.mono ?_
              rintro e w5 ⟨rfl, hb5⟩
              obtain ⟨w6, hw6⟩ : ∃ w6, w5.alloc (.cells #[.string (S nm), .int .i64 kd, .int .i64 lo, .int .i64 hi', .string (S df), .bool no, .bool kg] 48) = w6 := ⟨_, rfl⟩
              have hb6 : Below w4.heap.size w4 w6 := by rw [← hw6]; exact hb5.alloc hb5.size _
              have hK6 : Blk w6 w5.heap.size #[.string (S nm), .int .i64 kd, .int .i64 lo, .int .i64 hi', .string (S df), .bool no, .bool kg] 48 := by rw [← hw6]; exact Blk.new w5 _ _
              have hP6 := HP4.out.later hb6
              have HRN6 := Lib.hid (HRN4.out.later hb6)
              have HK6 := Lib.hid (HK4.out.then (Keeps.of hb6 _))
              have Hb6 := Lib.hid (below_then Hb4.out hb6)
              have OW := refOwn_any k HRN6.out (by have := HM.out.few; omega)
              obtain ⟨⟨x, m⟩, hx⟩ : ∃ r, valN mine k = r := ⟨_, rfl⟩
              rw [hx] at OW
              have Hx := Lib.hid hx
              have OW := Lib.hid OW
              obtain ⟨kb, hkb⟩ : ∃ kb, w5.heap.size = kb := ⟨_, rfl⟩
              have HKy6 := Lib.hid (show Blk w6 kb #[.string (S nm), .int .i64 kd, .int .i64 lo, .int .i64 hi', .string (S df), .bool no, .bool kg] 48 by rw [← hkb]; exact hK6)
              have HP6 := Lib.hid hP6
              clear hb5 hb6 hK6 hP6 hx x0 x1 C4 h1 h2
              obtain ⟨x0, x1⟩ := HP6.out.two
              go_wp2_with fail
              refine OW.out.mono ?_
              rintro e w7 ⟨rfl, hb7⟩
              have HKy7 := Lib.hid (HKy6.out.later hb7)
              have HP7 := Lib.hid (HP6.out.later hb7)
              have HRN7 := Lib.hid (HRN6.out.later hb7)
              have HK7 := Lib.hid (HK6.out.then (Keeps.of hb7 _))
              have Hb7 := Lib.hid (below_then Hb6.out hb7)
              have HE7 := Lib.hid (env_now HE.out HK7.out)
              clear hb7 OW x0 x1 hw6
              obtain ⟨x0, x1⟩ := HP7.out.two
              obtain ⟨c0, c1, c2, c3, c4, c5, c6⟩ := HKy7.out.seven
              go_upto_block 6 with (fail)
              go_cut [19, 20, 25, 26] from 87 to 131 (fun s r _ _ W => s = .string (S said) ∧ r = .string (S rcd) ∧ Below w7.heap.size w7 W)
              case first =>
                rcases Hcase.out with ⟨hr, rfl⟩ | ⟨ke, hr, rfl, hkd, hno, hkg⟩
                · have e1 : said = notL := by rw [← Hsaid.out, oneN_no hr]; rfl
                  have e2 : rcd = [] := by rw [← Hrcd.out, oneN_no hr]; rfl
                  subst e1 e2
                  clear hr
                  go_wp2_with fail
                  go_meet
                  exact ⟨rfl, rfl, Below.refl _ _⟩
                · have hxo : x = ownV mine ke := by
                    have := Hx.out
                    rw [valN_own hr] at this
                    exact (congrArg Prod.fst this).symm
                  have hkk := rowOf_ok hr
                  have hlx : x.length ≤ 255 := by rw [hxo]; exact ownV_len HM.out hkk.2.2.2.2.2.1
                  have hld := Hka.out.2
                  try simp only at hld
                  have KF := Lib.hid (fun (q : Nat) (hq : fitK ke d = q) => show Calls Tryz.prog 72 #[.string (S k), .string (S d)] w7 (RetEN w7 q) from by
                    have := refFits_any k d w7 (by omega) HE7.out.mc
                    rwa [keyFits_of hr, hq] at this)
                  have RS := Lib.hid (fun (W : World) (hb : Below w7.heap.size w7 W) (q : List UInt8 × Nat) (hq : resK ke d x = q) => show Calls Tryz.prog 75 #[.string (S k), .string (S d), .string (S x)] W (RetSI W q) from by
                    have := refResult_any k d x W (by omega) (by omega) (HE7.out.later hb)
                    rwa [keyRes_of hr, hq] at this)
                  have ways := oneK_ways mine ke d lg dc
                  have hs0 := Hsaid.out
                  have hr0 := Hrcd.out
                  rw [oneN_row (p := ⟨k, d⟩) hr] at hs0 hr0
                  try simp only at hs0 hr0
                  rw [← hxo, ← hno, ← hkg] at ways
                  obtain ⟨⟨r, rn⟩, hq⟩ : ∃ q, resK ke d x = q := ⟨_, rfl⟩
                  rw [hq] at ways
                  try simp only at ways
                  have Hkd := Lib.hid hkd
                  have Hq := Lib.hid hq
                  have hA' : ¬ (kg = true ∧ lg = false) → kg = false ∨ (kg = true ∧ lg = true) := by cases kg <;> cases lg <;> simp
                  have hB' : ¬ (no = true ∧ dc = true) → no = false ∨ (no = true ∧ dc = false) := by cases no <;> cases dc <;> simp
                  clear hkk hxo hlx hld hr hno hkg hkd hq
                  rcases ways with ⟨hA, e⟩ | ⟨hA, hB, e⟩ | ⟨hA, hB, h3, e⟩ | ⟨hA, hB, h3, h4, e⟩ | ⟨hA, hB, h3, h4, h5, e⟩ | ⟨hA, hB, h3, h4, h5, e⟩
                  · rw [e] at hs0 hr0
                    simp only [Option.getD_some, Option.getD_none] at hs0 hr0
                    subst hs0 hr0
                    obtain ⟨rfl, rfl⟩ := hA
                    clear hA' hB' e
                    go_wp2_with fail
                    go_meet
                    exact ⟨rfl, rfl, Below.refl _ _⟩
                  · rw [e] at hs0 hr0
                    simp only [Option.getD_some, Option.getD_none] at hs0 hr0
                    subst hs0 hr0
                    obtain ⟨rfl, rfl⟩ := hB
                    have hA2 := hA' hA
                    clear hA hA' hB' e
                    rcases hA2 with rfl | ⟨rfl, rfl⟩
                    all_goals
                      go_wp2_with fail
                      go_meet
                      exact ⟨rfl, rfl, Below.refl _ _⟩
                  · rw [e] at hs0 hr0
                    simp only [Option.getD_some, Option.getD_none] at hs0 hr0
                    subst hs0 hr0
                    have K3 := KF.out _ rfl
                    unfold RetEN at K3
                    obtain ⟨N, hN⟩ : ∃ N : Int, ((fitK ke d : Nat) : Int) = N := ⟨_, rfl⟩
                    rw [hN] at K3
                    have K3 := Lib.hid K3
                    have hN0 : ¬ N = 0 := by omega
                    have hA2 := hA' hA
                    have hB2 := hB' hB
                    clear hA hB hA' hB' e h3 hN
                    rcases hA2 with rfl | ⟨rfl, rfl⟩ <;> rcases hB2 with rfl | ⟨rfl, rfl⟩
                    all_goals
                      go_wp2_with fail
                      refine K3.out.mono ?_
                      rintro e w8 ⟨rfl, hb8⟩
                      have Hb8 := Lib.hid hb8
                      clear hb8
                      go_wp2_with fail
                      go_meet
                      exact ⟨rfl, rfl, Hb8.out⟩
                  · rw [e] at hs0 hr0
                    simp only [Option.getD_some, Option.getD_none] at hs0 hr0
                    subst hs0 hr0
                    have K3 := Lib.hid (KF.out 0 h3)
                    have hkd6 : kd = 6 ∨ kd = 7 := by have := Hkd.out; omega
                    have hA2 := hA' hA
                    have hB2 := hB' hB
                    clear hA hB hA' hB' e h3 h4 Hkd
                    rcases hkd6 with rfl | rfl <;> rcases hA2 with rfl | ⟨rfl, rfl⟩ <;> rcases hB2 with rfl | ⟨rfl, rfl⟩
                    all_goals
                      go_wp2_with fail
                      refine K3.out.mono ?_
                      rintro e w8 ⟨rfl, hb8⟩
                      obtain ⟨y0, y1⟩ := (HP7.out.later hb8).two
                      obtain ⟨d0, d1, d2, d3, d4, d5, d6⟩ := (HKy7.out.later hb8).seven
                      have Hb8 := Lib.hid hb8
                      clear hb8
                      go_wp2_with fail
                      go_meet
                      exact ⟨rfl, rfl, Hb8.out⟩
                  · rw [e] at hs0 hr0
                    simp only [Option.getD_some, Option.getD_none] at hs0 hr0
                    subst hs0 hr0
                    have K3 := Lib.hid (KF.out 0 h3)
                    have R3 := fun W hb => RS.out W hb _ Hq.out
                    unfold RetSI at R3
                    try simp only at R3
                    obtain ⟨N, hN⟩ : ∃ N : Int, ((rn : Nat) : Int) = N := ⟨_, rfl⟩
                    simp only [hN] at R3
                    have R3 := Lib.hid R3
                    have hN0 : ¬ N = 0 := by omega
                    have hkd6 : ¬ kd = 6 := by have := Hkd.out; omega
                    have hkd7 : ¬ kd = 7 := by have := Hkd.out; omega
                    have hk6b : (kd == 6) = false := by simpa using hkd6
                    have hk7b : (kd == 7) = false := by simpa using hkd7
                    have hA2 := hA' hA
                    have hB2 := hB' hB
                    clear hA hB hA' hB' e h3 h4 h5 hN
                    rcases hA2 with rfl | ⟨rfl, rfl⟩ <;> rcases hB2 with rfl | ⟨rfl, rfl⟩
                    all_goals
                      go_wp2_with fail
                      refine K3.out.mono ?_
                      rintro e w8 ⟨rfl, hb8⟩
                      obtain ⟨y0, y1⟩ := (HP7.out.later hb8).two
                      obtain ⟨d0, d1, d2, d3, d4, d5, d6⟩ := (HKy7.out.later hb8).seven
                      have R8 := Lib.hid (R3.out w8 hb8)
                      have Hb8 := Lib.hid hb8
                      clear hb8
                      go_wp2_with fail
                      refine R8.out.mono ?_
                      rintro e w9 ⟨rfl, hb9⟩
                      have Hb9 := Lib.hid (below_then Hb8.out hb9)
                      clear hb9
                      go_wp2_with fail
                      go_meet
                      exact ⟨rfl, rfl, Hb9.out⟩
                  · rw [e] at hs0 hr0
                    simp only [Option.getD_some] at hs0 hr0
                    subst hs0
                    obtain rfl : r = rcd := hr0
                    subst h5
                    have K3 := Lib.hid (KF.out 0 h3)
                    have R3 := Lib.hid (fun W hb => RS.out W hb _ Hq.out)
                    have hkd6 : ¬ kd = 6 := by have := Hkd.out; omega
                    have hkd7 : ¬ kd = 7 := by have := Hkd.out; omega
                    have hk6b : (kd == 6) = false := by simpa using hkd6
                    have hk7b : (kd == 7) = false := by simpa using hkd7
                    have hA2 := hA' hA
                    have hB2 := hB' hB
                    clear hA hB hA' hB' e h3 h4
                    rcases hA2 with rfl | ⟨rfl, rfl⟩ <;> rcases hB2 with rfl | ⟨rfl, rfl⟩
                    all_goals
                      go_wp2_with fail
                      refine K3.out.mono ?_
                      rintro e w8 ⟨rfl, hb8⟩
                      obtain ⟨y0, y1⟩ := (HP7.out.later hb8).two
                      obtain ⟨d0, d1, d2, d3, d4, d5, d6⟩ := (HKy7.out.later hb8).seven
                      have R8 := Lib.hid (R3.out w8 hb8)
                      have Hb8 := Lib.hid hb8
                      clear hb8
                      go_wp2_with fail
                      refine R8.out.mono ?_
                      rintro e w9 ⟨rfl, hb9⟩
                      have Hb9 := Lib.hid (below_then Hb8.out hb9)
                      clear hb9
                      go_wp2_with fail
                      go_meet
                      exact ⟨rfl, rfl, Hb9.out⟩
              case rest =>
                obtain ⟨rfl, rfl, hb8⟩ := hcut
                have hb8' := below_then Hb7.out hb8
                have HB8 := Lib.hid (HBf.out.later hb8')
                have HRN8 := Lib.hid (HRj.out.later hb8')
                have HF8 := Lib.hid (HFj.out.later hb8')
                have HK8 := Lib.hid (HKp.out.then (Keeps.of hb8' _))
                have HP8 := Lib.hid (HP7.out.later hb8)
                have Hpo := Lib.hid (fun g (hg : (Value.slice po out.length co).ownBlock = some g) => show g < pb ∧ w.heap.size + 1 ≤ g from ⟨by have h3 := (World.ownsRow.lt HBf.out g hg).2; omega, HBf.out.ge g hg⟩)
                clear hb8 hb8' HRN7 HK7 HE7 Hb7 HKy7 HP7 HKy6 HP6 HRN6 HK6 Hb6 HRN4 HK4 Hb4 HP4 c0 c1 c2 c3 c4 c5 c6 x0 x1 HBf HRj HFj HKp Hcase Hsaid Hrcd Hx hw4
                go_step
                go_step
                go_cut [16] from 132 to 140 (fun v W => PrBuf (w.heap.size + 1) W v (out ++ (if said = [] then [] else [⟨k, said⟩])) ∧ RN W rb (.slice pm mine.length cm) (.slice prj recj.length crj) mine recj ∧ ApartP v (.slice prj recj.length crj) ∧ Cell2 W w.heap.size 0 0 ∧ Keeps w.heap.size w W (fun k => k = rb) (fun k => k = rb) ∧ Blk W pb #[.string (S k), .string (S d)] 35)
                case first =>
                  obtain ⟨x0, x1⟩ := HP8.out.two
                  by_cases hs : said = []
                  · subst hs
                    have Hbf2 := Lib.hid (show PrBuf (w.heap.size + 1) wc (.slice po out.length co) (out ++ (if ([] : List UInt8) = [] then [] else [⟨k, []⟩])) by rw [if_pos rfl, List.append_nil]; exact HB8.out)
                    go_wp2_with fail
                    go_meet
                    exact ⟨Hbf2.out, HRN8.out, Hap.out, HF8.out, HK8.out, HP8.out⟩
                  · have hse : said.isEmpty = false := by cases said with | nil => exact absurd rfl hs | cons _ _ => rfl
                    have hsb : (said == []) = false := by simpa using hs
                    have hse2 : (said != []) = true := by simpa using hs
                    obtain ⟨HA1, HA2, HA3, HA4, HA5⟩ := appP_sides k said wc wc.heap.size out.length (w.heap.size + 1) rfl (by omega) (by have := HF8.out; have h3 := (Array.getElem?_eq_some_iff.1 this).1; omega)
                    have hwcA : Below wc.heap.size wc (wc.alloc (.cells #[.string (S k), .string (S said)] 35)) := (Below.refl _ _).alloc (Nat.le_refl _) _
                    obtain ⟨v', w10, hrun, hbuf10, hgrow, hblk⟩ := appP_own (x := ⟨k, said⟩) (HB8.out.alloc (.cells #[.string (S k), .string (S said)] 35)) HA1.out (by omega) HA5.out
                    have HRun := Lib.hid hrun
                    have Hbf2 := Lib.hid (show PrBuf (w.heap.size + 1) w10 v' (out ++ (if said = [] then [] else [⟨k, said⟩])) by rw [if_neg hs]; exact hbuf10)
                    have hRNa := HRN8.out.later hwcA
                    have hpoF : ∀ g, (Value.slice po out.length co).ownBlock = some g → g ≠ rb ∧ g ≠ pb ∧ g ≠ w.heap.size := fun g hg => by have := Hpo.out g hg; have := Hpb.out; omega
                    have hkeep : ∀ b, b < wc.heap.size → (∀ g, (Value.slice po out.length co).ownBlock = some g → g ≠ b) → w10.heap[b]? = wc.heap[b]? := fun b hb hne => (hgrow.block b (by simp; omega) (fun e => hne b e.symm rfl)).trans (hwcA.block b hb)
                    have hRN10 : RN w10 rb (.slice pm mine.length cm) (.slice prj recj.length crj) mine recj := by
                      refine ⟨(hkeep rb HRN8.out.blk.lt (fun g hg => (hpoF g hg).1)).trans HRN8.out.blk, hRNa.mine.grown hgrow (ApartP.old HB8.out HR.out.mine (by omega)), hRNa.recd.grown hgrow Hap.out⟩
                    have HRN10 := Lib.hid hRN10
                    have Hap10 := Lib.hid (ApartP.step Hap.out hRNa.recd hblk)
                    have HF10 := Lib.hid (show Cell2 w10 w.heap.size 0 0 from (hkeep w.heap.size (Array.getElem?_eq_some_iff.1 HF8.out).1 (fun g hg => (hpoF g hg).2.2)).trans HF8.out)
                    have HP10 := Lib.hid (show Blk w10 pb #[.string (S k), .string (S d)] 35 from (hkeep pb HP8.out.lt (fun g hg => (hpoF g hg).2.1)).trans HP8.out)
                    have HK10 := Lib.hid ((HK8.out.then (Keeps.of hwcA _)).grown hgrow (fun g hg => by have := Hpo.out g hg; omega) (by have h3 := (Array.getElem?_eq_some_iff.1 HF8.out).1; simp; omega))
                    clear hrun hbuf10 hgrow hblk hRNa hpoF hkeep hRN10 hwcA HA1 HA2 HA3 HA4 HA5 hs
                    go_wp2_with (at_builtin; refine wpList_append_ran _ (by rfl) _ _ _ _ rfl _ _ rfl rfl _ _ HRun.out ?_)
                    go_meet
                    exact ⟨Hbf2.out, HRN10.out, Hap10.out, HF10.out, HK10.out, HP10.out⟩
                case rest =>
                  obtain ⟨hbf9, hrn9, hap9, hf9, hk9, hp9⟩ := hcut
                  obtain ⟨out2, ho2⟩ : ∃ o2, out ++ (if said = [] then [] else [⟨k, said⟩]) = o2 := ⟨_, rfl⟩
                  have hl2 : out2.length ≤ j + 1 := by rw [← ho2, List.length_append]; split <;> simp <;> omega
                  have Hgo2 := Lib.hid (show goN (oneN mine lg dc) l rec = (out2 ++ (goN (oneN mine lg dc) (l.drop (j + 1)) (if rcd = [] then recj else recj.filter (fun q => decide (q.k ≠ k)) ++ [⟨k, rcd⟩])).1, (goN (oneN mine lg dc) (l.drop (j + 1)) (if rcd = [] then recj else recj.filter (fun q => decide (q.k ≠ k)) ++ [⟨k, rcd⟩])).2) by rw [← ho2, List.append_assoc]; exact Hgo.out)
                  rw [ho2] at hbf9
                  have HBf := Lib.hid hbf9
                  have HRn := Lib.hid hrn9
                  have HapC := Lib.hid hap9
                  have HFa := Lib.hid hf9
                  have HKp := Lib.hid hk9
                  have HPb := Lib.hid hp9
                  have hwlt : w.heap.size < wc.heap.size := (Array.getElem?_eq_some_iff.1 hf9).1
                  clear hbf9 hrn9 hap9 hf9 hk9 hp9 ho2 HB8 HRN8 HF8 HK8 HP8 Hgo Hap Hpo
                  by_cases hr0 : rcd = []
                  · subst hr0
                    go_wp2_with fail
                    go_roundw
                    case rel => exact ⟨j + 1, out2, recj, _, by omega, by go_num, Lib.hid (by have := Hgo2.out; rwa [if_pos rfl] at this), hl2, HKj, HBf.out, HRn.out, HapC.out, HFa.out, HKp.out, Hnw⟩
                    case measure => simp [intOf]; omega
                  · have hre : rcd.isEmpty = false := by cases rcd with | nil => exact absurd rfl hr0 | cons _ _ => rfl
                    have hrb1 : (rcd == []) = false := by simpa using hr0
                    have hrb2 : (rcd != []) = true := by simpa using hr0
                    have Hr0 := Lib.hid hr0
                    have hrl18 : recj.length ≤ 18 := HKj.out.few
                    obtain ⟨q0, q1⟩ := HRn.out.blk.two
                    clear hr0
                    go_wp2_with fail
                    clear q0 q1
                    go_loopw [27, 148] (fun lv i W => ∃ (a : Nat) (acc : List Pr), a ≤ recj.length ∧ i = .int .i64 a ∧ Hid ((recj.take a).filter (fun q => decide (q.k ≠ k)) = acc) ∧ acc.length ≤ a ∧ PrBuf wc.heap.size W lv acc ∧ Below wc.heap.size wc W) (fun _ i _ => recj.length - (intOf i).toNat)
                    case atStart => exact ⟨0, [], by omega, rfl, Lib.hid rfl, by simp, PrBuf.nil _ _, Below.refl _ _⟩
                    case round =>
                      obtain ⟨a, acc, hak, rfl, Hacc, hal, hbuf, hb⟩ := hrel
                      obtain ⟨pl, cl, rfl⟩ := hbuf.form
                      have Hb := Lib.hid hb
                      have HBl := Lib.hid hbuf
                      have Hge := Lib.hid hbuf.ge
                      have hsz := hb.size
                      have HPr := Lib.hid (HPb.out.later hb)
                      have HRr := Lib.hid (HRn.out.later hb)
                      clear hbuf hb
                      by_cases hlta : a < recj.length
                      · obtain ⟨b2, o2, rfl, h1, h2⟩ := HRr.out.recd.cell hlta
                        have haI : (a : Int) < (recj.length : Int) := by omega
                        have hft := filter_take hlta (fun q => decide (q.k ≠ k))
                        rw [Hacc.out] at hft
                        obtain ⟨⟨k2, d2⟩, ha2⟩ : ∃ q, recj[a] = q := ⟨_, rfl⟩
                        rw [ha2] at h1 h2 hft
                        simp only at h1 h2 hft
                        have Hft := Lib.hid hft
                        obtain ⟨w4, hw4⟩ : ∃ w4, wr.alloc (.cells #[.string (S k2), .string (S d2)] 35) = w4 := ⟨_, rfl⟩
                        have hb4 : Below wr.heap.size wr w4 := by rw [← hw4]; exact (Below.refl _ _).alloc (Nat.le_refl _) _
                        have hQ4 : Blk w4 wr.heap.size #[.string (S k2), .string (S d2)] 35 := by rw [← hw4]; exact Blk.new wr _ _
                        obtain ⟨y0, y1⟩ := hQ4.two
                        obtain ⟨x0, x1⟩ := (HPr.out.later hb4).two
                        have HB4 := Lib.hid (HBl.out.later hb4)
                        have Hb4 := Lib.hid (below_then Hb.out hb4)
                        clear hft ha2 hb4 hQ4
                        by_cases hkk : k2 = k
                        · have e1 : (k2 == k) = true := by simpa using hkk
                          have e2 : (k2 != k) = false := by simpa using hkk
                          have Hkk := Lib.hid hkk
                          clear hkk
                          go_wp2_with fail
                          go_roundw
                          case rel => exact ⟨a + 1, acc, by omega, by go_num, Lib.hid (by rw [Hft.out]; simp [Hkk.out]), by omega, HB4.out, Hb4.out⟩
                          case measure => simp [intOf]; omega
                        · have e1 : (k2 == k) = false := by simpa using hkk
                          have e2 : (k2 != k) = true := by simpa using hkk
                          have Hkk := Lib.hid hkk
                          have hs4 := Hb4.out.size
                          obtain ⟨HA1, HA2, HA3, HA4, HA5⟩ := appP_sides k2 d2 w4 w4.heap.size acc.length wc.heap.size rfl (by omega) (by omega)
                          have HBa := Lib.hid (HB4.out.alloc (.cells #[.string (S k2), .string (S d2)] 35))
                          clear hkk
                          go_wp2_with (at_builtin; refine wpList_append_own _ rfl _ _ 22 rfl wc.heap.size 35 i0 (.agg #[.string (S []), .string (S [])]) 2 32 Tryz.underlying22 hi hz0 hz1 hz2 rfl (by decide) (.slice pl acc.length cl) acc.length (prsVs acc) rfl HBa.out ⟨w4.heap.size, 0, none⟩ 1 1 [.string (S k2), .string (S d2)] rfl rfl HA1.out HA2.out HA3.out HA4.out HA5.out ?_)
                          intro v' wa hown hgrow hnil
                          have hown' : PrBuf wc.heap.size wa v' (acc ++ [⟨k2, d2⟩]) := by
                            unfold PrBuf
                            rw [prsVs_app, List.length_append]
                            exact hown
                          have Hlow := Lib.hid ((Hb4.out.alloc Hb4.out.size (.cells #[.string (S k2), .string (S d2)] 35)).grown hgrow (by simp; omega) Hge.out)
                          have Hown := Lib.hid hown'
                          clear hown hown' hgrow hnil
                          go_wp2_with fail
                          go_roundw
                          case rel => exact ⟨a + 1, acc ++ [⟨k2, d2⟩], by omega, by go_num, Lib.hid (by rw [Hft.out]; simp [Hkk.out]), by simp; omega, Hown.out, Hlow.out⟩
                          case measure => simp [intOf]; omega
                      · obtain rfl : a = recj.length := by omega
                        have hacc := Hacc.out
                        rw [List.take_length] at hacc
                        have Hacc2 := Lib.hid hacc
                        obtain ⟨x0, x1⟩ := HPr.out.two
                        obtain ⟨HA1, HA2, HA3, HA4, HA5⟩ := appP_sides k rcd wr wr.heap.size acc.length wc.heap.size rfl (by omega) (by omega)
                        have HBa := Lib.hid (HBl.out.alloc (.cells #[.string (S k), .string (S rcd)] 35))
                        have HRa := Lib.hid (HRr.out.later ((Below.refl _ _).alloc (Nat.le_refl _) (.cells #[.string (S k), .string (S rcd)] 35)))
                        clear hacc hlta
                        go_wp2_with (at_builtin; refine wpList_append_own _ rfl _ _ 22 rfl wc.heap.size 35 i0 (.agg #[.string (S []), .string (S [])]) 2 32 Tryz.underlying22 hi hz0 hz1 hz2 rfl (by decide) (.slice pl acc.length cl) acc.length (prsVs acc) rfl HBa.out ⟨wr.heap.size, 0, none⟩ 1 1 [.string (S k), .string (S rcd)] rfl rfl HA1.out HA2.out HA3.out HA4.out HA5.out ?_)
                        intro v' wa hown hgrow hnil
                        have hown' : PrBuf wc.heap.size wa v' (acc ++ [⟨k, rcd⟩]) := by
                          unfold PrBuf
                          rw [prsVs_app, List.length_append]
                          exact hown
                        obtain ⟨pv, cv, hv2⟩ : ∃ pv cv, v' = .slice pv (acc.length + 1) cv := by
                          obtain ⟨pv, cv, hv⟩ := hown'.form
                          exact ⟨pv, cv, by rw [hv]; simp⟩
                        subst hv2
                        have hlow := (Hb.out.alloc Hb.out.size (.cells #[.string (S k), .string (S rcd)] 35)).grown hgrow (by simp; omega) Hge.out
                        have hrbw : rb < wc.heap.size := HRn.out.blk.lt
                        have hRNa : RN wa rb (.slice pm mine.length cm) (.slice prj recj.length crj) mine recj := HRn.out.later hlow
                        obtain ⟨q0, q1⟩ := hRNa.blk.two
                        have f1 := hRNa.blk.frozen 1
                        have hkc : Keeps wa.heap.size wa (wa.setCell ⟨rb, 1, none⟩ (.slice pv (acc.length + 1) cv)) (fun k => k = rb) (fun k => k = rb) := Keeps.put1 (H := fun k => k = rb) (b := rb) rfl 1 (.slice pv (acc.length + 1) cv)
                        have HRN11 := Lib.hid (show RN (wa.setCell ⟨rb, 1, none⟩ (.slice pv (acc.length + 1) cv)) rb (.slice pm mine.length cm) (.slice pv (acc.length + 1) cv) mine (acc ++ [⟨k, rcd⟩]) from ⟨hRNa.blk.set 1 (.slice pv (acc.length + 1) cv), hRNa.mine.keepsR hRNa.blk (Nat.le_refl _) hkc, hown'.prs.keepsR hRNa.blk (Nat.le_refl _) hkc⟩)
                        have hbfa := HBf.out.later hlow
                        have HBf11 := Lib.hid (show PrBuf (w.heap.size + 1) (wa.setCell ⟨rb, 1, none⟩ (.slice pv (acc.length + 1) cv)) u16 out2 from World.ownsRow.kept hbfa (grownBy_cell wa rb 1 (.slice pv (acc.length + 1) cv)) (.inr (fun e => by have := hbfa.ge rb e; omega)))
                        have HNw11 := Lib.hid (show (.slice pv (acc.length + 1) cv : Value) = .slice pr rec.length cr ∨ NewAt w.heap.size (.slice pv (acc.length + 1) cv) from .inr (NewAt.buf hown' (Nat.le_of_lt hwlt)))
                        have Hap11 := Lib.hid (ApartP.new HBf.out hown' (Nat.le_refl _))
                        have HF11 := Lib.hid (show Cell2 (wa.setCell ⟨rb, 1, none⟩ (.slice pv (acc.length + 1) cv)) w.heap.size 0 0 from Blk.other (show Blk wa w.heap.size #[.int .i64 0, .int .i64 0] 78 from HFa.out.later hlow) (by omega) _)
                        have HK11 := Lib.hid ((HKp.out.then (Keeps.of hlow _)).trans (Keeps.put1 (N := wa.heap.size) (w := wa) (H := fun k => k = rb) (b := rb) rfl 1 (.slice pv (acc.length + 1) cv)) (by have := hlow.size; omega))
                        have Hrec3 := Lib.hid (show RecOk (acc ++ [⟨k, rcd⟩]) by have := Hrec2.out; rwa [if_neg Hr0.out, Hacc2.out] at this)
                        have Hgo3 := Lib.hid (show goN (oneN mine lg dc) l rec = (out2 ++ (goN (oneN mine lg dc) (l.drop (j + 1)) (acc ++ [⟨k, rcd⟩])).1, (goN (oneN mine lg dc) (l.drop (j + 1)) (acc ++ [⟨k, rcd⟩])).2) by have := Hgo2.out; rwa [if_neg Hr0.out, Hacc2.out] at this)
                        clear hown hown' hgrow hnil hlow hRNa hkc hbfa
                        go_wp2_with fail
                        go_roundw
                        case rel => exact ⟨j + 1, out2, acc ++ [⟨k, rcd⟩], _, by omega, by go_num, Hgo3, hl2, Hrec3, HBf11.out, HRN11.out, Hap11.out, HF11.out, HK11.out, HNw11⟩
                        case measure => simp [intOf]; omega
            · obtain rfl : j = l.length := by omega
              have hgo := Hgo.out
              rw [List.drop_length] at hgo
              have Hgo2 := Lib.hid (show goN (oneN mine lg dc) l rec = (out, recj) by rw [hgo]; simp [goN])
              clear hgo Hgo hlt hbuf hRN hap hF hk
              go_wp2_with fail
              refine (GF _).out.mono ?_
              rintro e w8 ⟨rfl, hb8⟩
              have HB8 := Lib.hid (HBf.out.later hb8)
              have HRN8 := Lib.hid (HRj.out.later hb8)
              have HF8 := Lib.hid (HFj.out.later hb8)
              have HK8 := Lib.hid (HKp.out.then (Keeps.of hb8 _))
              obtain ⟨y0, y1⟩ := HF8.out.cells
              have f0 := HF8.out.frozen 0
              have f1 := HF8.out.frozen 1
              clear hb8
              go_wp2_with fail
              refine bodyPost_ret (v := .tuple #[.slice po out.length co, .agg #[.int .i64 0, .int .i64 (-1)]]) (by simp [results, Tryz.results49, go_sem, y0, y1]) rfl ?_
              rw [hG, Hgo2.out]
              have hFb : Blk w8 w.heap.size #[.int .i64 0, .int .i64 0] 78 := HF8.out
              refine ⟨_, _, rfl, (HB8.out.prs.setInts hFb 0 _).setInts (x := 0) (y := 0) (hFb.set 0 _) 1 _, ⟨(HRN8.out.blk.other (by omega) _).other (by omega) _, (HRN8.out.mine.setInts hFb 0 _).setInts (x := 0) (y := 0) (hFb.set 0 _) 1 _, (HRN8.out.recd.setInts hFb 0 _).setInts (x := 0) (y := 0) (hFb.set 0 _) 1 _⟩, (HK8.out.setNew (Nat.le_refl _) _ _).setNew (Nat.le_refl _) _ _, NewAt.buf HBf.out (Nat.le_succ _), Hnw.out⟩
end Go.Proofs.YteapbjeapnmloaaGreatDoor
