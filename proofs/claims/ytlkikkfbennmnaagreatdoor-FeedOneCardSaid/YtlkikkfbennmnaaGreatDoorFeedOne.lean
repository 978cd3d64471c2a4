/- FeedOne: all that are there are each next one, till there is none. -/
import Derived.Test.YtlkikkfbennmnaaGreatDoorFeedTwo
namespace Go.Proofs.YtlkikkfbennmnaaGreatDoor
open Go.RowKit
set_option linter.unusedVariables false
set_option maxRecDepth 100000 in
set_option maxHeartbeats 1000000 in
theorem feedOne_any (s : List UInt8) (a b : Int) (w : World) (hl : s.length ≤ 140737488351232) (_ha : (Lit.int .i64 a).wf = true) (_hb : (Lit.int .i64 b).wf = true) (hg : ErrCell w) (hm : MaxCell w) :
    Calls Tryz.prog 7 #[.string (S s), .int .i64 a, .int .i64 b] w fun e w' => e = .returned (.bool true) ∧ Below w.heap.size w w' := by
  have M := Lib.hid (fed_any w hm hg)
  have K : ∀ W, Hid (Calls Tryz.prog 11 #[.int .i64 a, .int .i64 2000] W fun e w' => e = .returned (.int .i64 (pickI a 2000 : Nat)) ∧ W = w') := fun W => Lib.hid (pick_any a 2000 W (by decide) (by decide))
  have K4 : ∀ W, Hid (Calls Tryz.prog 11 #[.int .i64 b, .int .i64 4] W fun e w' => e = .returned (.int .i64 (pickI b 4 : Nat)) ∧ W = w') := fun W => Lib.hid (pick_any b 4 W (by decide) (by decide))
  have hlt := pickI_lt a 2000 (by decide)
  have hm4 := pickI_lt b 4 (by decide)
  generalize pickI a 2000 = lim at K hlt
  generalize pickI b 4 = m at K4 hm4
  have N := fun W => Lib.hid (new_ok lim W (by omega))
  have Hm4 := Lib.hid (show m ≤ 3 by omega)
  have Hg := Lib.hid hg
  have Hm := Lib.hid hm
  by_cases h3 : 3000 < s.length
  · have i1 : (3000 : Int) < (s.length : Int) := by omega
    clear K K4 N hg hm hlt hm4 h3 hl
    go_enter Tryz.func7, Tryz.ntmps7
    go_wp2_with fail
    refine M.out.mono ?_
    rintro e w1 ⟨rfl, hb1⟩
    go_wp2_with fail
    go_ret
    exact ⟨rfl, hb1⟩
  · have i1 : (s.length : Int) ≤ 3000 := by omega
    have H3 := Lib.hid h3
    have hfok : FeOk ⟨lim, m, s, false⟩ := ⟨by simp only; omega, by simp only; omega⟩
    have hD := all_done (s.length + 1) ⟨lim, m, s, false⟩ (by simp) hfok
    have hln := all_len (s.length + 1) ⟨lim, m, s, false⟩ (by simp)
    have hpc := all_pcok (s.length + 1) ⟨lim, m, s, false⟩ (by simp)
    obtain ⟨R, hR⟩ : ∃ R, allF ⟨lim, m, s, false⟩ = R := ⟨_, rfl⟩
    rw [hR] at hD hln hpc
    obtain ⟨l, er, F'⟩ := R
    simp only at hD hln hpc
    have HR := Lib.hid hR
    have Hkl := Lib.hid hD.2.2.2.1
    have hll : (l.length : Int) ≤ 3000 := by omega
    have Hpc := Lib.hid hpc
    clear hg hm hlt hm4 h3 hl hR hD hln hpc hfok
    go_enter Tryz.func7, Tryz.ntmps7
    go_wp2_with fail
    refine M.out.mono ?_
    rintro e w1 ⟨rfl, hb1⟩
    have Hb1 := Lib.hid hb1
    clear hb1 M
    go_wp2_with fail
    refine (K _).out.mono ?_
    rintro e w2 ⟨rfl, rfl⟩
    go_wp2_with fail
    refine (N _).out.mono ?_
    rintro e w2 ⟨f1, H1, rfl, hF, hb2⟩
    have HF2 := Lib.hid (hF.mono Hb1.out.size)
    have Hb2 := Lib.hid (below_then Hb1.out hb2)
    clear hb2 Hb1 hF
    go_wp2_with fail
    refine (K _).out.mono ?_
    rintro e w3 ⟨rfl, rfl⟩
    go_wp2_with fail
    refine (N _).out.mono ?_
    rintro e w3 ⟨f2, H2, rfl, hF, hb3⟩
    have T3 := Lib.hid (Two.mk' HF2.out hb3 hF)
    have Hb3 := Lib.hid (below_then Hb2.out hb3)
    clear hb3 Hb2 hF HF2 K N
    go_wp2_with fail
    refine (K4 _).out.mono ?_
    rintro e w4 ⟨rfl, rfl⟩
    have O4 := Lib.hid (mode_good m Hm4.out T3.out.a)
    go_wp2_with fail
    refine O4.out.mono ?_
    rintro e w4 ⟨ev, H4, rfl, hE, hF, hK⟩
    obtain rfl := hE.zero
    have T4 := Lib.hid (T3.out.left hF hK)
    have Hb4 := Lib.hid (below_op Hb3.out T3.out.a hK)
    have O5 := Lib.hid (mode_good m Hm4.out T4.out.b)
    clear hE hF hK O4 T3 Hb3 K4
    go_wp2_with fail
    refine O5.out.mono ?_
    rintro e w5 ⟨ev, H5, rfl, hE, hF, hK⟩
    obtain rfl := hE.zero
    have T5 := Lib.hid (T4.out.right hF hK)
    have Hb5 := Lib.hid (below_op Hb4.out T4.out.b hK)
    have P5 := Lib.hid (put_good s s rfl (by have := H3.out; omega) T5.out.a)
    clear hE hF hK O5 T4 Hb4
    go_wp2_with fail
    refine P5.out.mono ?_
    rintro e w6 ⟨ev, H6, rfl, hE, hF, hK⟩
    obtain rfl := hE.zero
    have T6 := Lib.hid (T5.out.left hF hK)
    have Hb6 := Lib.hid (below_op Hb5.out T5.out.a hK)
    have P6 := Lib.hid (put_good s s rfl (by have := H3.out; omega) T6.out.b)
    clear hE hF hK P5 T5 Hb5
    go_wp2_with fail
    refine P6.out.mono ?_
    rintro e w7 ⟨ev, H7, rfl, hE, hF, hK⟩
    obtain rfl := hE.zero
    have T7 := Lib.hid (T6.out.right hF hK)
    have Hb7 := Lib.hid (below_op Hb6.out T6.out.b hK)
    have A7 := fall_any (by have := H3.out; simp only; omega) (T7.out.a.gl Hb7.out Hm.out Hg.out) T7.out.a
    rw [HR.out] at A7
    have A7 := Lib.hid A7
    clear hE hF hK P6 T6 Hb6
    go_wp2_with fail
    refine A7.out.mono ?_
    rintro e w8 ⟨v, ev, H8, rfl, hV, hE, hF, hK⟩
    have T8 := Lib.hid (T7.out.left hF hK)
    have Hb8 := Lib.hid (below_op Hb7.out T7.out.a hK)
    have hV8 := hV.off.1.pcs
    obtain ⟨pl, cl, rfl⟩ := hV8.form
    have HV8 := Lib.hid hV8
    have HE8 := Lib.hid (show Bare1 ev er from hE)
    clear hE hF hK hV hV8 A7 T7 Hb7
    simp only
    go_wp2_with fail
    go_loopw [85] (fun i wr => ∃ (j : Nat) (G : Fe) (H2r : Nat → Prop), j ≤ l.length ∧ i = .int .i64 j ∧ allF G = (l.drop j, er, F') ∧ G.kept.length ≤ 3000 ∧ Two wr w.heap.size H8 H2r f1 f2 F' G ∧ Below w.heap.size w wr ∧ PcsV wr (.slice pl l.length cl) l) (fun i _ => l.length - (intOf i).toNat)
    case atStart => exact ⟨0, _, _, Nat.zero_le _, rfl, HR.out, by have := H3.out; simp only; omega, T8.out, Hb8.out, HV8.out⟩
    case round =>
      obtain ⟨j, G, H2r, hj, rfl, hA, hG3, hT, hb, hV⟩ := hrel
      have HT := Lib.hid hT
      have Hb := Lib.hid hb
      have HV := Lib.hid hV
      have HG3 := Lib.hid hG3
      by_cases hlt : j < l.length
      · rw [List.drop_eq_getElem_cons hlt] at hA
        obtain ⟨G', hN, hA'⟩ := all_cons hA
        have hok := Hpc.out l[j] (List.getElem_mem hlt)
        have hk' := next_keep G
        rw [hN] at hk'
        obtain ⟨p0, c0, hv, _, hc⟩ := hV
        obtain ⟨rfl, rfl⟩ : pl = p0 ∧ cl = c0 := by simpa using hv
        obtain ⟨bb, o, rfl, hcell⟩ := hc (by omega)
        obtain ⟨vv, va, hP, e0, e1, e2, e3, e4, e5, e6⟩ := hcell j hlt
        obtain ⟨⟨pv, nv, cv, rfl⟩, ⟨pa, na, ca, rfl⟩⟩ := hP.sl
        generalize l[j] = q at *
        have hb1 := (Below.refl wr.heap.size wr).alloc (Nat.le_refl _) (.cells #[.int .i64 q.p.h.op, .bool q.p.h.now, .int .i64 q.p.h.fl, .slice pv nv cv, .slice pa na ca, .string (S q.p.d), .string (S q.sp)] 47)
        have hk1 := Blk.new wr #[.int .i64 q.p.h.op, .bool q.p.h.now, .int .i64 q.p.h.fl, .slice pv nv cv, .slice pa na ca, .string (S q.p.d), .string (S q.sp)] 47
        have hn1 : ¬ H2r wr.heap.size := fun hh => by have := (hT.b.base _ hh).2; omega
        have hT1 := hT.later hb1
        have X1 := fnext_any (by omega) ((hT1.b.gl (below_then hb hb1) Hm.out Hg.out)).c.off ((hT1.b.gl (below_then hb hb1) Hm.out Hg.out)).g.off hT1.b
        rw [hN] at X1
        have X1 := Lib.hid X1
        have HT1 := Lib.hid hT1
        have HB1 := Lib.hid (below_then hb hb1)
        have HK1 := Lib.hid hk1
        have Hn1 := Lib.hid hn1
        have HP1 := Lib.hid (hP.later hb1)
        have HV1 := Lib.hid (HV.out.later hb1)
        have Hok := Lib.hid hok
        have HA' := Lib.hid hA'
        have Hk' := Lib.hid hk'
        clear hT hb hG3 hA hN hA' hok hk' hv hc hcell hP hb1 hk1 hn1 hT1 HT Hb HV
        go_wp2_with fail
        refine X1.out.mono ?_
        rintro e w2 ⟨vv, va, ev2, H2', rfl, hP2, hE, hF, hK⟩
        obtain rfl := hE.zero
        obtain ⟨⟨pv2, nv2, cv2, rfl⟩, ⟨pa2, na2, ca2, rfl⟩⟩ := hP2.sl
        have hb2 := (Below.refl w2.heap.size w2).alloc (Nat.le_refl _) (.cells #[.int .i64 q.p.h.op, .bool q.p.h.now, .int .i64 q.p.h.fl, .slice pv2 nv2 cv2, .slice pa2 na2 ca2, .string (S q.p.d), .string (S q.sp)] 47)
        have hk2 := Blk.new w2 #[.int .i64 q.p.h.op, .bool q.p.h.now, .int .i64 q.p.h.fl, .slice pv2 nv2 cv2, .slice pa2 na2 ca2, .string (S q.p.d), .string (S q.sp)] 47
        obtain ⟨r0, r1, r2, r3, r4, r5, r6⟩ := hk2.seven
        obtain ⟨q0, q1, q2, q3, q4, q5, q6⟩ := ((HK1.out.work Hn1.out hK).1.later hb2).seven
        have HT2 := Lib.hid ((HT1.out.right hF hK).later hb2)
        have HB2 := Lib.hid (below_then (below_op HB1.out HT1.out.b hK) hb2)
        have HV2 := Lib.hid ((HV1.out.work HT1.out.b hK).later hb2)
        have S2 := Lib.hid (same_pcs q _ _ _ _ _ ((HP1.out.work HT1.out.b hK).later hb2) (hP2.off.later hb2) Hok.out)
        clear hE hF hK hP2 hb2 hk2 X1 HT1 HB1 HK1 Hn1 HP1 HV1 Hok
        unfold pcV
        simp only
        go_wp2_with fail
        refine S2.out.mono ?_
        rintro e w3 ⟨rfl, hb3⟩
        have HT3 := Lib.hid (HT2.out.later hb3)
        have HB3 := Lib.hid (below_then HB2.out hb3)
        have HV3 := Lib.hid (HV2.out.later hb3)
        clear hb3 HT2 HB2 HV2 S2 q0 q1 q2 q3 q4 q5 q6 r0 r1 r2 r3 r4 r5 r6
        go_wp2_with fail
        go_roundw
        case rel => exact ⟨j + 1, G', H2', by omega, by go_num, HA'.out, by have := Hk'.out; have := HG3.out; omega, HT3.out, HB3.out, HV3.out⟩
        case measure => simp [intOf]; omega
      · obtain rfl : j = l.length := by omega
        rw [List.drop_length] at hA
        have hN := all_nil hA
        have X1 := fnext_any (by omega) (hT.b.gl hb Hm.out Hg.out).c.off (hT.b.gl hb Hm.out Hg.out).g.off hT.b
        rw [hN] at X1
        have X1 := Lib.hid X1
        clear hT hb hG3 hA hN hV
        go_wp2_with fail
        refine X1.out.mono ?_
        rintro e w2 ⟨vv, va, ev2, H2', rfl, hP2, hE, hF, hK⟩
        obtain ⟨⟨pv2, nv2, cv2, rfl⟩, ⟨pa2, na2, ca2, rfl⟩⟩ := hP2.sl
        have hb2 := (Below.refl w2.heap.size w2).alloc (Nat.le_refl _) (.cells #[.int .i64 pc0.p.h.op, .bool pc0.p.h.now, .int .i64 pc0.p.h.fl, .slice pv2 nv2 cv2, .slice pa2 na2 ca2, .string (S pc0.p.d), .string (S pc0.sp)] 47)
        have HT2 := Lib.hid ((HT.out.right hF hK).later hb2)
        have HB2 := Lib.hid (below_then (below_op Hb.out HT.out.b hK) hb2)
        have gl2 := HT2.out.b.gl HB2.out Hm.out Hg.out
        have T1 := Lib.hid (tell_is (Bare1.is (n := er) hE (w2.alloc (.cells #[.int .i64 pc0.p.h.op, .bool pc0.p.h.now, .int .i64 pc0.p.h.fl, .slice pv2 nv2 cv2, .slice pa2 na2 ca2, .string (S pc0.p.d), .string (S pc0.sp)] 47))) gl2.g.off)
        clear hE hF hK hP2 hb2 X1 HT Hb gl2
        unfold pcV
        simp only
        go_wp2_with fail
        refine T1.out.mono ?_
        rintro e w3 ⟨rfl, hb3⟩
        have HT3 := Lib.hid (HT2.out.later hb3)
        have HB3 := Lib.hid (below_then HB2.out hb3)
        have T2 := Lib.hid (tell_is (HE8.out.is w3) (HT3.out.b.gl HB3.out Hm.out Hg.out).g.off)
        clear hb3 T1 HT2 HB2
        go_wp2_with fail
        refine T2.out.mono ?_
        rintro e w4 ⟨rfl, hb4⟩
        have HT4 := Lib.hid (HT3.out.later hb4)
        have HB4 := Lib.hid (below_then HB3.out hb4)
        have Q1 := Lib.hid (kept_any HT4.out.a)
        have Q2 := Lib.hid (kept_any HT4.out.b)
        clear hb4 T2 HT3 HB3
        go_wp2_with fail
        refine Q1.out.mono ?_
        rintro e w5 ⟨rfl, rfl⟩
        go_wp2_with fail
        refine Q2.out.mono ?_
        rintro e w5 ⟨rfl, rfl⟩
        go_wp2_with fail
        go_ret
        exact ⟨rfl, HB4.out⟩
end Go.Proofs.YtlkikkfbennmnaaGreatDoor
