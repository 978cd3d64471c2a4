/- LB40: several texts in one. -/
import Derived.Test.YtmkebjdmkkjloaaGreatDoorLB08
import Derived.Test.YtmkebjdmkkjloaaGreatDoorLB15
import Derived.Test.YtmkebjdmkkjloaaGreatDoorLB17
import Derived.Test.YtmkebjdmkkjloaaGreatDoorLB32
import Derived.Test.YtmkebjdmkkjloaaGreatDoorLB39
namespace Go.Proofs.YtmkebjdmkkjloaaGreatDoor
open Go.RowKit
set_option linter.unusedVariables false
set_option maxRecDepth 100000 in
set_option maxHeartbeats 4000000 in
theorem crowdedK_any (c : Cf) (vt vp vu vo : Value) (w : World) (hv : ConfAt w c vt vp vu vo) (hf : FitCf c) :
  Calls Tryz.prog 39 #[confV c vt vp vu vo] w (RetCrowd w c) := by
 obtain ⟨ts, ps, us, sn, ss, lim, own⟩ := c
 obtain ⟨pt, ct, rfl, _⟩ := hv.ts
 obtain ⟨pp, cp, rfl, _⟩ := hv.ps
 obtain ⟨pu, cu, rfl, _⟩ := hv.us
 obtain ⟨po, co, rfl⟩ := hv.own.form
 have hA := (Below.refl w.heap.size w).alloc (Nat.le_refl _) (.cells #[.slice pt ts.length ct, .slice pp ps.length cp, .slice pu us.length cu, .string (S sn), .string (S ss), .int .i64 lim, .slice po own.length co] 29)
 have HK := Lib.hid (Blk.new w #[.slice pt ts.length ct, .slice pp ps.length cp, .slice pu us.length cu, .string (S sn), .string (S ss), .int .i64 lim, .slice po own.length co] 29)
 have HV := Lib.hid (hv.later hA)
 have HA := Lib.hid hA
 have Hf := Lib.hid hf
 have hts := hf.ts.1
 have hps := hf.ps.1
 have hus := hf.us.1.1
 have hsn := hf.sn
 have hss := hf.ss
 simp only at hts hps hus hsn hss
 clear hv hA hf
 unfold confV
 simp only
 go_enter Tryz.func39, Tryz.ntmps39
 go_wp2_with fail
 generalize hW0 : w.alloc _ = w0 at HV HA HK ⊢
 clear hW0
 go_loopw [3, 13] (fun v3 i wr => ∃ j : Nat, j ≤ ts.length ∧ i = .int .i64 j ∧ v3 = .int .i64 (wrap64 (sumS (ts.take j) : Nat)) ∧ Below w0.heap.size w0 wr) (fun _ i _ => ts.length - (intOf i).toNat)
 case atStart => exact ⟨0, by omega, rfl, congrArg (Value.int .i64) (show (0 : Int) = wrap64 ((0 : Nat) : Int) by unfold wrap64; omega), Below.refl _ _⟩
 case round =>
  obtain ⟨j, hj, rfl, rfl, hb⟩ := hrel
  have Hb := Lib.hid hb
  by_cases hlt : j < ts.length
  ·obtain ⟨b, o, rfl, q0⟩ := (HV.out.later hb).ts.cell hlt
   have hnext : sumS (ts.take (j + 1)) = sumS (ts.take j) + (1 + ts[j].length) := sum_take _ ts j hlt
   have hfl := Hf.out.ts.2 ts[j] (List.getElem_mem hlt)
   obtain ⟨a, ha⟩ : ∃ a, ts[j] = a := ⟨_, rfl⟩
   rw [ha] at q0 hnext hfl
   have hji : (j : Int) < (ts.length : Int) := by omega
   have hadd : wrap64 (wrap64 (sumS (ts.take j) : Nat) + (1 + (a.length : Int))) = wrap64 (sumS (ts.take (j + 1)) : Nat) := by
    rw [wrap64_add, hnext]; congr 1 <;> omega
   have Hadd := Lib.hid hadd
   generalize wrap64 (sumS (ts.take j) : Nat) = n0 at hadd Hadd ⊢
   clear hb hnext ha
   go_wp2_with fail
   go_roundw
   case rel => exact ⟨j + 1, by omega, by go_num, by first | rfl | (rw [← Hadd.out]) | go_num, Hb.out⟩
   case measure => simp [intOf]; omega
  ·obtain rfl : j = ts.length := by omega
   rw [List.take_length]
   obtain ⟨k0, k1, k2, k3, k4, k5, k6⟩ := (HK.out.later hb).seven
   obtain ⟨n1, hn1⟩ : ∃ n1, sumS ts = n1 := ⟨_, rfl⟩
   have Hn1 := Lib.hid hn1
   rw [hn1]
   clear hn1
   clear hb
   go_wp2_with fail
   clear k0 k1 k2 k3 k4 k5 k6
   go_loopw [3, 26] (fun v3 i wr => ∃ j : Nat, j ≤ ps.length ∧ i = .int .i64 j ∧ v3 = .int .i64 (wrap64 (n1 + sumPo (ps.take j) : Nat)) ∧ Below w0.heap.size w0 wr) (fun _ i _ => ps.length - (intOf i).toNat)
   case atStart => exact ⟨0, by omega, rfl, rfl, Hb.out⟩
   case round =>
    clear Hb
    obtain ⟨j, hj, rfl, rfl, hb⟩ := hrel
    have Hb := Lib.hid hb
    by_cases hlt : j < ps.length
    ·obtain ⟨b, o, rfl, q0, q1⟩ := (HV.out.later hb).ps.cell hlt
     have hnext : sumPo (ps.take (j + 1)) = sumPo (ps.take j) + (1 + ps[j].ad.length) := sum_take _ ps j hlt
     have hfl := (Hf.out.ps.2 ps[j] (List.getElem_mem hlt)).1
     obtain ⟨⟨a, g⟩, ha⟩ : ∃ a, ps[j] = a := ⟨_, rfl⟩
     rw [ha] at q0 q1 hnext hfl
     simp only at q0 q1 hnext hfl
     have hji : (j : Int) < (ps.length : Int) := by omega
     have hadd : wrap64 (wrap64 (n1 + sumPo (ps.take j) : Nat) + (1 + (a.length : Int))) = wrap64 (n1 + sumPo (ps.take (j + 1)) : Nat) := by
      rw [wrap64_add, hnext]; congr 1 <;> omega
     have Hadd := Lib.hid hadd
     have Hb2 := Lib.hid (hb.alloc hb.size (.cells #[.string (S a), .int .i64 g] 120))
     generalize wrap64 (n1 + sumPo (ps.take j) : Nat) = n0 at hadd Hadd ⊢
     clear hb hnext ha
     go_wp2_with fail
     go_roundw
     case rel => exact ⟨j + 1, by omega, by go_num, by first | rfl | (rw [← Hadd.out]) | go_num, Hb2.out⟩
     case measure => simp [intOf]; omega
    ·obtain rfl : j = ps.length := by omega
     rw [List.take_length]
     obtain ⟨k0, k1, k2, k3, k4, k5, k6⟩ := (HK.out.later hb).seven
     obtain ⟨n2, hn2⟩ : ∃ n2, sumPo ps = n2 := ⟨_, rfl⟩
     have Hn2 := Lib.hid hn2
     rw [hn2]
     clear hn2
     clear hb
     go_wp2_with fail
     clear k0 k1 k2 k3 k4 k5 k6
     go_loopw [3, 40] (fun v3 i wr => ∃ j : Nat, j ≤ us.length ∧ i = .int .i64 j ∧ v3 = .int .i64 (wrap64 (n1 + n2 + sumUs (us.take j) : Nat)) ∧ Below w0.heap.size w0 wr) (fun _ i _ => us.length - (intOf i).toNat)
     case atStart => exact ⟨0, by omega, rfl, rfl, Hb.out⟩
     case round =>
      clear Hb
      obtain ⟨j, hj, rfl, rfl, hb⟩ := hrel
      have Hb := Lib.hid hb
      by_cases hlt : j < us.length
      ·obtain ⟨b, o, rfl, q0, q1⟩ := (HV.out.later hb).us.cell hlt
       have hnext : sumUs (us.take (j + 1)) = sumUs (us.take j) + (1 + us[j].nm.length + us[j].sc.length) := sum_take _ us j hlt
       have hfl := Hf.out.us.1.2 us[j] (List.getElem_mem hlt)
       obtain ⟨⟨a, g⟩, ha⟩ : ∃ a, us[j] = a := ⟨_, rfl⟩
       rw [ha] at q0 q1 hnext hfl
       simp only at q0 q1 hnext hfl
       obtain ⟨hf1, hf2⟩ := hfl
       have hji : (j : Int) < (us.length : Int) := by omega
       have hadd : wrap64 (wrap64 (n1 + n2 + sumUs (us.take j) : Nat) + (1 + (a.length : Int) + (g.length : Int))) = wrap64 (n1 + n2 + sumUs (us.take (j + 1)) : Nat) := by
        rw [wrap64_add, hnext]; congr 1 <;> omega
       have Hadd := Lib.hid hadd
       have Hb2 := Lib.hid (hb.alloc hb.size (.cells #[.string (S a), .string (S g)] 26))
       generalize wrap64 (n1 + n2 + sumUs (us.take j) : Nat) = n0 at hadd Hadd ⊢
       clear hb hnext ha
       go_wp2_with fail
       go_roundw
       case rel => exact ⟨j + 1, by omega, by go_num, by first | rfl | (rw [← Hadd.out]) | go_num, Hb2.out⟩
       case measure => simp [intOf]; omega
      ·obtain rfl : j = us.length := by omega
       rw [List.take_length]
       obtain ⟨k0, k1, k2, k3, k4, k5, k6⟩ := (HK.out.later hb).seven
       have T := Lib.hid (thickK_any own _ wr (HV.out.later hb).own (Hf.out.own.1.1))
       have hN : wrap64 (wrap64 (wrap64 (n1 + n2 + sumUs us : Nat) + (sn.length : Int)) + (ss.length : Int)) = wrap64 (crowdN (⟨ts, ps, us, sn, ss, lim, own⟩ : Cf) : Nat) := by
        rw [wrap64_add, Int.add_assoc, wrap64_add]
        show _ = wrap64 ((sumS ts + sumPo ps + sumUs us + sn.length + ss.length : Nat) : Int)
        rw [Hn1.out, Hn2.out]; congr 1 <;> omega
       obtain ⟨n0, hn0⟩ : ∃ n0, wrap64 (n1 + n2 + sumUs us : Nat) = n0 := ⟨_, rfl⟩
       rw [hn0] at hN ⊢
       obtain ⟨nA, hA2⟩ : ∃ nA, wrap64 (n0 + (sn.length : Int)) = nA := ⟨_, rfl⟩
       rw [hA2] at hN
       obtain ⟨nB, hB2⟩ : ∃ nB, wrap64 (nA + (ss.length : Int)) = nB := ⟨_, rfl⟩
       rw [hB2] at hN
       have HN := Lib.hid hN
       have HwE := Lib.hid (HA.out.trans (hb.mono HA.out.size))
       clear hb hn0 hN
       by_cases hc : 2500 < nB
       ·go_wp2_with fail
        go_ret
        exact ⟨true, rfl, fun h => (by cases h), HwE.out⟩
       ·go_wp2_with fail
        refine T.out.mono ?_
        rintro e w9 ⟨b9, rfl, hb9⟩
        have Hb9 := Lib.hid (below_then HwE.out hb9)
        clear hb9
        go_wp2_with fail
        go_ret
        exact ⟨_, rfl, fun _ => by rw [← HN.out]; omega, Hb9.out⟩
end Go.Proofs.YtmkebjdmkkjloaaGreatDoor
namespace Go.Proofs.YtmkebjdmkkjloaaGreatDoor
open Go Go.RowKit
set_option linter.unusedVariables false
theorem newL_is {c : Cf} {d : Dw} (h : (newL c d).1 = 0) : CfOk c ∧ (0 ≤ d.id ∧ d.id ≤ 255 ∧ d.ch.length ≤ 100) ∧ 0 < d.ch.length := by
 unfold newL at h
 by_cases h1 : (tgtR c).1 = 0
 ·rw [if_neg (by simp [h1])] at h
  by_cases h2 : (respL d.id [] d.ch).2 = 0
  ·refine ⟨tgtR_ok.1 h1, ?_⟩
   rcases respL_ways d.id [] d.ch with ⟨e, _⟩ | ⟨e, _⟩ | ⟨x, e, _, _, a, b, _, k, l⟩
   ·rw [e] at h2; exact absurd h2 (by decide)
   ·rw [e] at h2; exact absurd h2 (by decide)
   ·exact ⟨⟨a, b, l⟩, k⟩
  ·rw [if_pos h2] at h
   exact absurd h h2
 ·rw [if_pos h1] at h
  exact absurd h h1
def RetHeld (w : World) (c : Cf) (d : Dw) (e : Ending) (w' : World) : Prop :=
 (e = .returned (.pointer none) ∧ Below w.heap.size w w') ∨ (∃ lb m, e = .returned (.pointer (some ⟨lb, 0, none⟩)) ∧ (newL c d).1 = 0 ∧ LS w w' lb m c d (lq0 c) (lg0 c))
set_option maxRecDepth 100000 in
set_option maxHeartbeats 4000000 in
theorem held_any (c : Cf) (d : Dw) (vt vp vu vo : Value) (l : List Pd) (v : Value) (w : World) (hv : ConfAt w c vt vp vu vo) (hf : FitCf c) (hdl : d.ch.length ≤ 140737488351232) (hpl : PdusV w v l) (hfl : ∀ p ∈ l, FitP p) (hll : l.length ≤ 140737488355328) (hE : EnvL w) :
  Calls Tryz.prog 12 #[confV c vt vp vu vo, .agg #[.int .i64 d.id, .string (S d.ch)], v] w (RetHeld w c d) := by
 obtain ⟨w0, hw0⟩ : ∃ w0, w.alloc (.cells #[vt, vp, vu, .string (S c.sn), .string (S c.ss), .int .i64 c.lim, vo] 29) = w0 := ⟨_, rfl⟩
 obtain ⟨w1, hw1⟩ : ∃ w1, w0.alloc (.cells #[.int .i64 d.id, .string (S d.ch)] 31) = w1 := ⟨_, rfl⟩
 have b0 : Below w.heap.size w w0 := by rw [← hw0]; exact (Below.refl _ _).alloc (Nat.le_refl _) _
 have b1 : Below w0.heap.size w0 w1 := by rw [← hw1]; exact (Below.refl _ _).alloc (Nat.le_refl _) _
 have k0 : Blk w0 w.heap.size #[vt, vp, vu, .string (S c.sn), .string (S c.ss), .int .i64 c.lim, vo] 29 := by rw [← hw0]; exact Blk.new w _ _
 have k1 : Blk w1 w0.heap.size #[.int .i64 d.id, .string (S d.ch)] 31 := by rw [← hw1]; exact Blk.new w0 _ _
 obtain ⟨cb, hcb⟩ : ∃ cb, w.heap.size = cb := ⟨_, rfl⟩
 obtain ⟨db, hdb⟩ : ∃ db, w0.heap.size = db := ⟨_, rfl⟩
 have j0 := k0.later b1
 have b01 := below_then b0 b1
 rw [hcb] at j0
 rw [hdb] at k1
 have HK0 := Lib.hid j0
 have HK1 := Lib.hid k1
 have HB := Lib.hid b01
 have HV := Lib.hid (hv.later b01)
 have Hf := Lib.hid hf
 have HP := Lib.hid (hpl.later b01)
 have Hfl := Lib.hid hfl
 have HE := Lib.hid (hE.later b01)
 have CR := crowdedK_any c vt vp vu vo w1 (hv.later b01) hf
 unfold confV at CR ⊢
 have CR := Lib.hid CR
 obtain ⟨x0, x1, x2, x3, x4, x5, x6⟩ := j0.seven
 obtain ⟨y0, y1⟩ := k1.two
 have hdI : (d.ch.length : Int) ≤ 140737488351232 := by omega
 clear hv hf hpl hfl hE b0 b1 k0 k1 j0 b01 
 go_enter Tryz.func12, Tryz.ntmps12
 go_wp2_with fail
 clear hw0 hw1
 refine CR.out.mono ?_
 rintro e w2 ⟨b, rfl, -, hb2⟩
 have Hb2 := Lib.hid hb2
 clear hb2 CR x0 x1 x2 x3 x4 x5 x6 y0 y1
 cases b with
 | true =>
  go_wp2_with fail
  go_ret
  exact .inl ⟨rfl, below_then HB.out Hb2.out⟩
 | false =>
  obtain ⟨y0, y1⟩ := (HK1.out.later Hb2.out).two
  by_cases h200 : (200 : Int) < (d.ch.length : Int)
  ·go_wp2_with fail
   go_ret
   exact .inl ⟨rfl, below_then HB.out Hb2.out⟩
  ·have SM := Lib.hid (some_any l v w2 (HP.out.later Hb2.out) Hfl.out hll)
   go_wp2_with fail
   refine SM.out.mono ?_
   rintro e w3 ⟨b, rfl, hb3⟩
   have Hb3 := Lib.hid (below_then Hb2.out hb3)
   clear hb3 SM y0 y1 Hb2
   cases b with
   | false =>
    go_wp2_with fail
    go_ret
    exact .inl ⟨rfl, below_then HB.out Hb3.out⟩
   | true =>
    have NW := lnew_any c d vt vp vu vo w3 (HV.out.later Hb3.out) Hf.out (HE.out.later Hb3.out)
    unfold confV at NW
    have NW := Lib.hid NW
    obtain ⟨x0, x1, x2, x3, x4, x5, x6⟩ := (HK0.out.later Hb3.out).seven
    obtain ⟨y0, y1⟩ := (HK1.out.later Hb3.out).two
    go_wp2_with fail
    refine NW.out.mono ?_
    rintro e w4 (⟨h0, lb, m, rfl, hL, ho, hb4⟩ | ⟨h0, ev, rfl, he, hb4⟩)
    ·have HR := Lib.hid (show LS w w4 lb m c d (lq0 c) (lg0 c) from ⟨below_then (below_then HB.out Hb3.out) hb4, hL.mono (below_then HB.out Hb3.out).size, simQ_0 c, qOk_0 c⟩)
     have H0 := Lib.hid h0
     clear hL ho hb4 h0 x0 x1 x2 x3 x4 x5 x6 y0 y1
     go_wp2_with fail
     go_ret
     exact .inr ⟨lb, m, rfl, H0.out, HR.out⟩
    ·have HR := Lib.hid (below_then (below_then HB.out Hb3.out) hb4)
     obtain ⟨te, xe, rfl⟩ := he.iface h0
     clear he hb4 h0 x0 x1 x2 x3 x4 x5 x6 y0 y1
     go_wp2_with fail
     go_ret
     exact .inl ⟨rfl, HR.out⟩
end Go.Proofs.YtmkebjdmkkjloaaGreatDoor
namespace Go.Proofs.YtmkebjdmkkjloaaGreatDoor
open Go.RowKit
set_option linter.unusedVariables false
def nCls : List UInt8 := [83, 116, 97, 116, 117, 115, 67, 108, 97, 115, 115]
def nDet : List UInt8 := [83, 116, 97, 116, 117, 115, 68, 101, 116, 97, 105, 108]
def statR (p : Pd) : Int × Nat × Nat := if (valueR p.h nCls).2 ≠ 0 ∨ (valueR p.h nDet).2 ≠ 0 ∨ p.h.op ≠ 35 then (-1, 999, 999) else (p.h.fl, hv p.h nCls, hv p.h nDet)
theorem what_any (p : Pd) (vv va : Value) (n : List UInt8) (w : World) (hp : PduAt w p vv va) (hm : MaxCell w) (hl : p.h.vs.length ≤ 9223372036854775807) :
  Calls Tryz.prog 18 #[pduV p vv va, .string (S n)] w fun e w' => e = .returned (.int .u64 (hv p.h n : Nat)) ∧ Below w.heap.size w w' := by
 have hb0 := (Below.refl w.heap.size w).alloc (Nat.le_refl _) (.cells (cells6 p vv va) 41)
 have hK := Blk.new w (cells6 p vv va) 41
 have V := value_any p.h vv n _ (hm.later hb0) (hp.v.later hb0) hl
 unfold cells6 at hK hb0 V
 unfold RetNE headV at V
 obtain ⟨k0, k1, k2, k3, k4, k5⟩ := hK.six
 have V := Lib.hid V
 have Hb := Lib.hid hb0
 clear hb0 hK
 unfold pduV
 go_enter Tryz.func18, Tryz.ntmps18
 go_wp2_with fail
 refine V.out.mono ?_
 rintro e w' ⟨ev, rfl, he, hb⟩
 go_wp2_with fail
 go_ret
 exact ⟨rfl, below_then Hb.out hb⟩
set_option maxRecDepth 100000 in
set_option maxHeartbeats 2000000 in
theorem status_any (p : Pd) (vv va : Value) (w : World) (hp : PduAt w p vv va) (hm : MaxCell w) (hl : p.h.vs.length ≤ 9223372036854775807) :
  Calls Tryz.prog 16 #[pduV p vv va] w fun e w' => e = .returned (.tuple #[.int .i64 (statR p).1, .int .u64 ((statR p).2.1 : Nat), .int .u64 ((statR p).2.2 : Nat)]) ∧ Below w.heap.size w w' := by
 have hb0 := (Below.refl w.heap.size w).alloc (Nat.le_refl _) (.cells (cells6 p vv va) 41)
 have hK := Blk.new w (cells6 p vv va) 41
 obtain ⟨w0, hw0⟩ : ∃ w0, w.alloc (.cells (cells6 p vv va) 41) = w0 := ⟨_, rfl⟩
 obtain ⟨pb, hpb⟩ : ∃ pb, w.heap.size = pb := ⟨_, rfl⟩
 rw [hw0] at hb0 hK
 rw [hpb] at hK
 have V1 := value_any p.h vv nCls _ (hm.later hb0) (hp.v.later hb0) hl
 have V2 := fun W hb => value_any p.h vv nDet W (hm.later hb) (hp.v.later hb) hl
 obtain ⟨R, hR⟩ : ∃ R, statR p = R := ⟨_, rfl⟩
 rw [hR]
 unfold statR hv at hR
 unfold RetNE headV at V1 V2
 unfold cells6 at hK hw0
 generalize valueR p.h nCls = r1 at V1 hR
 generalize valueR p.h nDet = r2 at V2 hR
 obtain ⟨n1, x1⟩ := r1
 obtain ⟨n2, x2⟩ := r2
 simp only at V1 V2 hR
 unfold nCls at V1
 unfold nDet at V2
 have V1 := Lib.hid V1
 have V2 := Lib.hid V2
 have Hb := Lib.hid hb0
 have HK := Lib.hid hK
 have HR := Lib.hid hR
 obtain ⟨k0, k1, k2, k3, k4, k5⟩ := hK.six
 clear hb0 hK hp hR
 unfold pduV
 go_enter Tryz.func16, Tryz.ntmps16
 go_wp2_with fail
 clear hw0 hpb
 refine V1.out.mono ?_
 rintro e w1 ⟨e1, rfl, he1, hb1⟩
 have HK1 := Lib.hid (HK.out.later hb1)
 have Hb1 := Lib.hid (below_then Hb.out hb1)
 have He1 := Lib.hid he1
 clear hb1 HK Hb k0 k1 k2 k3 k4 k5 he1
 obtain ⟨k0, k1, k2, k3, k4, k5⟩ := HK1.out.six
 have V2' := V2.out _ Hb1.out
 go_wp2_with fail
 refine V2'.mono ?_
 rintro e w2 ⟨e2, rfl, he2, hb2⟩
 have HK2 := Lib.hid (HK1.out.later hb2)
 have Hb2 := Lib.hid (below_then Hb1.out hb2)
 have He2 := Lib.hid he2
 clear hb2 HK1 Hb1 k0 k1 k2 k3 k4 k5 V2' he2 V2 V1
 obtain ⟨k0, k1, k2, k3, k4, k5⟩ := HK2.out.six
 by_cases h1 : x1 = 0
 ·subst h1
  obtain rfl := He1.out.zero
  by_cases h2 : x2 = 0
  ·subst h2
   obtain rfl := He2.out.zero
   by_cases h3 : p.h.op = 35
   ·have hr := HR.out
    rw [if_neg (by simp [h3])] at hr
    subst hr
    go_wp2_with fail
    go_ret3
    exact ⟨rfl, Hb2.out⟩
   ·have hr := HR.out
    rw [if_pos (by simp [h3])] at hr
    subst hr
    go_wp2_with fail
    go_ret3
    exact ⟨rfl, Hb2.out⟩
  ·obtain ⟨ty, xv, rfl⟩ := He2.out.iface h2
   have hr := HR.out
   rw [if_pos (by simp [h2])] at hr
   subst hr
   go_wp2_with fail
   go_ret3
   exact ⟨rfl, Hb2.out⟩
 ·obtain ⟨ty, xv, rfl⟩ := He1.out.iface h1
  have hr := HR.out
  rw [if_pos (by simp [h1])] at hr
  subst hr
  go_wp2_with fail
  go_ret3
  exact ⟨rfl, Hb2.out⟩
def chalL : List UInt8 := [99, 104, 97, 108]
set_option maxRecDepth 100000 in
theorem draw_any (w : World) : Calls Tryz.prog 26 #[] w fun e w' => e = .returned (.agg #[.int .i64 7, .string (S chalL)]) ∧ Below w.heap.size w w' := by
 unfold chalL
 obtain ⟨w0, hw0⟩ : ∃ w0, w.alloc (.cells #[.int .i64 0, .string (S [])] 31) = w0 := ⟨_, rfl⟩
 have b0 : Below w.heap.size w w0 := by rw [← hw0]; exact (Below.refl _ _).alloc (Nat.le_refl _) _
 have k0 : Blk w0 w.heap.size #[.int .i64 0, .string (S [])] 31 := by rw [← hw0]; exact Blk.new w _ _
 obtain ⟨rb, hrb⟩ : ∃ rb, w.heap.size = rb := ⟨_, rfl⟩
 rw [hrb] at k0
 obtain ⟨g0, g1⟩ := k0.two
 have f0 := k0.frozen 0
 have f1 := k0.frozen 1
 obtain ⟨w1, hw1⟩ : ∃ w1, (w0.setCell ⟨rb, 0, none⟩ (.int .i64 7)).setCell ⟨rb, 1, none⟩ (.string (S [99, 104, 97, 108])) = w1 := ⟨_, rfl⟩
 have k1 : Blk w1 rb #[.int .i64 7, .string (S [99, 104, 97, 108])] 31 := by rw [← hw1]; exact (k0.set 0 (.int .i64 7)).set 1 (.string (S [99, 104, 97, 108]))
 have b1 : Below w.heap.size w w1 := by rw [← hw1]; exact (b0.setCell (p := ⟨rb, 0, none⟩) (Nat.le_of_eq hrb) _).setCell (p := ⟨rb, 1, none⟩) (Nat.le_of_eq hrb) _
 obtain ⟨s0, s1⟩ := k1.two
 have B1 := Lib.hid b1
 clear b0 k0 k1 b1
 go_enter Tryz.func26, Tryz.ntmps26
 go_wp2_with fail
 refine bodyPost_ret (v := .agg #[.int .i64 7, .string (S [99, 104, 97, 108])]) (by simp [results, Tryz.results26, go_sem, s0, s1]) rfl ?_
 exact ⟨rfl, B1.out⟩
theorem value_ans (h : Hd) (fl t s c cls det : Int) (n : List UInt8) (i : Nat) (he : idxName kd11.fs n = some i) (hi : i < 10) : valueR (ansH h fl t s c cls det) n = ((ansH h fl t s c cls det).vs.getD i 0, 0) := by
 unfold valueR
 rw [show (ansH h fl t s c cls det).op = 35 from rfl, kind35]
 simp only [valueK]
 rw [he]
 simp only
 exact if_pos hi
theorem stat_ans (h : Hd) (fl t s c cls det : Int) (a : List Ah) (x : List UInt8) : statR ⟨ansH h fl t s c cls det, a, x⟩ = (fl, cls.toNat, det.toNat) := by
 unfold statR hv
 simp only
 rw [value_ans h fl t s c cls det nCls 8 (by kernel_rfl) (by decide), value_ans h fl t s c cls det nDet 9 (by kernel_rfl) (by decide)]
 rw [if_neg (by simp [ansH])]
 rfl
theorem hv_ans (h : Hd) (fl t s c cls det : Int) :
  hv (ansH h fl t s c cls det) nISID = hv h nISID ∧ hv (ansH h fl t s c cls det) nTSIH = t.toNat ∧ hv (ansH h fl t s c cls det) nITT = hv h nITT ∧ hv (ansH h fl t s c cls det) [83, 116, 97, 116, 83, 78] = s.toNat ∧ hv (ansH h fl t s c cls det) [69, 120, 112, 67, 109, 100, 83, 78] = c.toNat ∧ hv (ansH h fl t s c cls det) [77, 97, 120, 67, 109, 100, 83, 78] = (afterI c 31).toNat := by
 refine ⟨?_, ?_, ?_, ?_, ?_, ?_⟩
 ·show (valueR _ nISID).1 = _
  rw [value_ans h fl t s c cls det nISID 2 (by kernel_rfl) (by decide)]; rfl
 ·show (valueR _ nTSIH).1 = _
  rw [value_ans h fl t s c cls det nTSIH 3 (by kernel_rfl) (by decide)]; rfl
 ·show (valueR _ nITT).1 = _
  rw [value_ans h fl t s c cls det nITT 4 (by kernel_rfl) (by decide)]; rfl
 ·show (valueR _ _).1 = _
  rw [value_ans h fl t s c cls det [83, 116, 97, 116, 83, 78] 5 (by kernel_rfl) (by decide)]; rfl
 ·show (valueR _ _).1 = _
  rw [value_ans h fl t s c cls det [69, 120, 112, 67, 109, 100, 83, 78] 6 (by kernel_rfl) (by decide)]; rfl
 ·show (valueR _ _).1 = _
  rw [value_ans h fl t s c cls det [77, 97, 120, 67, 109, 100, 83, 78] 7 (by kernel_rfl) (by decide)]; rfl
structure SameT (s t : Lg) : Prop where
 don : t.don = s.don
 fld : t.fld = s.fld
 sta : t.sta = s.sta
 cmd : t.cmd = s.cmd
 stg : t.stg = s.stg
 fst : t.fst = s.fst
theorem SameT.refl (s : Lg) : SameT s s := ⟨rfl, rfl, rfl, rfl, rfl, rfl⟩
theorem SameT.trans {s t u : Lg} (h : SameT s t) (k : SameT t u) : SameT s u := ⟨k.don.trans h.don, k.fld.trans h.fld, k.sta.trans h.sta, k.cmd.trans h.cmd, k.stg.trans h.stg, k.fst.trans h.fst⟩
theorem secA_same {us : Bool} {o : Option (List UInt8)} {s t : Lg} {a : List Pr} (h : secA us o s = some (a, t)) : SameT s t := by
 unfold secA at h
 cases o with
 | none =>
  simp at h
  obtain ⟨_, rfl⟩ := h
  exact .refl _
 | some v =>
  simp only at h
  split at h
  ·cases h
  ·simp at h
   obtain ⟨_, rfl⟩ := h
   exact ⟨rfl, rfl, rfl, rfl, rfl, rfl⟩
theorem secB_same {d : Dw} {o : Option (List UInt8)} {s t : Lg} {a : List Pr} (h : secB d o s = some (a, t)) : SameT s t := by
 unfold secB at h
 cases o with
 | none =>
  simp at h
  obtain ⟨_, rfl⟩ := h
  exact .refl _
 | some v =>
  simp only at h
  split at h
  ·cases h
  ·simp at h
   obtain ⟨_, rfl⟩ := h
   exact ⟨rfl, rfl, rfl, rfl, rfl, rfl⟩
theorem secC_same {c : Cf} {d : Dw} {i cc n r : Option (List UInt8)} {s : Lg} : SameT s (secC c d i cc n r s).2 := by
 unfold secC
 split
 ·exact .refl _
 ·split
  ·exact .refl _
  ·split <;> exact ⟨rfl, rfl, rfl, rfl, rfl, rfl⟩
theorem secL_same {c : Cf} {d : Dw} {l : List Pr} {s : Lg} : SameT s (secL c d l s).2 := by
 unfold secL
 split
 ·exact .refl _
 ·cases hA : secA (decide (c.us ≠ [])) (prFind l kAM) s with
  | none => exact .refl _
  | some r =>
   obtain ⟨a, s1⟩ := r
   have h1 := secA_same hA
   simp only
   cases hB : secB d (prFind l kCA) s1 with
   | none => exact h1
   | some r =>
    obtain ⟨b, s2⟩ := r
    have h2 := h1.trans (secB_same hB)
    simp only
    have h3 := h2.trans (secC_same (c := c) (d := d) (i := prFind l kCI) (cc := prFind l kCC) (n := prFind l kCN) (r := prFind l kCR) (s := s2))
    cases hC : secC c d (prFind l kCI) (prFind l kCC) (prFind l kCN) (prFind l kCR) s2 with
    | mk x s3 =>
     rw [hC] at h3
     cases x with
     | none => exact h3
     | some x => exact h3
theorem textL_same {c : Cf} {d : Dw} {l : List Pr} {s : Lg} : SameT s (textL c d l s).2 := by
 unfold textL
 simp only
 generalize hs1 : (if s.bgn = true then s else if (beginL c l).1 = -1 then { s with bgn := true, tgt := (beginL c l).2.1, dsc := (beginL c l).2.2 } else { s with bgn := true }) = s1
 have h1 : SameT s s1 := by
  rw [← hs1]
  split
  ·exact .refl _
  ·split <;> exact ⟨rfl, rfl, rfl, rfl, rfl, rfl⟩
 split
 ·exact h1
 ·have h2 := h1.trans (secL_same (c := c) (d := d) (l := l) (s := s1))
  cases hS : secL c d l s1 with
  | mk x s2 =>
   obtain ⟨x, e⟩ := x
   rw [hS] at h2
   simp only
   split
   ·exact h2
   ·cases hN : ansN s2.mine s2.recd (restL l) true s2.dsc with
    | mk y r =>
     obtain ⟨y, n, k⟩ := y
     simp only
     split
     ·exact h2
     ·exact ⟨h2.don, h2.fld, h2.sta, h2.cmd, h2.stg, h2.fst⟩
structure Went (c : Cf) (p : Pd) (s t : Lg) (fl : Int) : Prop where
 fld : t.fld = s.fld
 sta : t.sta = s.sta
 cmd : t.cmd = s.cmd
 fst : t.fst.isSome = true
 way : (fl = 4 * csgI p.h ∧ t.stg = (firstL c p.h s).stg ∧ t.don = s.don) ∨ (tB p.h = true ∧ fl = 128 + 4 * csgI p.h + nsgI p.h ∧ t.stg = nsgI p.h ∧ t.don = decide (nsgI p.h = 3))
theorem first_same {c : Cf} {h : Hd} {s : Lg} : (firstL c h s).don = s.don ∧ (firstL c h s).fld = s.fld ∧ (firstL c h s).sta = s.sta ∧ (firstL c h s).cmd = s.cmd ∧ (firstL c h s).fst.isSome = true := by
 unfold firstL
 cases hf : s.fst with
 | none => exact ⟨rfl, rfl, rfl, rfl, rfl⟩
 | some q => exact ⟨rfl, rfl, rfl, rfl, by simp [hf]⟩
theorem asks_good {c : Cf} {d : Dw} {p : Pd} {s : Lg} (h : (asksL c d p s).1.2.2 = -1) : headL (decide (c.us ≠ [])) s p.h = -1 ∧ Went c p s (asksL c d p s).2 (asksL c d p s).1.1 := by
 by_cases hh : headL (decide (c.us ≠ [])) s p.h = -1
 ·refine ⟨hh, ?_⟩
  obtain ⟨f1, f2, f3, f4, f5⟩ := first_same (c := c) (h := p.h) (s := s)
  unfold asksL at h ⊢
  rw [if_neg (not_not_intro hh)] at h ⊢
  simp only at h ⊢
  cases hA : addG ⟨8192, (firstL c p.h s).came⟩ p.d (cB p.h) with
  | mk r G =>
   obtain ⟨l, n, k⟩ := r
   rw [hA] at h
   simp only at h ⊢
   by_cases hn : n = 0
   ·subst hn
    rw [if_neg (by simp)] at h ⊢
    by_cases hc : cB p.h = true
    ·rw [if_pos hc] at h ⊢
     exact ⟨f2, f3, f4, f5, .inl ⟨rfl, rfl, f1⟩⟩
    ·rw [if_neg hc] at h ⊢
     have hT := textL_same (c := c) (d := d) (l := l) (s := { firstL c p.h s with came := G.came })
     cases hX : textL c d l { firstL c p.h s with came := G.came } with
     | mk x s3 =>
      obtain ⟨x, e⟩ := x
      rw [hX] at h hT
      simp only at h hT ⊢
      by_cases he : e = -1
      ·subst he
       rw [if_neg (by simp)] at h ⊢
       by_cases ht : tB p.h = true ∧ s3.knw = true
       ·rw [if_pos ht]
        exact ⟨hT.fld.trans f2, hT.sta.trans f3, hT.cmd.trans f4, by rw [hT.fst]; exact f5, .inr ⟨ht.1, rfl, rfl, rfl⟩⟩
       ·rw [if_neg ht]
        exact ⟨hT.fld.trans f2, hT.sta.trans f3, hT.cmd.trans f4, by rw [hT.fst]; exact f5, .inl ⟨rfl, hT.stg, hT.don.trans f1⟩⟩
      ·rw [if_pos he] at h
       exact absurd h he
   ·rw [if_pos hn] at h
    simp at h
 ·unfold asksL at h
  rw [if_pos hh] at h
  exact absurd h hh
theorem asks_bad {c : Cf} {d : Dw} {p : Pd} {s : Lg} (h : (asksL c d p s).1.2.2 ≠ -1) : (asksL c d p s).2.don = s.don ∧ (asksL c d p s).2.fld = s.fld ∧ (asksL c d p s).2.sta = s.sta ∧ (asksL c d p s).2.cmd = s.cmd := by
 by_cases hh : headL (decide (c.us ≠ [])) s p.h = -1
 ·obtain ⟨f1, f2, f3, f4, f5⟩ := first_same (c := c) (h := p.h) (s := s)
  unfold asksL at h ⊢
  rw [if_neg (not_not_intro hh)] at h ⊢
  simp only at h ⊢
  cases hA : addG ⟨8192, (firstL c p.h s).came⟩ p.d (cB p.h) with
  | mk r G =>
   obtain ⟨l, n, k⟩ := r
   rw [hA] at h
   simp only at h ⊢
   by_cases hn : n = 0
   ·subst hn
    rw [if_neg (by simp)] at h ⊢
    by_cases hc : cB p.h = true
    ·rw [if_pos hc] at h
     exact absurd rfl h
    ·rw [if_neg hc] at h ⊢
     have hT := textL_same (c := c) (d := d) (l := l) (s := { firstL c p.h s with came := G.came })
     cases hX : textL c d l { firstL c p.h s with came := G.came } with
     | mk x s3 =>
      obtain ⟨x, e⟩ := x
      rw [hX] at h hT
      simp only at h hT ⊢
      by_cases he : e = -1
      ·subst he
       rw [if_neg (by simp)] at h
       split at h <;> exact absurd rfl h
      ·rw [if_pos he]
       exact ⟨hT.don.trans f1, hT.fld.trans f2, hT.sta.trans f3, hT.cmd.trans f4⟩
   ·rw [if_pos hn]
    exact ⟨f1, f2, f3, f4⟩
 ·unfold asksL
  rw [if_pos hh]
  exact ⟨rfl, rfl, rfl, rfl⟩
theorem take_good {c : Cf} {d : Dw} {s : Lg} {p : Pd} (h : (takeL c d s p).1.2 = 0) : (s.don = false ∧ s.fld = false) ∧ p.h.op = 3 ∧ rightP p = 0 ∧ takeL c d s p = (((replyL p (asksL c d p s)).1, 0), (replyL p (asksL c d p s)).2) := by
 by_cases h1 : s.don = true ∨ s.fld = true
 ·rw [takeL_over h1] at h
  exact absurd h (show ¬ (6 : Int) = 0 by decide)
 ·by_cases h2 : p.h.op = 3
  ·by_cases h3 : rightP p = 0
   ·refine ⟨?_, h2, h3, takeL_go h1 h2 h3⟩
    cases hx : s.don <;> cases hy : s.fld <;> simp [hx, hy] at h1 ⊢
   ·rw [takeL_bad h1 h2 h3] at h
    exact absurd h h3
  ·rw [takeL_op h1 h2] at h
   exact absurd h (show ¬ (1 : Int) = 0 by decide)
theorem take_err {c : Cf} {d : Dw} {s : Lg} {p : Pd} (h : (takeL c d s p).1.2 ≠ 0) : (takeL c d s p).1.1 = pd0 ∧ (takeL c d s p).2 = s := by
 by_cases h1 : s.don = true ∨ s.fld = true
 ·rw [takeL_over h1]; exact ⟨rfl, rfl⟩
 ·by_cases h2 : p.h.op = 3
  ·by_cases h3 : rightP p = 0
   ·rw [takeL_go h1 h2 h3] at h
    exact absurd rfl h
   ·rw [takeL_bad h1 h2 h3]; exact ⟨rfl, rfl⟩
  ·rw [takeL_op h1 h2]; exact ⟨rfl, rfl⟩
theorem reply_stat (p : Pd) (r : (Int × List Pr × Int) × Lg) : statR (replyL p r).1 = if r.1.2.2 ≠ -1 then (4 * csgI p.h, 2, r.1.2.2.toNat) else (r.1.1, 0, 0) := by
 unfold replyL
 simp only
 rw [stat_ans]
 by_cases h : r.1.2.2 = -1
 ·simp [h]
 ·simp [h]
end Go.Proofs.YtmkebjdmkkjloaaGreatDoor
