/- LA33: several texts in one. -/
import Derived.Great.BuildSlice
import Derived.Great.FillDense
import Derived.Shelf.Strings.BuilderF
import Derived.StillTailTactics
import Derived.Test.YtjbbbpgcegcbaaaGreatDoorRows
import Derived.Test.YtjbbbpgcegcbaaaGreatDoorLA01
import Derived.Test.YtjbbbpgcegcbaaaGreatDoorLA08
import Derived.Test.YtjbbbpgcegcbaaaGreatDoorLA09
import Derived.Test.YtjbbbpgcegcbaaaGreatDoorLA13
import Derived.Test.YtjbbbpgcegcbaaaGreatDoorLA30
import Derived.Test.YtjbbbpgcegcbaaaGreatDoorLA32
namespace Go.Proofs.YtjbbbpgcegcbaaaGreatDoor
open Go.RowKit
def OwnV (w : World) (v : Value) : Prop := ∀ k, v.ownBlock = some k → w.heap.size ≤ k
theorem own_nil (w : World) : OwnV w (.slice none 0 0) := fun k hk => by simp [Value.ownBlock] at hk
theorem Vals.offO {H : Nat → Prop} {w W : World} {v : Value} {l : List Nat} (h : Vals W v l) (ho : OwnV w v) (hH : ∀ k, H k → k < w.heap.size) : Vals (offW H W) v l := by
 obtain ⟨p, c, rfl, hx, hc⟩ := h
 refine ⟨p, c, rfl, hx, fun hl => ?_⟩
 obtain ⟨b, o, hp, hcell⟩ := hc hl
 have hb : ¬ H b := fun hh => by
  have h1 := ho b (by rw [hp]; simp [Value.ownBlock])
  have h2 := hH b hh
  omega
 exact ⟨b, o, hp, fun j hj => by rw [off_to (a := ⟨b, o + j, none⟩) hb]; exact hcell j hj⟩
def RetHeadO (w : World) (r : Hd × Int × Int) (e : Ending) (w' : World) : Prop :=
 ∃ v ev, e = .returned (.tuple #[headV r.1 v, ev]) ∧ (Vals w' v r.1.vs ∧ OwnV w v) ∧ ErrIs w' ev r.2.1 r.2.2 ∧ Below w.heap.size w w'
theorem makeO_none (op fl : Int) (vn vv : Value) (w : World) (hk : kindOf op = none) : Calls Tryz.prog 74 #[.int .i64 op, .int .i64 fl, vn, vv] w (RetHeadO w (hd0, 1, -1)) := by
 have hb0 := (Below.refl w.heap.size w).alloc (Nat.le_refl _) (.cells #[.int .i64 0, .bool false, .int .i64 0, .slice none 0 0] 38)
 have C := Lib.hid (fields_none hk (w.alloc (.cells #[.int .i64 0, .bool false, .int .i64 0, .slice none 0 0] 38)))
 have Hb0 := Lib.hid hb0
 clear hk hb0
 go_enter Tryz.func74, Tryz.ntmps74
 go_wp2_with fail
 refine C.out.mono ?_
 rintro e w1 ⟨rfl, hb⟩
 have hk1 := (Blk.new w #[.int .i64 0, .bool false, .int .i64 0, .slice none 0 0] 38).later hb
 obtain ⟨q0, q1, q2, q3⟩ := hk1.four
 have f0 := hk1.frozen 0
 have f1 := hk1.frozen 1
 have f2 := hk1.frozen 2
 have f3 := hk1.frozen 3
 have Hb := Lib.hid (below_then Hb0.out hb)
 have Hk1 := Lib.hid hk1
 clear hb hk1
 go_wp2_with fail
 refine bodyPost_ret (v := .tuple #[headV hd0 (.slice none 0 0), .iface 56 (.int .i64 1)]) (by simp [results, Tryz.results74, go_sem, headV, hd0, q0, q1, q2, q3]) rfl ⟨_, _, rfl, ⟨vals_nil _, own_nil _⟩, .bare 1 (by decide), ?_⟩
 exact (four_stored _ _ _ _ Hk1.out (Nat.le_refl _) Hb.out).2
set_option maxRecDepth 100000 in
set_option maxHeartbeats 1000000 in
theorem makeO_some (op fl : Int) (ns : List (List UInt8)) (vs : List Nat) (vn vv : Value) (k : Kd) (w : World) (hk : kindOf op = some k) (hfl : I64 fl) (hm : MaxCell w) (hn : StrV w vn ns) (hv : Vals w vv vs) (hln : ns.length ≤ 140737488355328) (hlv : vs.length ≤ 140737488355328) :
  Calls Tryz.prog 74 #[.int .i64 op, .int .i64 fl, vn, vv] w (RetHeadO w (makeR op fl ns vs)) := by
 have F := kindFacts hk
 have hl10 := F.len
 have hl1 := F.len0
 obtain ⟨pn, cn, rfl, hcn⟩ := hn
 obtain ⟨pv, cv, rfl, hx64, hcv⟩ := hv
 have hb00 := (Below.refl w.heap.size w).alloc (Nat.le_refl _) (.cells #[.int .i64 0, .bool false, .int .i64 0, .slice none 0 0] 38)
 have C := Lib.hid (fields_some hk _ (hm.later hb00))
 have MR := fun acc e hf => Lib.hid (makeR_some (op := op) (fl := fl) (acc := acc) (e := e) ns vs hk hf)
 have Hcn := Lib.hid hcn
 have Hcv := Lib.hid hcv
 have Hm := Lib.hid hm
 have Hb00 := Lib.hid hb00
 have hmk := fun w => run_make_U w k.fs.length (by omega)
 clear hk F hcn hcv hm hb00
 go_enter Tryz.func74, Tryz.ntmps74
 go_wp2_with fail
 refine C.out.mono ?_
 rintro e w1 ⟨b, rfl, hlb, hF, hb⟩
 have HK0 := Lib.hid ((Blk.new w #[.int .i64 0, .bool false, .int .i64 0, .slice none 0 0] 38).later hb)
 have hz : w.heap.size < w1.heap.size := HK0.out.lt
 have Hb1 := Lib.hid (below_then Hb00.out hb)
 have hbw1 : b < w1.heap.size := Blk.lt hF
 have HF := Lib.hid hF
 clear hb hF C
 go_wp2_with fail
 have hsz2 : (w1.alloc (.cells (cellsU (List.replicate k.fs.length 0)) 77)).heap.size = w1.heap.size + 1 := by simp
 have hN := (Blk.new w1 (cellsU (List.replicate k.fs.length 0)) 77).alloc (.cells #[.int .i64 op, .bool false, .int .i64 fl, .slice (some ⟨w1.heap.size, 0, none⟩) k.fs.length k.fs.length] 38)
 have hH := Blk.new (w1.alloc (.cells (cellsU (List.replicate k.fs.length 0)) 77)) #[.int .i64 op, .bool false, .int .i64 fl, .slice (some ⟨w1.heap.size, 0, none⟩) k.fs.length k.fs.length] 38
 rw [hsz2] at hH
 have hB4 := ((Below.refl w1.heap.size w1).alloc (Nat.le_refl _) (.cells (cellsU (List.replicate k.fs.length 0)) 77)).alloc (by simp) (.cells #[.int .i64 op, .bool false, .int .i64 fl, .slice (some ⟨w1.heap.size, 0, none⟩) k.fs.length k.fs.length] 38)
 generalize (w1.alloc (.cells (cellsU (List.replicate k.fs.length 0)) 77)).alloc (.cells #[.int .i64 op, .bool false, .int .i64 fl, .slice (some ⟨w1.heap.size, 0, none⟩) k.fs.length k.fs.length] 38) = w4 at hN hH hB4 ⊢
 have HN := Lib.hid hN
 have HH := Lib.hid hH
 have HB4 := Lib.hid hB4
 clear hN hH hB4 hsz2 hmk
 go_wp2_with fail
 go_loopw [34] (fun i wr => ∃ (j : Nat) (acc : List Nat), j ≤ ns.length ∧ i = .int .i64 j ∧ acc.length = k.fs.length ∧ (∀ x ∈ acc, x < 2 ^ 64) ∧ fill k.fs ns vs (List.replicate k.fs.length 0) = fill k.fs (ns.drop j) (vs.drop j) acc ∧
  Nums wr w1.heap.size acc ∧ Blk wr (w1.heap.size + 1) #[.int .i64 op, .bool false, .int .i64 fl, .slice (some ⟨w1.heap.size, 0, none⟩) k.fs.length k.fs.length] 38 ∧ Below w1.heap.size w1 wr) (fun i _ => ns.length - (intOf i).toNat)
 case atStart => exact ⟨0, _, by omega, rfl, List.length_replicate, fun x hx => by rw [List.eq_of_mem_replicate hx]; decide, rfl, HN.out, HH.out, HB4.out⟩
 case round =>
  obtain ⟨j, acc, hj, rfl, hal, hax, hfill, hNr, hHr, hBr⟩ := hrel
  have Hal := Lib.hid hal
  have Hfill := Lib.hid hfill
  have HNr := Lib.hid hNr
  have HHr := Lib.hid hHr
  have HBr := Lib.hid hBr
  have hBw : Below w.heap.size w wr := below_then Hb1.out hBr
  have HBw := Lib.hid hBw
  have hltN : w1.heap.size < wr.heap.size := Blk.lt hNr
  have hltH : w1.heap.size + 1 < wr.heap.size := Blk.lt hHr
  by_cases hlt : j < ns.length
  ·obtain ⟨bn, on, rfl, hcl⟩ := Hcn.out (by omega)
   have hcj : wr.cell? ⟨bn, on + j, none⟩ = some (.string (S ns[j])) := by
    rw [(bcell hBw).1 bn (on + j) (block_lt_of_cell (w := w) (a := ⟨bn, on + j, none⟩) (hcl j hlt))]; exact hcl j hlt
   obtain ⟨nm, hnm⟩ : ∃ nm, ns[j] = nm := ⟨_, rfl⟩
   have N := Lib.hid (named_any k.fs nm b wr hl10 (Blk.below HF.out hBr hbw1))
   cases hi : idxName k.fs nm with
   | none =>
    have hfe := fill_none (fs := k.fs) (vs := vs) (acc := acc) hlt (by rw [hnm]; exact hi)
    have E := Lib.hid (MR acc 5 (by rw [hfill, hfe])).out
    rw [if_pos (by decide)] at E
    rw [idxI_none hi] at N
    rw [hnm] at hcj
    have Hnm := Lib.hid hnm
    clear hal hfill hNr hHr hBr hBw hnm hi hfe MR
    go_wp2_with fail
    refine N.out.mono ?_
    rintro e w5 ⟨rfl, hb5⟩
    have hk1 := ((Blk.below HK0.out HBr.out hz)).later hb5
    obtain ⟨q0, q1, q2, q3⟩ := hk1.four
    have f0 := hk1.frozen 0
    have f1 := hk1.frozen 1
    have f2 := hk1.frozen 2
    have f3 := hk1.frozen 3
    have Hk1 := Lib.hid hk1
    have B5 := Lib.hid (below_then HBw.out hb5)
    clear hb5 hk1
    go_wp2_with fail
    rw [E.out]
    refine bodyPost_ret (v := .tuple #[headV hd0 (.slice none 0 0), .iface 56 (.int .i64 5)]) (by simp [results, Tryz.results74, go_sem, headV, hd0, q0, q1, q2, q3]) rfl ⟨_, _, rfl, ⟨vals_nil _, own_nil _⟩, .bare 5 (by decide), ?_⟩
    exact (four_stored _ _ _ _ Hk1.out (Nat.le_refl _) B5.out).2
   | some i =>
    have hil := idxName_lt hi
    rw [idxI_some hi] at N
    rw [hnm] at hcj
    by_cases hjv : j < vs.length
    ·obtain ⟨bv, ov, rfl, hcl2⟩ := Hcv.out (by omega)
     obtain ⟨x, hx⟩ : ∃ x, vs[j] = x := ⟨_, rfl⟩
     have hx6 : x < 2 ^ 64 := by rw [← hx]; exact hx64 _ (List.getElem_mem _)
     have hfs := fill_step (fs := k.fs) (acc := acc) hlt (by rw [hnm]; exact hi) hjv
     rw [hx] at hfs
     have Hfs := Lib.hid (hfill.trans hfs)
     have hcv := hcl2 j hjv
     rw [hx] at hcv
     have Hcj2 := Lib.hid hcv
     have hjv' : ¬ vs.length ≤ j := by omega
     have Hnm := Lib.hid hnm
     clear hal hfill hNr hHr hBr hBw hnm hi hfs MR hcl hcl2 hx hcv
     go_wp2_with fail
     refine N.out.mono ?_
     rintro e w5 ⟨rfl, hb5⟩
     have hN5 := Blk.later HNr.out hb5
     have hH5 := Blk.later HHr.out hb5
     have hB5 := HBr.out.trans (hb5.mono (by omega))
     have hBw5 := below_then HBw.out hb5
     have c1 := hH5.four.2.2.2
     have cv : w5.cell? ⟨bv, ov + j, none⟩ = some (.int .u64 (x : Int)) := by
      rw [(bcell hBw5).1 bv (ov + j) (block_lt_of_cell (w := w) (a := ⟨bv, ov + j, none⟩) Hcj2.out)]; exact Hcj2.out
     have ci := (Blk.cell hN5 i).trans (cellsU_get acc i (by rw [Hal.out]; exact hil))
     have fi := Blk.frozen hN5 i
     have hst := Blk.set hN5 i (.int .u64 (x : Int))
     rw [cellsU_set] at hst
     have hst2 := Blk.other hH5 (b' := w1.heap.size) (i := i) (by omega) (.int .u64 (x : Int))
     have hbs := hB5.setCell (p := ⟨w1.heap.size, i, none⟩) (Nat.le_refl _) (.int .u64 (x : Int))
     have Hst := Lib.hid hst
     have Hst2 := Lib.hid hst2
     have Hbs := Lib.hid hbs
     clear hb5 hN5 hH5 hB5 hBw5 hst hst2 hbs hcj
     go_wp2_with fail
     refine wp_region_still_tail 8 (by kernel_rfl) (by kernel_rfl) ?_
     simp only [List.take_succ_cons, List.take_zero, List.drop_succ_cons, List.drop_zero]
     change wpStill _ _ w5.drew _ _ _
     repeat still_step
     refine wpStill_nil ?_
     change wpList _ _ _ _ _ w5.drew
     go_wp2_with fail
     go_roundw
     case rel => exact ⟨j + 1, acc.set i x, by omega, by go_num, by rw [List.length_set]; exact Hal.out, fun y hy => by
      rcases List.mem_or_eq_of_mem_set hy with h | h
      ·exact hax y h
      ·rw [h]; exact hx6, Hfs.out, Hst.out, Hst2.out, Hbs.out.drew⟩
     case measure => simp [intOf]; omega
    ·have hjv' : vs.length ≤ j := by omega
     have hfe := fill_few (fs := k.fs) (acc := acc) hlt (by rw [hnm]; exact hi) hjv'
     have E := Lib.hid (MR acc 7 (by rw [hfill, hfe])).out
     rw [if_pos (by decide)] at E
     have Hnm := Lib.hid hnm
     clear hal hfill hNr hHr hBr hBw hnm hi hfe MR hcl
     go_wp2_with fail
     refine N.out.mono ?_
     rintro e w5 ⟨rfl, hb5⟩
     have hk1 := ((Blk.below HK0.out HBr.out hz)).later hb5
     obtain ⟨q0, q1, q2, q3⟩ := hk1.four
     have f0 := hk1.frozen 0
     have f1 := hk1.frozen 1
     have f2 := hk1.frozen 2
     have f3 := hk1.frozen 3
     have Hk1 := Lib.hid hk1
     have B5 := Lib.hid (below_then HBw.out hb5)
     clear hb5 hk1
     go_wp2_with fail
     rw [E.out]
     refine bodyPost_ret (v := .tuple #[headV hd0 (.slice none 0 0), .iface 56 (.int .i64 7)]) (by simp [results, Tryz.results74, go_sem, headV, hd0, q0, q1, q2, q3]) rfl ⟨_, _, rfl, ⟨vals_nil _, own_nil _⟩, .bare 7 (by decide), ?_⟩
     exact (four_stored _ _ _ _ Hk1.out (Nat.le_refl _) B5.out).2
  ·have hfe := fill_end (fs := k.fs) (ns := ns) (vs := vs) (acc := acc) (j := j) (by omega)
   have E := MR acc 0 (by rw [hfill, hfe])
   have E := Lib.hid E.out
   rw [if_neg (by decide)] at E
   have hvals : Vals wr (.slice (some ⟨w1.heap.size, 0, none⟩) k.fs.length k.fs.length) acc := by
    have := Nums.vals HNr.out hax
    rwa [hal] at this
   have R := right_any ⟨op, false, fl, acc⟩ (.slice (some ⟨w1.heap.size, 0, none⟩) k.fs.length k.fs.length) wr hfl (Hm.out.later hBw) hvals (by simp only; omega)
   obtain ⟨⟨r1, r2⟩, hr⟩ : ∃ r, rightR ⟨op, false, fl, acc⟩ = r := ⟨_, rfl⟩
   rw [hr] at E R
   unfold headV at R
   simp only at R E
   have RR := Lib.hid R
   have Hvals := Lib.hid hvals
   obtain ⟨h0, h1, h2, h3⟩ := HHr.out.four
   clear hal hfill hNr hHr hBr hBw hfe MR R hr hvals
   go_wp2_with fail
   refine RR.out.mono ?_
   rintro e w5 ⟨ev, rfl, he, hb5⟩
   have hH5 := Blk.later HHr.out hb5
   have hV5 := Vals.later Hvals.out hb5
   have hk1 := ((Blk.below HK0.out HBr.out hz)).later hb5
   clear h0 h1 h2 h3
   obtain ⟨h0, h1, h2, h3⟩ := hH5.four
   obtain ⟨q0, q1, q2, q3⟩ := hk1.four
   have f0 := hk1.frozen 0
   have f1 := hk1.frozen 1
   have f2 := hk1.frozen 2
   have f3 := hk1.frozen 3
   have Hk1 := Lib.hid hk1
   have V5 := Lib.hid hV5
   have B5 := Lib.hid (below_then HBw.out hb5)
   have He := Lib.hid he
   clear hb5 hk1 hH5 hV5
   simp only at he
   cases he with
   | good =>
    rw [if_neg (by decide)] at E
    go_wp2_with fail
    rw [E.out]
    obtain ⟨g1, g2⟩ := four_stored (.int .i64 op) (.bool false) (.int .i64 fl) (.slice (some ⟨w1.heap.size, 0, none⟩) k.fs.length k.fs.length) Hk1.out (Nat.le_refl _) B5.out
    refine bodyPost_ret (v := .tuple #[headV ⟨op, false, fl, acc⟩ (.slice (some ⟨w1.heap.size, 0, none⟩) k.fs.length k.fs.length), .nilIface]) (by simp [results, Tryz.results74, go_sem, headV, q0, q1, q2, q3]) rfl ⟨_, _, rfl, ?_, .good, g2⟩
    exact ⟨vals_set4 V5.out _ hz, fun j hj => by
     have : w1.heap.size = j := by simpa [Value.ownBlock] using hj
     omega⟩
   | bare _ hn =>
    rw [if_pos hn] at E
    go_wp2_with fail
    rw [E.out]
    refine bodyPost_ret (v := .tuple #[headV hd0 (.slice none 0 0), .iface 56 (.int .i64 r1)]) (by simp [results, Tryz.results74, go_sem, headV, hd0, q0, q1, q2, q3]) rfl ⟨_, _, rfl, ⟨vals_nil _, own_nil _⟩, .bare r1 hn, ?_⟩
    exact (four_stored _ _ _ _ Hk1.out (Nat.le_refl _) B5.out).2
   | placed bb _ _ hn g0 g1 =>
    rw [if_pos hn] at E
    have hbb : bb ≠ w.heap.size := fun e => by rw [e, q1] at g1; cases g1
    have Hbb := Lib.hid hbb
    have G0 := Lib.hid g0
    have G1 := Lib.hid g1
    clear hbb g0 g1
    go_wp2_with fail
    rw [E.out]
    refine bodyPost_ret (v := .tuple #[headV hd0 (.slice none 0 0), .iface 120 (.pointer (some ⟨bb, 0, none⟩))]) (by simp [results, Tryz.results74, go_sem, headV, hd0, q0, q1, q2, q3]) rfl ⟨_, _, rfl, ⟨vals_nil _, own_nil _⟩, ?_, ?_⟩
    ·exact placed_set4 Hbb.out hn G0.out G1.out
    ·exact (four_stored _ _ _ _ Hk1.out (Nat.le_refl _) B5.out).2
theorem makeO_any (op fl : Int) (ns : List (List UInt8)) (vs : List Nat) (vn vv : Value) (w : World) (hfl : I64 fl) (hm : MaxCell w) (hn : StrV w vn ns) (hv : Vals w vv vs) (hln : ns.length ≤ 140737488355328) (hlv : vs.length ≤ 140737488355328) :
  Calls Tryz.prog 74 #[.int .i64 op, .int .i64 fl, vn, vv] w (RetHeadO w (makeR op fl ns vs)) := by
 cases hk : kindOf op with
 | none =>
  have e : makeR op fl ns vs = (hd0, 1, -1) := by unfold makeR; rw [hk]
  rw [e]
  exact makeO_none op fl vn vv w hk
 | some k => exact makeO_some op fl ns vs vn vv k w hk hfl hm hn hv hln hlv
end Go.Proofs.YtjbbbpgcegcbaaaGreatDoor
namespace Go.Proofs.YtjbbbpgcegcbaaaGreatDoor
open Go Go.RowKit
set_option linter.unusedVariables false
theorem opw_val {P : Program} {o : Oper} {a : Act} {w w' : World} {v : Value} {K : Act → World → Prop} {Q : Exit → Act → World → Prop} (h : (execOp a.eval o).run P w = .ok (.value v) w') (hK : K (a.put o.dst v) w') : Oper.wp P o a w K Q := by
 unfold Oper.wp
 rw [h]
 exact hK
theorem row8N {o : Oper} {a : Act} {w : World} {x0 x1 x2 x3 x4 x5 x6 x7 : Operand} {K : Act → World → Prop} {Q : Exit → Act → World → Prop} (n0 n1 n2 n3 n4 n5 n6 n7 : Int) (dst : Option Tmp) (hd : o.dst = dst)
  (ho : o.op = .buildSlice 36 8 #[(0, x0), (1, x1), (2, x2), (3, x3), (4, x4), (5, x5), (6, x6), (7, x7)])
  (h0 : a.eval x0 = .int .u64 n0) (h1 : a.eval x1 = .int .u64 n1) (h2 : a.eval x2 = .int .u64 n2) (h3 : a.eval x3 = .int .u64 n3) (h4 : a.eval x4 = .int .u64 n4) (h5 : a.eval x5 = .int .u64 n5) (h6 : a.eval x6 = .int .u64 n6) (h7 : a.eval x7 = .int .u64 n7)
  (hK : K (a.put dst (.slice (some ⟨w.heap.size, 0, none⟩) 8 8)) (w.alloc (.cells #[.int .u64 n0, .int .u64 n1, .int .u64 n2, .int .u64 n3, .int .u64 n4, .int .u64 n5, .int .u64 n6, .int .u64 n7] 77))) : Oper.wp Tryz.prog o a w K Q := by
 subst hd
 obtain ⟨i, hi, hz, hs, _⟩ := info_parts (show (Tryz.prog.info? 77).map (fun i => (i.zero, i.size, i.bytes)) = some (some (.int .u64 0), 1, 8) by kernel_rfl)
 refine opw_val ?_ hK
 have h := run_buildSlice (P := Tryz.prog) w 36 77 8 #[(0, .int .u64 n0), (1, .int .u64 n1), (2, .int .u64 n2), (3, .int .u64 n3), (4, .int .u64 n4), (5, .int .u64 n5), (6, .int .u64 n6), (7, .int .u64 n7)] #[.int .u64 n0, .int .u64 n1, .int .u64 n2, .int .u64 n3, .int .u64 n4, .int .u64 n5, .int .u64 n6, .int .u64 n7] i _ Tryz.underlying36 hi hz (by rw [hs]; omega) (by rw [hs]; omega) (by
  rw [hs]
  exact Great.fill_whole (s := 1) (by decide) [.int .u64 n0, .int .u64 n1, .int .u64 n2, .int .u64 n3, .int .u64 n4, .int .u64 n5, .int .u64 n6, .int .u64 n7] _ (fun v hv => by simp at hv; rcases hv with rfl | rfl | rfl | rfl | rfl | rfl | rfl | rfl <;> rfl) (by simp))
 unfold execOp
 rw [ho]
 have e : ((#[(0, x0), (1, x1), (2, x2), (3, x3), (4, x4), (5, x5), (6, x6), (7, x7)] : Array (Nat × Operand)).map fun (i, x) => (i, a.eval x)) = #[(0, .int .u64 n0), (1, .int .u64 n1), (2, .int .u64 n2), (3, .int .u64 n3), (4, .int .u64 n4), (5, .int .u64 n5), (6, .int .u64 n6), (7, .int .u64 n7)] := by
  simp only [List.map_toArray, List.map_cons, List.map_nil, h0, h1, h2, h3, h4, h5, h6, h7]
 simp only [Sem.run_bind, e, h]
 rfl
structure WS (W : World) (pb ab lb : Nat) (p0 p1 p2 p3 p4 p5 a0 a1 a2 a3 l11 l12 : Value) : Prop where
 p0 : W.cell? ⟨pb, 0, none⟩ = some p0
 p1 : W.cell? ⟨pb, 1, none⟩ = some p1
 p2 : W.cell? ⟨pb, 2, none⟩ = some p2
 p3 : W.cell? ⟨pb, 3, none⟩ = some p3
 p4 : W.cell? ⟨pb, 4, none⟩ = some p4
 p5 : W.cell? ⟨pb, 5, none⟩ = some p5
 a0 : W.cell? ⟨ab, 0, none⟩ = some a0
 a1 : W.cell? ⟨ab, 1, none⟩ = some a1
 a2 : W.cell? ⟨ab, 2, none⟩ = some a2
 a3 : W.cell? ⟨ab, 3, none⟩ = some a3
 l11 : W.cell? ⟨lb, 11, none⟩ = some l11
 l12 : W.cell? ⟨lb, 12, none⟩ = some l12
theorem WS.later {W W' : World} {pb ab lb : Nat} {p0 p1 p2 p3 p4 p5 a0 a1 a2 a3 l11 l12 : Value} (h : WS W pb ab lb p0 p1 p2 p3 p4 p5 a0 a1 a2 a3 l11 l12) (hb : Below W.heap.size W W') : WS W' pb ab lb p0 p1 p2 p3 p4 p5 a0 a1 a2 a3 l11 l12 := by
 have k : ∀ {a : Addr} {x : Value}, W.cell? a = some x → W'.cell? a = some x := fun {a} {x} h => by rw [hb.cell (block_lt_of_cell h)]; exact h
 exact ⟨k h.p0, k h.p1, k h.p2, k h.p3, k h.p4, k h.p5, k h.a0, k h.a1, k h.a2, k h.a3, k h.l11, k h.l12⟩
theorem Vals.laid {w W W' : World} {b : Nat} {v : Value} {l : List Nat} (h : Vals W v l) (ho : OwnV w v) (hb : b < w.heap.size) (hg : W.grownBy W' (some b)) : Vals W' v l := by
 obtain ⟨p, c, rfl, hx, hc⟩ := h
 refine ⟨p, c, rfl, hx, fun hl => ?_⟩
 obtain ⟨g, o, hp, hcell⟩ := hc hl
 have hgb : g ≠ b := fun e => by
  have := ho g (by rw [hp]; simp [Value.ownBlock])
  omega
 have hlt : g < W.heap.size := block_lt_of_cell (w := W) (a := ⟨g, o + 0, none⟩) (hcell 0 hl)
 exact ⟨g, o, hp, fun j hj => by rw [World.cell?_of_block (w := W) (a := ⟨g, o + j, none⟩) (hg.block g hlt (fun e => hgb (Option.some.inj e)))]; exact hcell j hj⟩
end Go.Proofs.YtjbbbpgcegcbaaaGreatDoor
namespace Go.Proofs.YtjbbbpgcegcbaaaGreatDoor
open Go.RowKit
set_option linter.unusedVariables false
theorem after_any (a n : Int) (w : World) :
  Calls Tryz.prog 90 #[.int .u32 a, .int .i64 n] w fun e w' => e = .returned (.int .u32 (afterI a n)) ∧ w = w' := by
 have hA : (a + n % 4294967296) % 4294967296 = afterI a n := by unfold afterI; omega
 go_enter Tryz.func90, Tryz.ntmps90
 go_wp2_with fail
 go_ret
 exact ⟨ret_int hA, rfl⟩
end Go.Proofs.YtjbbbpgcegcbaaaGreatDoor
namespace Go.Proofs.YtjbbbpgcegcbaaaGreatDoor
open Go.RowKit
def bldRen : Go.Shelf.Ren := ⟨fun | 166 => 81 | 169 => 82 | 240 => 119 | 276 => 156 | n => n,
 fun | 0 => 0 | 3 => 3 | 4 => 4 | 5 => 5 | 9 => 9 | 20 => 20 | 37 => 116 | 70 => 146 | 72 => 148 | 75 => 43 | 80 => 151 | 127 => 210 | 164 => 169 | n => n, fun | n => n⟩
theorem bldLays166 : Go.Proofs.Lays.n166 Tryz.prog bldRen := {
 mixed := by kernel_rfl
 f166 := Tryz.func81.trans (congrArg some (by kernel_rfl))
 f240 := Tryz.func119.trans (congrArg some (by kernel_rfl))
 f276 := Tryz.func156.trans (congrArg some (by kernel_rfl))
 t0 := Tryz.underlying0
 a0 := Tryz.isAgg0
 z0 := Tryz.sizeOf0
 v0 := Tryz.zeroValue0
 t3 := Tryz.underlying3
 a3 := Tryz.isAgg3
 z3 := Tryz.sizeOf3
 v3 := Tryz.zeroValue3
 t4 := Tryz.underlying4
 a4 := Tryz.isAgg4
 z4 := Tryz.sizeOf4
 v4 := Tryz.zeroValue4
 t9 := Tryz.underlying9
 a9 := Tryz.isAgg9
 z9 := Tryz.sizeOf9
 v9 := Tryz.zeroValue9
 t20 := Tryz.underlying20
 a20 := Tryz.isAgg20
 z20 := Tryz.sizeOf20
 v20 := Tryz.zeroValue20
 t37 := Tryz.underlying116
 a37 := Tryz.isAgg116
 z37 := Tryz.sizeOf116
 v37 := Tryz.zeroValue116
 t70 := Tryz.underlying146
 a70 := Tryz.isAgg146
 z70 := Tryz.sizeOf146
 v70 := Tryz.zeroValue146
 t72 := Tryz.underlying148
 a72 := Tryz.isAgg148
 z72 := Tryz.sizeOf148
 v72 := Tryz.zeroValue148
 t75 := Tryz.underlying43
 a75 := Tryz.isAgg43
 z75 := Tryz.sizeOf43
 v75 := Tryz.zeroValue43
 t164 := Tryz.underlying169
 a164 := Tryz.isAgg169
 z164 := Tryz.sizeOf169
 v164 := Tryz.zeroValue169 }
theorem bldLays169 : Go.Proofs.Lays.n169 Tryz.prog bldRen := {
 mixed := by kernel_rfl
 f169 := Tryz.func82.trans (congrArg some (by kernel_rfl))
 t0 := Tryz.underlying0
 a0 := Tryz.isAgg0
 z0 := Tryz.sizeOf0
 v0 := Tryz.zeroValue0
 t3 := Tryz.underlying3
 a3 := Tryz.isAgg3
 z3 := Tryz.sizeOf3
 v3 := Tryz.zeroValue3
 t9 := Tryz.underlying9
 a9 := Tryz.isAgg9
 z9 := Tryz.sizeOf9
 v9 := Tryz.zeroValue9
 t37 := Tryz.underlying116
 a37 := Tryz.isAgg116
 z37 := Tryz.sizeOf116
 v37 := Tryz.zeroValue116
 t70 := Tryz.underlying146
 a70 := Tryz.isAgg146
 z70 := Tryz.sizeOf146
 v70 := Tryz.zeroValue146
 t72 := Tryz.underlying148
 a72 := Tryz.isAgg148
 z72 := Tryz.sizeOf148
 v72 := Tryz.zeroValue148
 t127 := Tryz.underlying210
 a127 := Tryz.isAgg210
 z127 := Tryz.sizeOf210
 v127 := Tryz.zeroValue210 }
theorem bldExtra : Builder.Extra Tryz.prog bldRen := {
 sizeBuilder := by kernel_rfl
 liesBuilder := by kernel_rfl
 t5 := Tryz.underlying5
 a5 := Tryz.isAgg5
 z5 := Tryz.sizeOf5
 v5 := Tryz.zeroValue5
 infoByte := by kernel_rfl
 cellsByte := by kernel_rfl
 sizeByte := by kernel_rfl
 neB5 := by decide }
def BldAt (W : World) (B b : Nat) (l : List UInt8) : Prop := Lib.IsBuilderF 148 5 B b (Lib.byteCells l) W
theorem BldAt.alloc {W : World} {B b : Nat} {l : List UInt8} (h : BldAt W B b l) (o : Obj) : BldAt (W.alloc o) B b l := h.elim (fun h => .inl (h.alloc o)) (fun h => .inr (h.alloc o))
theorem BldAt.new (w : World) : BldAt (w.alloc (.cells #[.pointer none, .slice none 0 0] 148)) w.heap.size w.heap.size [] :=
 .inl ⟨Nat.le_refl _, .slice none 0 0, Blk.new w _ _, ⟨rfl, .inl ⟨rfl, rfl⟩⟩, by simp [Value.ownBlock]⟩
theorem bld_write {W : World} {B b : Nat} {l : List UInt8} (s : List UInt8) (h : BldAt W B b l) (hl : l.length + s.length ≤ 140737488355328) (hB : B ≤ W.heap.size) :
  Calls Tryz.prog 81 #[.pointer (some ⟨b, 0, none⟩), .string (S s)] W fun e W' => e = .returned (.tuple #[.int .i64 (s.length : Nat), .nilIface]) ∧ BldAt W' B b (l ++ s) ∧ Below B W W' := by
 have C := Any.Builder_WriteString_f bldLays166 bldExtra B b (Lib.byteCells l) (S s) W h (by rw [Lib.byteCells_length, S_size]; exact hl) hB
 refine C.mono ?_
 rintro e W' ⟨rfl, h1, h2⟩
 refine ⟨by rw [S_size], .inr ?_, h2⟩
 rw [Lib.byteCells_append]
 have e1 : Lib.strCells (S s) = Lib.byteCells s := by simp [Lib.strCells, Lib.byteCells, S]
 rw [e1] at h1
 exact h1
theorem bld_string {W : World} {B b : Nat} {l : List UInt8} (h : BldAt W B b l) (hB : B ≤ W.heap.size) :
  Calls Tryz.prog 82 #[.pointer (some ⟨b, 0, none⟩)] W fun e W' => e = .returned (.string (S l)) ∧ Below B W W' := by
 refine (Any.Builder_String_any_f bldLays169 bldExtra B b l W h hB).mono ?_
 rintro e W' ⟨rfl, _, h2⟩
 exact ⟨rfl, h2⟩
theorem prBytes_take {l : List Pr} {j : Nat} (h : j < l.length) : prBytes (l.take (j + 1)) = prBytes (l.take j) ++ wrP l[j] := by
 rw [List.take_succ_eq_append_getElem h, prBytes_app, prBytes_one]
theorem prBytes_small : ∀ {l : List Pr}, okPs l → (prBytes l).length ≤ l.length * 320
 | [], _ => by simp [prBytes]
 | p :: l, h => by
  have ih := prBytes_small (l := l) (fun q hq => h q (List.mem_cons_of_mem _ hq))
  have h1 := thick_okP (h p (List.mem_cons_self ..))
  rw [prBytes_cons, List.length_append, wrP_len, List.length_cons]
  omega
set_option maxRecDepth 100000 in
theorem print_prs (l : List Pr) (v : Value) (w : World) (hv : PrsV w v l) (hf : fitPs l) :
  Calls Tryz.prog 49 #[v] w (RetSE w (prPrint l)) := by
 have R := Lib.hid (right_prs l v w hv hf)
 have HV := Lib.hid hv
 by_cases h0 : (prRight l).1 = 0
 ·obtain ⟨hk, hs, hr⟩ := prRight_is h0
  have Hk := Lib.hid hk
  have E := Lib.hid (show prPrint l = (prBytes l, 0, -1) by unfold prPrint; rw [if_pos h0])
  have hll : (l.length : Int) ≤ 60 := by omega
  rw [hr] at R
  clear hv hf h0 hr hk
  obtain ⟨p, c, rfl⟩ := HV.out.form
  go_enter Tryz.func49, Tryz.ntmps49
  go_wp2_with fail
  refine R.out.mono ?_
  rintro e w1 ⟨ev, rfl, he, hb1⟩
  obtain rfl := he.zero
  have Hb1 := Lib.hid hb1
  have HD := Lib.hid (BldAt.new w1)
  have Hb2 := Lib.hid (hb1.alloc hb1.size (.cells #[.pointer none, .slice none 0 0] 148))
  have hsz1 := hb1.size
  obtain ⟨B, hB⟩ : ∃ B, w1.heap.size = B := ⟨_, rfl⟩
  rw [hB] at HD hsz1
  clear he hb1 R
  go_wp2_with fail
  try simp only [hB]
  clear hB
  go_loopw [15] (fun i wr => ∃ j : Nat, j ≤ l.length ∧ i = .int .i64 j ∧ BldAt wr B B (prBytes (l.take j)) ∧ B < wr.heap.size ∧ Below w.heap.size w wr) (fun i _ => l.length - (intOf i).toNat)
  case atStart => exact ⟨0, by omega, rfl, HD.out, by have := HD.out; rcases HD.out with h | h <;> exact h.lt, Hb2.out⟩
  case round =>
   obtain ⟨j, hj, rfl, hbld, hBs, hb⟩ := hrel
   have Hb := Lib.hid hb
   have HBld := Lib.hid hbld
   by_cases hlt : j < l.length
   ·obtain ⟨p', c', hpe, _, hc⟩ := HV.out
    obtain ⟨b, o, rfl, hcl⟩ := hc (by omega)
    obtain ⟨h1, h2⟩ := hcl j hlt
    have hp : p = some ⟨b, o, none⟩ := by injection hpe
    subst hp
    rw [← (bcell hb).1 b (o + j * 2) (block_lt_of_cell (w := w) (a := ⟨b, o + j * 2, none⟩) h1)] at h1
    rw [← (bcell hb).1 b (o + j * 2 + 1) (block_lt_of_cell (w := w) (a := ⟨b, o + j * 2 + 1, none⟩) h2)] at h2
    obtain ⟨a, ha⟩ : ∃ a, l[j] = a := ⟨_, rfl⟩
    have hka := thick_okP (Hk.out l[j] (List.getElem_mem hlt))
    have hst := prBytes_take hlt
    have hsm := prBytes_small (l := l.take j) (fun q hq => Hk.out q (List.mem_of_mem_take hq))
    rw [List.length_take, Nat.min_eq_left hj] at hsm
    rw [ha] at h1 h2 hka hst
    obtain ⟨k, d⟩ := a
    simp only at h1 h2 hka
    have hwr : wrP ⟨k, d⟩ = k ++ 61 :: (d ++ [0]) := rfl
    have hk1 : ¬ 9223372036854775807 < k.length + 1 := by omega
    have hk2 : ¬ 9223372036854775807 < k.length + 1 + d.length := by omega
    have hk3 : ¬ 9223372036854775807 < k.length + 1 + d.length + 1 := by omega
    have hbn := HBld.out.alloc (.cells #[.string (S k), .string (S d)] 60)
    have Wr := Lib.hid (bld_write (k ++ 61 :: (d ++ [0])) hbn (by simp only [List.length_append, List.length_cons, List.length_nil]; omega) (by simp; omega))
    have Hb3 := Lib.hid (hb.alloc hb.size (.cells #[.string (S k), .string (S d)] 60))
    rw [hwr] at hst
    have Hst := Lib.hid hst
    have HBs := Lib.hid hBs
    clear hst hcl hb hc hbld ha hka hsm hwr hbn hBs
    go_wp2_with fail
    refine Wr.out.mono ?_
    rintro e w3 ⟨rfl, hb3, hlow⟩
    have Hb4 := Lib.hid (Hb3.out.trans (hlow.mono hsz1))
    rw [← Hst.out] at hb3
    have Hb5 := Lib.hid hb3
    have Hs3 := Lib.hid (show B < w3.heap.size by have := hlow.size; have := HBs.out; simp at *; omega)
    clear hb3 hlow Wr h1 h2
    go_wp2_with fail
    go_roundw
    case rel => exact ⟨j + 1, by omega, by go_num, Hb5.out, Hs3.out, Hb4.out⟩
    case measure => simp [intOf]; omega
   ·obtain rfl : j = l.length := by omega
    rw [List.take_length] at hbld
    have St := Lib.hid (bld_string hbld (Nat.le_of_lt hBs))
    clear hb hbld HBld
    go_wp2_with fail
    refine St.out.mono ?_
    rintro e w3 ⟨rfl, hlow⟩
    have Hb4 := Lib.hid (Hb.out.trans (hlow.mono hsz1))
    clear hlow
    go_wp2_with fail
    go_ret2
    rw [E.out]
    exact ⟨_, rfl, .good, Hb4.out⟩
 ·have E := Lib.hid (show prPrint l = ([], prRight l) by unfold prPrint; rw [if_neg h0])
  obtain ⟨⟨n, q⟩, hr⟩ : ∃ r, prRight l = r := ⟨_, rfl⟩
  rw [hr] at R E h0
  clear hv hf hr
  obtain ⟨p, c, rfl⟩ := HV.out.form
  go_enter Tryz.func49, Tryz.ntmps49
  go_wp2_with fail
  refine R.out.mono ?_
  rintro e w1 ⟨ev, rfl, he, hb1⟩
  obtain ⟨t, x, rfl⟩ := he.iface h0
  have Hb1 := Lib.hid hb1
  have He := Lib.hid he
  clear he hb1
  go_wp2_with fail
  go_ret2
  rw [E.out]
  exact ⟨_, rfl, He.out, Hb1.out⟩
end Go.Proofs.YtjbbbpgcegcbaaaGreatDoor
