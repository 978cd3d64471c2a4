/- head.Make. -/
import Derived.Test.YtffdlchoaaakdaaGreatDoorNums
import Derived.Test.YtffdlchoaaakdaaGreatDoorValue
import Derived.StillTailTactics
namespace Go.Proofs.YtffdlchoaaakdaaGreatDoor
open Go.RowKit
/-- the slice value v reads as these strings in W -/
def StrV (W : World) (v : Value) (l : List (List UInt8)) : Prop := ∃ p c, v = .slice p l.length c ∧ (0 < l.length → ∃ b o, p = some ⟨b, o, none⟩ ∧ ∀ j (hj : j < l.length), W.cell? ⟨b, o + j, none⟩ = some (.string (S l[j])))
theorem StrV.later {W W' : World} {v : Value} {l : List (List UInt8)} (h : StrV W v l) (hb : Below W.heap.size W W') : StrV W' v l := by
  obtain ⟨p, c, hv, hc⟩ := h
  refine ⟨p, c, hv, fun hl => ?_⟩
  obtain ⟨b, o, hp, hcell⟩ := hc hl
  refine ⟨b, o, hp, fun j hj => ?_⟩
  rw [(bcell hb).1 b (o + j) (block_lt_of_cell (w := W) (a := ⟨b, o + j, none⟩) (hcell j hj))]
  exact hcell j hj
theorem strV_nil (W : World) : StrV W (.slice none 0 0) [] := ⟨none, 0, rfl, fun h => absurd h (by decide)⟩
/-- a head and an error are returned -/
def RetHead (w : World) (r : Hd × Int × Int) (e : Ending) (w' : World) : Prop :=
  ∃ v ev, e = .returned (.tuple #[headV r.1 v, ev]) ∧ Vals w' v r.1.vs ∧ ErrIs w' ev r.2.1 r.2.2 ∧ Below w.heap.size w w'
theorem placed_set4 {W : World} {bb b : Nat} {n p : Int} (hne : bb ≠ b) (hn : n ≠ 0) (g0 : W.cell? ⟨bb, 0, none⟩ = some (.int .i64 n)) (g1 : W.cell? ⟨bb, 1, none⟩ = some (.int .i64 p)) {x0 x1 x2 x3 : Value} :
    ErrIs ((((W.setCell ⟨b, 0, none⟩ x0).setCell ⟨b, 1, none⟩ x1).setCell ⟨b, 2, none⟩ x2).setCell ⟨b, 3, none⟩ x3) (.iface 75 (.pointer (some ⟨bb, 0, none⟩))) n p := by
  have hh : ((((W.setCell ⟨b, 0, none⟩ x0).setCell ⟨b, 1, none⟩ x1).setCell ⟨b, 2, none⟩ x2).setCell ⟨b, 3, none⟩ x3).heap[bb]? = W.heap[bb]? := by
    rw [setCell_heap_other hne, setCell_heap_other hne, setCell_heap_other hne, setCell_heap_other hne]
  refine .placed bb n p hn ?_ ?_
  · unfold World.cell? at g0 ⊢; simp only [hh]; exact g0
  · unfold World.cell? at g1 ⊢; simp only [hh]; exact g1
theorem make_none (op fl : Int) (vn vv : Value) (w : World) (hk : kindOf op = none) : Calls Tryz.prog 18 #[.int .i64 op, .int .i64 fl, vn, vv] w (RetHead w (hd0, 1, -1)) := by
  have hb0 := (Below.refl w.heap.size w).alloc (Nat.le_refl _) (.cells #[.int .i64 0, .bool false, .int .i64 0, .slice none 0 0] 24)
  have C := Lib.hid (fields_none hk (w.alloc (.cells #[.int .i64 0, .bool false, .int .i64 0, .slice none 0 0] 24)))
  have Hb0 := Lib.hid hb0
  clear hk hb0
  go_enter Tryz.func18, Tryz.ntmps18
  go_wp2_with fail
  refine C.out.mono ?_
  rintro e w1 ⟨rfl, hb⟩
  have hk1 := (Blk.new w #[.int .i64 0, .bool false, .int .i64 0, .slice none 0 0] 24).later hb
  obtain ⟨q0, q1, q2, q3⟩ := hk1.four
  have f0 := hk1.frozen 0
  have f1 := hk1.frozen 1
  have f2 := hk1.frozen 2
  have f3 := hk1.frozen 3
  have Hb := Lib.hid (below_then Hb0.out hb)
  have Hk1 := Lib.hid hk1
  clear hb hk1
  go_wp2_with fail
  refine bodyPost_ret (v := .tuple #[headV hd0 (.slice none 0 0), .iface 28 (.int .i64 1)]) (by simp [results, Tryz.results18, go_sem, headV, hd0, q0, q1, q2, q3]) rfl ⟨_, _, rfl, vals_nil _, .bare 1 (by decide), ?_⟩
  exact (four_stored _ _ _ _ Hk1.out (Nat.le_refl _) Hb.out).2
theorem fill_none {fs : List Fd} {ns : List (List UInt8)} {vs acc : List Nat} {j : Nat} (hj : j < ns.length) (h : idxName fs ns[j] = none) : fill fs (ns.drop j) (vs.drop j) acc = (acc, 5) := by
  rw [List.drop_eq_getElem_cons hj]; unfold fill; rw [h]
theorem fill_few {fs : List Fd} {ns : List (List UInt8)} {vs acc : List Nat} {j i : Nat} (hj : j < ns.length) (h : idxName fs ns[j] = some i) (hv : vs.length ≤ j) : fill fs (ns.drop j) (vs.drop j) acc = (acc, 7) := by
  rw [List.drop_eq_getElem_cons hj, List.drop_eq_nil_of_le hv]; unfold fill; rw [h]
theorem fill_step {fs : List Fd} {ns : List (List UInt8)} {vs acc : List Nat} {j i : Nat} (hj : j < ns.length) (h : idxName fs ns[j] = some i) (hv : j < vs.length) : fill fs (ns.drop j) (vs.drop j) acc = fill fs (ns.drop (j + 1)) (vs.drop (j + 1)) (acc.set i vs[j]) := by
  rw [List.drop_eq_getElem_cons hj, List.drop_eq_getElem_cons hv]; conv => lhs; unfold fill
  rw [h]
theorem fill_end {fs : List Fd} {ns : List (List UInt8)} {vs acc : List Nat} {j : Nat} (hj : ns.length ≤ j) : fill fs (ns.drop j) (vs.drop j) acc = (acc, 0) := by
  rw [List.drop_eq_nil_of_le hj]; rfl
theorem makeR_some {op fl : Int} {k : Kd} (ns : List (List UInt8)) (vs : List Nat) (hk : kindOf op = some k) {acc : List Nat} {e : Int} (hf : fill k.fs ns vs (List.replicate k.fs.length 0) = (acc, e)) :
    makeR op fl ns vs = if e ≠ 0 then (hd0, e, -1) else if (rightR ⟨op, false, fl, acc⟩).1 ≠ 0 then (hd0, rightR ⟨op, false, fl, acc⟩) else (⟨op, false, fl, acc⟩, 0, -1) := by
  unfold makeR
  rw [hk]
  simp only [hf]
set_option maxRecDepth 100000 in
set_option maxHeartbeats 1000000 in
theorem make_some (op fl : Int) (ns : List (List UInt8)) (vs : List Nat) (vn vv : Value) (k : Kd) (w : World) (hk : kindOf op = some k) (hfl : I64 fl) (hm : MaxCell w) (hn : StrV w vn ns) (hv : Vals w vv vs) (hln : ns.length ≤ 140737488355328) (hlv : vs.length ≤ 140737488355328) :
    Calls Tryz.prog 18 #[.int .i64 op, .int .i64 fl, vn, vv] w (RetHead w (makeR op fl ns vs)) := by
  have F := kindFacts hk
  have hl10 := F.len
  have hl1 := F.len0
  obtain ⟨pn, cn, rfl, hcn⟩ := hn
  obtain ⟨pv, cv, rfl, hx64, hcv⟩ := hv
  have hb00 := (Below.refl w.heap.size w).alloc (Nat.le_refl _) (.cells #[.int .i64 0, .bool false, .int .i64 0, .slice none 0 0] 24)
  have C := Lib.hid (fields_some hk _ (hm.later hb00))
  have MR := fun acc e hf => Lib.hid (makeR_some (op := op) (fl := fl) (acc := acc) (e := e) ns vs hk hf)
  have Hcn := Lib.hid hcn
  have Hcv := Lib.hid hcv
  have Hm := Lib.hid hm
  have Hb00 := Lib.hid hb00
  have hmk := fun w => run_make_U w k.fs.length (by omega)
  clear hk F hcn hcv hm hb00
  go_enter Tryz.func18, Tryz.ntmps18
  go_wp2_with fail
  refine C.out.mono ?_
  rintro e w1 ⟨b, rfl, hlb, hF, hb⟩
  have HK0 := Lib.hid ((Blk.new w #[.int .i64 0, .bool false, .int .i64 0, .slice none 0 0] 24).later hb)
  have hz : w.heap.size < w1.heap.size := HK0.out.lt
  have Hb1 := Lib.hid (below_then Hb00.out hb)
  have hbw1 : b < w1.heap.size := Blk.lt hF
  have HF := Lib.hid hF
  clear hb hF C
  go_wp2_with fail
  have hsz2 : (w1.alloc (.cells (cellsU (List.replicate k.fs.length 0)) 37)).heap.size = w1.heap.size + 1 := by simp
  have hN := (Blk.new w1 (cellsU (List.replicate k.fs.length 0)) 37).alloc (.cells #[.int .i64 op, .bool false, .int .i64 fl, .slice (some ⟨w1.heap.size, 0, none⟩) k.fs.length k.fs.length] 24)
  have hH := Blk.new (w1.alloc (.cells (cellsU (List.replicate k.fs.length 0)) 37)) #[.int .i64 op, .bool false, .int .i64 fl, .slice (some ⟨w1.heap.size, 0, none⟩) k.fs.length k.fs.length] 24
  rw [hsz2] at hH
  have hB4 := ((Below.refl w1.heap.size w1).alloc (Nat.le_refl _) (.cells (cellsU (List.replicate k.fs.length 0)) 37)).alloc (by simp) (.cells #[.int .i64 op, .bool false, .int .i64 fl, .slice (some ⟨w1.heap.size, 0, none⟩) k.fs.length k.fs.length] 24)
  generalize (w1.alloc (.cells (cellsU (List.replicate k.fs.length 0)) 37)).alloc (.cells #[.int .i64 op, .bool false, .int .i64 fl, .slice (some ⟨w1.heap.size, 0, none⟩) k.fs.length k.fs.length] 24) = w4 at hN hH hB4 ⊢
  have HN := Lib.hid hN
  have HH := Lib.hid hH
  have HB4 := Lib.hid hB4
  clear hN hH hB4 hsz2 hmk
  go_wp2_with fail
  go_loopw [34] (fun i wr => ∃ (j : Nat) (acc : List Nat), j ≤ ns.length ∧ i = .int .i64 j ∧ acc.length = k.fs.length ∧ (∀ x ∈ acc, x < 2 ^ 64) ∧ fill k.fs ns vs (List.replicate k.fs.length 0) = fill k.fs (ns.drop j) (vs.drop j) acc ∧
    Nums wr w1.heap.size acc ∧ Blk wr (w1.heap.size + 1) #[.int .i64 op, .bool false, .int .i64 fl, .slice (some ⟨w1.heap.size, 0, none⟩) k.fs.length k.fs.length] 24 ∧ Below w1.heap.size w1 wr) (fun i _ => ns.length - (intOf i).toNat)
  case atStart => exact ⟨0, _, by omega, rfl, List.length_replicate, fun x hx => by rw [List.eq_of_mem_replicate hx]; decide, rfl, HN.out, HH.out, HB4.out⟩
  case round =>
    obtain ⟨j, acc, hj, rfl, hal, hax, hfill, hNr, hHr, hBr⟩ := hrel
    have Hal := Lib.hid hal
    have Hfill := Lib.hid hfill
    have HNr := Lib.hid hNr
    have HHr := Lib.hid hHr
    have HBr := Lib.hid hBr
    have hBw : Below w.heap.size w wr := below_then Hb1.out hBr
    have HBw := Lib.hid hBw
    have hltN : w1.heap.size < wr.heap.size := Blk.lt hNr
    have hltH : w1.heap.size + 1 < wr.heap.size := Blk.lt hHr
    by_cases hlt : j < ns.length
    · obtain ⟨bn, on, rfl, hcl⟩ := Hcn.out (by omega)
      have hcj : wr.cell? ⟨bn, on + j, none⟩ = some (.string (S ns[j])) := by
        rw [(bcell hBw).1 bn (on + j) (block_lt_of_cell (w := w) (a := ⟨bn, on + j, none⟩) (hcl j hlt))]; exact hcl j hlt
      obtain ⟨nm, hnm⟩ : ∃ nm, ns[j] = nm := ⟨_, rfl⟩
      have N := Lib.hid (named_any k.fs nm b wr hl10 (Blk.below HF.out hBr hbw1))
      cases hi : idxName k.fs nm with
      | none =>
        have hfe := fill_none (fs := k.fs) (vs := vs) (acc := acc) hlt (by rw [hnm]; exact hi)
        have E := Lib.hid (MR acc 5 (by rw [hfill, hfe])).out
        rw [if_pos (by decide)] at E
        rw [idxI_none hi] at N
        rw [hnm] at hcj
        have Hnm := Lib.hid hnm
        clear hal hfill hNr hHr hBr hBw hnm hi hfe MR
        go_wp2_with fail
        refine N.out.mono ?_
        rintro e w5 ⟨rfl, hb5⟩
        have hk1 := ((Blk.below HK0.out HBr.out hz)).later hb5
        obtain ⟨q0, q1, q2, q3⟩ := hk1.four
        have f0 := hk1.frozen 0
        have f1 := hk1.frozen 1
        have f2 := hk1.frozen 2
        have f3 := hk1.frozen 3
        have Hk1 := Lib.hid hk1
        have B5 := Lib.hid (below_then HBw.out hb5)
        clear hb5 hk1
        go_wp2_with fail
        rw [E.out]
        refine bodyPost_ret (v := .tuple #[headV hd0 (.slice none 0 0), .iface 28 (.int .i64 5)]) (by simp [results, Tryz.results18, go_sem, headV, hd0, q0, q1, q2, q3]) rfl ⟨_, _, rfl, vals_nil _, .bare 5 (by decide), ?_⟩
        exact (four_stored _ _ _ _ Hk1.out (Nat.le_refl _) B5.out).2
      | some i =>
        have hil := idxName_lt hi
        rw [idxI_some hi] at N
        rw [hnm] at hcj
        by_cases hjv : j < vs.length
        · obtain ⟨bv, ov, rfl, hcl2⟩ := Hcv.out (by omega)
          obtain ⟨x, hx⟩ : ∃ x, vs[j] = x := ⟨_, rfl⟩
          have hx6 : x < 2 ^ 64 := by rw [← hx]; exact hx64 _ (List.getElem_mem _)
          have hfs := fill_step (fs := k.fs) (acc := acc) hlt (by rw [hnm]; exact hi) hjv
          rw [hx] at hfs
          have Hfs := Lib.hid (hfill.trans hfs)
          have hcv := hcl2 j hjv
          rw [hx] at hcv
          have Hcj2 := Lib.hid hcv
          have hjv' : ¬ vs.length ≤ j := by omega
          have Hnm := Lib.hid hnm
          clear hal hfill hNr hHr hBr hBw hnm hi hfs MR hcl hcl2 hx hcv
          go_wp2_with fail
          refine N.out.mono ?_
          rintro e w5 ⟨rfl, hb5⟩
          have hN5 := Blk.later HNr.out hb5
          have hH5 := Blk.later HHr.out hb5
          have hB5 := HBr.out.trans (hb5.mono (by omega))
          have hBw5 := below_then HBw.out hb5
          have c1 := hH5.four.2.2.2
          have cv : w5.cell? ⟨bv, ov + j, none⟩ = some (.int .u64 (x : Int)) := by
            rw [(bcell hBw5).1 bv (ov + j) (block_lt_of_cell (w := w) (a := ⟨bv, ov + j, none⟩) Hcj2.out)]; exact Hcj2.out
          have ci := (Blk.cell hN5 i).trans (cellsU_get acc i (by rw [Hal.out]; exact hil))
          have fi := Blk.frozen hN5 i
          have hst := Blk.set hN5 i (.int .u64 (x : Int))
          rw [cellsU_set] at hst
          have hst2 := Blk.other hH5 (b' := w1.heap.size) (i := i) (by omega) (.int .u64 (x : Int))
          have hbs := hB5.setCell (p := ⟨w1.heap.size, i, none⟩) (Nat.le_refl _) (.int .u64 (x : Int))
          have Hst := Lib.hid hst
          have Hst2 := Lib.hid hst2
          have Hbs := Lib.hid hbs
          clear hb5 hN5 hH5 hB5 hBw5 hst hst2 hbs hcj
          go_wp2_with fail
          refine wp_region_still_tail 8 (by kernel_rfl) (by kernel_rfl) ?_
          simp only [List.take_succ_cons, List.take_zero, List.drop_succ_cons, List.drop_zero]
          change wpStill _ _ w5.drew _ _ _
          repeat still_step
          refine wpStill_nil ?_
          change wpList _ _ _ _ _ w5.drew
          go_wp2_with fail
          go_roundw
          case rel => exact ⟨j + 1, acc.set i x, by omega, by go_num, by rw [List.length_set]; exact Hal.out, fun y hy => by
            rcases List.mem_or_eq_of_mem_set hy with h | h
            · exact hax y h
            · rw [h]; exact hx6, Hfs.out, Hst.out, Hst2.out, Hbs.out.drew⟩
          case measure => simp [intOf]; omega
        · have hjv' : vs.length ≤ j := by omega
          have hfe := fill_few (fs := k.fs) (acc := acc) hlt (by rw [hnm]; exact hi) hjv'
          have E := Lib.hid (MR acc 7 (by rw [hfill, hfe])).out
          rw [if_pos (by decide)] at E
          have Hnm := Lib.hid hnm
          clear hal hfill hNr hHr hBr hBw hnm hi hfe MR hcl
          go_wp2_with fail
          refine N.out.mono ?_
          rintro e w5 ⟨rfl, hb5⟩
          have hk1 := ((Blk.below HK0.out HBr.out hz)).later hb5
          obtain ⟨q0, q1, q2, q3⟩ := hk1.four
          have f0 := hk1.frozen 0
          have f1 := hk1.frozen 1
          have f2 := hk1.frozen 2
          have f3 := hk1.frozen 3
          have Hk1 := Lib.hid hk1
          have B5 := Lib.hid (below_then HBw.out hb5)
          clear hb5 hk1
          go_wp2_with fail
          rw [E.out]
          refine bodyPost_ret (v := .tuple #[headV hd0 (.slice none 0 0), .iface 28 (.int .i64 7)]) (by simp [results, Tryz.results18, go_sem, headV, hd0, q0, q1, q2, q3]) rfl ⟨_, _, rfl, vals_nil _, .bare 7 (by decide), ?_⟩
          exact (four_stored _ _ _ _ Hk1.out (Nat.le_refl _) B5.out).2
    · have hfe := fill_end (fs := k.fs) (ns := ns) (vs := vs) (acc := acc) (j := j) (by omega)
      have E := MR acc 0 (by rw [hfill, hfe])
      have E := Lib.hid E.out
      rw [if_neg (by decide)] at E
      have hvals : Vals wr (.slice (some ⟨w1.heap.size, 0, none⟩) k.fs.length k.fs.length) acc := by
        have := Nums.vals HNr.out hax
        rwa [hal] at this
      have R := right_any ⟨op, false, fl, acc⟩ (.slice (some ⟨w1.heap.size, 0, none⟩) k.fs.length k.fs.length) wr hfl (Hm.out.later hBw) hvals (by simp only; omega)
      obtain ⟨⟨r1, r2⟩, hr⟩ : ∃ r, rightR ⟨op, false, fl, acc⟩ = r := ⟨_, rfl⟩
      rw [hr] at E R
      unfold headV at R
      simp only at R E
      have RR := Lib.hid R
      have Hvals := Lib.hid hvals
      obtain ⟨h0, h1, h2, h3⟩ := HHr.out.four
      clear hal hfill hNr hHr hBr hBw hfe MR R hr hvals
      go_wp2_with fail
      refine RR.out.mono ?_
      rintro e w5 ⟨ev, rfl, he, hb5⟩
      have hH5 := Blk.later HHr.out hb5
      have hV5 := Vals.later Hvals.out hb5
      have hk1 := ((Blk.below HK0.out HBr.out hz)).later hb5
      clear h0 h1 h2 h3
      obtain ⟨h0, h1, h2, h3⟩ := hH5.four
      obtain ⟨q0, q1, q2, q3⟩ := hk1.four
      have f0 := hk1.frozen 0
      have f1 := hk1.frozen 1
      have f2 := hk1.frozen 2
      have f3 := hk1.frozen 3
      have Hk1 := Lib.hid hk1
      have V5 := Lib.hid hV5
      have B5 := Lib.hid (below_then HBw.out hb5)
      have He := Lib.hid he
      clear hb5 hk1 hH5 hV5
      simp only at he
      cases he with
      | good =>
        rw [if_neg (by decide)] at E
        go_wp2_with fail
        rw [E.out]
        obtain ⟨g1, g2⟩ := four_stored (.int .i64 op) (.bool false) (.int .i64 fl) (.slice (some ⟨w1.heap.size, 0, none⟩) k.fs.length k.fs.length) Hk1.out (Nat.le_refl _) B5.out
        refine bodyPost_ret (v := .tuple #[headV ⟨op, false, fl, acc⟩ (.slice (some ⟨w1.heap.size, 0, none⟩) k.fs.length k.fs.length), .nilIface]) (by simp [results, Tryz.results18, go_sem, headV, q0, q1, q2, q3]) rfl ⟨_, _, rfl, ?_, .good, g2⟩
        exact vals_set4 V5.out _ hz
      | bare _ hn =>
        rw [if_pos hn] at E
        go_wp2_with fail
        rw [E.out]
        refine bodyPost_ret (v := .tuple #[headV hd0 (.slice none 0 0), .iface 28 (.int .i64 r1)]) (by simp [results, Tryz.results18, go_sem, headV, hd0, q0, q1, q2, q3]) rfl ⟨_, _, rfl, vals_nil _, .bare r1 hn, ?_⟩
        exact (four_stored _ _ _ _ Hk1.out (Nat.le_refl _) B5.out).2
      | placed bb _ _ hn g0 g1 =>
        rw [if_pos hn] at E
        have hbb : bb ≠ w.heap.size := fun e => by rw [e, q1] at g1; cases g1
        have Hbb := Lib.hid hbb
        have G0 := Lib.hid g0
        have G1 := Lib.hid g1
        clear hbb g0 g1
        go_wp2_with fail
        rw [E.out]
        refine bodyPost_ret (v := .tuple #[headV hd0 (.slice none 0 0), .iface 75 (.pointer (some ⟨bb, 0, none⟩))]) (by simp [results, Tryz.results18, go_sem, headV, hd0, q0, q1, q2, q3]) rfl ⟨_, _, rfl, vals_nil _, ?_, ?_⟩
        · exact placed_set4 Hbb.out hn G0.out G1.out
        · exact (four_stored _ _ _ _ Hk1.out (Nat.le_refl _) B5.out).2
theorem make_any (op fl : Int) (ns : List (List UInt8)) (vs : List Nat) (vn vv : Value) (w : World) (hfl : I64 fl) (hm : MaxCell w) (hn : StrV w vn ns) (hv : Vals w vv vs) (hln : ns.length ≤ 140737488355328) (hlv : vs.length ≤ 140737488355328) :
    Calls Tryz.prog 18 #[.int .i64 op, .int .i64 fl, vn, vv] w (RetHead w (makeR op fl ns vs)) := by
  cases hk : kindOf op with
  | none =>
    have e : makeR op fl ns vs = (hd0, 1, -1) := by unfold makeR; rw [hk]
    rw [e]
    exact make_none op fl vn vv w hk
  | some k => exact make_some op fl ns vs vn vv k w hk hfl hm hn hv hln hlv
end Go.Proofs.YtffdlchoaaakdaaGreatDoor
