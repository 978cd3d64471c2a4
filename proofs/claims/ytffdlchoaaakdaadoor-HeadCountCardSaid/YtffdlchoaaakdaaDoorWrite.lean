/- head.Write. -/
import Derived.Test.YtffdlchoaaakdaaDoorRight2
import Derived.Test.YtffdlchoaaakdaaDoorPut
import Derived.Test.YtffdlchoaaakdaaDoorHBase
import Derived.Test.YtffdlchoaaakdaaDoorBase2
import Derived.StillTailTactics
namespace Go.Proofs.YtffdlchoaaakdaaDoor
open Go.RowKit
theorem writeR_bad {h : Hd} {words data : Int} (hr : (rightR h).1 ≠ 0) : writeR h words data = ([], rightR h) := by unfold writeR; simp only [hr, ne_eq, not_false_eq_true, if_true]
theorem write_bad (h : Hd) (v : Value) (words data : Int) (w : World) (hfl : I64 h.fl) (hm : MaxCell w) (hv : Vals w v h.vs) (hll : h.vs.length ≤ 9223372036854775807) (hr : (rightR h).1 ≠ 0) :
    Calls Tryd.prog 19 #[headV h v, .int .i64 words, .int .i64 data] w (RetSE w (writeR h words data)) := by
  rw [writeR_bad hr]
  have hb0 := (Below.refl w.heap.size w).alloc (Nat.le_refl _) (.cells #[.int .i64 h.op, .bool h.now, .int .i64 h.fl, v] 24)
  have C := Lib.hid (right_any h v _ hfl (hm.later hb0) (hv.later hb0) hll)
  have Hb0 := Lib.hid hb0
  clear hb0 hm hv
  obtain ⟨⟨r1, r2⟩, hrr⟩ : ∃ r, rightR h = r := ⟨_, rfl⟩
  rw [hrr] at C hr ⊢
  clear hrr
  simp only at hr
  have Hr := Lib.hid hr
  clear hr
  unfold headV
  go_enter Tryd.func19, Tryd.ntmps19
  go_wp2_with fail
  refine C.out.mono ?_
  rintro e w1 ⟨ev, rfl, he, hb⟩
  have Hb := Lib.hid (below_then Hb0.out hb)
  clear hb
  have He := Lib.hid he
  cases he with
  | good => exact absurd rfl Hr.out
  | bare n hn =>
    go_wp2_with fail
    go_ret2
    exact ⟨_, rfl, He.out, Hb.out⟩
  | placed b n p hn h0 h1 =>
    go_wp2_with fail
    go_ret2
    exact ⟨_, rfl, He.out, Hb.out⟩
theorem write_limit (h : Hd) (v : Value) (words data : Int) (w : World) (hfl : I64 h.fl) (hm : MaxCell w) (hv : Vals w v h.vs) (hll : h.vs.length ≤ 9223372036854775807) (hr : rightR h = (0, -1))
    (hlim : words < 0 ∨ 255 < words ∨ data < 0 ∨ 16777215 < data) :
    Calls Tryd.prog 19 #[headV h v, .int .i64 words, .int .i64 data] w (RetSE w ([], 4, -1)) := by
  have hb0 := (Below.refl w.heap.size w).alloc (Nat.le_refl _) (.cells #[.int .i64 h.op, .bool h.now, .int .i64 h.fl, v] 24)
  have C0 := right_any h v _ hfl (hm.later hb0) (hv.later hb0) hll
  rw [hr] at C0
  have C := Lib.hid C0
  clear C0
  have Hb0 := Lib.hid hb0
  clear hb0 hm hv hr
  unfold headV
  have hcase : words < 0 ∨ (0 ≤ words ∧ 255 < words) ∨ (0 ≤ words ∧ words ≤ 255 ∧ data < 0) ∨ (0 ≤ words ∧ words ≤ 255 ∧ 0 ≤ data ∧ 16777215 < data) := by omega
  clear hlim
  rcases hcase with h1 | ⟨h1, h2⟩ | ⟨h1, h2, h3⟩ | ⟨h1, h2, h3, h4⟩
  all_goals
    go_enter Tryd.func19, Tryd.ntmps19
    go_wp2_with fail
    refine C.out.mono ?_
    rintro e w1 ⟨ev, rfl, he, hb⟩
    have Hb := Lib.hid (below_then Hb0.out hb)
    clear hb
    obtain rfl := he.zero
    clear he
    go_wp2_with fail
    go_ret2
    exact ⟨_, rfl, .bare 4 (by decide), Hb.out⟩
theorem run_slice48 (b : Nat) (f : Fd) (h1 : f.pos + f.sz ≤ 48) (h2 : 1 ≤ f.sz) (w : World) :
    (Instr.sliceAt 83 (.pointer (some ⟨b, 0, none⟩)) (some (.int .i64 (f.pos : Int))) (some (.int .i64 ((f.pos : Int) + f.sz))) none).run Tryd.prog w = .ok (.slice (some ⟨b, f.pos, none⟩) f.sz (48 - f.pos)) w := by
  have ha : Tryd.prog.arrayLen 83 = 48 := by kernel_rfl
  have hu : Tryd.prog.underlying 83 = some (.array (Tryd.prog.arrayLen 83) (Tryd.prog.elem 83)) := by kernel_rfl
  have hs : ∀ w, (sizeOf (Tryd.prog.elem 83)).run Tryd.prog w = .ok 1 w := fun w => by kernel_rfl
  rw [run_sliceAt_array_lh w 83 ⟨b, 0, none⟩ hu .i64 .i64 _ _ (by omega) (by omega) (by rw [ha]; omega), hs]
  have e1 : ((f.pos : Int) + f.sz).toNat = f.pos + f.sz := by omega
  have e2 : ¬ 48 = f.pos := by omega
  simp only [Result.andThen, slicedAt, ha, e1, Int.toNat_natCast, Nat.mul_one, if_neg e2, Addr.add, Nat.zero_add]
  rw [show f.pos + f.sz - f.pos = f.sz by omega]
  split
  · rename_i h0; rw [h0]
  · rfl
set_option maxRecDepth 100000 in
set_option maxHeartbeats 1000000 in
theorem write_ok (h : Hd) (v : Value) (words data : Nat) (w : World) (hfl : I64 h.fl) (hm : MaxCell w) (hv : Vals w v h.vs) (hll : h.vs.length ≤ 9223372036854775807) (hr : rightR h = (0, -1))
    (hw : words ≤ 255) (hd : data ≤ 16777215) :
    Calls Tryd.prog 19 #[headV h v, .int .i64 (words : Int), .int .i64 (data : Int)] w (RetSE w (headB h words data, 0, -1)) := by
  obtain ⟨k, hk, hnow, hok, hlen, hbad⟩ := rightR_good hr
  have F := kindFacts hk
  have hop := kindOf_range hk
  have hflb := flOk_bd F.fl hok
  have hb0 := (Below.refl w.heap.size w).alloc (Nat.le_refl _) (.cells #[.int .i64 h.op, .bool h.now, .int .i64 h.fl, v] 24)
  have C0 := right_any h v _ hfl (hm.later hb0) (hv.later hb0) hll
  rw [hr] at C0
  have C := Lib.hid C0
  clear C0
  have Hb0 := Lib.hid hb0
  have Hm := Lib.hid (hm.later hb0)
  have L := fun w hm => Lib.hid (fields_some hk w hm)
  have hgood := Lib.hid (badVal_good hbad)
  have Hhead := Lib.hid (headB_eq hk words data)
  have Hlen48 := Lib.hid (headB_len hk words data)
  obtain ⟨op, now, fl, vs⟩ := h
  obtain ⟨p, c, rfl, hx, hcell⟩ := hv
  simp only at *
  obtain ⟨bv, ov, rfl, hcv⟩ := hcell (by have := F.len0; omega)
  have hl10 := F.len
  have hl1 := F.len0
  have Fok := Lib.hid F.fok
  have Hlen := Lib.hid hlen
  have Hcv := Lib.hid hcv
  have hbv : bv < w.heap.size := block_lt_of_cell (w := w) (a := ⟨bv, ov + 0, none⟩) (hcv 0 (by omega))
  have hvl : vs.length ≤ 10 := by omega
  clear hr hk hb0 hm hcell hcv hlen hbad hok hnow F hll
  unfold headV
  simp only
  have hA : (#[Value.int IntKind.u8 0, Value.int IntKind.u8 0, Value.int IntKind.u8 0, Value.int IntKind.u8 0, Value.int IntKind.u8 0, Value.int IntKind.u8 0, Value.int IntKind.u8 0, Value.int IntKind.u8 0, Value.int IntKind.u8 0, Value.int IntKind.u8 0, Value.int IntKind.u8 0, Value.int IntKind.u8 0, Value.int IntKind.u8 0, Value.int IntKind.u8 0, Value.int IntKind.u8 0, Value.int IntKind.u8 0, Value.int IntKind.u8 0, Value.int IntKind.u8 0, Value.int IntKind.u8 0, Value.int IntKind.u8 0, Value.int IntKind.u8 0, Value.int IntKind.u8 0, Value.int IntKind.u8 0, Value.int IntKind.u8 0, Value.int IntKind.u8 0, Value.int IntKind.u8 0, Value.int IntKind.u8 0, Value.int IntKind.u8 0, Value.int IntKind.u8 0, Value.int IntKind.u8 0, Value.int IntKind.u8 0, Value.int IntKind.u8 0, Value.int IntKind.u8 0, Value.int IntKind.u8 0, Value.int IntKind.u8 0, Value.int IntKind.u8 0, Value.int IntKind.u8 0, Value.int IntKind.u8 0, Value.int IntKind.u8 0, Value.int IntKind.u8 0, Value.int IntKind.u8 0, Value.int IntKind.u8 0, Value.int IntKind.u8 0, Value.int IntKind.u8 0, Value.int IntKind.u8 0, Value.int IntKind.u8 0, Value.int IntKind.u8 0, Value.int IntKind.u8 0] : Array Value) = cells8 (zs 48) := rfl
  have hN := base0_now op fl vs hop.1 hop.2 hflb.1 hflb.2
  have hL := base0_later op fl vs hop.1 hop.2 hflb.1 hflb.2
  obtain ⟨base, hbase⟩ : ∃ l, baseB ⟨op, now, fl, vs⟩ words data = l := ⟨_, rfl⟩
  have hblen : base.length = 48 := by rw [← hbase]; exact baseB_len _ _ _
  rw [hbase] at Hhead
  obtain ⟨b0, hb0⟩ : ∃ l, base0 ⟨op, now, fl, vs⟩ = l := ⟨_, rfl⟩
  have h0len : b0.length = 48 := by rw [← hb0]; exact base0_len _
  have Hbs := Lib.hid (base_splice ⟨op, now, fl, vs⟩ words data)
  rw [hb0, hbase] at Hbs
  clear hbase
  cases now with
  | true =>
    rw [hb0] at hN
    clear hL hb0
    go_enter Tryd.func19, Tryd.ntmps19
    go_wp2_with fail
    refine C.out.mono ?_
    rintro e w1 ⟨ev, rfl, he, hb⟩
    obtain rfl := he.zero
    clear he
    obtain ⟨q0, q1, q2, q3⟩ := ((Blk.new w #[.int .i64 op, .bool true, .int .i64 fl, .slice (some ⟨bv, ov, none⟩) vs.length c] 24).later hb).four
    have L2 := Lib.hid (L _ (Hm.out.later hb)).out
    have Hb := Lib.hid (below_then Hb0.out hb)
    have hz : w.heap.size < w1.heap.size := by have := hb.size; simp at this; omega
    clear hb L
    go_wp2_with fail
    refine L2.out.mono ?_
    rintro e w2 ⟨b, rfl, hlb, hF, hb2⟩
    obtain ⟨hc2, hf2⟩ := bcell hb2
    have hz2 : w.heap.size < w2.heap.size := by have := hb2.size; omega
    have Hb2 := Lib.hid (below_then Hb.out hb2)
    have HF := Lib.hid hF
    have P1 := Lib.hid (put1_any b0 w2.heap.size 4 1 44 words 83 (w2.alloc (.cells (cells8 b0) 83)) (Blk.new _ _ _) (by decide) (by omega) (Nat.div_eq_of_lt (by omega)) w2.heap.size w2 ((Below.refl _ _).alloc (Nat.le_refl _) _) (Nat.le_refl _))
    have Hc3 := Lib.hid ((hc2 w.heap.size 3 hz).trans q3)
    clear hb2 hF L2
    go_wp2_with fail
    refine P1.out.mono ?_
    rintro e w3 ⟨rfl, hk3, hb3⟩
    have P2 := Lib.hid (put1_any _ w2.heap.size 5 3 43 data 83 w3 hk3 (by decide) (by rw [splice_len (by rw [be_len]; omega)]; omega) (Nat.div_eq_of_lt (by omega)) w2.heap.size w2 hb3 (Nat.le_refl _))
    rw [Hbs.out] at P2
    clear hk3 hb3 q0 q1 q2 q3 hc2 hf2 hN P1 hA
    go_wp2_with fail
    refine P2.out.mono ?_
    rintro e w4 ⟨rfl, hk4, hb4⟩
    have Hk4 := Lib.hid hk4
    have Hb4 := Lib.hid hb4
    clear hk4 hb4 P2
    go_wp2_with fail
    go_loopw [64] (fun i wr => ∃ j : Nat, j ≤ k.fs.length ∧ i = .int .i64 j ∧ Blk wr w2.heap.size (cells8 (putN k.fs vs base j)) 83 ∧ Below w2.heap.size w2 wr) (fun i _ => k.fs.length - (intOf i).toNat)
    case atStart => exact ⟨0, by omega, rfl, Hk4.out, Hb4.out⟩
    case round =>
      obtain ⟨j, hj, rfl, hkr, hbr⟩ := hrel
      have Hkr := Lib.hid hkr
      have Hbr := Lib.hid hbr
      by_cases hlt : j < k.fs.length
      · obtain ⟨q0, q1, q2⟩ := Flds.get (Blk.below HF.out hbr HF.out.lt) j hlt
        have hltF : b < wr.heap.size := Nat.lt_of_lt_of_le (Blk.lt HF.out) hbr.size
        have hltB : w2.heap.size < wr.heap.size := hkr.lt
        have hjv : j < vs.length := by rw [Hlen.out]; exact hlt
        have hc3 := (bcell hbr).1 w.heap.size 3 hz2
        rw [Hc3.out] at hc3
        have hzr : w.heap.size < wr.heap.size := Nat.lt_trans hz2 hltB
        have hbvr : bv < wr.heap.size := by omega
        have hcj : wr.cell? ⟨bv, ov + j, none⟩ = some (.int .u64 (vs[j] : Int)) := by
          rw [(bcell (below_then Hb2.out hbr)).1 bv (ov + j) hbv]; exact Hcv.out j hjv
        have hstep := putN_step k.fs vs base j hlt hjv
        have hfit := hgood.out j hlt hjv
        obtain ⟨f, hf⟩ : ∃ f, k.fs[j] = f := ⟨_, rfl⟩
        obtain ⟨x, hxj⟩ : ∃ x, vs[j] = x := ⟨_, rfl⟩
        obtain ⟨o1, o2, o3, o4, o5, o6⟩ := Fok.out f (by rw [← hf]; exact List.getElem_mem _)
        have hx64 : x < 2 ^ 64 := by rw [← hxj]; exact hx _ (List.getElem_mem _)
        rw [hf] at q0 q1 q2 hstep hfit
        rw [hxj] at hcj hstep hfit
        have hpl : (putN k.fs vs base j).length = 48 := by rw [putN_len (fun g hg => by rw [hblen]; exact (Fok.out g hg).2.1), hblen]
        have hba := hbr.alloc hbr.size (.cells #[.string (S f.nm), .int .i64 (f.pos : Int), .int .i64 (f.sz : Int)] 49)
        have P := fun n c' => Lib.hid (put1_any (putN k.fs vs base j) w2.heap.size f.pos f.sz c' x 83 ((wr.alloc (.cells #[.string (S f.nm), .int .i64 (f.pos : Int), .int .i64 (f.sz : Int)] 49)).drewN n) ((hkr.alloc _).drewN n) o4 (by omega) hfit w2.heap.size w2 (below_drewN hba n) (Nat.le_refl _))
        have HS := Lib.hid hstep
        have Hpl := Lib.hid hpl
        have e1 : IntKind.i64.wrap ((f.pos : Int) + (f.sz : Int)) = (f.pos : Int) + f.sz := IntWalk.i64_in _ (by omega)
        have e2 : ((f.pos : Int) + (f.sz : Int)).toNat = f.pos + f.sz := by omega
        have e3 : (0 : Int) ≤ (f.pos : Int) + (f.sz : Int) := by omega
        clear hbr hf hxj o6 hkr hstep hfit hpl hba
        go_wp2_with fail
        have c1 : (wr.alloc (.cells #[.string (S f.nm), .int .i64 (f.pos : Int), .int .i64 (f.sz : Int)] 49)).cell? ⟨w.heap.size, 3, none⟩ = some (.slice (some ⟨bv, ov, none⟩) vs.length c) := (World.cell?_alloc_lt _ _ ⟨w.heap.size, 3, none⟩ hzr).trans hc3
        have c2 : (wr.alloc (.cells #[.string (S f.nm), .int .i64 (f.pos : Int), .int .i64 (f.sz : Int)] 49)).cell? ⟨bv, ov + j, none⟩ = some (.int .u64 (x : Int)) := (World.cell?_alloc_lt _ _ ⟨bv, ov + j, none⟩ hbvr).trans hcj
        obtain ⟨c3, c4, c5⟩ := (Blk.new wr #[.string (S f.nm), .int .i64 (f.pos : Int), .int .i64 (f.sz : Int)] 49).three
        clear q0 q1 q2 hc3 hcj
        generalize hW5 : wr.alloc (.cells #[.string (S f.nm), .int .i64 (f.pos : Int), .int .i64 (f.sz : Int)] 49) = W5 at c1 c2 c3 c4 c5 P ⊢
        clear hW5
        have P1 := P 1 (48 - f.pos)
        have hsl := run_slice48 w2.heap.size f o2 o3
        clear P
        refine wp_region_still_tail 13 (by kernel_rfl) (by kernel_rfl) ?_
        simp only [List.take_succ_cons, List.take_zero, List.drop_succ_cons, List.drop_zero]
        change wpStill _ _ W5.drew _ _ _
        repeat still_step
        refine wpStill_nil ?_
        change wpList _ _ _ _ _ W5.drew
        go_wp2_with fail
        refine P1.out.mono ?_
        rintro e w6 ⟨rfl, hk6, hb6⟩
        rw [HS.out] at hk6
        have Hk6 := Lib.hid hk6
        have Hb6 := Lib.hid hb6
        clear hk6 hb6
        go_wp2_with fail
        go_roundw
        case rel => exact ⟨j + 1, by omega, by go_num, Hk6.out, Hb6.out⟩
        case measure => simp [intOf]; omega
      · have hjn : j = k.fs.length := by omega
        rw [hjn, putN_all k.fs vs base Hlen.out, ← Hhead.out] at hkr
        obtain ⟨l, hl⟩ : ∃ l, headB ⟨op, true, fl, vs⟩ words data = l := ⟨_, rfl⟩
        rw [hl] at hkr Hlen48
        have hcv2 := run_string_cells (P := Tryd.prog) 61 9 5 Tryd.underlying61 Tryd.underlying5 Tryd.underlying9 (W := wr) (b := w2.heap.size) (l := l) (fun i => Blk.cell hkr i) 48 48 (by rw [Hlen48.out]; exact Nat.le_refl _)
        rw [List.take_of_length_le (by rw [Hlen48.out]; exact Nat.le_refl _)] at hcv2
        have Hl := Lib.hid hl
        clear hbr hkr hjn hl
        go_wp2_with fail
        go_ret2
        exact ⟨_, by rw [Hl.out]; rfl, .good, below_then Hb2.out Hbr.out⟩
  | false =>
    rw [hb0] at hL
    clear hN hb0
    go_enter Tryd.func19, Tryd.ntmps19
    go_wp2_with fail
    refine C.out.mono ?_
    rintro e w1 ⟨ev, rfl, he, hb⟩
    obtain rfl := he.zero
    clear he
    obtain ⟨q0, q1, q2, q3⟩ := ((Blk.new w #[.int .i64 op, .bool false, .int .i64 fl, .slice (some ⟨bv, ov, none⟩) vs.length c] 24).later hb).four
    have L2 := Lib.hid (L _ (Hm.out.later hb)).out
    have Hb := Lib.hid (below_then Hb0.out hb)
    have hz : w.heap.size < w1.heap.size := by have := hb.size; simp at this; omega
    clear hb L
    go_wp2_with fail
    refine L2.out.mono ?_
    rintro e w2 ⟨b, rfl, hlb, hF, hb2⟩
    obtain ⟨hc2, hf2⟩ := bcell hb2
    have hz2 : w.heap.size < w2.heap.size := by have := hb2.size; omega
    have Hb2 := Lib.hid (below_then Hb.out hb2)
    have HF := Lib.hid hF
    have P1 := Lib.hid (put1_any b0 w2.heap.size 4 1 44 words 83 (w2.alloc (.cells (cells8 b0) 83)) (Blk.new _ _ _) (by decide) (by omega) (Nat.div_eq_of_lt (by omega)) w2.heap.size w2 ((Below.refl _ _).alloc (Nat.le_refl _) _) (Nat.le_refl _))
    have Hc3 := Lib.hid ((hc2 w.heap.size 3 hz).trans q3)
    clear hb2 hF L2
    go_wp2_with fail
    refine P1.out.mono ?_
    rintro e w3 ⟨rfl, hk3, hb3⟩
    have P2 := Lib.hid (put1_any _ w2.heap.size 5 3 43 data 83 w3 hk3 (by decide) (by rw [splice_len (by rw [be_len]; omega)]; omega) (Nat.div_eq_of_lt (by omega)) w2.heap.size w2 hb3 (Nat.le_refl _))
    rw [Hbs.out] at P2
    clear hk3 hb3 q0 q1 q2 q3 hc2 hf2 hL P1 hA
    go_wp2_with fail
    refine P2.out.mono ?_
    rintro e w4 ⟨rfl, hk4, hb4⟩
    have Hk4 := Lib.hid hk4
    have Hb4 := Lib.hid hb4
    clear hk4 hb4 P2
    go_wp2_with fail
    go_loopw [64] (fun i wr => ∃ j : Nat, j ≤ k.fs.length ∧ i = .int .i64 j ∧ Blk wr w2.heap.size (cells8 (putN k.fs vs base j)) 83 ∧ Below w2.heap.size w2 wr) (fun i _ => k.fs.length - (intOf i).toNat)
    case atStart => exact ⟨0, by omega, rfl, Hk4.out, Hb4.out⟩
    case round =>
      obtain ⟨j, hj, rfl, hkr, hbr⟩ := hrel
      have Hkr := Lib.hid hkr
      have Hbr := Lib.hid hbr
      by_cases hlt : j < k.fs.length
      · obtain ⟨q0, q1, q2⟩ := Flds.get (Blk.below HF.out hbr HF.out.lt) j hlt
        have hltF : b < wr.heap.size := Nat.lt_of_lt_of_le (Blk.lt HF.out) hbr.size
        have hltB : w2.heap.size < wr.heap.size := hkr.lt
        have hjv : j < vs.length := by rw [Hlen.out]; exact hlt
        have hc3 := (bcell hbr).1 w.heap.size 3 hz2
        rw [Hc3.out] at hc3
        have hzr : w.heap.size < wr.heap.size := Nat.lt_trans hz2 hltB
        have hbvr : bv < wr.heap.size := by omega
        have hcj : wr.cell? ⟨bv, ov + j, none⟩ = some (.int .u64 (vs[j] : Int)) := by
          rw [(bcell (below_then Hb2.out hbr)).1 bv (ov + j) hbv]; exact Hcv.out j hjv
        have hstep := putN_step k.fs vs base j hlt hjv
        have hfit := hgood.out j hlt hjv
        obtain ⟨f, hf⟩ : ∃ f, k.fs[j] = f := ⟨_, rfl⟩
        obtain ⟨x, hxj⟩ : ∃ x, vs[j] = x := ⟨_, rfl⟩
        obtain ⟨o1, o2, o3, o4, o5, o6⟩ := Fok.out f (by rw [← hf]; exact List.getElem_mem _)
        have hx64 : x < 2 ^ 64 := by rw [← hxj]; exact hx _ (List.getElem_mem _)
        rw [hf] at q0 q1 q2 hstep hfit
        rw [hxj] at hcj hstep hfit
        have hpl : (putN k.fs vs base j).length = 48 := by rw [putN_len (fun g hg => by rw [hblen]; exact (Fok.out g hg).2.1), hblen]
        have hba := hbr.alloc hbr.size (.cells #[.string (S f.nm), .int .i64 (f.pos : Int), .int .i64 (f.sz : Int)] 49)
        have P := fun n c' => Lib.hid (put1_any (putN k.fs vs base j) w2.heap.size f.pos f.sz c' x 83 ((wr.alloc (.cells #[.string (S f.nm), .int .i64 (f.pos : Int), .int .i64 (f.sz : Int)] 49)).drewN n) ((hkr.alloc _).drewN n) o4 (by omega) hfit w2.heap.size w2 (below_drewN hba n) (Nat.le_refl _))
        have HS := Lib.hid hstep
        have Hpl := Lib.hid hpl
        have e1 : IntKind.i64.wrap ((f.pos : Int) + (f.sz : Int)) = (f.pos : Int) + f.sz := IntWalk.i64_in _ (by omega)
        have e2 : ((f.pos : Int) + (f.sz : Int)).toNat = f.pos + f.sz := by omega
        have e3 : (0 : Int) ≤ (f.pos : Int) + (f.sz : Int) := by omega
        clear hbr hf hxj o6 hkr hstep hfit hpl hba
        go_wp2_with fail
        have c1 : (wr.alloc (.cells #[.string (S f.nm), .int .i64 (f.pos : Int), .int .i64 (f.sz : Int)] 49)).cell? ⟨w.heap.size, 3, none⟩ = some (.slice (some ⟨bv, ov, none⟩) vs.length c) := (World.cell?_alloc_lt _ _ ⟨w.heap.size, 3, none⟩ hzr).trans hc3
        have c2 : (wr.alloc (.cells #[.string (S f.nm), .int .i64 (f.pos : Int), .int .i64 (f.sz : Int)] 49)).cell? ⟨bv, ov + j, none⟩ = some (.int .u64 (x : Int)) := (World.cell?_alloc_lt _ _ ⟨bv, ov + j, none⟩ hbvr).trans hcj
        obtain ⟨c3, c4, c5⟩ := (Blk.new wr #[.string (S f.nm), .int .i64 (f.pos : Int), .int .i64 (f.sz : Int)] 49).three
        clear q0 q1 q2 hc3 hcj
        generalize hW5 : wr.alloc (.cells #[.string (S f.nm), .int .i64 (f.pos : Int), .int .i64 (f.sz : Int)] 49) = W5 at c1 c2 c3 c4 c5 P ⊢
        clear hW5
        have P1 := P 1 (48 - f.pos)
        have hsl := run_slice48 w2.heap.size f o2 o3
        clear P
        refine wp_region_still_tail 13 (by kernel_rfl) (by kernel_rfl) ?_
        simp only [List.take_succ_cons, List.take_zero, List.drop_succ_cons, List.drop_zero]
        change wpStill _ _ W5.drew _ _ _
        repeat still_step
        refine wpStill_nil ?_
        change wpList _ _ _ _ _ W5.drew
        go_wp2_with fail
        refine P1.out.mono ?_
        rintro e w6 ⟨rfl, hk6, hb6⟩
        rw [HS.out] at hk6
        have Hk6 := Lib.hid hk6
        have Hb6 := Lib.hid hb6
        clear hk6 hb6
        go_wp2_with fail
        go_roundw
        case rel => exact ⟨j + 1, by omega, by go_num, Hk6.out, Hb6.out⟩
        case measure => simp [intOf]; omega
      · have hjn : j = k.fs.length := by omega
        rw [hjn, putN_all k.fs vs base Hlen.out, ← Hhead.out] at hkr
        obtain ⟨l, hl⟩ : ∃ l, headB ⟨op, false, fl, vs⟩ words data = l := ⟨_, rfl⟩
        rw [hl] at hkr Hlen48
        have hcv2 := run_string_cells (P := Tryd.prog) 61 9 5 Tryd.underlying61 Tryd.underlying5 Tryd.underlying9 (W := wr) (b := w2.heap.size) (l := l) (fun i => Blk.cell hkr i) 48 48 (by rw [Hlen48.out]; exact Nat.le_refl _)
        rw [List.take_of_length_le (by rw [Hlen48.out]; exact Nat.le_refl _)] at hcv2
        have Hl := Lib.hid hl
        clear hbr hkr hjn hl
        go_wp2_with fail
        go_ret2
        exact ⟨_, by rw [Hl.out]; rfl, .good, below_then Hb2.out Hbr.out⟩
theorem write_any (h : Hd) (v : Value) (words data : Int) (w : World) (hfl : I64 h.fl) (hm : MaxCell w) (hv : Vals w v h.vs) (hll : h.vs.length ≤ 9223372036854775807) :
    Calls Tryd.prog 19 #[headV h v, .int .i64 words, .int .i64 data] w (RetSE w (writeR h words data)) := by
  by_cases hr : (rightR h).1 = 0
  · have hr' := rightR_0 hr
    by_cases hlim : words < 0 ∨ 255 < words ∨ data < 0 ∨ 16777215 < data
    · have e : writeR h words data = ([], 4, -1) := by unfold writeR; simp only [hr']; rw [if_neg (by simp), if_pos hlim]
      rw [e]
      exact write_limit h v words data w hfl hm hv hll hr' hlim
    · have e : writeR h words data = (headB h words.toNat data.toNat, 0, -1) := by unfold writeR; simp only [hr']; rw [if_neg (by simp), if_neg hlim]
      rw [e]
      have h1 := write_ok h v words.toNat data.toNat w hfl hm hv hll hr' (by omega) (by omega)
      rw [Int.toNat_of_nonneg (by omega), Int.toNat_of_nonneg (by omega)] at h1
      exact h1
  · exact write_bad h v words data w hfl hm hv hll hr
end Go.Proofs.YtffdlchoaaakdaaDoor
