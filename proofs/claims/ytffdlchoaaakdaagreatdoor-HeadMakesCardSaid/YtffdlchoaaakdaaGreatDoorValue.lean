/- head.Value. -/
import Derived.Test.YtffdlchoaaakdaaGreatDoorRight2
namespace Go.Proofs.YtffdlchoaaakdaaGreatDoor
open Go.RowKit
/-- a number and an error are returned -/
def RetNE (w : World) (r : Nat × Int) (e : Ending) (w' : World) : Prop := ∃ v, e = .returned (.tuple #[.int .u64 (r.1 : Int), v]) ∧ ErrIs w' v r.2 (-1) ∧ Below w.heap.size w w'
theorem value_none (h : Hd) (v : Value) (n : List UInt8) (w : World) (hk : kindOf h.op = none) : Calls Tryz.prog 11 #[headV h v, .string (S n)] w (RetNE w (0, 1)) := by
  unfold headV
  have hb0 := (Below.refl w.heap.size w).alloc (Nat.le_refl _) (.cells #[.int .i64 h.op, .bool h.now, .int .i64 h.fl, v] 24)
  have C := Lib.hid (find_none hk (w.alloc (.cells #[.int .i64 h.op, .bool h.now, .int .i64 h.fl, v] 24)))
  have Hb0 := Lib.hid hb0
  clear hk hb0
  go_enter Tryz.func11, Tryz.ntmps11
  go_wp2_with fail
  refine C.out.mono ?_
  rintro e w' ⟨rfl, hb⟩
  have Hb := Lib.hid (below_then Hb0.out hb)
  clear hb
  go_wp2_with fail
  go_ret2
  exact ⟨_, rfl, .bare 1 (by decide), Hb.out.alloc Hb.out.size _⟩
theorem idxI_none {fs : List Fd} {n : List UInt8} (h : idxName fs n = none) : idxI fs n = -1 := by unfold idxI; rw [h]
theorem idxI_some {fs : List Fd} {n : List UInt8} {i : Nat} (h : idxName fs n = some i) : idxI fs n = i := by unfold idxI; rw [h]
theorem value_some (h : Hd) (v : Value) (n : List UInt8) (k : Kd) (w : World) (hk : kindOf h.op = some k) (hm : MaxCell w) (hv : Vals w v h.vs) (hll : h.vs.length ≤ 9223372036854775807) :
    Calls Tryz.prog 11 #[headV h v, .string (S n)] w (RetNE w (valueK k h.vs n)) := by
  obtain ⟨op, now, fl, vs⟩ := h
  unfold headV
  simp only at *
  obtain ⟨p, c, rfl, hx, hcell⟩ := hv
  have F := kindFacts hk
  have hb0 := (Below.refl w.heap.size w).alloc (Nat.le_refl _) (.cells #[.int .i64 op, .bool now, .int .i64 fl, .slice p vs.length c] 24)
  have C := Lib.hid (find_some hk (w.alloc (.cells #[.int .i64 op, .bool now, .int .i64 fl, .slice p vs.length c] 24)))
  have L := fun w hm => Lib.hid (kind_list hk w hm)
  have Hb0 := Lib.hid hb0
  have Hm := Lib.hid (hm.later hb0)
  have hl10 := F.len
  have Hcell := Lib.hid hcell
  clear hk hb0 F hm hcell
  cases hi : idxName k.fs n with
  | none =>
    have e : valueK k vs n = (0, 5) := by unfold valueK; rw [hi]
    rw [e]
    have N := fun b w hF => Lib.hid (named_any k.fs n b w hl10 hF)
    rw [idxI_none hi] at N
    clear e hi
    go_enter Tryz.func11, Tryz.ntmps11
    go_wp2_with fail
    refine C.out.mono ?_
    rintro e w1 ⟨rfl, hb⟩
    have hb1 := hb.alloc hb.size (.cells #[.int .i64 (k.op : Int), .string (S k.nm), .int .i64 (k.fl : Int), .string (S k.tx)] 68)
    have L2 := Lib.hid (L _ (Hm.out.later hb1)).out
    have Hb1 := Lib.hid (below_then Hb0.out hb1)
    clear hb hb1 L
    go_wp2_with fail
    refine L2.out.mono ?_
    rintro e w2 ⟨b, rfl, hlb, hF, hb2⟩
    have Hb2 := Lib.hid (below_then Hb1.out hb2)
    have N2 := Lib.hid (N b w2 hF).out
    clear hb2 hF L2 N
    go_wp2_with fail
    refine N2.out.mono ?_
    rintro e w3 ⟨rfl, hb3⟩
    have Hb3 := Lib.hid (below_then Hb2.out hb3)
    clear hb3 N2
    go_wp2_with fail
    go_ret2
    exact ⟨_, rfl, .bare 5 (by decide), Hb3.out⟩
  | some i =>
    have N := fun b w hF => Lib.hid (named_any k.fs n b w hl10 hF)
    rw [idxI_some hi] at N
    by_cases hlt : i < vs.length
    · have e : valueK k vs n = (vs.getD i 0, 0) := by unfold valueK; rw [hi]; simp only; rw [if_pos hlt]
      rw [e]
      obtain ⟨bv, ov, rfl, hcv⟩ := Hcell.out (by omega)
      have hcj := hcv i hlt
      have hbv : bv < w.heap.size := block_lt_of_cell (w := w) (a := ⟨bv, ov + i, none⟩) hcj
      have eg : vs.getD i 0 = vs[i] := by rw [List.getD_eq_getElem?_getD, List.getElem?_eq_getElem hlt]; rfl
      rw [eg]
      obtain ⟨x, hxe⟩ : ∃ x, vs[i] = x := ⟨_, rfl⟩
      rw [hxe] at hcj ⊢
      have Hcj := Lib.hid hcj
      clear e hi eg hxe hcj hcv Hcell
      go_enter Tryz.func11, Tryz.ntmps11
      go_wp2_with fail
      refine C.out.mono ?_
      rintro e w1 ⟨rfl, hb⟩
      obtain ⟨q0, q1, q2, q3⟩ := ((Blk.new w #[.int .i64 op, .bool now, .int .i64 fl, .slice (some ⟨bv, ov, none⟩) vs.length c] 24).later hb).four
      have hz : w.heap.size < w1.heap.size := by have := hb.size; simp at this; omega
      have hb1 := hb.alloc hb.size (.cells #[.int .i64 (k.op : Int), .string (S k.nm), .int .i64 (k.fl : Int), .string (S k.tx)] 68)
      have L2 := Lib.hid (L _ (Hm.out.later hb1)).out
      have Hb1 := Lib.hid (below_then Hb0.out hb1)
      clear hb hb1 L
      go_wp2_with fail
      refine L2.out.mono ?_
      rintro e w2 ⟨b, rfl, hlb, hF, hb2⟩
      have hc3 := (bcell hb2).1 w.heap.size 3 (by simp; omega)
      rw [World.cell?_alloc_lt _ _ ⟨w.heap.size, 3, none⟩ hz] at hc3
      rw [q3] at hc3
      have hz2 : w.heap.size < w2.heap.size := by have := hb2.size; simp at this; omega
      have Hc3 := Lib.hid hc3
      have Hb2 := Lib.hid (below_then Hb1.out hb2)
      have N2 := Lib.hid (N b w2 hF).out
      clear hb2 hF L2 N q0 q1 q2 q3 hc3
      go_wp2_with fail
      refine N2.out.mono ?_
      rintro e w3 ⟨rfl, hb3⟩
      have hc4 := (bcell hb3).1 w.heap.size 3 hz2
      rw [Hc3.out] at hc4
      have Hb3 := Lib.hid (below_then Hb2.out hb3)
      have hcw : w3.cell? ⟨bv, ov + i, none⟩ = some (.int .u64 (x : Int)) := by rw [(bcell Hb3.out).1 bv (ov + i) hbv]; exact Hcj.out
      clear hb3 N2
      go_wp2_with fail
      go_ret2
      exact ⟨_, rfl, .good, Hb3.out⟩
    · have e : valueK k vs n = (0, 7) := by unfold valueK; rw [hi]; simp only; rw [if_neg hlt]
      rw [e]
      clear e hi
      go_enter Tryz.func11, Tryz.ntmps11
      go_wp2_with fail
      refine C.out.mono ?_
      rintro e w1 ⟨rfl, hb⟩
      obtain ⟨q0, q1, q2, q3⟩ := ((Blk.new w #[.int .i64 op, .bool now, .int .i64 fl, .slice p vs.length c] 24).later hb).four
      have hz : w.heap.size < w1.heap.size := by have := hb.size; simp at this; omega
      have hb1 := hb.alloc hb.size (.cells #[.int .i64 (k.op : Int), .string (S k.nm), .int .i64 (k.fl : Int), .string (S k.tx)] 68)
      have L2 := Lib.hid (L _ (Hm.out.later hb1)).out
      have Hb1 := Lib.hid (below_then Hb0.out hb1)
      clear hb hb1 L
      go_wp2_with fail
      refine L2.out.mono ?_
      rintro e w2 ⟨b, rfl, hlb, hF, hb2⟩
      have hc3 := (bcell hb2).1 w.heap.size 3 (by simp; omega)
      rw [World.cell?_alloc_lt _ _ ⟨w.heap.size, 3, none⟩ hz] at hc3
      rw [q3] at hc3
      have hz2 : w.heap.size < w2.heap.size := by have := hb2.size; simp at this; omega
      have Hc3 := Lib.hid hc3
      have Hb2 := Lib.hid (below_then Hb1.out hb2)
      have N2 := Lib.hid (N b w2 hF).out
      clear hb2 hF L2 N q0 q1 q2 q3 hc3
      go_wp2_with fail
      refine N2.out.mono ?_
      rintro e w3 ⟨rfl, hb3⟩
      have hc4 := (bcell hb3).1 w.heap.size 3 hz2
      rw [Hc3.out] at hc4
      have Hb3 := Lib.hid (below_then Hb2.out hb3)
      clear hb3 N2
      go_wp2_with fail
      go_ret2
      exact ⟨_, rfl, .bare 7 (by decide), Hb3.out⟩
theorem value_any (h : Hd) (v : Value) (n : List UInt8) (w : World) (hm : MaxCell w) (hv : Vals w v h.vs) (hll : h.vs.length ≤ 9223372036854775807) :
    Calls Tryz.prog 11 #[headV h v, .string (S n)] w (RetNE w (valueR h n)) := by
  cases hk : kindOf h.op with
  | none =>
    have e : valueR h n = (0, 1) := by unfold valueR; rw [hk]
    rw [e]
    exact value_none h v n w hk
  | some k =>
    have e : valueR h n = valueK k h.vs n := by unfold valueR; rw [hk]
    rw [e]
    exact value_some h v n k w hk hm hv hll
end Go.Proofs.YtffdlchoaaakdaaGreatDoor
