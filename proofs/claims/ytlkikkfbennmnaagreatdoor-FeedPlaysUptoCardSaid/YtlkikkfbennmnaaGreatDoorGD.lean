/- Several texts in one: head.Right, head.Value.  | head.Right where just values may be wrong; the whole of it.  | head.put.  | A head's bytes as they are laid, one behind the other. No function of the program is walked here.  | head.Write.  | A block of numbers; four stores to a head's block.  | head.Read.  | head.Read where there is such an op.  | slices.Equal of two slices of the same numbers.  | quaymasterkeep.sameHead at the same head.  -/
import Derived.Test.YtlkikkfbennmnaaGreatDoorGB
import Derived.Test.YtlkikkfbennmnaaGreatDoorGC
import Derived.Deep.RegionHeld3
import Derived.BigRegion
import Derived.IntWalk
import Derived.Test.YtlkikkfbennmnaaGreatDoorGA
import Derived.Lib.BufferWrite
import Derived.Laws.CopyOwn
import Derived.Laws.BitsAllLaws
import Derived.StillTailTactics
import Derived.LoopTactic
import Derived.RegionTactic
namespace Go.Proofs.YtlkikkfbennmnaaGreatDoor
open Go.RowKit
/-- the slice value v reads as these numbers in W -/
def Vals (W : World) (v : Value) (l : List Nat) : Prop := ∃ p c, v = .slice p l.length c ∧ (∀ x ∈ l, x < 2 ^ 64) ∧ (0 < l.length → ∃ b o, p = some ⟨b, o, none⟩ ∧ ∀ j (hj : j < l.length), W.cell? ⟨b, o + j, none⟩ = some (.int .u64 (l[j] : Int)))
theorem Vals.later {W W' : World} {v : Value} {l : List Nat} (h : Vals W v l) (hb : Below W.heap.size W W') : Vals W' v l := by
  obtain ⟨p, c, hv, hx, hc⟩ := h
  refine ⟨p, c, hv, hx, fun hl => ?_⟩
  obtain ⟨b, o, hp, hcell⟩ := hc hl
  refine ⟨b, o, hp, fun j hj => ?_⟩
  rw [(bcell hb).1 b (o + j) (block_lt_of_cell (w := W) (a := ⟨b, o + j, none⟩) (hcell j hj))]
  exact hcell j hj
theorem Vals.drewN {W : World} {v : Value} {l : List Nat} (h : Vals W v l) (n : Nat) : Vals (W.drewN n) v l := h
def headV (h : Hd) (v : Value) : Value := .agg #[.int .i64 h.op, .bool h.now, .int .i64 h.fl, v]
theorem right_none (h : Hd) (v : Value) (w : World) (hk : kindOf h.op = none) : Calls Tryz.prog 46 #[headV h v] w (RetE w (1, -1)) := by
  unfold headV
  have hb0 := (Below.refl w.heap.size w).alloc (Nat.le_refl _) (.cells #[.int .i64 h.op, .bool h.now, .int .i64 h.fl, v] 42)
  have C := Lib.hid (find_none hk (w.alloc (.cells #[.int .i64 h.op, .bool h.now, .int .i64 h.fl, v] 42)))
  have Hb0 := Lib.hid hb0
  clear hk hb0
  go_enter Tryz.func46, Tryz.ntmps46
  go_wp2_with fail
  refine C.out.mono ?_
  rintro e w' ⟨rfl, hb⟩
  have Hb := Lib.hid (below_then Hb0.out hb)
  clear hb
  go_wp2_with fail
  go_ret
  exact ⟨_, rfl, .bare 1 (by decide), Hb.out.alloc Hb.out.size _⟩
theorem right_form (h : Hd) (v : Value) (k : Kd) (w : World) (hk : kindOf h.op = some k) (hfl : I64 h.fl)
    (hbad : (h.now && decide (32 ≤ h.op)) = true ∨ flOk h.fl k.fl = false) : Calls Tryz.prog 46 #[headV h v] w (RetE w (3, -1)) := by
  obtain ⟨op, now, fl, vs⟩ := h
  unfold headV
  simp only at *
  have F := kindFacts hk
  have hb0 := (Below.refl w.heap.size w).alloc (Nat.le_refl _) (.cells #[.int .i64 op, .bool now, .int .i64 fl, v] 42)
  have C := Lib.hid (find_some hk (w.alloc (.cells #[.int .i64 op, .bool now, .int .i64 fl, v] 42)))
  have Hb0 := Lib.hid hb0
  have hno : ¬ (now = true ∧ 32 ≤ op) → (bits .andNot .i64 fl (k.fl : Int) != 0) = true := fun hn => andNot_no fl k.fl F.fl hfl.1 hfl.2 (hbad.resolve_left (by simpa using hn))
  clear hk hb0 hbad hfl F
  cases now with
  | true =>
    by_cases h32 : 32 ≤ op
    · clear hno
      go_enter Tryz.func46, Tryz.ntmps46
      go_wp2_with fail
      refine C.out.mono ?_
      rintro e w' ⟨rfl, hb⟩
      obtain ⟨q0, q1, q2, q3⟩ := ((Blk.new w #[.int .i64 op, .bool _, .int .i64 fl, v] 42).later hb).four
      have hz : w.heap.size < w'.heap.size := by have := hb.size; simp at this; omega
      have Hb := Lib.hid (below_then Hb0.out hb)
      clear hb
      go_wp2_with fail
      go_ret
      exact ⟨_, rfl, .bare 3 (by decide), Hb.out.alloc Hb.out.size _⟩
    · have hA := hno (fun h => h32 h.2)
      clear hno
      go_enter Tryz.func46, Tryz.ntmps46
      go_wp2_with fail
      refine C.out.mono ?_
      rintro e w' ⟨rfl, hb⟩
      obtain ⟨q0, q1, q2, q3⟩ := ((Blk.new w #[.int .i64 op, .bool _, .int .i64 fl, v] 42).later hb).four
      have hz : w.heap.size < w'.heap.size := by have := hb.size; simp at this; omega
      have Hb := Lib.hid (below_then Hb0.out hb)
      clear hb
      go_wp2_with fail
      go_ret
      exact ⟨_, rfl, .bare 3 (by decide), Hb.out.alloc Hb.out.size _⟩
  | false =>
    have hA := hno (fun h => by cases h.1)
    clear hno
    go_enter Tryz.func46, Tryz.ntmps46
    go_wp2_with fail
    refine C.out.mono ?_
    rintro e w' ⟨rfl, hb⟩
    obtain ⟨q0, q1, q2, q3⟩ := ((Blk.new w #[.int .i64 op, .bool _, .int .i64 fl, v] 42).later hb).four
    have hz : w.heap.size < w'.heap.size := by have := hb.size; simp at this; omega
    have Hb := Lib.hid (below_then Hb0.out hb)
    clear hb
    go_wp2_with fail
    go_ret
    exact ⟨_, rfl, .bare 3 (by decide), Hb.out.alloc Hb.out.size _⟩
theorem right_len (h : Hd) (v : Value) (k : Kd) (w : World) (hk : kindOf h.op = some k) (hfl : I64 h.fl) (hm : MaxCell w) (hv : Vals w v h.vs) (hll : h.vs.length ≤ 9223372036854775807)
    (hnow : h.now = true → h.op < 32) (hok : flOk h.fl k.fl = true) (hlen : h.vs.length ≠ k.fs.length) : Calls Tryz.prog 46 #[headV h v] w (RetE w (7, -1)) := by
  obtain ⟨op, now, fl, vs⟩ := h
  unfold headV
  simp only at *
  obtain ⟨p, c, rfl, _, _⟩ := hv
  have F := kindFacts hk
  have hb0 := (Below.refl w.heap.size w).alloc (Nat.le_refl _) (.cells #[.int .i64 op, .bool now, .int .i64 fl, .slice p vs.length c] 42)
  have C := Lib.hid (find_some hk (w.alloc (.cells #[.int .i64 op, .bool now, .int .i64 fl, .slice p vs.length c] 42)))
  have L := fun w hm => Lib.hid (kind_list hk w hm)
  have Hb0 := Lib.hid hb0
  have Hm := Lib.hid (hm.later hb0)
  have hA := andNot_yes fl k.fl F.fl hfl.1 hfl.2 hok
  have hl10 := F.len
  have Hlen := Lib.hid hlen
  have hcase : (now = true ∧ op < 32) ∨ now = false := by cases now with
    | true => exact .inl ⟨rfl, hnow rfl⟩
    | false => exact .inr rfl
  clear hk hb0 hok hfl F hnow hm
  have hne : ((vs.length : Int) != (k.fs.length : Int)) = true := by rw [bne_iff_ne]; omega
  rcases hcase with ⟨rfl, h32⟩ | rfl
  all_goals
    go_enter Tryz.func46, Tryz.ntmps46
    go_wp2_with fail
    refine C.out.mono ?_
    rintro e w1 ⟨rfl, hb⟩
    obtain ⟨q0, q1, q2, q3⟩ := ((Blk.new w #[.int .i64 op, .bool _, .int .i64 fl, .slice p vs.length c] 42).later hb).four
    have hz : w.heap.size < w1.heap.size := by have := hb.size; simp at this; omega
    have hb1 := hb.alloc hb.size (.cells #[.int .i64 (k.op : Int), .string (S k.nm), .int .i64 (k.fl : Int), .string (S k.tx)] 143)
    have L2 := Lib.hid (L _ (Hm.out.later hb1)).out
    have Hb1 := Lib.hid (below_then Hb0.out hb1)
    clear hb hb1 L
    go_wp2_with fail
    refine L2.out.mono ?_
    rintro e w2 ⟨b, rfl, hlb, hF, hb2⟩
    have hc3 := (bcell hb2).1 w.heap.size 3 (by simp; omega)
    rw [World.cell?_alloc_lt _ _ ⟨w.heap.size, 3, none⟩ hz] at hc3
    rw [q3] at hc3
    have Hb2 := Lib.hid (below_then Hb1.out hb2)
    clear hb2 hF q0 q1 q2 q3
    go_wp2_with fail
    go_ret
    exact ⟨_, rfl, .bare 7 (by decide), Hb2.out⟩
end Go.Proofs.YtlkikkfbennmnaaGreatDoor
namespace Go.Proofs.YtlkikkfbennmnaaGreatDoor
open Go.RowKit
def badR (fs : List Fd) (vs : List Nat) : Int × Int := match badVal fs vs with
  | some i => (2, (i : Int))
  | none => (0, -1)
theorem badR_some {fs : List Fd} {vs : List Nat} {i : Nat} (h : badVal fs vs = some i) : badR fs vs = (2, (i : Int)) := by unfold badR; rw [h]
theorem badR_none {fs : List Fd} {vs : List Nat} (h : badVal fs vs = none) : badR fs vs = (0, -1) := by unfold badR; rw [h]
set_option maxRecDepth 100000 in
theorem right_vals (h : Hd) (v : Value) (k : Kd) (w : World) (hk : kindOf h.op = some k) (hfl : I64 h.fl) (hm : MaxCell w) (hv : Vals w v h.vs)
    (hnow : h.now = true → h.op < 32) (hok : flOk h.fl k.fl = true) (hlen : h.vs.length = k.fs.length) : Calls Tryz.prog 46 #[headV h v] w (RetE w (badR k.fs h.vs)) := by
  obtain ⟨op, now, fl, vs⟩ := h
  unfold headV
  simp only at *
  obtain ⟨p, c, rfl, hx, hcell⟩ := hv
  have F := kindFacts hk
  obtain ⟨bv, ov, rfl, hcv⟩ := hcell (by have := F.len0; omega)
  have hb0 := (Below.refl w.heap.size w).alloc (Nat.le_refl _) (.cells #[.int .i64 op, .bool now, .int .i64 fl, .slice (some ⟨bv, ov, none⟩) vs.length c] 42)
  have C := Lib.hid (find_some hk (w.alloc (.cells #[.int .i64 op, .bool now, .int .i64 fl, .slice (some ⟨bv, ov, none⟩) vs.length c] 42)))
  have L := fun w hm => Lib.hid (kind_list hk w hm)
  have Hb0 := Lib.hid hb0
  have Hm := Lib.hid (hm.later hb0)
  have hA := andNot_yes fl k.fl F.fl hfl.1 hfl.2 hok
  have hl10 := F.len
  have hl1 := F.len0
  have Fok := Lib.hid F.fok
  have Hlen := Lib.hid hlen
  have Hcv := Lib.hid hcv
  have hbv : bv < w.heap.size := block_lt_of_cell (w := w) (a := ⟨bv, ov + 0, none⟩) (hcv 0 (by omega))
  have hcase : (now = true ∧ op < 32) ∨ now = false := by cases now with
    | true => exact .inl ⟨rfl, hnow rfl⟩
    | false => exact .inr rfl
  have hne : ((vs.length : Int) != (k.fs.length : Int)) = false := by rw [hlen]; simp
  have hvl : vs.length ≤ 10 := by omega
  clear hk hb0 hok hfl F hnow hm hcell hcv hlen
  rcases hcase with ⟨rfl, h32⟩ | rfl
  all_goals
    go_enter Tryz.func46, Tryz.ntmps46
    go_wp2_with fail
    refine C.out.mono ?_
    rintro e w1 ⟨rfl, hb⟩
    obtain ⟨q0, q1, q2, q3⟩ := ((Blk.new w #[.int .i64 op, .bool _, .int .i64 fl, .slice (some ⟨bv, ov, none⟩) vs.length c] 42).later hb).four
    have hz : w.heap.size < w1.heap.size := by have := hb.size; simp at this; omega
    have hb1 := hb.alloc hb.size (.cells #[.int .i64 (k.op : Int), .string (S k.nm), .int .i64 (k.fl : Int), .string (S k.tx)] 143)
    have L2 := Lib.hid (L _ (Hm.out.later hb1)).out
    have Hb1 := Lib.hid (below_then Hb0.out hb1)
    clear hb hb1 L
    go_wp2_with fail
    refine L2.out.mono ?_
    rintro e w2 ⟨b, rfl, hlb, hF, hb2⟩
    have hc3 := (bcell hb2).1 w.heap.size 3 (by simp; omega)
    rw [World.cell?_alloc_lt _ _ ⟨w.heap.size, 3, none⟩ hz] at hc3
    rw [q3] at hc3
    have hz2 : w.heap.size < w2.heap.size := by have := hb2.size; simp at this; omega
    have Hb2 := Lib.hid (below_then Hb1.out hb2)
    have Hc3 := Lib.hid hc3
    have HF := Lib.hid hF
    clear hb2 hF q0 q1 q2 q3 L2
    go_wp2_with fail
    clear hc3
    go_loopw [44] (fun i wr => ∃ j : Nat, j ≤ k.fs.length ∧ i = .int .i64 j ∧ (∀ x (hx : x < k.fs.length) (hx2 : x < vs.length), x < j → vs[x] / 2 ^ (8 * k.fs[x].sz) = 0) ∧ Below w2.heap.size w2 wr) (fun i _ => k.fs.length - (intOf i).toNat)
    case atStart => exact ⟨0, by omega, rfl, fun x _ _ hx => by omega, Below.refl _ _⟩
    case round =>
      obtain ⟨j, hj, rfl, hno, hbw⟩ := hrel
      have Hno := Lib.hid hno
      have Hbw := Lib.hid hbw
      by_cases hlt : j < k.fs.length
      · obtain ⟨q0, q1, q2⟩ := Flds.get (Blk.later HF.out hbw) j hlt
        have hltF : b < wr.heap.size := Nat.lt_of_lt_of_le (Blk.lt HF.out) hbw.size
        have hjv : j < vs.length := by rw [Hlen.out]; exact hlt
        have hc3 := (bcell hbw).1 w.heap.size 3 hz2
        rw [Hc3.out] at hc3
        have hzr : w.heap.size < wr.heap.size := Nat.lt_of_lt_of_le hz2 hbw.size
        have hbvr : bv < wr.heap.size := by omega
        have hcj : wr.cell? ⟨bv, ov + j, none⟩ = some (.int .u64 (vs[j] : Int)) := by
          rw [(bcell (below_then Hb2.out hbw)).1 bv (ov + j) hbv]; exact Hcv.out j hjv
        obtain ⟨f, hf⟩ : ∃ f, k.fs[j] = f := ⟨_, rfl⟩
        obtain ⟨x, hxj⟩ : ∃ x, vs[j] = x := ⟨_, rfl⟩
        obtain ⟨o1, o2, o3, o4, o5, o6⟩ := Fok.out f (by rw [← hf]; exact List.getElem_mem _)
        have hx64 : x < 2 ^ 64 := by rw [← hxj]; exact hx _ (List.getElem_mem _)
        rw [hf] at q0 q1 q2
        rw [hxj] at hcj
        have Hf := Lib.hid hf
        have Hxj := Lib.hid hxj
        clear hno hbw hf hxj o6
        have hj0 : (0 : Int) ≤ (j : Int) := by omega
        have e8 : IntKind.i64.wrap (8 * (f.sz : Int)) = 8 * f.sz := IntWalk.i64_in _ (by omega)
        have e80 : (0 : Int) ≤ 8 * (f.sz : Int) := by omega
        have e8n : (8 * (f.sz : Int)).toNat = 8 * f.sz := by omega
        by_cases hg : x / 2 ^ (8 * f.sz) = 0
        · have hq : ((x : Int) / 2 ^ (8 * f.sz) != 0) = false := by
            have : (x : Int) / 2 ^ (8 * f.sz) = 0 := by exact_mod_cast hg
            rw [this]; rfl
          have Hg := Lib.hid hg
          clear hg
          go_wp2_with fail
          go_quiet (fail)
          go_wp2_with fail
          go_roundw
          case rel => exact ⟨j + 1, by omega, by go_num, fun x hx hx2 hxj => by
            by_cases e : x = j
            · subst e; rw [Hf.out, Hxj.out]; exact Hg.out
            · exact Hno.out x hx hx2 (by omega), below_drewN (Hbw.out.alloc Hbw.out.size _) _⟩
          case measure => simp [intOf]; omega
        · have hq : ((x : Int) / 2 ^ (8 * f.sz) != 0) = true := by
            rw [bne_iff_ne]; intro h0; apply hg; exact_mod_cast h0
          have Hg := Lib.hid hg
          clear hg
          go_wp2_with fail
          go_quiet (fail)
          go_wp2_with fail
          go_ret
          have hB := below_drewN (Hbw.out.alloc Hbw.out.size (.cells #[.string (S f.nm), .int .i64 (f.pos : Int), .int .i64 (f.sz : Int)] 149)) nq
          have hbad : badVal k.fs vs = some j := badVal_first hlt hjv (fun x hx => Hno.out x (by omega) (by omega) hx) (by rw [Hf.out, Hxj.out]; exact Hg.out)
          rw [badR_some hbad]
          have hN := Blk.new ((wr.alloc (.cells #[.string (S f.nm), .int .i64 (f.pos : Int), .int .i64 (f.sz : Int)] 149)).drewN nq) #[.int .i64 2, .int .i64 (j : Int)] 152
          have eN : ((wr.alloc (.cells #[.string (S f.nm), .int .i64 (f.pos : Int), .int .i64 (f.sz : Int)] 149)).drewN nq).heap.size = wr.heap.size + 1 := by show (wr.alloc _).heap.size = _; rw [World.size_alloc]
          rw [eN] at hN
          exact ⟨_, rfl, .placed _ 2 j (by decide) hN.two.1 hN.two.2, (below_then Hb2.out hB).alloc (Nat.le_trans Hb2.out.size hB.size) _⟩
      · clear hno hbw
        go_wp2_with fail
        go_ret
        refine ⟨_, rfl, ?_, below_then Hb2.out Hbw.out⟩
        have hjn : j = k.fs.length := by omega
        rw [badR_none (badVal_none Hlen.out (fun x hx => Hno.out x hx (by rw [Hlen.out]; exact hx) (by omega)))]
        exact .good
theorem right_any (h : Hd) (v : Value) (w : World) (hfl : I64 h.fl) (hm : MaxCell w) (hv : Vals w v h.vs) (hll : h.vs.length ≤ 9223372036854775807) :
    Calls Tryz.prog 46 #[headV h v] w (RetE w (rightR h)) := by
  cases hk : kindOf h.op with
  | none =>
    have e : rightR h = (1, -1) := by unfold rightR; rw [hk]
    rw [e]
    exact right_none h v w hk
  | some k =>
    have e : rightR h = rightK k h.now h.op h.fl h.vs := by unfold rightR; rw [hk]
    rw [e]
    unfold rightK
    by_cases hb : ((h.now && decide (32 ≤ h.op)) || !flOk h.fl k.fl) = true
    · rw [if_pos hb]
      refine right_form h v k w hk hfl ?_
      simp only [Bool.or_eq_true, Bool.not_eq_true'] at hb
      exact hb
    · rw [if_neg hb]
      simp only [Bool.or_eq_true, Bool.and_eq_true, decide_eq_true_eq, Bool.not_eq_true', not_or, not_and] at hb
      have hnow : h.now = true → h.op < 32 := fun hn => by have := hb.1 hn; omega
      have hok : flOk h.fl k.fl = true := by simpa using hb.2
      by_cases hl : h.vs.length ≠ k.fs.length
      · rw [if_pos hl]
        exact right_len h v k w hk hfl hm hv hll hnow hok hl
      · rw [if_neg hl]
        exact right_vals h v k w hk hfl hm hv hnow hok (by omega)
end Go.Proofs.YtlkikkfbennmnaaGreatDoor
namespace Go.Proofs.YtlkikkfbennmnaaGreatDoor
open Go.RowKit
theorem splice_cells (l s : List UInt8) (o : Nat) : ((cells8 l).toList.take o ++ Lib.byteCells s ++ (cells8 l).toList.drop (o + s.length)).toArray = cells8 (splice l o s) := by
  unfold cells8 splice Lib.byteCells
  simp [List.map_take, List.map_drop]
theorem run_copy_S {W : World} {b : Nat} {l : List UInt8} {t : TypeId} (h : Blk W b (cells8 l) t) (ty : TypeId) (o n c : Nat) (s : List UInt8) (hn : s.length ≤ n) (hf : o + s.length ≤ l.length) :
    (Builtin.copy_ #[63, 9] ty #[.slice (some ⟨b, o, none⟩) n c, .string (S s)]).run Tryz.prog W = .ok (goInt s.length) (W.setRow b (cells8 (splice l o s))) := by
  have h1 := Lib.run_copy_row_string (P := Tryz.prog) W 63 9 ty 5 b o n c (S s) (cells8 l) t Tryz.underlying63 (by kernel_rfl) h (by rw [S_size]; exact hn) (by rw [S_size, cells8_size]; exact hf)
  rw [S_size] at h1
  have e : (S s).data.toList = s := by simp [S]
  rw [e, splice_cells] at h1
  exact h1
theorem Blk.setRow {W : World} {b : Nat} {C C' : Array Value} {t : TypeId} (h : Blk W b C t) : Blk (W.setRow b C') b C' t := setRow_heap W b C C' t (0, 0) h
theorem put1_any (l : List UInt8) (b o n c v : Nat) (t : TypeId) (w : World) (hb : Blk w b (cells8 l) t) (hn : n ≤ 8) (hf : o + n ≤ l.length) (hv : v / 2 ^ (8 * n) = 0) (B : Nat) (w0 : World) (hB0 : Below B w0 w) (hBb : B ≤ b) :
    Calls Tryz.prog 74 #[.slice (some ⟨b, o, none⟩) n c, .int .u64 (v : Int)] w fun e w' => e = .returned (.tuple #[]) ∧ Blk w' b (cells8 (splice l o (be v n))) t ∧ Below B w0 w' := by
  have C := Lib.hid (put_ok v n w hn hv)
  have Hb := Lib.hid hb
  have HB0 := Lib.hid hB0
  have hlt := hb.lt
  clear hv hb hB0
  go_enter Tryz.func74, Tryz.ntmps74
  go_wp2_with fail
  refine C.out.mono ?_
  rintro e w' ⟨rfl, hb1⟩
  have hb2 := Hb.out.later hb1
  have hcp := fun ty => run_copy_S hb2 ty o n c (be v n) (by rw [be_len]; exact Nat.le_refl _) (by rw [be_len]; exact hf)
  have Hb2 := Lib.hid hb2
  have Hb1 := Lib.hid (HB0.out.trans (hb1.mono (by omega)))
  clear hb1 hb2
  go_wp2_with fail
  go_end0
  exact ⟨rfl, Hb2.out.setRow, below_setRow Hb1.out hBb _⟩
end Go.Proofs.YtlkikkfbennmnaaGreatDoor
namespace Go.Proofs.YtlkikkfbennmnaaGreatDoor
open Go.RowKit
def base0 (h : Hd) : List UInt8 := [UInt8.ofNat (h.op.toNat + if h.now then 64 else 0), UInt8.ofNat h.fl.toNat] ++ zs 46
theorem base0_len (h : Hd) : (base0 h).length = 48 := by simp [base0, zs]
theorem base_splice (h : Hd) (w d : Nat) : splice (splice (base0 h) 4 (be w 1)) 5 (be d 3) = baseB h w d := rfl
theorem or64 (op : Int) (h0 : 0 ≤ op) (h1 : op < 64) : bits .or .u8 op 64 = op + 64 := by
  rw [u8_or op 64 h0 (by omega) (by omega) (by omega)]
  obtain ⟨a, rfl⟩ := Int.eq_ofNat_of_zero_le h0
  have ha : a < 64 := by omega
  have hd : ∀ a : Fin 64, a.val ||| 64 = a.val + 64 := by decide
  have h2 : ((a : Nat) : Int).toNat ||| (64 : Int).toNat = a + 64 := hd ⟨a, ha⟩
  rw [h2]; rfl
theorem base0_now (op fl : Int) (vs : List Nat) (h0 : 0 ≤ op) (h1 : op < 64) (f0 : 0 ≤ fl) (f1 : fl < 256) :
    ((cells8 (zs 48)).setIfInBounds 0 (.int .u8 (bits .or .u8 op 64))).setIfInBounds 1 (.int .u8 fl) = cells8 (base0 ⟨op, true, fl, vs⟩) := by
  have e1 : bits .or .u8 op 64 = ((UInt8.ofNat (op.toNat + 64)).toNat : Int) := by rw [or64 op h0 h1, UInt8.toNat_ofNat']; omega
  have e2 : fl = ((UInt8.ofNat fl.toNat).toNat : Int) := by rw [UInt8.toNat_ofNat']; omega
  rw [e1]
  conv => lhs; rw [e2]
  rw [cells8_set, cells8_set]
  rfl
theorem base0_later (op fl : Int) (vs : List Nat) (h0 : 0 ≤ op) (h1 : op < 64) (f0 : 0 ≤ fl) (f1 : fl < 256) :
    ((cells8 (zs 48)).setIfInBounds 0 (.int .u8 op)).setIfInBounds 1 (.int .u8 fl) = cells8 (base0 ⟨op, false, fl, vs⟩) := by
  have e1 : op = ((UInt8.ofNat (op.toNat + 0)).toNat : Int) := by rw [UInt8.toNat_ofNat']; omega
  have e2 : fl = ((UInt8.ofNat fl.toNat).toNat : Int) := by rw [UInt8.toNat_ofNat']; omega
  conv => lhs; rw [e1, e2]
  rw [cells8_set, cells8_set]
  rfl
/-- when j fields have been laid -/
def putN (fs : List Fd) (vs : List Nat) (l : List UInt8) (j : Nat) : List UInt8 := putAll (fs.take j) (vs.take j) l
theorem putN_0 (fs : List Fd) (vs : List Nat) (l : List UInt8) : putN fs vs l 0 = l := rfl
theorem putN_all (fs : List Fd) (vs : List Nat) (l : List UInt8) (h : vs.length = fs.length) : putN fs vs l fs.length = putAll fs vs l := by
  unfold putN; rw [List.take_length, ← h, List.take_length]
theorem putAll_snoc (f : Fd) (v : Nat) : ∀ (fs : List Fd) (vs : List Nat) (l : List UInt8), vs.length = fs.length → putAll (fs ++ [f]) (vs ++ [v]) l = splice (putAll fs vs l) f.pos (be v f.sz)
  | [], [], _, _ => rfl
  | [], _ :: _, _, h => by simp at h
  | _ :: _, [], _, h => by simp at h
  | g :: fs, u :: vs, l, h => putAll_snoc f v fs vs (splice l g.pos (be u g.sz)) (by simpa using h)
theorem putN_step (fs : List Fd) (vs : List Nat) (l : List UInt8) (j : Nat) (hj : j < fs.length) (hv : j < vs.length) : splice (putN fs vs l j) fs[j].pos (be vs[j] fs[j].sz) = putN fs vs l (j + 1) := by
  unfold putN
  rw [List.take_succ_eq_append_getElem hj, List.take_succ_eq_append_getElem hv, putAll_snoc _ _ _ _ _ (by simp; omega)]
theorem putN_len {fs : List Fd} {vs : List Nat} {l : List UInt8} (h : ∀ f ∈ fs, f.pos + f.sz ≤ l.length) (j : Nat) : (putN fs vs l j).length = l.length :=
  putAll_len fun f hf => h f (List.mem_of_mem_take hf)
end Go.Proofs.YtlkikkfbennmnaaGreatDoor
namespace Go.Proofs.YtlkikkfbennmnaaGreatDoor
open Go.RowKit
theorem writeR_bad {h : Hd} {words data : Int} (hr : (rightR h).1 ≠ 0) : writeR h words data = ([], rightR h) := by unfold writeR; simp only [hr, ne_eq, not_false_eq_true, if_true]
theorem write_bad (h : Hd) (v : Value) (words data : Int) (w : World) (hfl : I64 h.fl) (hm : MaxCell w) (hv : Vals w v h.vs) (hll : h.vs.length ≤ 9223372036854775807) (hr : (rightR h).1 ≠ 0) :
    Calls Tryz.prog 48 #[headV h v, .int .i64 words, .int .i64 data] w (RetSE w (writeR h words data)) := by
  rw [writeR_bad hr]
  have hb0 := (Below.refl w.heap.size w).alloc (Nat.le_refl _) (.cells #[.int .i64 h.op, .bool h.now, .int .i64 h.fl, v] 42)
  have C := Lib.hid (right_any h v _ hfl (hm.later hb0) (hv.later hb0) hll)
  have Hb0 := Lib.hid hb0
  clear hb0 hm hv
  obtain ⟨⟨r1, r2⟩, hrr⟩ : ∃ r, rightR h = r := ⟨_, rfl⟩
  rw [hrr] at C hr ⊢
  clear hrr
  simp only at hr
  have Hr := Lib.hid hr
  clear hr
  unfold headV
  go_enter Tryz.func48, Tryz.ntmps48
  go_wp2_with fail
  refine C.out.mono ?_
  rintro e w1 ⟨ev, rfl, he, hb⟩
  have Hb := Lib.hid (below_then Hb0.out hb)
  clear hb
  have He := Lib.hid he
  cases he with
  | good => exact absurd rfl Hr.out
  | bare n hn =>
    go_wp2_with fail
    go_ret2
    exact ⟨_, rfl, He.out, Hb.out⟩
  | placed b n p hn h0 h1 =>
    go_wp2_with fail
    go_ret2
    exact ⟨_, rfl, He.out, Hb.out⟩
theorem write_limit (h : Hd) (v : Value) (words data : Int) (w : World) (hfl : I64 h.fl) (hm : MaxCell w) (hv : Vals w v h.vs) (hll : h.vs.length ≤ 9223372036854775807) (hr : rightR h = (0, -1))
    (hlim : words < 0 ∨ 255 < words ∨ data < 0 ∨ 16777215 < data) :
    Calls Tryz.prog 48 #[headV h v, .int .i64 words, .int .i64 data] w (RetSE w ([], 4, -1)) := by
  have hb0 := (Below.refl w.heap.size w).alloc (Nat.le_refl _) (.cells #[.int .i64 h.op, .bool h.now, .int .i64 h.fl, v] 42)
  have C0 := right_any h v _ hfl (hm.later hb0) (hv.later hb0) hll
  rw [hr] at C0
  have C := Lib.hid C0
  clear C0
  have Hb0 := Lib.hid hb0
  clear hb0 hm hv hr
  unfold headV
  have hcase : words < 0 ∨ (0 ≤ words ∧ 255 < words) ∨ (0 ≤ words ∧ words ≤ 255 ∧ data < 0) ∨ (0 ≤ words ∧ words ≤ 255 ∧ 0 ≤ data ∧ 16777215 < data) := by omega
  clear hlim
  rcases hcase with h1 | ⟨h1, h2⟩ | ⟨h1, h2, h3⟩ | ⟨h1, h2, h3, h4⟩
  all_goals
    go_enter Tryz.func48, Tryz.ntmps48
    go_wp2_with fail
    refine C.out.mono ?_
    rintro e w1 ⟨ev, rfl, he, hb⟩
    have Hb := Lib.hid (below_then Hb0.out hb)
    clear hb
    obtain rfl := he.zero
    clear he
    go_wp2_with fail
    go_ret2
    exact ⟨_, rfl, .bare 4 (by decide), Hb.out⟩
theorem run_slice48 (b : Nat) (f : Fd) (h1 : f.pos + f.sz ≤ 48) (h2 : 1 ≤ f.sz) (w : World) :
    (Instr.sliceAt 156 (.pointer (some ⟨b, 0, none⟩)) (some (.int .i64 (f.pos : Int))) (some (.int .i64 ((f.pos : Int) + f.sz))) none).run Tryz.prog w = .ok (.slice (some ⟨b, f.pos, none⟩) f.sz (48 - f.pos)) w := by
  have ha : Tryz.prog.arrayLen 156 = 48 := by kernel_rfl
  have hu : Tryz.prog.underlying 156 = some (.array (Tryz.prog.arrayLen 156) (Tryz.prog.elem 156)) := by kernel_rfl
  have hs : ∀ w, (sizeOf (Tryz.prog.elem 156)).run Tryz.prog w = .ok 1 w := fun w => by kernel_rfl
  rw [run_sliceAt_array_lh w 156 ⟨b, 0, none⟩ hu .i64 .i64 _ _ (by omega) (by omega) (by rw [ha]; omega), hs]
  have e1 : ((f.pos : Int) + f.sz).toNat = f.pos + f.sz := by omega
  have e2 : ¬ 48 = f.pos := by omega
  simp only [Result.andThen, slicedAt, ha, e1, Int.toNat_natCast, Nat.mul_one, if_neg e2, Addr.add, Nat.zero_add]
  rw [show f.pos + f.sz - f.pos = f.sz by omega]
  split
  · rename_i h0; rw [h0]
  · rfl
set_option maxRecDepth 100000 in
set_option maxHeartbeats 1000000 in
theorem write_ok (h : Hd) (v : Value) (words data : Nat) (w : World) (hfl : I64 h.fl) (hm : MaxCell w) (hv : Vals w v h.vs) (hll : h.vs.length ≤ 9223372036854775807) (hr : rightR h = (0, -1))
    (hw : words ≤ 255) (hd : data ≤ 16777215) :
    Calls Tryz.prog 48 #[headV h v, .int .i64 (words : Int), .int .i64 (data : Int)] w (RetSE w (headB h words data, 0, -1)) := by
  obtain ⟨k, hk, hnow, hok, hlen, hbad⟩ := rightR_good hr
  have F := kindFacts hk
  have hop := kindOf_range hk
  have hflb := flOk_bd F.fl hok
  have hb0 := (Below.refl w.heap.size w).alloc (Nat.le_refl _) (.cells #[.int .i64 h.op, .bool h.now, .int .i64 h.fl, v] 42)
  have C0 := right_any h v _ hfl (hm.later hb0) (hv.later hb0) hll
  rw [hr] at C0
  have C := Lib.hid C0
  clear C0
  have Hb0 := Lib.hid hb0
  have Hm := Lib.hid (hm.later hb0)
  have L := fun w hm => Lib.hid (fields_some hk w hm)
  have hgood := Lib.hid (badVal_good hbad)
  have Hhead := Lib.hid (headB_eq hk words data)
  have Hlen48 := Lib.hid (headB_len hk words data)
  obtain ⟨op, now, fl, vs⟩ := h
  obtain ⟨p, c, rfl, hx, hcell⟩ := hv
  simp only at *
  obtain ⟨bv, ov, rfl, hcv⟩ := hcell (by have := F.len0; omega)
  have hl10 := F.len
  have hl1 := F.len0
  have Fok := Lib.hid F.fok
  have Hlen := Lib.hid hlen
  have Hcv := Lib.hid hcv
  have hbv : bv < w.heap.size := block_lt_of_cell (w := w) (a := ⟨bv, ov + 0, none⟩) (hcv 0 (by omega))
  have hvl : vs.length ≤ 10 := by omega
  clear hr hk hb0 hm hcell hcv hlen hbad hok hnow F hll
  unfold headV
  simp only
  have hA : (#[Value.int IntKind.u8 0, Value.int IntKind.u8 0, Value.int IntKind.u8 0, Value.int IntKind.u8 0, Value.int IntKind.u8 0, Value.int IntKind.u8 0, Value.int IntKind.u8 0, Value.int IntKind.u8 0, Value.int IntKind.u8 0, Value.int IntKind.u8 0, Value.int IntKind.u8 0, Value.int IntKind.u8 0, Value.int IntKind.u8 0, Value.int IntKind.u8 0, Value.int IntKind.u8 0, Value.int IntKind.u8 0, Value.int IntKind.u8 0, Value.int IntKind.u8 0, Value.int IntKind.u8 0, Value.int IntKind.u8 0, Value.int IntKind.u8 0, Value.int IntKind.u8 0, Value.int IntKind.u8 0, Value.int IntKind.u8 0, Value.int IntKind.u8 0, Value.int IntKind.u8 0, Value.int IntKind.u8 0, Value.int IntKind.u8 0, Value.int IntKind.u8 0, Value.int IntKind.u8 0, Value.int IntKind.u8 0, Value.int IntKind.u8 0, Value.int IntKind.u8 0, Value.int IntKind.u8 0, Value.int IntKind.u8 0, Value.int IntKind.u8 0, Value.int IntKind.u8 0, Value.int IntKind.u8 0, Value.int IntKind.u8 0, Value.int IntKind.u8 0, Value.int IntKind.u8 0, Value.int IntKind.u8 0, Value.int IntKind.u8 0, Value.int IntKind.u8 0, Value.int IntKind.u8 0, Value.int IntKind.u8 0, Value.int IntKind.u8 0, Value.int IntKind.u8 0] : Array Value) = cells8 (zs 48) := rfl
  have hN := base0_now op fl vs hop.1 hop.2 hflb.1 hflb.2
  have hL := base0_later op fl vs hop.1 hop.2 hflb.1 hflb.2
  obtain ⟨base, hbase⟩ : ∃ l, baseB ⟨op, now, fl, vs⟩ words data = l := ⟨_, rfl⟩
  have hblen : base.length = 48 := by rw [← hbase]; exact baseB_len _ _ _
  rw [hbase] at Hhead
  obtain ⟨b0, hb0⟩ : ∃ l, base0 ⟨op, now, fl, vs⟩ = l := ⟨_, rfl⟩
  have h0len : b0.length = 48 := by rw [← hb0]; exact base0_len _
  have Hbs := Lib.hid (base_splice ⟨op, now, fl, vs⟩ words data)
  rw [hb0, hbase] at Hbs
  clear hbase
  cases now with
  | true =>
    rw [hb0] at hN
    clear hL hb0
    go_enter Tryz.func48, Tryz.ntmps48
    go_wp2_with fail
    refine C.out.mono ?_
    rintro e w1 ⟨ev, rfl, he, hb⟩
    obtain rfl := he.zero
    clear he
    obtain ⟨q0, q1, q2, q3⟩ := ((Blk.new w #[.int .i64 op, .bool true, .int .i64 fl, .slice (some ⟨bv, ov, none⟩) vs.length c] 42).later hb).four
    have L2 := Lib.hid (L _ (Hm.out.later hb)).out
    have Hb := Lib.hid (below_then Hb0.out hb)
    have hz : w.heap.size < w1.heap.size := by have := hb.size; simp at this; omega
    clear hb L
    go_wp2_with fail
    refine L2.out.mono ?_
    rintro e w2 ⟨b, rfl, hlb, hF, hb2⟩
    obtain ⟨hc2, hf2⟩ := bcell hb2
    have hz2 : w.heap.size < w2.heap.size := by have := hb2.size; omega
    have Hb2 := Lib.hid (below_then Hb.out hb2)
    have HF := Lib.hid hF
    have P1 := Lib.hid (put1_any b0 w2.heap.size 4 1 44 words 156 (w2.alloc (.cells (cells8 b0) 156)) (Blk.new _ _ _) (by decide) (by omega) (Nat.div_eq_of_lt (by omega)) w2.heap.size w2 ((Below.refl _ _).alloc (Nat.le_refl _) _) (Nat.le_refl _))
    have Hc3 := Lib.hid ((hc2 w.heap.size 3 hz).trans q3)
    clear hb2 hF L2
    go_wp2_with fail
    refine P1.out.mono ?_
    rintro e w3 ⟨rfl, hk3, hb3⟩
    have P2 := Lib.hid (put1_any _ w2.heap.size 5 3 43 data 156 w3 hk3 (by decide) (by rw [splice_len (by rw [be_len]; omega)]; omega) (Nat.div_eq_of_lt (by omega)) w2.heap.size w2 hb3 (Nat.le_refl _))
    rw [Hbs.out] at P2
    clear hk3 hb3 q0 q1 q2 q3 hc2 hf2 hN P1 hA
    go_wp2_with fail
    refine P2.out.mono ?_
    rintro e w4 ⟨rfl, hk4, hb4⟩
    have Hk4 := Lib.hid hk4
    have Hb4 := Lib.hid hb4
    clear hk4 hb4 P2
    go_wp2_with fail
    go_loopw [64] (fun i wr => ∃ j : Nat, j ≤ k.fs.length ∧ i = .int .i64 j ∧ Blk wr w2.heap.size (cells8 (putN k.fs vs base j)) 156 ∧ Below w2.heap.size w2 wr) (fun i _ => k.fs.length - (intOf i).toNat)
    case atStart => exact ⟨0, by omega, rfl, Hk4.out, Hb4.out⟩
    case round =>
      obtain ⟨j, hj, rfl, hkr, hbr⟩ := hrel
      have Hkr := Lib.hid hkr
      have Hbr := Lib.hid hbr
      by_cases hlt : j < k.fs.length
      · obtain ⟨q0, q1, q2⟩ := Flds.get (Blk.below HF.out hbr HF.out.lt) j hlt
        have hltF : b < wr.heap.size := Nat.lt_of_lt_of_le (Blk.lt HF.out) hbr.size
        have hltB : w2.heap.size < wr.heap.size := hkr.lt
        have hjv : j < vs.length := by rw [Hlen.out]; exact hlt
        have hc3 := (bcell hbr).1 w.heap.size 3 hz2
        rw [Hc3.out] at hc3
        have hzr : w.heap.size < wr.heap.size := Nat.lt_trans hz2 hltB
        have hbvr : bv < wr.heap.size := by omega
        have hcj : wr.cell? ⟨bv, ov + j, none⟩ = some (.int .u64 (vs[j] : Int)) := by
          rw [(bcell (below_then Hb2.out hbr)).1 bv (ov + j) hbv]; exact Hcv.out j hjv
        have hstep := putN_step k.fs vs base j hlt hjv
        have hfit := hgood.out j hlt hjv
        obtain ⟨f, hf⟩ : ∃ f, k.fs[j] = f := ⟨_, rfl⟩
        obtain ⟨x, hxj⟩ : ∃ x, vs[j] = x := ⟨_, rfl⟩
        obtain ⟨o1, o2, o3, o4, o5, o6⟩ := Fok.out f (by rw [← hf]; exact List.getElem_mem _)
        have hx64 : x < 2 ^ 64 := by rw [← hxj]; exact hx _ (List.getElem_mem _)
        rw [hf] at q0 q1 q2 hstep hfit
        rw [hxj] at hcj hstep hfit
        have hpl : (putN k.fs vs base j).length = 48 := by rw [putN_len (fun g hg => by rw [hblen]; exact (Fok.out g hg).2.1), hblen]
        have hba := hbr.alloc hbr.size (.cells #[.string (S f.nm), .int .i64 (f.pos : Int), .int .i64 (f.sz : Int)] 149)
        have P := fun n c' => Lib.hid (put1_any (putN k.fs vs base j) w2.heap.size f.pos f.sz c' x 156 ((wr.alloc (.cells #[.string (S f.nm), .int .i64 (f.pos : Int), .int .i64 (f.sz : Int)] 149)).drewN n) ((hkr.alloc _).drewN n) o4 (by omega) hfit w2.heap.size w2 (below_drewN hba n) (Nat.le_refl _))
        have HS := Lib.hid hstep
        have Hpl := Lib.hid hpl
        have e1 : IntKind.i64.wrap ((f.pos : Int) + (f.sz : Int)) = (f.pos : Int) + f.sz := IntWalk.i64_in _ (by omega)
        have e2 : ((f.pos : Int) + (f.sz : Int)).toNat = f.pos + f.sz := by omega
        have e3 : (0 : Int) ≤ (f.pos : Int) + (f.sz : Int) := by omega
        clear hbr hf hxj o6 hkr hstep hfit hpl hba
        go_wp2_with fail
        have c1 : (wr.alloc (.cells #[.string (S f.nm), .int .i64 (f.pos : Int), .int .i64 (f.sz : Int)] 149)).cell? ⟨w.heap.size, 3, none⟩ = some (.slice (some ⟨bv, ov, none⟩) vs.length c) := (World.cell?_alloc_lt _ _ ⟨w.heap.size, 3, none⟩ hzr).trans hc3
        have c2 : (wr.alloc (.cells #[.string (S f.nm), .int .i64 (f.pos : Int), .int .i64 (f.sz : Int)] 149)).cell? ⟨bv, ov + j, none⟩ = some (.int .u64 (x : Int)) := (World.cell?_alloc_lt _ _ ⟨bv, ov + j, none⟩ hbvr).trans hcj
        obtain ⟨c3, c4, c5⟩ := (Blk.new wr #[.string (S f.nm), .int .i64 (f.pos : Int), .int .i64 (f.sz : Int)] 149).three
        clear q0 q1 q2 hc3 hcj
        generalize hW5 : wr.alloc (.cells #[.string (S f.nm), .int .i64 (f.pos : Int), .int .i64 (f.sz : Int)] 149) = W5 at c1 c2 c3 c4 c5 P ⊢
        clear hW5
        have P1 := P 1 (48 - f.pos)
        have hsl := run_slice48 w2.heap.size f o2 o3
        clear P
        refine wp_region_still_tail 13 (by kernel_rfl) (by kernel_rfl) ?_
        simp only [List.take_succ_cons, List.take_zero, List.drop_succ_cons, List.drop_zero]
        change wpStill _ _ W5.drew _ _ _
        repeat still_step
        refine wpStill_nil ?_
        change wpList _ _ _ _ _ W5.drew
        go_wp2_with fail
        refine P1.out.mono ?_
        rintro e w6 ⟨rfl, hk6, hb6⟩
        rw [HS.out] at hk6
        have Hk6 := Lib.hid hk6
        have Hb6 := Lib.hid hb6
        clear hk6 hb6
        go_wp2_with fail
        go_roundw
        case rel => exact ⟨j + 1, by omega, by go_num, Hk6.out, Hb6.out⟩
        case measure => simp [intOf]; omega
      · have hjn : j = k.fs.length := by omega
        rw [hjn, putN_all k.fs vs base Hlen.out, ← Hhead.out] at hkr
        obtain ⟨l, hl⟩ : ∃ l, headB ⟨op, true, fl, vs⟩ words data = l := ⟨_, rfl⟩
        rw [hl] at hkr Hlen48
        have hcv2 := run_string_cells (P := Tryz.prog) 63 9 5 Tryz.underlying63 Tryz.underlying5 Tryz.underlying9 (W := wr) (b := w2.heap.size) (l := l) (fun i => Blk.cell hkr i) 48 48 (by rw [Hlen48.out]; exact Nat.le_refl _)
        rw [List.take_of_length_le (by rw [Hlen48.out]; exact Nat.le_refl _)] at hcv2
        have Hl := Lib.hid hl
        clear hbr hkr hjn hl
        go_wp2_with fail
        go_ret2
        exact ⟨_, by rw [Hl.out]; rfl, .good, below_then Hb2.out Hbr.out⟩
  | false =>
    rw [hb0] at hL
    clear hN hb0
    go_enter Tryz.func48, Tryz.ntmps48
    go_wp2_with fail
    refine C.out.mono ?_
    rintro e w1 ⟨ev, rfl, he, hb⟩
    obtain rfl := he.zero
    clear he
    obtain ⟨q0, q1, q2, q3⟩ := ((Blk.new w #[.int .i64 op, .bool false, .int .i64 fl, .slice (some ⟨bv, ov, none⟩) vs.length c] 42).later hb).four
    have L2 := Lib.hid (L _ (Hm.out.later hb)).out
    have Hb := Lib.hid (below_then Hb0.out hb)
    have hz : w.heap.size < w1.heap.size := by have := hb.size; simp at this; omega
    clear hb L
    go_wp2_with fail
    refine L2.out.mono ?_
    rintro e w2 ⟨b, rfl, hlb, hF, hb2⟩
    obtain ⟨hc2, hf2⟩ := bcell hb2
    have hz2 : w.heap.size < w2.heap.size := by have := hb2.size; omega
    have Hb2 := Lib.hid (below_then Hb.out hb2)
    have HF := Lib.hid hF
    have P1 := Lib.hid (put1_any b0 w2.heap.size 4 1 44 words 156 (w2.alloc (.cells (cells8 b0) 156)) (Blk.new _ _ _) (by decide) (by omega) (Nat.div_eq_of_lt (by omega)) w2.heap.size w2 ((Below.refl _ _).alloc (Nat.le_refl _) _) (Nat.le_refl _))
    have Hc3 := Lib.hid ((hc2 w.heap.size 3 hz).trans q3)
    clear hb2 hF L2
    go_wp2_with fail
    refine P1.out.mono ?_
    rintro e w3 ⟨rfl, hk3, hb3⟩
    have P2 := Lib.hid (put1_any _ w2.heap.size 5 3 43 data 156 w3 hk3 (by decide) (by rw [splice_len (by rw [be_len]; omega)]; omega) (Nat.div_eq_of_lt (by omega)) w2.heap.size w2 hb3 (Nat.le_refl _))
    rw [Hbs.out] at P2
    clear hk3 hb3 q0 q1 q2 q3 hc2 hf2 hL P1 hA
    go_wp2_with fail
    refine P2.out.mono ?_
    rintro e w4 ⟨rfl, hk4, hb4⟩
    have Hk4 := Lib.hid hk4
    have Hb4 := Lib.hid hb4
    clear hk4 hb4 P2
    go_wp2_with fail
    go_loopw [64] (fun i wr => ∃ j : Nat, j ≤ k.fs.length ∧ i = .int .i64 j ∧ Blk wr w2.heap.size (cells8 (putN k.fs vs base j)) 156 ∧ Below w2.heap.size w2 wr) (fun i _ => k.fs.length - (intOf i).toNat)
    case atStart => exact ⟨0, by omega, rfl, Hk4.out, Hb4.out⟩
    case round =>
      obtain ⟨j, hj, rfl, hkr, hbr⟩ := hrel
      have Hkr := Lib.hid hkr
      have Hbr := Lib.hid hbr
      by_cases hlt : j < k.fs.length
      · obtain ⟨q0, q1, q2⟩ := Flds.get (Blk.below HF.out hbr HF.out.lt) j hlt
        have hltF : b < wr.heap.size := Nat.lt_of_lt_of_le (Blk.lt HF.out) hbr.size
        have hltB : w2.heap.size < wr.heap.size := hkr.lt
        have hjv : j < vs.length := by rw [Hlen.out]; exact hlt
        have hc3 := (bcell hbr).1 w.heap.size 3 hz2
        rw [Hc3.out] at hc3
        have hzr : w.heap.size < wr.heap.size := Nat.lt_trans hz2 hltB
        have hbvr : bv < wr.heap.size := by omega
        have hcj : wr.cell? ⟨bv, ov + j, none⟩ = some (.int .u64 (vs[j] : Int)) := by
          rw [(bcell (below_then Hb2.out hbr)).1 bv (ov + j) hbv]; exact Hcv.out j hjv
        have hstep := putN_step k.fs vs base j hlt hjv
        have hfit := hgood.out j hlt hjv
        obtain ⟨f, hf⟩ : ∃ f, k.fs[j] = f := ⟨_, rfl⟩
        obtain ⟨x, hxj⟩ : ∃ x, vs[j] = x := ⟨_, rfl⟩
        obtain ⟨o1, o2, o3, o4, o5, o6⟩ := Fok.out f (by rw [← hf]; exact List.getElem_mem _)
        have hx64 : x < 2 ^ 64 := by rw [← hxj]; exact hx _ (List.getElem_mem _)
        rw [hf] at q0 q1 q2 hstep hfit
        rw [hxj] at hcj hstep hfit
        have hpl : (putN k.fs vs base j).length = 48 := by rw [putN_len (fun g hg => by rw [hblen]; exact (Fok.out g hg).2.1), hblen]
        have hba := hbr.alloc hbr.size (.cells #[.string (S f.nm), .int .i64 (f.pos : Int), .int .i64 (f.sz : Int)] 149)
        have P := fun n c' => Lib.hid (put1_any (putN k.fs vs base j) w2.heap.size f.pos f.sz c' x 156 ((wr.alloc (.cells #[.string (S f.nm), .int .i64 (f.pos : Int), .int .i64 (f.sz : Int)] 149)).drewN n) ((hkr.alloc _).drewN n) o4 (by omega) hfit w2.heap.size w2 (below_drewN hba n) (Nat.le_refl _))
        have HS := Lib.hid hstep
        have Hpl := Lib.hid hpl
        have e1 : IntKind.i64.wrap ((f.pos : Int) + (f.sz : Int)) = (f.pos : Int) + f.sz := IntWalk.i64_in _ (by omega)
        have e2 : ((f.pos : Int) + (f.sz : Int)).toNat = f.pos + f.sz := by omega
        have e3 : (0 : Int) ≤ (f.pos : Int) + (f.sz : Int) := by omega
        clear hbr hf hxj o6 hkr hstep hfit hpl hba
        go_wp2_with fail
        have c1 : (wr.alloc (.cells #[.string (S f.nm), .int .i64 (f.pos : Int), .int .i64 (f.sz : Int)] 149)).cell? ⟨w.heap.size, 3, none⟩ = some (.slice (some ⟨bv, ov, none⟩) vs.length c) := (World.cell?_alloc_lt _ _ ⟨w.heap.size, 3, none⟩ hzr).trans hc3
        have c2 : (wr.alloc (.cells #[.string (S f.nm), .int .i64 (f.pos : Int), .int .i64 (f.sz : Int)] 149)).cell? ⟨bv, ov + j, none⟩ = some (.int .u64 (x : Int)) := (World.cell?_alloc_lt _ _ ⟨bv, ov + j, none⟩ hbvr).trans hcj
        obtain ⟨c3, c4, c5⟩ := (Blk.new wr #[.string (S f.nm), .int .i64 (f.pos : Int), .int .i64 (f.sz : Int)] 149).three
        clear q0 q1 q2 hc3 hcj
        generalize hW5 : wr.alloc (.cells #[.string (S f.nm), .int .i64 (f.pos : Int), .int .i64 (f.sz : Int)] 149) = W5 at c1 c2 c3 c4 c5 P ⊢
        clear hW5
        have P1 := P 1 (48 - f.pos)
        have hsl := run_slice48 w2.heap.size f o2 o3
        clear P
        refine wp_region_still_tail 13 (by kernel_rfl) (by kernel_rfl) ?_
        simp only [List.take_succ_cons, List.take_zero, List.drop_succ_cons, List.drop_zero]
        change wpStill _ _ W5.drew _ _ _
        repeat still_step
        refine wpStill_nil ?_
        change wpList _ _ _ _ _ W5.drew
        go_wp2_with fail
        refine P1.out.mono ?_
        rintro e w6 ⟨rfl, hk6, hb6⟩
        rw [HS.out] at hk6
        have Hk6 := Lib.hid hk6
        have Hb6 := Lib.hid hb6
        clear hk6 hb6
        go_wp2_with fail
        go_roundw
        case rel => exact ⟨j + 1, by omega, by go_num, Hk6.out, Hb6.out⟩
        case measure => simp [intOf]; omega
      · have hjn : j = k.fs.length := by omega
        rw [hjn, putN_all k.fs vs base Hlen.out, ← Hhead.out] at hkr
        obtain ⟨l, hl⟩ : ∃ l, headB ⟨op, false, fl, vs⟩ words data = l := ⟨_, rfl⟩
        rw [hl] at hkr Hlen48
        have hcv2 := run_string_cells (P := Tryz.prog) 63 9 5 Tryz.underlying63 Tryz.underlying5 Tryz.underlying9 (W := wr) (b := w2.heap.size) (l := l) (fun i => Blk.cell hkr i) 48 48 (by rw [Hlen48.out]; exact Nat.le_refl _)
        rw [List.take_of_length_le (by rw [Hlen48.out]; exact Nat.le_refl _)] at hcv2
        have Hl := Lib.hid hl
        clear hbr hkr hjn hl
        go_wp2_with fail
        go_ret2
        exact ⟨_, by rw [Hl.out]; rfl, .good, below_then Hb2.out Hbr.out⟩
theorem write_any (h : Hd) (v : Value) (words data : Int) (w : World) (hfl : I64 h.fl) (hm : MaxCell w) (hv : Vals w v h.vs) (hll : h.vs.length ≤ 9223372036854775807) :
    Calls Tryz.prog 48 #[headV h v, .int .i64 words, .int .i64 data] w (RetSE w (writeR h words data)) := by
  by_cases hr : (rightR h).1 = 0
  · have hr' := rightR_0 hr
    by_cases hlim : words < 0 ∨ 255 < words ∨ data < 0 ∨ 16777215 < data
    · have e : writeR h words data = ([], 4, -1) := by unfold writeR; simp only [hr']; rw [if_neg (by simp), if_pos hlim]
      rw [e]
      exact write_limit h v words data w hfl hm hv hll hr' hlim
    · have e : writeR h words data = (headB h words.toNat data.toNat, 0, -1) := by unfold writeR; simp only [hr']; rw [if_neg (by simp), if_neg hlim]
      rw [e]
      have h1 := write_ok h v words.toNat data.toNat w hfl hm hv hll hr' (by omega) (by omega)
      rw [Int.toNat_of_nonneg (by omega), Int.toNat_of_nonneg (by omega)] at h1
      exact h1
  · exact write_bad h v words data w hfl hm hv hll hr
end Go.Proofs.YtlkikkfbennmnaaGreatDoor
namespace Go.Proofs.YtlkikkfbennmnaaGreatDoor
open Go.RowKit
def cellsU (l : List Nat) : Array Value := (l.map fun (x : Nat) => Value.int .u64 (x : Int)).toArray
theorem cellsU_size (l : List Nat) : (cellsU l).size = l.length := by simp [cellsU]
theorem cellsU_set (l : List Nat) (i x : Nat) : (cellsU l).setIfInBounds i (.int .u64 (x : Int)) = cellsU (l.set i x) := by simp [cellsU, List.map_set]
theorem cellsU_get (l : List Nat) (i : Nat) (h : i < l.length) : (cellsU l)[i]? = some (.int .u64 (l[i] : Int)) := by simp [cellsU, List.getElem?_eq_getElem h]
theorem run_make_U (w : World) (n : Nat) (hn : n ≤ 100) : (Instr.makeSlice 40 (.int .i64 (n : Int)) (.int .i64 (n : Int))).run Tryz.prog w = .ok (.slice (some ⟨w.heap.size, 0, none⟩) n n) (w.alloc (.cells (cellsU (List.replicate n 0)) 105)) := by
  obtain ⟨i, hi, hz, hs, hb⟩ := info_parts (show (Tryz.prog.info? 105).map (fun i => (i.zero, i.size, i.bytes)) = some (some (.int .u64 0), 1, 8) by kernel_rfl)
  have h := run_make (P := Tryz.prog) w 40 105 i _ Tryz.underlying40 hi hz .i64 .i64 n n (by omega) (Int.le_refl _) (by rw [hb]; omega) (by omega)
  simp only [Int.toNat_natCast, hs, Nat.mul_one] at h
  have e : madeCells (Value.int .u64 0).cells n = cellsU (List.replicate n 0) := by
    apply Array.ext'
    rw [show (Value.int IntKind.u64 0).cells = #[Value.int .u64 0] from rfl, toList_madeCells_one]
    simp [cellsU]
  rw [e] at h
  exact h
/-- a block of numbers -/
def Nums (W : World) (b : Nat) (l : List Nat) : Prop := Blk W b (cellsU l) 105
theorem Nums.vals {W : World} {b : Nat} {l : List Nat} (h : Nums W b l) (hx : ∀ x ∈ l, x < 2 ^ 64) : Vals W (.slice (some ⟨b, 0, none⟩) l.length l.length) l :=
  ⟨_, _, rfl, hx, fun _ => ⟨b, 0, rfl, fun j hj => by rw [Nat.zero_add, Blk.cell h j, cellsU_get l j hj]⟩⟩
theorem vals_nil (W : World) : Vals W (.slice none 0 0) [] := ⟨none, 0, rfl, ⟨fun _ h => absurd h (List.not_mem_nil), fun h => absurd h (by decide)⟩⟩
theorem four_stored {w W : World} {N b : Nat} {o0 o1 o2 o3 : Value} {t : TypeId} (x0 x1 x2 x3 : Value) (hR : Blk W b #[o0, o1, o2, o3] t) (hb : N ≤ b) (hB : Below N w W) :
    Blk ((((W.setCell ⟨b, 0, none⟩ x0).setCell ⟨b, 1, none⟩ x1).setCell ⟨b, 2, none⟩ x2).setCell ⟨b, 3, none⟩ x3) b #[x0, x1, x2, x3] t ∧
    Below N w ((((W.setCell ⟨b, 0, none⟩ x0).setCell ⟨b, 1, none⟩ x1).setCell ⟨b, 2, none⟩ x2).setCell ⟨b, 3, none⟩ x3) :=
  ⟨(((hR.set 0 x0).set 1 x1).set 2 x2).set 3 x3, (((hB.setCell (p := ⟨b, 0, none⟩) hb _).setCell (p := ⟨b, 1, none⟩) hb _).setCell (p := ⟨b, 2, none⟩) hb _).setCell (p := ⟨b, 3, none⟩) hb _⟩
/-- numbers in a block are there behind stores to another one -/
theorem vals_set4 {W : World} {p c n : Nat} {l : List Nat} (h : Vals W (.slice (some ⟨p, 0, none⟩) n c) l) (b : Nat) (hb : b < p) {x0 x1 x2 x3 : Value} :
    Vals ((((W.setCell ⟨b, 0, none⟩ x0).setCell ⟨b, 1, none⟩ x1).setCell ⟨b, 2, none⟩ x2).setCell ⟨b, 3, none⟩ x3) (.slice (some ⟨p, 0, none⟩) n c) l := by
  obtain ⟨q, c', hv, hx, hc⟩ := h
  refine ⟨q, c', hv, hx, fun hl => ?_⟩
  obtain ⟨b', o, hp, hcell⟩ := hc hl
  refine ⟨b', o, hp, fun j hj => ?_⟩
  have hbp : b' = p := by
    have : some (⟨p, 0, none⟩ : Addr) = some ⟨b', o, none⟩ := by rw [← hp]; injection hv
    injection this with this
    injection this with h1
    exact h1.symm
  subst hbp
  have hne : b' ≠ b := by omega
  have hh : ((((W.setCell ⟨b, 0, none⟩ x0).setCell ⟨b, 1, none⟩ x1).setCell ⟨b, 2, none⟩ x2).setCell ⟨b, 3, none⟩ x3).heap[b']? = W.heap[b']? := by
    rw [setCell_heap_other hne, setCell_heap_other hne, setCell_heap_other hne, setCell_heap_other hne]
  have := hcell j hj
  unfold World.cell? at this ⊢
  simp only [hh]
  exact this
end Go.Proofs.YtlkikkfbennmnaaGreatDoor
namespace Go.Proofs.YtlkikkfbennmnaaGreatDoor
open Go.RowKit
theorem get1_any (l : List UInt8) (w : World) (h : l.length ≤ 8) :
    Calls Tryz.prog 112 #[.string (S l)] w fun e w' => e = .returned (.int .u64 (val l : Nat)) ∧ w = w' := by
  have C := Lib.hid (get_ok l w h)
  go_enter Tryz.func112, Tryz.ntmps112
  go_wp2_with fail
  refine C.out.mono ?_
  rintro e w' ⟨rfl, rfl⟩
  go_wp2_with fail
  go_ret
  exact ⟨rfl, rfl⟩
/-- a head, two numbers and an error are returned -/
def RetRead (w : World) (r : Hd × Nat × Nat × Int) (e : Ending) (w' : World) : Prop :=
  ∃ v ev, e = .returned (.tuple #[headV r.1 v, .int .i64 (r.2.1 : Int), .int .i64 (r.2.2.1 : Int), ev]) ∧ Vals w' v r.1.vs ∧ ErrIs w' ev r.2.2.2 (-1) ∧ Below w.heap.size w w'
theorem read_few (s : List UInt8) (w : World) (_hl : s.length ≤ 140737488351232) (h : s.length ≠ 48) : Calls Tryz.prog 96 #[.string (S s)] w (RetRead w (hd0, 0, 0, 7)) := by
  have hne : ((s.length : Int) != 48) = true := by rw [bne_iff_ne]; omega
  clear h
  go_enter Tryz.func96, Tryz.ntmps96
  go_wp2_with fail
  refine bodyPost_ret (v := .tuple #[headV hd0 (.slice none 0 0), .int .i64 0, .int .i64 0, .iface 51 (.int .i64 7)]) (by simp [results, Tryz.results96, go_sem, headV, hd0]) rfl ⟨_, _, rfl, vals_nil _, .bare 7 (by decide), ?_⟩
  exact (Below.refl _ _).alloc (Nat.le_refl _) _
theorem read_high (s : List UInt8) (w : World) (hl : s.length = 48) (hl0 : 0 < s.length) (h : 128 ≤ (s[0]'hl0).toNat) : Calls Tryz.prog 96 #[.string (S s)] w (RetRead w (hd0, 0, 0, 3)) := by
  have hne : ((s.length : Int) != 48) = false := by rw [hl]; rfl
  have hge : decide ((128 : Int) ≤ ((s[0]'hl0).toNat : Int)) = true := by simp; omega
  have Hl := Lib.hid hl
  clear h hl
  go_enter Tryz.func96, Tryz.ntmps96
  go_wp2_with fail
  refine bodyPost_ret (v := .tuple #[headV hd0 (.slice none 0 0), .int .i64 0, .int .i64 0, .iface 51 (.int .i64 3)]) (by simp [results, Tryz.results96, go_sem, headV, hd0]) rfl ⟨_, _, rfl, vals_nil _, .bare 3 (by decide), ?_⟩
  exact (Below.refl _ _).alloc (Nat.le_refl _) _
theorem andNot64 (b : UInt8) (h : b.toNat < 128) : bits .andNot .u8 (b.toNat : Int) 64 = ((b.toNat % 64 : Nat) : Int) := by
  have hd : ∀ a : Fin 128, a.val &&& (255 - 64) = a.val % 64 := by decide
  have h1 := u8_andNot_nat b.toNat 64 (by omega) (by omega)
  rw [hd ⟨b.toNat, h⟩] at h1
  exact h1
theorem and64 (b : UInt8) (h : b.toNat < 128) : (bits .and .u8 (b.toNat : Int) 64 != 0) = decide (64 ≤ b.toNat) := by
  have hd : ∀ a : Fin 128, ((((a.val &&& 64 : Nat) : Int) != 0) = decide (64 ≤ a.val)) := by decide
  have h1 := u8_and_nat b.toNat 64 (by omega) (by omega)
  have h2 : bits .and .u8 (b.toNat : Int) 64 = ((b.toNat &&& 64 : Nat) : Int) := h1
  rw [h2]
  exact hd ⟨b.toNat, h⟩
theorem read_none (s : List UInt8) (w : World) (hl : s.length = 48) (hl0 : 0 < s.length) (h : (s[0]'hl0).toNat < 128) (hk : kindOf (((s[0]'hl0).toNat % 64 : Nat) : Int) = none) : Calls Tryz.prog 96 #[.string (S s)] w (RetRead w (hd0, 0, 0, 1)) := by
  have hne : ((s.length : Int) != 48) = false := by rw [hl]; rfl
  have Hl := Lib.hid hl
  clear hl
  obtain ⟨b0, hb0⟩ : ∃ b, s[0]'hl0 = b := ⟨_, rfl⟩
  rw [hb0] at h hk
  have hge : decide ((128 : Int) ≤ (b0.toNat : Int)) = false := by simp; omega
  have hop := andNot64 b0 h
  have C := fun w => Lib.hid (fields_none hk w)
  clear h hk
  go_enter Tryz.func96, Tryz.ntmps96
  go_wp2_with fail
  refine (C _).out.mono ?_
  rintro e w1 ⟨rfl, hb⟩
  have hk1 := (Blk.new w #[.int .i64 0, .bool false, .int .i64 0, .slice none 0 0] 42).later hb
  obtain ⟨q0, q1, q2, q3⟩ := hk1.four
  have f0 := hk1.frozen 0
  have f1 := hk1.frozen 1
  have f2 := hk1.frozen 2
  have f3 := hk1.frozen 3
  have Hb := Lib.hid (below_then ((Below.refl w.heap.size w).alloc (Nat.le_refl _) _) hb)
  have Hk1 := Lib.hid hk1
  clear hb hk1
  go_wp2_with fail
  refine bodyPost_ret (v := .tuple #[headV hd0 (.slice none 0 0), .int .i64 0, .int .i64 0, .iface 51 (.int .i64 1)]) (by simp [results, Tryz.results96, go_sem, headV, hd0, q0, q1, q2, q3]) rfl ⟨_, _, rfl, vals_nil _, .bare 1 (by decide), ?_⟩
  exact (four_stored _ _ _ _ Hk1.out (Nat.le_refl _) Hb.out).2
end Go.Proofs.YtlkikkfbennmnaaGreatDoor
namespace Go.Proofs.YtlkikkfbennmnaaGreatDoor
open Go.RowKit
def numsJ (fs : List Fd) (s : List UInt8) (j : Nat) : List Nat := (readVs fs s).take j ++ List.replicate (fs.length - j) 0
theorem readVs_len (fs : List Fd) (s : List UInt8) : (readVs fs s).length = fs.length := by simp [readVs]
theorem numsJ_0 (fs : List Fd) (s : List UInt8) : numsJ fs s 0 = List.replicate fs.length 0 := by simp [numsJ]
theorem numsJ_all (fs : List Fd) (s : List UInt8) : numsJ fs s fs.length = readVs fs s := by
  unfold numsJ; rw [Nat.sub_self, List.take_of_length_le (by rw [readVs_len]; exact Nat.le_refl _)]; simp
theorem numsJ_len (fs : List Fd) (s : List UInt8) (j : Nat) (hj : j ≤ fs.length) : (numsJ fs s j).length = fs.length := by
  unfold numsJ; rw [List.length_append, List.length_take, List.length_replicate, readVs_len]; omega
theorem numsJ_step (fs : List Fd) (s : List UInt8) (j : Nat) (hj : j < fs.length) : (numsJ fs s j).set j (val (cutB s fs[j].pos fs[j].sz)) = numsJ fs s (j + 1) := by
  unfold numsJ
  have hl : ((readVs fs s).take j).length = j := by rw [List.length_take, readVs_len]; omega
  rw [List.set_append_right _ _ (by omega), hl, Nat.sub_self, show fs.length - j = (fs.length - (j + 1)) + 1 by omega, List.replicate_succ, List.set_cons_zero, List.take_succ_eq_append_getElem (by rw [readVs_len]; exact hj), List.append_assoc]
  simp [readVs]
theorem readR_some (s : List UInt8) (k : Kd) (hl : s.length = 48) (b0 b1 : UInt8) (h0 : s[0]? = some b0) (h1 : s[1]? = some b1) (hlt : b0.toNat < 128) (hk : kindOf ((b0.toNat % 64 : Nat) : Int) = some k) (R : List UInt8 × Int × Int)
    (hR : writeR ⟨(b0.toNat : Int) % 64, decide (64 ≤ b0.toNat), (b1.toNat : Int), readVs k.fs s⟩ (val (List.take 1 (List.drop 4 s)) : Int) (val (List.take 3 (List.drop 5 s)) : Int) = R) :
    readR s = if R = (s, 0, -1) then (⟨(b0.toNat : Int) % 64, decide (64 ≤ b0.toNat), (b1.toNat : Int), readVs k.fs s⟩, val (List.take 1 (List.drop 4 s)), val (List.take 3 (List.drop 5 s)), 0) else (hd0, 0, 0, 3) := by
  have e0 := getD_some h0
  have e1 := getD_some h1
  have eH : readH k s = ⟨(b0.toNat : Int) % 64, decide (64 ≤ b0.toNat), (b1.toNat : Int), readVs k.fs s⟩ := by unfold readH; rw [e0, e1]; rfl
  have eW : readW s = val (List.take 1 (List.drop 4 s)) := rfl
  have eD : readD s = val (List.take 3 (List.drop 5 s)) := rfl
  unfold readR
  rw [if_neg (by omega), e0, if_neg (by omega), hk]
  simp only [eH, eW, eD, hR]
set_option maxRecDepth 100000 in
set_option maxHeartbeats 1000000 in
theorem read_some (s : List UInt8) (k : Kd) (w : World) (hm : MaxCell w) (hl : s.length = 48) (hl0 : 0 < s.length) (hl1 : 1 < s.length) (h : (s[0]'hl0).toNat < 128) (hk : kindOf (((s[0]'hl0).toNat % 64 : Nat) : Int) = some k) :
    Calls Tryz.prog 96 #[.string (S s)] w (RetRead w (readR s)) := by
  have hne : ((s.length : Int) != 48) = false := by rw [hl]; rfl
  have F := kindFacts hk
  have hl10 := F.len
  have hk1l := F.len0
  have Fok := Lib.hid F.fok
  have Hl := Lib.hid hl
  obtain ⟨b0, hb0⟩ : ∃ b, s[0]'hl0 = b := ⟨_, rfl⟩
  obtain ⟨b1, hb1⟩ : ∃ b, s[1]'hl1 = b := ⟨_, rfl⟩
  have C := fun w hm => Lib.hid (fields_some hk w hm)
  rw [hb0] at C h hk
  have RS := fun R hR => Lib.hid (readR_some s k hl b0 b1 (by rw [List.getElem?_eq_getElem hl0, hb0]) (by rw [List.getElem?_eq_getElem hl1, hb1]) h hk R hR)
  have hge : decide ((128 : Int) ≤ (b0.toNat : Int)) = false := by simp; omega
  have hop := andNot64 b0 h
  have hnw := and64 b0 h
  have Hh := Lib.hid h
  have Hm := Lib.hid hm
  have Hk := Lib.hid hk
  clear h hk hl hm F
  go_enter Tryz.func96, Tryz.ntmps96
  go_wp2_with fail
  have hb00 := (Below.refl w.heap.size w).alloc (Nat.le_refl _) (.cells #[.int .i64 0, .bool false, .int .i64 0, .slice none 0 0] 42)
  have C2 := Lib.hid (C _ (Hm.out.later hb00)).out
  clear C
  refine C2.out.mono ?_
  rintro e w1 ⟨b, rfl, hlb, hF, hb⟩
  have hkk := (Blk.new w #[.int .i64 0, .bool false, .int .i64 0, .slice none 0 0] 42).later hb
  obtain ⟨q0, q1, q2, q3⟩ := hkk.four
  have f0 := hkk.frozen 0
  have f1 := hkk.frozen 1
  have f2 := hkk.frozen 2
  have f3 := hkk.frozen 3
  have hz : w.heap.size < w1.heap.size := hkk.lt
  have Hkk := Lib.hid hkk
  have Hb := Lib.hid (below_then hb00 hb)
  have HF := Lib.hid hF
  have hmk := fun w => run_make_U w k.fs.length (by omega)
  have hbw1 : b < w1.heap.size := Blk.lt hF
  have hbw : b ≠ w.heap.size := by have := hlb; simp at this; omega
  have hb1l : (b1.toNat : Int) < 256 := by have := b1.toNat_lt; omega
  clear hb hkk hb00 hF C2
  go_wp2_with fail
  go_region
  have hk4 := four_stored (.int .i64 ((b0.toNat : Int) % 64)) (.bool (decide (64 ≤ b0.toNat))) (.int .i64 (b1.toNat : Int)) (.slice (some ⟨w1.heap.size, 0, none⟩) k.fs.length k.fs.length) Hkk.out (Nat.le_refl _) Hb.out
  have hs4 : ((((w1.setCell ⟨w.heap.size, 0, none⟩ (.int .i64 ((b0.toNat : Int) % 64))).setCell ⟨w.heap.size, 1, none⟩ (.bool (decide (64 ≤ b0.toNat)))).setCell ⟨w.heap.size, 2, none⟩ (.int .i64 (b1.toNat : Int))).setCell ⟨w.heap.size, 3, none⟩ (.slice (some ⟨w1.heap.size, 0, none⟩) k.fs.length k.fs.length)).heap.size = w1.heap.size := by simp
  have hF4 : Flds ((((w1.setCell ⟨w.heap.size, 0, none⟩ (.int .i64 ((b0.toNat : Int) % 64))).setCell ⟨w.heap.size, 1, none⟩ (.bool (decide (64 ≤ b0.toNat)))).setCell ⟨w.heap.size, 2, none⟩ (.int .i64 (b1.toNat : Int))).setCell ⟨w.heap.size, 3, none⟩ (.slice (some ⟨w1.heap.size, 0, none⟩) k.fs.length k.fs.length)) b k.fs := (((Blk.other HF.out hbw _).other hbw _).other hbw _).other hbw _
  generalize ((((w1.setCell ⟨w.heap.size, 0, none⟩ (.int .i64 ((b0.toNat : Int) % 64))).setCell ⟨w.heap.size, 1, none⟩ (.bool (decide (64 ≤ b0.toNat)))).setCell ⟨w.heap.size, 2, none⟩ (.int .i64 (b1.toNat : Int))).setCell ⟨w.heap.size, 3, none⟩ (.slice (some ⟨w1.heap.size, 0, none⟩) k.fs.length k.fs.length)) = w3 at hk4 hs4 hF4 ⊢
  have hN4 := Blk.new w3 (cellsU (List.replicate k.fs.length 0)) 105
  rw [hs4] at hN4
  have hK4 := hk4.1.alloc (.cells (cellsU (List.replicate k.fs.length 0)) 105)
  have hF5 : Flds (w3.alloc (.cells (cellsU (List.replicate k.fs.length 0)) 105)).drew b k.fs := Blk.alloc hF4 _
  have hB4 := hk4.2.alloc hk4.2.size (.cells (cellsU (List.replicate k.fs.length 0)) 105)
  have hBd := hB4.drew
  have hKd := hK4.drew
  have hNd := hN4.drew
  generalize (w3.alloc (.cells (cellsU (List.replicate k.fs.length 0)) 105)).drew = w4 at hKd hF5 hBd hNd ⊢
  have HK := Lib.hid hKd
  have HF4 := Lib.hid hF5
  have HB := Lib.hid hBd
  have HN := Lib.hid hNd
  have hN4lt : w1.heap.size < w4.heap.size := hNd.lt
  clear hk4 hs4 hF4 hN4 hK4 hF5 hB4 hBd hKd hNd q0 q1 q2 q3 f0 f1 f2 f3 Hkk HF hmk
  go_wp2_with fail
  go_loopw [49] (fun i wr => ∃ j : Nat, j ≤ k.fs.length ∧ i = .int .i64 j ∧ Nums wr w1.heap.size (numsJ k.fs s j) ∧ Below w1.heap.size w4 wr) (fun i _ => k.fs.length - (intOf i).toNat)
  case atStart => exact ⟨0, by omega, rfl, by rw [numsJ_0]; exact HN.out, Below.refl _ _⟩
  case round =>
    obtain ⟨j, hj, rfl, hkr, hbr⟩ := hrel
    have Hkr := Lib.hid hkr
    have Hbr := Lib.hid hbr
    by_cases hlt : j < k.fs.length
    · obtain ⟨q0, q1, q2⟩ := Flds.get (Blk.below HF4.out hbr hbw1) j hlt
      have hltF : b < wr.heap.size := by have := hbr.size; omega
      have hltB : w1.heap.size < wr.heap.size := Blk.lt hkr
      have hc3 := (Blk.below HK.out hbr hz).four.2.2.2
      have hzr : w.heap.size < wr.heap.size := Nat.lt_trans hz hltB
      have hstep := numsJ_step k.fs s j hlt
      obtain ⟨f, hf⟩ : ∃ f, k.fs[j] = f := ⟨_, rfl⟩
      obtain ⟨o1, o2, o3, o4, o5, o6⟩ := Fok.out f (by rw [← hf]; exact List.getElem_mem _)
      rw [hf] at q0 q1 q2 hstep
      have HS := Lib.hid hstep
      have hba := hbr.alloc (by have := hbr.size; omega) (.cells #[.string (S f.nm), .int .i64 (f.pos : Int), .int .i64 (f.sz : Int)] 149)
      have hka := Blk.alloc hkr (.cells #[.string (S f.nm), .int .i64 (f.pos : Int), .int .i64 (f.sz : Int)] 149)
      have e1 : IntKind.i64.wrap ((f.pos : Int) + (f.sz : Int)) = (f.pos : Int) + f.sz := IntWalk.i64_in _ (by omega)
      have e2 : ((f.pos : Int) + (f.sz : Int)).toNat = f.pos + f.sz := by omega
      have e3 : (0 : Int) ≤ (f.pos : Int) + (f.sz : Int) := by omega
      have e4 : (f.pos : Int) + (f.sz : Int) ≤ (s.length : Int) := by have := Hl.out; omega
      have e5 : (f.pos : Int) ≤ (f.pos : Int) + (f.sz : Int) := by omega
      have G : ∀ W, Calls Tryz.prog 112 #[.string (S (List.take f.sz (List.drop f.pos s)))] W fun e w'' => e = .returned (.int .u64 (val (cutB s f.pos f.sz) : Int)) ∧ w'' = W := fun W => (get1_any _ W (by have := List.length_take_le f.sz (List.drop f.pos s); omega)).mono fun _ _ ⟨h1, h2⟩ => ⟨h1, h2.symm⟩
      have c1 : (wr.alloc (.cells #[.string (S f.nm), .int .i64 (f.pos : Int), .int .i64 (f.sz : Int)] 149)).cell? ⟨w.heap.size, 3, none⟩ = some (.slice (some ⟨w1.heap.size, 0, none⟩) k.fs.length k.fs.length) := (World.cell?_alloc_lt _ _ ⟨w.heap.size, 3, none⟩ hzr).trans hc3
      obtain ⟨c3, c4, c5⟩ := (Blk.new wr #[.string (S f.nm), .int .i64 (f.pos : Int), .int .i64 (f.sz : Int)] 149).three
      have cj : (wr.alloc (.cells #[.string (S f.nm), .int .i64 (f.pos : Int), .int .i64 (f.sz : Int)] 149)).cell? ⟨w1.heap.size, j, none⟩ = _ := (Blk.cell hka j).trans (cellsU_get _ j (by rw [numsJ_len _ _ _ hj]; exact hlt))
      have fj := Blk.frozen hka j
      have hst := hka.set j (.int .u64 (val (cutB s f.pos f.sz) : Int))
      rw [cellsU_set, HS.out] at hst
      have hbs := hba.setCell (p := ⟨w1.heap.size, j, none⟩) (Nat.le_refl _) (.int .u64 (val (cutB s f.pos f.sz) : Int))
      have Hf := Lib.hid hf
      clear hbr hf o6 hkr hstep hba hka
      go_wp2_with fail
      clear q0 q1 q2 hc3
      generalize hW5 : wr.alloc (.cells #[.string (S f.nm), .int .i64 (f.pos : Int), .int .i64 (f.sz : Int)] 149) = W5 at c1 c3 c4 c5 cj fj hst hbs ⊢
      clear hW5
      have Hst := Lib.hid hst
      have Hbs := Lib.hid hbs
      clear hst hbs
      refine wp_region_still_tail 14 (by kernel_rfl) (by kernel_rfl) ?_
      simp only [List.take_succ_cons, List.take_zero, List.drop_succ_cons, List.drop_zero]
      change wpStill _ _ W5.drew _ _ _
      repeat still_step
      still_call (G _)
      repeat still_step
      refine wpStill_nil ?_
      change wpList _ _ _ _ _ W5.drew
      go_wp2_with fail
      go_roundw
      case rel => exact ⟨j + 1, by omega, by go_num, Hst.out, Hbs.out.drew⟩
      case measure => simp [intOf]; omega
    · have hjn : j = k.fs.length := by omega
      rw [hjn, numsJ_all] at hkr
      have hKr := Blk.below HK.out hbr hz
      obtain ⟨q0, q1, q2, q3⟩ := hKr.four
      have f0 := hKr.frozen 0
      have f1 := hKr.frozen 1
      have f2 := hKr.frozen 2
      have f3 := hKr.frozen 3
      have HKr := Lib.hid hKr
      have HNr := Lib.hid hkr
      clear hkr hbr hKr hjn Hkr
      have d1 : (4 : Int) ≤ (s.length : Int) := by have := Hl.out; omega
      have d2 : (5 : Int) ≤ (s.length : Int) := by have := Hl.out; omega
      have d3 : (8 : Int) ≤ (s.length : Int) := by have := Hl.out; omega
      have la : (List.take 1 (List.drop 4 s)).length ≤ 8 := by have := List.length_take_le 1 (List.drop 4 s); omega
      have lb : (List.take 3 (List.drop 5 s)).length ≤ 8 := by have := List.length_take_le 3 (List.drop 5 s); omega
      have va : val (List.take 1 (List.drop 4 s)) ≤ 255 := by have := val_lt 1 (cutB s 4 1) (cutB_len (by have := Hl.out; omega)); unfold cutB at this; omega
      have vb : val (List.take 3 (List.drop 5 s)) ≤ 16777215 := by have := val_lt 3 (cutB s 5 3) (cutB_len (by have := Hl.out; omega)); unfold cutB at this; omega
      have hx64 : ∀ x ∈ readVs k.fs s, x < 2 ^ 64 := fun x hx => by
        obtain ⟨f, hf, rfl⟩ := List.mem_map.1 hx
        have ho := Fok.out f hf
        have hvl := val_lt f.sz (cutB s f.pos f.sz) (cutB_len (by have := Hl.out; omega))
        exact Nat.lt_of_lt_of_le hvl (by
          have : (256 : Nat) ^ f.sz ≤ 256 ^ 8 := Nat.pow_le_pow_right (by decide) ho.2.2.2.1
          omega)
      have hvals : Vals wr (.slice (some ⟨w1.heap.size, 0, none⟩) k.fs.length k.fs.length) (readVs k.fs s) := by
        have := Nums.vals HNr.out hx64
        rwa [readVs_len] at this
      have hBr : Below w.heap.size w wr := HB.out.trans (Hbr.out.mono (Nat.le_of_lt hz))
      have hmr := Hm.out.later hBr
      have Wc := fun n => write_any ⟨(b0.toNat : Int) % 64, decide (64 ≤ b0.toNat), (b1.toNat : Int), readVs k.fs s⟩ (.slice (some ⟨w1.heap.size, 0, none⟩) k.fs.length k.fs.length) (val (List.take 1 (List.drop 4 s)) : Int) (val (List.take 3 (List.drop 5 s)) : Int) (wr.drewN n)
        ⟨by simp only; omega, by simp only; omega⟩ (show MaxCell (wr.drewN n) from hmr) (hvals.drewN n) (by simp only [readVs_len]; omega)
      obtain ⟨R, hR⟩ : ∃ R, writeR ⟨(b0.toNat : Int) % 64, decide (64 ≤ b0.toNat), (b1.toNat : Int), readVs k.fs s⟩ (val (List.take 1 (List.drop 4 s)) : Int) (val (List.take 3 (List.drop 5 s)) : Int) = R := ⟨_, rfl⟩
      rw [hR] at Wc
      unfold headV at Wc
      simp only at Wc
      have WC := fun n => Lib.hid (Wc n)
      have HR := Lib.hid hR
      have HBr := Lib.hid hBr
      have Hvals := Lib.hid hvals
      have vaI : (val (List.take 1 (List.drop 4 s)) : Int) ≤ 255 := by omega
      have vbI : (val (List.take 3 (List.drop 5 s)) : Int) ≤ 16777215 := by omega
      clear Wc hR hBr hmr hvals hx64 va vb Hbr
      go_wp2_with fail
      go_quiet ((go_at_call 112; first | exact quiet_left (get1_any _ _ la) | exact quiet_left (get1_any _ _ lb)))
      go_wp2_with fail
      refine (WC _).out.mono ?_
      clear WC
      rintro e w5 ⟨ev, rfl, he, hb5⟩
      have RSR := RS R HR.out
      clear RS
      have hK5 := Blk.later (HKr.out.drewN nq) hb5
      have hB5 : Below w.heap.size w w5 := below_then (below_drewN HBr.out nq) hb5
      have hV5 := Vals.later (Hvals.out.drewN nq) hb5
      clear q0 q1 q2 q3 f0 f1 f2 f3 hb5
      obtain ⟨q0, q1, q2, q3⟩ := hK5.four
      have f0 := hK5.frozen 0
      have f1 := hK5.frozen 1
      have f2 := hK5.frozen 2
      have f3 := hK5.frozen 3
      have K5 := Lib.hid hK5
      have B5 := Lib.hid hB5
      have V5 := Lib.hid hV5
      clear hK5 hB5 hV5 HR
      obtain ⟨r, n, p⟩ := R
      simp only at he
      have hfail : n ≠ 0 ∨ r ≠ s → readR s = (hd0, 0, 0, 3) := fun h => by
        rw [RSR.out, if_neg]
        intro e
        have e1 := congrArg (fun x => x.1) e
        have e2 := congrArg (fun x => x.2.1) e
        simp only at e1 e2
        rcases h with h | h
        · exact h e2
        · exact h e1
      have Hfail := Lib.hid hfail
      clear hfail
      cases he with
      | good =>
        by_cases hrs : r = s
        · have hne2 : (!r == s) = false := by simp [hrs]
          have hgood := Lib.hid (show readR s = _ from by rw [RSR.out, if_pos (by rw [hrs])])
          clear hrs
          go_wp2_with fail
          rw [hgood.out]
          obtain ⟨g1, g2⟩ := four_stored (.int .i64 ((b0.toNat : Int) % 64)) (.bool (decide (64 ≤ b0.toNat))) (.int .i64 (b1.toNat : Int)) (.slice (some ⟨w1.heap.size, 0, none⟩) k.fs.length k.fs.length) K5.out (Nat.le_refl _) B5.out
          refine bodyPost_ret (v := .tuple #[headV ⟨(b0.toNat : Int) % 64, decide (64 ≤ b0.toNat), (b1.toNat : Int), readVs k.fs s⟩ (.slice (some ⟨w1.heap.size, 0, none⟩) k.fs.length k.fs.length), .int .i64 (val (List.take 1 (List.drop 4 s)) : Int), .int .i64 (val (List.take 3 (List.drop 5 s)) : Int), .nilIface]) (by simp [results, Tryz.results96, go_sem, headV, q0, q1, q2, q3]) rfl ⟨_, _, rfl, ?_, .good, g2⟩
          exact vals_set4 V5.out _ hz
        · have hne2 : (!r == s) = true := by simp [hrs]
          have e := Hfail.out (.inr hrs)
          have E := Lib.hid e
          clear hrs e
          go_wp2_with fail
          rw [E.out]
          refine bodyPost_ret (v := .tuple #[headV hd0 (.slice none 0 0), .int .i64 0, .int .i64 0, .iface 51 (.int .i64 3)]) (by simp [results, Tryz.results96, go_sem, headV, hd0, q0, q1, q2, q3]) rfl ⟨_, _, rfl, vals_nil _, .bare 3 (by decide), ?_⟩
          exact (four_stored _ _ _ _ K5.out (Nat.le_refl _) B5.out).2
      | bare _ hn =>
        have E := Lib.hid (Hfail.out (.inl hn))
        go_wp2_with fail
        rw [E.out]
        refine bodyPost_ret (v := .tuple #[headV hd0 (.slice none 0 0), .int .i64 0, .int .i64 0, .iface 51 (.int .i64 3)]) (by simp [results, Tryz.results96, go_sem, headV, hd0, q0, q1, q2, q3]) rfl ⟨_, _, rfl, vals_nil _, .bare 3 (by decide), ?_⟩
        exact (four_stored _ _ _ _ K5.out (Nat.le_refl _) B5.out).2
      | placed bb _ _ hn h0 h1 =>
        have E := Lib.hid (Hfail.out (.inl hn))
        go_wp2_with fail
        rw [E.out]
        refine bodyPost_ret (v := .tuple #[headV hd0 (.slice none 0 0), .int .i64 0, .int .i64 0, .iface 51 (.int .i64 3)]) (by simp [results, Tryz.results96, go_sem, headV, hd0, q0, q1, q2, q3]) rfl ⟨_, _, rfl, vals_nil _, .bare 3 (by decide), ?_⟩
        exact (four_stored _ _ _ _ K5.out (Nat.le_refl _) B5.out).2
theorem read_any (s : List UInt8) (w : World) (hl : s.length ≤ 140737488351232) (hm : MaxCell w) : Calls Tryz.prog 96 #[.string (S s)] w (RetRead w (readR s)) := by
  by_cases h48 : s.length = 48
  · have hl0 : 0 < s.length := by omega
    have hl1 : 1 < s.length := by omega
    have e0 : s.getD 0 0 = s[0]'hl0 := by rw [List.getD_eq_getElem?_getD, List.getElem?_eq_getElem hl0]; rfl
    by_cases hh : 128 ≤ (s[0]'hl0).toNat
    · have e : readR s = (hd0, 0, 0, 3) := by unfold readR; rw [if_neg (by omega), e0, if_pos hh]
      rw [e]
      exact read_high s w h48 hl0 hh
    · cases hk : kindOf (((s[0]'hl0).toNat % 64 : Nat) : Int) with
      | none =>
        have e : readR s = (hd0, 0, 0, 1) := by unfold readR; rw [if_neg (by omega), e0, if_neg hh, hk]
        rw [e]
        exact read_none s w h48 hl0 (by omega) hk
      | some k => exact read_some s k w hm h48 hl0 hl1 (by omega) hk
  · have e : readR s = (hd0, 0, 0, 7) := by unfold readR; rw [if_pos h48]
    rw [e]
    exact read_few s w hl h48
end Go.Proofs.YtlkikkfbennmnaaGreatDoor
namespace Go.Proofs.YtlkikkfbennmnaaGreatDoor
open Go.RowKit
set_option maxRecDepth 100000 in
theorem equalU_same (l : List Nat) (v v' : Value) (w : World) (hv : Vals w v l) (hv' : Vals w v' l) (hl : l.length ≤ 140737488355328) :
    Calls Tryz.prog 62 #[v, v'] w fun e w' => e = .returned (.bool true) ∧ Below w.heap.size w w' := by
  obtain ⟨p, c, rfl, _, hc⟩ := hv
  obtain ⟨p', c', rfl, _, hc'⟩ := hv'
  have hne : ((l.length : Int) != (l.length : Int)) = false := by simp
  have Hc := Lib.hid hc
  have Hc' := Lib.hid hc'
  clear hc hc'
  go_enter Tryz.func62, Tryz.ntmps62
  go_wp2_with fail
  go_loopw [13] (fun i wr => ∃ j : Nat, j ≤ l.length ∧ i = .int .i64 j ∧ Below w.heap.size w wr) (fun i _ => l.length - (intOf i).toNat)
  case atStart => exact ⟨0, by omega, rfl, Below.refl _ _⟩
  case round =>
    obtain ⟨j, hj, rfl, hb⟩ := hrel
    have Hb := Lib.hid hb
    by_cases hlt : j < l.length
    · obtain ⟨b, o, rfl, hcl⟩ := Hc.out (by omega)
      obtain ⟨b', o', rfl, hcl'⟩ := Hc'.out (by omega)
      have h1 : wr.cell? ⟨b, o + j, none⟩ = some (.int .u64 (l[j] : Int)) := by
        rw [(bcell hb).1 b (o + j) (block_lt_of_cell (w := w) (a := ⟨b, o + j, none⟩) (hcl j hlt))]; exact hcl j hlt
      have h2 : wr.cell? ⟨b', o' + j, none⟩ = some (.int .u64 (l[j] : Int)) := by
        rw [(bcell hb).1 b' (o' + j) (block_lt_of_cell (w := w) (a := ⟨b', o' + j, none⟩) (hcl' j hlt))]; exact hcl' j hlt
      obtain ⟨x, hx⟩ : ∃ x, l[j] = x := ⟨_, rfl⟩
      rw [hx] at h1 h2
      have hj0 : (0 : Int) ≤ (j : Int) := by omega
      have hxx : ((x : Int) != (x : Int)) = false := by simp
      clear hb hcl hcl' hx
      go_wp2_with fail
      go_quiet (fail)
      go_wp2_with fail
      go_roundw
      case rel => exact ⟨j + 1, by omega, by go_num, below_drewN Hb.out _⟩
      case measure => simp [intOf]; omega
    · clear hb
      go_wp2_with fail
      go_ret
      exact ⟨rfl, Hb.out⟩
end Go.Proofs.YtlkikkfbennmnaaGreatDoor
namespace Go.Proofs.YtlkikkfbennmnaaGreatDoor
open Go.RowKit
theorem sameK_same (h : Hd) (v v' : Value) (w : World) (hv : Vals w v h.vs) (hv' : Vals w v' h.vs) (hl : h.vs.length ≤ 140737488355328) :
    Calls Tryz.prog 37 #[headV h v, headV h v'] w fun e w' => e = .returned (.bool true) ∧ Below w.heap.size w w' := by
  obtain ⟨op, now, fl, vs⟩ := h
  unfold headV
  simp only at *
  have hb0 := ((Below.refl w.heap.size w).alloc (Nat.le_refl _) (.cells #[.int .i64 op, .bool now, .int .i64 fl, v] 42)).alloc (by simp) (.cells #[.int .i64 op, .bool now, .int .i64 fl, v'] 42)
  have C := Lib.hid (equalU_same vs v v' _ (hv.later hb0) (hv'.later hb0) hl)
  have Hb0 := Lib.hid hb0
  clear hb0 hv hv'
  go_enter Tryz.func37, Tryz.ntmps37
  go_wp2_with fail
  refine C.out.mono ?_
  rintro e w1 ⟨rfl, hb⟩
  have Hb := Lib.hid (below_then Hb0.out hb)
  clear hb
  go_wp2_with fail
  go_ret
  exact ⟨rfl, Hb.out⟩
end Go.Proofs.YtlkikkfbennmnaaGreatDoor
