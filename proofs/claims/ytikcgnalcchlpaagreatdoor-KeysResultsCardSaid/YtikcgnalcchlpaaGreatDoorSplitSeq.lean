/- strings.SplitSeq at a separator of one byte. -/
import Derived.Test.YtikcgnalcchlpaaGreatDoorSeqCell
import Derived.Test.YtikcgnalcchlpaaGreatDoorPairMath2
import Derived.Test.YtikcgnalcchlpaaGreatDoorMaxCell
import Derived.Test.YtikcgnalcchlpaaGreatDoorShIdx
import Derived.RangeFuncBound
import Derived.RangeFuncCalls
import Derived.RangeFuncLeaves
import Derived.Shelf.Abstract
import Derived.Shelf.RegionOpen
import Derived.OwnWalkIn
import Derived.TacticsInMore
import Derived.LoopNIn
import Derived.Sort.LoopGhostIn
namespace Go.Proofs.YtikcgnalcchlpaaGreatDoor
open Go Go.RowKit Go.Shelf
attribute [local go_sem] Oper.semAt_some
theorem MaxCell.same {W W' : World} (h : MaxCell W) (e : W'.heap[1]? = W.heap[1]?) : MaxCell W' := by
  obtain ⟨m, hm⟩ := h
  exact ⟨m, (cell_same e 0).trans hm⟩
theorem MaxCell.lt {W : World} (h : MaxCell W) : 1 < W.heap.size := by
  obtain ⟨m, hm⟩ := h
  exact block_lt_of_cell (w := W) (a := ⟨_, 0, none⟩) hm
theorem idx_any (c : UInt8) (s : List UInt8) (w : World) (hl : s.length ≤ 1000000) (hm : MaxCell w) :
    Calls Tryz.prog 39 #[.string (S s), .string (S [c])] w fun e w' => e = .returned (.int .i64 (match cut1 c s with
      | none => -1
      | some (a, _) => (a.length : Int))) ∧ w = w' := by
  obtain ⟨m, hm⟩ := hm
  have C := Tryz.strings_Index (S s) (S [c]) m w (by rw [S_size]; omega) hm
  have e1 : (S s).data.toList = s := by simp [S]
  have e2 : (S [c]).data.toList = [c] := by simp [S]
  rw [e1, e2, index_one] at C
  refine C.mono ?_
  rintro e w' ⟨rfl, rfl⟩
  refine ⟨?_, rfl⟩
  cases cut1 c s with
  | none => rfl
  | some q => obtain ⟨a, b⟩ := q; rfl
theorem idx_none {c : UInt8} {s : List UInt8} (w : World) (hl : s.length ≤ 1000000) (hm : MaxCell w) (h : cut1 c s = none) :
    Calls Tryz.prog 39 #[.string (S s), .string (S [c])] w fun e w' => e = .returned (.int .i64 (-1)) ∧ w = w' := by
  have C := idx_any c s w hl hm
  rw [h] at C
  exact C
theorem idx_some {c : UInt8} {s a b : List UInt8} (w : World) (hl : s.length ≤ 1000000) (hm : MaxCell w) (h : cut1 c s = some (a, b)) :
    Calls Tryz.prog 39 #[.string (S s), .string (S [c])] w fun e w' => e = .returned (.int .i64 (a.length : Int)) ∧ w = w' := by
  have C := idx_any c s w hl hm
  rw [h] at C
  exact C
set_option maxRecDepth 100000 in
set_option maxHeartbeats 1000000 in
theorem splitSeq1_in (n : Nat) (hn : 1 ≤ n) (l n₀ b : Nat) (c : UInt8) (s : List UInt8) (hl : s.length ≤ 1000000) (J Jx : List (List UInt8) → World → Prop)
    (hJ : ∀ s X Y, J s X → StepI b (b + 3) X Y → J s Y)
    (hY : ∀ pre x W1, J pre W1 → pre ++ [x] <+: split1 c s → YieldAt Fence.wide (n - 1) Tryz.prog l #[.string (S x)] W1 fun e W' =>
      (e = .returned (.bool true) ∧ J (pre ++ [x]) W' ∧ KeptIn n₀ b (b + 3) W1 W') ∨ (e = .returned (.bool false) ∧ Jx (pre ++ [x]) W'))
    (W : World) (hB0 : Blk W b #[.string (S s)] 9) (hB1 : Blk W (b + 1) #[.string (S [c])] 9) (hB2 : Blk W (b + 2) #[.int .i64 0] 3) (hm : MaxCell W) (hg : 1 < n₀) (hnb : n₀ ≤ b) (h0 : J [] W) :
    CallsIn Fence.wide n Tryz.prog 54 #[.func (.yield l) #[] #[], .pointer (some ⟨b + 1, 0, none⟩), .pointer (some ⟨b, 0, none⟩), .pointer (some ⟨b + 2, 0, none⟩)] W fun e W' => (∃ v, e = .returned v) ∧
      ((∃ ys, ys = split1 c s ∧ J ys W') ∨ (∃ pre, pre <+: split1 c s ∧ Jx pre W')) := by
  refine callsIn_of_wp Tryz.func54 rfl trivial ?_ rfl
  simp only [Tryz.ntmps54, List.size_toArray, List.length_cons, List.length_nil, Nat.reduceAdd, Nat.reduceSub, Array.replicate_succ, Array.replicate_zero, List.push_toArray, List.append_toArray, List.nil_append, List.cons_append]
  have q1 := hB1.one
  gi_wp2
  gi_loopg [] s.length (fun g wr => ∃ pre r, split1 c s = pre ++ split1 c r ∧ r.length ≤ g ∧ pre.length + r.length ≤ s.length ∧ Blk wr b #[.string (S r)] 9 ∧ Blk wr (b + 1) #[.string (S [c])] 9 ∧ Blk wr (b + 2) #[.int .i64 0] 3 ∧ MaxCell wr ∧ J pre wr)
  case atStart => exact ⟨[], s, rfl, Nat.le_refl _, by simp, hB0, hB1, hB2, hm, h0⟩
  case round =>
    clear q1
    obtain ⟨pre, r, hsp, hg0, hlen, b0, b1, b2, hmr, hJs⟩ := hrel
    have q0 := b0.one
    have q1 := b1.one
    have q2 := b2.one
    cases h : cut1 c r with
    | none =>
      have C := Lib.hid (idx_none wr (by omega) hmr h)
      rw [split1_none h] at hsp
      obtain ⟨fn, tmps, assign, body, hy, hR⟩ := hY pre r wr hJs (by rw [hsp]; exact List.prefix_refl _)
      have HR := Lib.hid hR
      clear hR hY hJ
      gi_wp2_with fail
      refine ⟨trivial, (callsIn_wide.2 C.out).mono ?_⟩
      rintro e w' ⟨rfl, rfl⟩
      clear C
      gi_wp2_with fail
      refine HR.out.mono ?_
      clear HR hy
      rintro e W3 (⟨rfl, hJ3, hk3⟩ | ⟨rfl, hJx3⟩)
      · gi_wp2
        go_end0
        exact ⟨⟨_, rfl⟩, .inl ⟨pre ++ [r], hsp.symm, hJ3⟩⟩
      · gi_wp2
        go_end0
        exact ⟨⟨_, rfl⟩, .inr ⟨pre ++ [r], by rw [hsp]; exact List.prefix_refl _, hJx3⟩⟩
    | some q =>
      obtain ⟨a, r'⟩ := q
      have C := Lib.hid (idx_some wr (by omega) hmr h)
      obtain ⟨hr, hca⟩ := cut1_some h
      have hrl := congrArg List.length hr
      rw [List.length_append, List.length_cons] at hrl
      rw [split1_some h, List.append_cons] at hsp
      obtain ⟨fn, tmps, assign, body, hy, hR⟩ := hY pre a wr hJs (by rw [hsp]; exact List.prefix_append _ _)
      have HJ := Lib.hid hJ
      have HR := Lib.hid hR
      have Hr := Lib.hid hr
      have e1 : List.take a.length r = a := by rw [Hr.out]; simp
      have e2 : List.drop (a.length + 1) r = r' := by rw [Hr.out]; simp
      have l1 : (a.length : Int) ≤ (r.length : Int) := by omega
      have l2 : (a.length : Int) + 1 ≤ (r.length : Int) := by omega
      have l3 : r.length ≤ 1000000 := by omega
      have Hsp := Lib.hid hsp
      have Hrl := Lib.hid hrl
      clear hR hY hr hsp hrl hJ
      gi_wp2_with fail
      refine ⟨trivial, (callsIn_wide.2 C.out).mono ?_⟩
      rintro e w' ⟨rfl, rfl⟩
      clear C
      gi_wp2_with fail
      refine HR.out.mono ?_
      clear HR hy
      rintro e W3 (⟨rfl, hJ3, hk3⟩ | ⟨rfl, hJx3⟩)
      · have c0 := b0.keptIn hk3 (by omega)
        have c1 := b1.keptIn hk3 (by omega)
        have c2 := b2.keptIn hk3 (by omega)
        have hm3 := hmr.same (hk3.same _ (.inl hg))
        have p0 := c0.one
        have p1 := c1.one
        have p2 := c2.one
        have f0 := c0.frozen 0
        have e3 : List.take (r.length - (a.length + 1)) r' = r' := List.take_of_length_le (by have := Hrl.out; omega)
        have hJ4 := HJ.out _ _ _ hJ3 (StepI.set W3 (.string (S r')) (Nat.le_refl b) (by omega))
        have d0 := c0.set 0 (.string (S r'))
        have d1 := c1.other (b' := b) (i := 0) (by omega) (.string (S r'))
        have d2 := c2.other (b' := b) (i := 0) (by omega) (.string (S r'))
        have hm4 := hm3.same (setCell_heap_other (i := 0) (show 1 ≠ b by omega) (.string (S r')))
        clear hm3 hJ3 hk3 hmr b0 b1 b2 q0 q1 q2
        gi_wp2_with fail
        gi_roundg r'.length
        case measure => have := Hrl.out; omega
        case rel => exact ⟨pre ++ [a], r', Hsp.out, Nat.le_refl _, by have := Hrl.out; simp; omega, d0, d1, d2, hm4, hJ4⟩
      · gi_wp2
        refine bodyPost_ret (results_none rfl _ _ _) rfl ?_
        exact ⟨⟨_, rfl⟩, .inr ⟨pre ++ [a], by rw [Hsp.out]; exact List.prefix_append _ _, hJx3⟩⟩
theorem splitSeq_stops (n : Nat) (hn : 1 ≤ n) (n₀ b : Nat) (c : UInt8) (s : List UInt8) (hl : s.length ≤ 1000000) (w : World) (hB0 : Blk w b #[.string (S s)] 9) (hB1 : Blk w (b + 1) #[.string (S [c])] 9) (hB2 : Blk w (b + 2) #[.int .i64 0] 3) (hm : MaxCell w) (hg : 1 < n₀) (hnb : n₀ ≤ b) :
    SeqCell Fence.wide n Tryz.prog 54 #[.pointer (some ⟨b + 1, 0, none⟩), .pointer (some ⟨b, 0, none⟩), .pointer (some ⟨b + 2, 0, none⟩)] (fun x : List UInt8 => #[.string (S x)]) n₀ b (b + 3) (fun ys => ys = split1 c s) (fun pre => pre <+: split1 c s) w := fun l J Jx W hW hJ hY h0 =>
  splitSeq1_in n hn l n₀ b c s hl J Jx hJ hY W (hB0.later hW) (hB1.later hW) (hB2.later hW) (hm.later hW) hg hnb h0
/-- the iterator's value -/
def seqV (N : Nat) : Value := .func (.func 54) #[] #[.pointer (some ⟨N + 1, 0, none⟩), .pointer (some ⟨N, 0, none⟩), .pointer (some ⟨N + 2, 0, none⟩)]
theorem splitSeq_any (c : UInt8) (s : List UInt8) (w : World) :
    Calls Tryz.prog 19 #[.string (S s), .string (S [c])] w fun e w' => e = .returned (seqV w.heap.size) ∧ w' = ((w.alloc (.cells #[.string (S s)] 9)).alloc (.cells #[.string (S [c])] 9)).alloc (.cells #[.int .i64 0] 3) := by
  go_enter Tryz.func19, Tryz.ntmps19
  go_wp2
  go_ret
  exact ⟨rfl, rfl⟩
end Go.Proofs.YtikcgnalcchlpaaGreatDoor
