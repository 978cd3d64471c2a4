/- Several texts in one: keys.rows: an iterator over the table.  | keys.Of: the row of a key.  | A range over an iterator that keeps its place in blocks of its own (lo to hi): what its contract says, and the law of the loop. No function of the program stands in it.  | strings.SplitSeq at a separator of one byte.  | Slices of texts: how they read, and those of the call's own. No function of the program is walked here.  | What a loop over an iterator wants that collects: the modules of the kit. No program stands in it.  | A map to bool of the call's own: which keys it says yes of.  | keys.List: the words of a value.  -/
import Derived.Test.YtlcadichpcdgpaaGreatDoorGA
import Derived.Test.YtlcadichpcdgpaaGreatDoorRows
import Derived.RangeFuncNested
import Derived.RangeFuncBound
import Derived.RangeFuncCalls
import Derived.RangeFuncLeaves
import Derived.Shelf.Abstract
import Derived.Shelf.RegionOpen
import Derived.OwnWalkIn
import Derived.TacticsInMore
import Derived.LoopNIn
import Derived.LoopIn
import Derived.Laws.Tables
import Derived.Test.YtlcadichpcdgpaaGreatDoorGB
import Derived.RangeFuncWrites
import Derived.Test.YtlcadichpcdgpaaGreatDoorShIdx
import Derived.Sort.LoopGhostIn
import Derived.Laws.AppendOwn
import Derived.Laws.OwnMore
import Derived.RangeFuncBox
import Derived.Maps.AppendAt
import Derived.Maps.Own
import Derived.Maps.OwnOps
import Derived.Maps.OwnSet
import Derived.Maps.Views
import Derived.StringKeys
import Derived.Maps.OwnIn
namespace Go.Proofs.YtlcadichpcdgpaaGreatDoor
open Go.RowKit Go.Shelf
attribute [local go_sem] Oper.semAt_some
theorem wpListIn_buildAs {F : Fence} {n : Nat} {P : Program} {ops : Array Oper} {rest : List Oper} {o : Oper} {a : Act} {w : World} {Q : Exit → Act → World → Prop} (hg : o.guard = none) (t : TypeId) (parts : Array (Nat × Operand)) (ho : o.op = .build t parts)
    (d : Option Tmp) (hd : o.dst = d) (cells : Array Value) (hf : P.built t (parts.map fun (i, x) => (i, a.eval x)).toList = some cells)
    (h : wpListIn F n P ops Q rest (a.put d (.agg cells)) w) : wpListIn F n P ops Q (o :: rest) a w := by
  subst hd
  refine wpListIn_plain hg fun K hK => ⟨fun f hf' => ?_, ?_⟩
  · unfold Oper.about at hf'
    rw [ho] at hf'
    cases hf'
  · rw [Oper.semAt_plain F _ _ (by rw [ho]; intro c hc'; cases hc')]
    unfold execOp
    simp only [ho, Sem.run_bind, run_build w t _ cells hf, Result.andThen_ok]
    exact hK _ _ h
set_option maxRecDepth 100000 in
theorem ke_index0 (w : World) : (Instr.index 149 (.agg keRowsC) (.int .i64 ((0 : Nat) : Int))).run Tryz.prog w = .ok (keV (keAt 0)) w := by kernel_rfl
set_option maxRecDepth 100000 in
theorem ke_index1 (w : World) : (Instr.index 149 (.agg keRowsC) (.int .i64 ((1 : Nat) : Int))).run Tryz.prog w = .ok (keV (keAt 1)) w := by kernel_rfl
set_option maxRecDepth 100000 in
theorem ke_index2 (w : World) : (Instr.index 149 (.agg keRowsC) (.int .i64 ((2 : Nat) : Int))).run Tryz.prog w = .ok (keV (keAt 2)) w := by kernel_rfl
set_option maxRecDepth 100000 in
theorem ke_index3 (w : World) : (Instr.index 149 (.agg keRowsC) (.int .i64 ((3 : Nat) : Int))).run Tryz.prog w = .ok (keV (keAt 3)) w := by kernel_rfl
set_option maxRecDepth 100000 in
theorem ke_index4 (w : World) : (Instr.index 149 (.agg keRowsC) (.int .i64 ((4 : Nat) : Int))).run Tryz.prog w = .ok (keV (keAt 4)) w := by kernel_rfl
set_option maxRecDepth 100000 in
theorem ke_index5 (w : World) : (Instr.index 149 (.agg keRowsC) (.int .i64 ((5 : Nat) : Int))).run Tryz.prog w = .ok (keV (keAt 5)) w := by kernel_rfl
set_option maxRecDepth 100000 in
theorem ke_index6 (w : World) : (Instr.index 149 (.agg keRowsC) (.int .i64 ((6 : Nat) : Int))).run Tryz.prog w = .ok (keV (keAt 6)) w := by kernel_rfl
set_option maxRecDepth 100000 in
theorem ke_index7 (w : World) : (Instr.index 149 (.agg keRowsC) (.int .i64 ((7 : Nat) : Int))).run Tryz.prog w = .ok (keV (keAt 7)) w := by kernel_rfl
set_option maxRecDepth 100000 in
theorem ke_index8 (w : World) : (Instr.index 149 (.agg keRowsC) (.int .i64 ((8 : Nat) : Int))).run Tryz.prog w = .ok (keV (keAt 8)) w := by kernel_rfl
set_option maxRecDepth 100000 in
theorem ke_index9 (w : World) : (Instr.index 149 (.agg keRowsC) (.int .i64 ((9 : Nat) : Int))).run Tryz.prog w = .ok (keV (keAt 9)) w := by kernel_rfl
set_option maxRecDepth 100000 in
theorem ke_index10 (w : World) : (Instr.index 149 (.agg keRowsC) (.int .i64 ((10 : Nat) : Int))).run Tryz.prog w = .ok (keV (keAt 10)) w := by kernel_rfl
set_option maxRecDepth 100000 in
theorem ke_index11 (w : World) : (Instr.index 149 (.agg keRowsC) (.int .i64 ((11 : Nat) : Int))).run Tryz.prog w = .ok (keV (keAt 11)) w := by kernel_rfl
set_option maxRecDepth 100000 in
theorem ke_index12 (w : World) : (Instr.index 149 (.agg keRowsC) (.int .i64 ((12 : Nat) : Int))).run Tryz.prog w = .ok (keV (keAt 12)) w := by kernel_rfl
set_option maxRecDepth 100000 in
theorem ke_index13 (w : World) : (Instr.index 149 (.agg keRowsC) (.int .i64 ((13 : Nat) : Int))).run Tryz.prog w = .ok (keV (keAt 13)) w := by kernel_rfl
set_option maxRecDepth 100000 in
theorem ke_index14 (w : World) : (Instr.index 149 (.agg keRowsC) (.int .i64 ((14 : Nat) : Int))).run Tryz.prog w = .ok (keV (keAt 14)) w := by kernel_rfl
set_option maxRecDepth 100000 in
theorem ke_index15 (w : World) : (Instr.index 149 (.agg keRowsC) (.int .i64 ((15 : Nat) : Int))).run Tryz.prog w = .ok (keV (keAt 15)) w := by kernel_rfl
set_option maxRecDepth 100000 in
theorem ke_index16 (w : World) : (Instr.index 149 (.agg keRowsC) (.int .i64 ((16 : Nat) : Int))).run Tryz.prog w = .ok (keV (keAt 16)) w := by kernel_rfl
set_option maxRecDepth 100000 in
theorem ke_index17 (w : World) : (Instr.index 149 (.agg keRowsC) (.int .i64 ((17 : Nat) : Int))).run Tryz.prog w = .ok (keV (keAt 17)) w := by kernel_rfl
theorem ke_index (k : Nat) (hk : k < 18) (w : World) : (Instr.index 149 (.agg keRowsC) (.int .i64 (k : Int))).run Tryz.prog w = .ok (keV (keAt k)) w := by
  have h : k = 0 ∨ k = 1 ∨ k = 2 ∨ k = 3 ∨ k = 4 ∨ k = 5 ∨ k = 6 ∨ k = 7 ∨ k = 8 ∨ k = 9 ∨ k = 10 ∨ k = 11 ∨ k = 12 ∨ k = 13 ∨ k = 14 ∨ k = 15 ∨ k = 16 ∨ k = 17 := by omega
  rcases h with rfl | rfl | rfl | rfl | rfl | rfl | rfl | rfl | rfl | rfl | rfl | rfl | rfl | rfl | rfl | rfl | rfl | rfl
  · exact ke_index0 w
  · exact ke_index1 w
  · exact ke_index2 w
  · exact ke_index3 w
  · exact ke_index4 w
  · exact ke_index5 w
  · exact ke_index6 w
  · exact ke_index7 w
  · exact ke_index8 w
  · exact ke_index9 w
  · exact ke_index10 w
  · exact ke_index11 w
  · exact ke_index12 w
  · exact ke_index13 w
  · exact ke_index14 w
  · exact ke_index15 w
  · exact ke_index16 w
  · exact ke_index17 w
set_option maxRecDepth 100000 in
theorem krows1_in (F : Fence) (n : Nat) (hf : F.fn 67) (hro : F.round = none) (hn : 1 ≤ n) (l n₀ : Nat) (J Jx : List Ke → World → Prop)
    (hY : ∀ pre x W, J pre W → pre.length < 18 → YieldAt F (n - 1) Tryz.prog l #[keV x] W fun e W' =>
      (e = .returned (.bool true) ∧ J (pre ++ [x]) W' ∧ Below n₀ W W') ∨ (e = .returned (.bool false) ∧ Jx (pre ++ [x]) W'))
    (W : World) (hJ : AbidesFrom W.heap.size J) (h0 : J [] W) :
    CallsIn F n Tryz.prog 67 #[.func (.yield l) #[] #[]] W fun e W' => (∃ v, e = .returned v) ∧
      ((∃ ys, ys = keRows ∧ J ys W') ∨ (∃ pre, pre <+: keRows ∧ Jx pre W')) := by
  refine callsIn_of_wp Tryz.func67 rfl hf ?_ hro
  simp only [Tryz.ntmps67, List.size_toArray, List.length_cons, List.length_nil, Nat.reduceAdd, Nat.reduceSub, Array.replicate_succ, Array.replicate_zero, List.push_toArray, List.append_toArray, List.nil_append, List.cons_append]
  repeat (first | apply wpIn_block | (apply wpIn_seq_k; intro _ _) | apply wpIn_region_lit)
  refine wpListIn_buildAs rfl 113 _ rfl (some 4) rfl (keC ke0).toArray (by as_aux_lemma => kernel_rfl) ?_
  refine wpListIn_buildAs rfl 113 _ rfl (some 5) rfl (keC ke1).toArray (by as_aux_lemma => kernel_rfl) ?_
  refine wpListIn_buildAs rfl 113 _ rfl (some 6) rfl (keC ke2).toArray (by as_aux_lemma => kernel_rfl) ?_
  refine wpListIn_buildAs rfl 113 _ rfl (some 7) rfl (keC ke3).toArray (by as_aux_lemma => kernel_rfl) ?_
  refine wpListIn_buildAs rfl 113 _ rfl (some 8) rfl (keC ke4).toArray (by as_aux_lemma => kernel_rfl) ?_
  refine wpListIn_buildAs rfl 113 _ rfl (some 9) rfl (keC ke5).toArray (by as_aux_lemma => kernel_rfl) ?_
  refine wpListIn_buildAs rfl 113 _ rfl (some 10) rfl (keC ke6).toArray (by as_aux_lemma => kernel_rfl) ?_
  refine wpListIn_buildAs rfl 113 _ rfl (some 11) rfl (keC ke7).toArray (by as_aux_lemma => kernel_rfl) ?_
  refine wpListIn_buildAs rfl 113 _ rfl (some 12) rfl (keC ke8).toArray (by as_aux_lemma => kernel_rfl) ?_
  refine wpListIn_buildAs rfl 113 _ rfl (some 13) rfl (keC ke9).toArray (by as_aux_lemma => kernel_rfl) ?_
  refine wpListIn_buildAs rfl 113 _ rfl (some 14) rfl (keC ke10).toArray (by as_aux_lemma => kernel_rfl) ?_
  refine wpListIn_buildAs rfl 113 _ rfl (some 15) rfl (keC ke11).toArray (by as_aux_lemma => kernel_rfl) ?_
  refine wpListIn_buildAs rfl 113 _ rfl (some 16) rfl (keC ke12).toArray (by as_aux_lemma => kernel_rfl) ?_
  refine wpListIn_buildAs rfl 113 _ rfl (some 17) rfl (keC ke13).toArray (by as_aux_lemma => kernel_rfl) ?_
  refine wpListIn_buildAs rfl 113 _ rfl (some 18) rfl (keC ke14).toArray (by as_aux_lemma => kernel_rfl) ?_
  refine wpListIn_buildAs rfl 113 _ rfl (some 19) rfl (keC ke15).toArray (by as_aux_lemma => kernel_rfl) ?_
  refine wpListIn_buildAs rfl 113 _ rfl (some 20) rfl (keC ke16).toArray (by as_aux_lemma => kernel_rfl) ?_
  refine wpListIn_buildAs rfl 113 _ rfl (some 21) rfl (keC ke17).toArray (by as_aux_lemma => kernel_rfl) ?_
  refine wpListIn_buildAs rfl 149 _ rfl (some 22) rfl keRowsC (by as_aux_lemma => kernel_rfl) ?_
  gi_wp2
  have hidx := ke_index
  obtain ⟨RC, hRC⟩ : ∃ RC, Value.agg keRowsC = RC := ⟨_, rfl⟩
  rw [hRC] at hidx ⊢
  clear hRC
  gi_loopw [23] (fun p wr => ∃ k : Nat, k ≤ 18 ∧ p = .int .i64 k ∧ W.heap.size ≤ wr.heap.size ∧ J (keRows.take k) wr) (fun p _ => 18 - (intOf p).toNat)
  case atStart => exact ⟨0, by omega, rfl, Nat.le_refl _, h0⟩
  case round =>
    obtain ⟨k, hk, rfl, hsz, hJs⟩ := hrel
    by_cases hlt : k < 18
    · obtain ⟨x, hx⟩ : ∃ x, keAt k = x := ⟨_, rfl⟩
      have hi := hidx k hlt
      rw [hx] at hi
      unfold keV keC at hi
      have hJ2 : J (keRows.take k) (wr.alloc (.cells #[.string (S x.nm), .int .i64 (x.kd : Int), .int .i64 (x.lo : Int), .int .i64 (x.hi : Int), .string (S x.df), .bool x.no, .bool x.lg] 113)) := hJ _ _ _ none hJs (World.grownBy_alloc _ _ none) (fun r e => by cases e)
      obtain ⟨fn, tmps, assign, body, hy, hR⟩ := hY (keRows.take k) x _ hJ2 (by rw [ke_take_len k hk]; exact hlt)
      unfold keV keC at hy
      clear hidx hY
      have htk := Lib.hid (show keRows.take k ++ [x] = keRows.take (k + 1) by rw [← hx]; exact ke_take k hlt)
      gi_wp2
      refine hR.mono ?_
      clear hR hy
      rintro e W3 (⟨rfl, hJ3, hk3⟩ | ⟨rfl, hJx3⟩)
      · gi_wp2
        go_roundw
        case rel => exact ⟨k + 1, by omega, by go_num, by have := hk3.size; simp at this; omega, by have h3 := hJ3; rw [htk.out] at h3; exact h3⟩
        case measure => simp [intOf]; omega
      · gi_wp2
        refine bodyPost_ret (results_none rfl _ _ _) rfl ?_
        exact ⟨⟨_, rfl⟩, .inr ⟨keRows.take (k + 1), List.take_prefix _ _, by rw [htk.out] at hJx3; exact hJx3⟩⟩
    · have hk18 : k = 18 := by omega
      gi_wp2
      go_end0
      exact ⟨⟨_, rfl⟩, .inl ⟨keRows, rfl, by rw [hk18] at hJs; exact hJs⟩⟩
theorem krows_stops (F : Fence) (n : Nat) (hf : F.fn 67) (hro : F.round = none) (hn : 1 ≤ n) (n₀ : Nat) (w : World) :
    SeqStopsK F n Tryz.prog 67 #[] (fun x : Ke => #[keV x]) (Below n₀) (fun ys => ys = keRows) (fun pre => pre <+: keRows) 18 w := fun l J Jx W _ hJ _ hY h0 =>
  krows1_in F n hf hro hn l n₀ J Jx hY W hJ h0
end Go.Proofs.YtlcadichpcdgpaaGreatDoor
namespace Go.Proofs.YtlcadichpcdgpaaGreatDoor
open Go.RowKit Go.Shelf
attribute [local go_sem] Oper.semAt_some
def keZ : Array Value := #[.string (S []), .int .i64 0, .int .i64 0, .int .i64 0, .string (S []), .bool false, .bool false]
def ofV (s : List UInt8) : Value := match rowOf s with
  | some k => .tuple #[.agg (keC k).toArray, .nilIface]
  | none => .tuple #[.agg keZ, .iface 42 (.int .i64 5)]
theorem seven_stored {w W : World} {N b : Nat} {o0 o1 o2 o3 o4 o5 o6 oe : Value} {t te : TypeId} (x0 x1 x2 x3 x4 x5 x6 e : Value) (hR : Blk W b #[o0, o1, o2, o3, o4, o5, o6] t) (hE : Blk W (b + 1) #[oe] te) (hb : N ≤ b) (hB : Below N w W) :
    Blk ((((((((W.setCell ⟨b, 0, none⟩ x0).setCell ⟨b, 1, none⟩ x1).setCell ⟨b, 2, none⟩ x2).setCell ⟨b, 3, none⟩ x3).setCell ⟨b, 4, none⟩ x4).setCell ⟨b, 5, none⟩ x5).setCell ⟨b, 6, none⟩ x6).setCell ⟨b + 1, 0, none⟩ e) b #[x0, x1, x2, x3, x4, x5, x6] t ∧
    Blk ((((((((W.setCell ⟨b, 0, none⟩ x0).setCell ⟨b, 1, none⟩ x1).setCell ⟨b, 2, none⟩ x2).setCell ⟨b, 3, none⟩ x3).setCell ⟨b, 4, none⟩ x4).setCell ⟨b, 5, none⟩ x5).setCell ⟨b, 6, none⟩ x6).setCell ⟨b + 1, 0, none⟩ e) (b + 1) #[e] te ∧
    Below N w ((((((((W.setCell ⟨b, 0, none⟩ x0).setCell ⟨b, 1, none⟩ x1).setCell ⟨b, 2, none⟩ x2).setCell ⟨b, 3, none⟩ x3).setCell ⟨b, 4, none⟩ x4).setCell ⟨b, 5, none⟩ x5).setCell ⟨b, 6, none⟩ x6).setCell ⟨b + 1, 0, none⟩ e) ∧
    KeepsOthers W ((((((((W.setCell ⟨b, 0, none⟩ x0).setCell ⟨b, 1, none⟩ x1).setCell ⟨b, 2, none⟩ x2).setCell ⟨b, 3, none⟩ x3).setCell ⟨b, 4, none⟩ x4).setCell ⟨b, 5, none⟩ x5).setCell ⟨b, 6, none⟩ x6).setCell ⟨b + 1, 0, none⟩ e) := by
  have r0 : Blk (W.setCell ⟨b, 0, none⟩ x0) b #[x0, o1, o2, o3, o4, o5, o6] t := hR.set 0 x0
  have r1 : Blk ((W.setCell ⟨b, 0, none⟩ x0).setCell ⟨b, 1, none⟩ x1) b #[x0, x1, o2, o3, o4, o5, o6] t := r0.set 1 x1
  have r2 : Blk (((W.setCell ⟨b, 0, none⟩ x0).setCell ⟨b, 1, none⟩ x1).setCell ⟨b, 2, none⟩ x2) b #[x0, x1, x2, o3, o4, o5, o6] t := r1.set 2 x2
  have r3 : Blk ((((W.setCell ⟨b, 0, none⟩ x0).setCell ⟨b, 1, none⟩ x1).setCell ⟨b, 2, none⟩ x2).setCell ⟨b, 3, none⟩ x3) b #[x0, x1, x2, x3, o4, o5, o6] t := r2.set 3 x3
  have r4 : Blk (((((W.setCell ⟨b, 0, none⟩ x0).setCell ⟨b, 1, none⟩ x1).setCell ⟨b, 2, none⟩ x2).setCell ⟨b, 3, none⟩ x3).setCell ⟨b, 4, none⟩ x4) b #[x0, x1, x2, x3, x4, o5, o6] t := r3.set 4 x4
  have r5 : Blk ((((((W.setCell ⟨b, 0, none⟩ x0).setCell ⟨b, 1, none⟩ x1).setCell ⟨b, 2, none⟩ x2).setCell ⟨b, 3, none⟩ x3).setCell ⟨b, 4, none⟩ x4).setCell ⟨b, 5, none⟩ x5) b #[x0, x1, x2, x3, x4, x5, o6] t := r4.set 5 x5
  have r6 : Blk (((((((W.setCell ⟨b, 0, none⟩ x0).setCell ⟨b, 1, none⟩ x1).setCell ⟨b, 2, none⟩ x2).setCell ⟨b, 3, none⟩ x3).setCell ⟨b, 4, none⟩ x4).setCell ⟨b, 5, none⟩ x5).setCell ⟨b, 6, none⟩ x6) b #[x0, x1, x2, x3, x4, x5, x6] t := r5.set 6 x6
  have s0 : Blk (W.setCell ⟨b, 0, none⟩ x0) (b + 1) #[oe] te := Blk.other hE (Nat.succ_ne_self b) x0
  have s1 : Blk ((W.setCell ⟨b, 0, none⟩ x0).setCell ⟨b, 1, none⟩ x1) (b + 1) #[oe] te := Blk.other s0 (Nat.succ_ne_self b) x1
  have s2 : Blk (((W.setCell ⟨b, 0, none⟩ x0).setCell ⟨b, 1, none⟩ x1).setCell ⟨b, 2, none⟩ x2) (b + 1) #[oe] te := Blk.other s1 (Nat.succ_ne_self b) x2
  have s3 : Blk ((((W.setCell ⟨b, 0, none⟩ x0).setCell ⟨b, 1, none⟩ x1).setCell ⟨b, 2, none⟩ x2).setCell ⟨b, 3, none⟩ x3) (b + 1) #[oe] te := Blk.other s2 (Nat.succ_ne_self b) x3
  have s4 : Blk (((((W.setCell ⟨b, 0, none⟩ x0).setCell ⟨b, 1, none⟩ x1).setCell ⟨b, 2, none⟩ x2).setCell ⟨b, 3, none⟩ x3).setCell ⟨b, 4, none⟩ x4) (b + 1) #[oe] te := Blk.other s3 (Nat.succ_ne_self b) x4
  have s5 : Blk ((((((W.setCell ⟨b, 0, none⟩ x0).setCell ⟨b, 1, none⟩ x1).setCell ⟨b, 2, none⟩ x2).setCell ⟨b, 3, none⟩ x3).setCell ⟨b, 4, none⟩ x4).setCell ⟨b, 5, none⟩ x5) (b + 1) #[oe] te := Blk.other s4 (Nat.succ_ne_self b) x5
  have s6 : Blk (((((((W.setCell ⟨b, 0, none⟩ x0).setCell ⟨b, 1, none⟩ x1).setCell ⟨b, 2, none⟩ x2).setCell ⟨b, 3, none⟩ x3).setCell ⟨b, 4, none⟩ x4).setCell ⟨b, 5, none⟩ x5).setCell ⟨b, 6, none⟩ x6) (b + 1) #[oe] te := Blk.other s5 (Nat.succ_ne_self b) x6
  have t0 : Below N w (W.setCell ⟨b, 0, none⟩ x0) := Below.setCell hB (p := ⟨b, 0, none⟩) hb x0
  have t1 : Below N w ((W.setCell ⟨b, 0, none⟩ x0).setCell ⟨b, 1, none⟩ x1) := Below.setCell t0 (p := ⟨b, 1, none⟩) hb x1
  have t2 : Below N w (((W.setCell ⟨b, 0, none⟩ x0).setCell ⟨b, 1, none⟩ x1).setCell ⟨b, 2, none⟩ x2) := Below.setCell t1 (p := ⟨b, 2, none⟩) hb x2
  have t3 : Below N w ((((W.setCell ⟨b, 0, none⟩ x0).setCell ⟨b, 1, none⟩ x1).setCell ⟨b, 2, none⟩ x2).setCell ⟨b, 3, none⟩ x3) := Below.setCell t2 (p := ⟨b, 3, none⟩) hb x3
  have t4 : Below N w (((((W.setCell ⟨b, 0, none⟩ x0).setCell ⟨b, 1, none⟩ x1).setCell ⟨b, 2, none⟩ x2).setCell ⟨b, 3, none⟩ x3).setCell ⟨b, 4, none⟩ x4) := Below.setCell t3 (p := ⟨b, 4, none⟩) hb x4
  have t5 : Below N w ((((((W.setCell ⟨b, 0, none⟩ x0).setCell ⟨b, 1, none⟩ x1).setCell ⟨b, 2, none⟩ x2).setCell ⟨b, 3, none⟩ x3).setCell ⟨b, 4, none⟩ x4).setCell ⟨b, 5, none⟩ x5) := Below.setCell t4 (p := ⟨b, 5, none⟩) hb x5
  have t6 : Below N w (((((((W.setCell ⟨b, 0, none⟩ x0).setCell ⟨b, 1, none⟩ x1).setCell ⟨b, 2, none⟩ x2).setCell ⟨b, 3, none⟩ x3).setCell ⟨b, 4, none⟩ x4).setCell ⟨b, 5, none⟩ x5).setCell ⟨b, 6, none⟩ x6) := Below.setCell t5 (p := ⟨b, 6, none⟩) hb x6
  have u0 : KeepsOthers W (W.setCell ⟨b, 0, none⟩ x0) := KeepsOthers.setCell _ _ _
  have u1 : KeepsOthers W ((W.setCell ⟨b, 0, none⟩ x0).setCell ⟨b, 1, none⟩ x1) := u0.trans (KeepsOthers.setCell _ _ _)
  have u2 : KeepsOthers W (((W.setCell ⟨b, 0, none⟩ x0).setCell ⟨b, 1, none⟩ x1).setCell ⟨b, 2, none⟩ x2) := u1.trans (KeepsOthers.setCell _ _ _)
  have u3 : KeepsOthers W ((((W.setCell ⟨b, 0, none⟩ x0).setCell ⟨b, 1, none⟩ x1).setCell ⟨b, 2, none⟩ x2).setCell ⟨b, 3, none⟩ x3) := u2.trans (KeepsOthers.setCell _ _ _)
  have u4 : KeepsOthers W (((((W.setCell ⟨b, 0, none⟩ x0).setCell ⟨b, 1, none⟩ x1).setCell ⟨b, 2, none⟩ x2).setCell ⟨b, 3, none⟩ x3).setCell ⟨b, 4, none⟩ x4) := u3.trans (KeepsOthers.setCell _ _ _)
  have u5 : KeepsOthers W ((((((W.setCell ⟨b, 0, none⟩ x0).setCell ⟨b, 1, none⟩ x1).setCell ⟨b, 2, none⟩ x2).setCell ⟨b, 3, none⟩ x3).setCell ⟨b, 4, none⟩ x4).setCell ⟨b, 5, none⟩ x5) := u4.trans (KeepsOthers.setCell _ _ _)
  have u6 : KeepsOthers W (((((((W.setCell ⟨b, 0, none⟩ x0).setCell ⟨b, 1, none⟩ x1).setCell ⟨b, 2, none⟩ x2).setCell ⟨b, 3, none⟩ x3).setCell ⟨b, 4, none⟩ x4).setCell ⟨b, 5, none⟩ x5).setCell ⟨b, 6, none⟩ x6) := u5.trans (KeepsOthers.setCell _ _ _)
  exact ⟨r6.other (Nat.ne_of_lt (Nat.lt_succ_self b)) e, s6.set 0 e, Below.setCell t6 (p := ⟨b + 1, 0, none⟩) (Nat.le_succ_of_le hb) e, u6.trans (KeepsOthers.setCell _ _ _)⟩
set_option maxRecDepth 100000 in
set_option maxHeartbeats 1000000 in
theorem of_in (F : Fence) (n : Nat) (hf : F.fn 57) (hr : F.fn 67) (hro : F.round = none) (hn : 6 ≤ n) (s : List UInt8) (w : World) :
    CallsIn F n Tryz.prog 57 #[.string (S s)] w fun e W' => e = .returned (ofV s) ∧ Below w.heap.size w W' := by
  have h1 : 1 ≤ n := by omega
  refine callsIn_of_wp_marks Tryz.func57 rfl hf ?_ hro
  simp only [Tryz.ntmps57, List.size_toArray, List.length_cons, List.length_nil, Nat.reduceAdd, Nat.reduceSub, Array.replicate_succ, Array.replicate_zero, List.push_toArray, List.append_toArray, List.nil_append, List.cons_append]
  gi_wp2
  obtain ⟨wa, hwa⟩ : ∃ wa, w.alloc (.cells #[.string (S s)] 9) = wa := ⟨_, rfl⟩
  obtain ⟨wb, hwb⟩ : ∃ wb, wa.alloc (.cells keZ 113) = wb := ⟨_, rfl⟩
  have za : wa.heap.size = w.heap.size + 1 := by rw [← hwa]; simp
  have zb : wb.heap.size = w.heap.size + 2 := by rw [← hwb]; simp [za]
  have bO : Blk ((wb.alloc (.cells #[.nilIface] 33))) w.heap.size #[.string (S s)] 9 := by rw [← hwb, ← hwa]; exact ((Blk.new w #[.string (S s)] 9).alloc _).alloc _
  have bR : Blk ((wb.alloc (.cells #[.nilIface] 33))) (w.heap.size + 1) keZ 113 := by rw [← hwb, ← za]; exact (Blk.new wa keZ 113).alloc _
  have bE : Blk ((wb.alloc (.cells #[.nilIface] 33))) (w.heap.size + 1 + 1) #[.nilIface] 33 := by
    have := Blk.new wb #[.nilIface] 33
    rwa [zb] at this
  have hB0 : Below w.heap.size w (wb.alloc (.cells #[.nilIface] 33)) := by
    rw [← hwb, ← hwa]
    exact (((Below.refl _ w).alloc (Nat.le_refl _) _).alloc (by simp) _).alloc (by simp; omega) _
  have hsz : (wb.alloc (.cells #[.nilIface] 33)).heap.size = w.heap.size + 3 := by simp [zb]
  obtain ⟨W0, hW0⟩ : ∃ W0, ((w.alloc (.cells #[.string (S s)] 9)).alloc (.cells keZ 113)).alloc (.cells #[.nilIface] 33) = W0 := ⟨_, rfl⟩
  rw [hwa, hwb] at hW0
  rw [hW0] at bO bR bE hB0 hsz
  subst hwa
  subst hwb
  unfold keZ at hW0 bR
  rw [hW0]
  clear hW0
  refine wpIn_rangeFunc_ownH hro h1 (gf := 67) (lb := #[]) rfl hr (enters_of Tryz.func67 (by kernel_rfl) rfl)
    (krows_stops F (n - 1) hr hro (by omega) w.heap.size W0) belowK_t (belowK_b (by omega)) (Below.refl _ _) (fun _ => rfl)
    (fun pre W => ((Blk W w.heap.size #[.string (S s)] 9 ∧ Blk W (w.heap.size + 1) #[.string (S []), .int .i64 0, .int .i64 0, .int .i64 0, .string (S []), .bool false, .bool false] 113 ∧ Blk W (w.heap.size + 1 + 1) #[.nilIface] 33) ∧ (∀ k ∈ pre, k.nm ≠ s)) ∧ Below w.heap.size w W)
    (fun c pre W => (c = .ret ∧ ∃ q k, pre = q ++ [k] ∧ (∀ k ∈ q, k.nm ≠ s) ∧ k.nm = s ∧ Blk W (w.heap.size + 1) (keC k).toArray 113 ∧ Blk W (w.heap.size + 1 + 1) #[.nilIface] 33) ∧ Below w.heap.size w W)
    (OwnFrom.and (OwnFrom.and (OwnFrom.and (Own.from (Blk.own _ _ _) _) (OwnFrom.and (Own.from (Blk.own _ _ _) _) (Own.from (Blk.own _ _ _) _))) (Own.from (own_const _) _)) (ownFrom_below (Nat.le_refl _) (by omega)))
    (fun c => OwnFrom.and (Own.from (fun s X Y row hs hg hr => by
      obtain ⟨hc, q, k, h1, h2, h3, h4, h5⟩ := hs
      exact ⟨hc, q, k, h1, h2, h3, Blk.own _ (fun _ : Unit => _) _ () X Y row h4 hg hr, Blk.own _ (fun _ : Unit => _) _ () X Y row h5 hg hr⟩) _) (ownFrom_below (Nat.le_refl _) (by omega)))
    ⟨⟨⟨bO, bR, bE⟩, fun k hk => by cases hk⟩, hB0⟩
    (fun x a' W => ∃ Bx, w.heap.size + 2 < Bx ∧ Blk W Bx (keC x).toArray 113 ∧ a' = { tmps := #[.string (S s), .pointer (some ⟨w.heap.size, 0, none⟩), .pointer (some ⟨w.heap.size + 1, 0, none⟩), .pointer (some ⟨w.heap.size + 1 + 1, 0, none⟩), .pointer (some ⟨Bx, 0, none⟩), keV x, undef, undef, undef, undef, undef, undef, undef], defers := [] })
    (fun x a' _ X Y row hs hg hr => by obtain ⟨Bx, h1, h2, h3⟩ := hs; exact ⟨Bx, h1, Blk.own Bx (fun _ : Unit => _) _ () X Y row h2 hg (fun r e => (hr r e).2), h3⟩)
    ?assign ?body ?done ?stop
  case assign =>
    rintro l pre x W K ⟨⟨⟨bO1, bR1, bE1⟩, hpre⟩, hB1⟩ hK
    unfold keV keC at *
    gi_wp2
    exact hK _ _ ((KeepsOthers.alloc _ _).from _) ((Below.refl _ W).alloc hB1.size _) ⟨⟨⟨bO1.alloc _, bR1.alloc _, bE1.alloc _⟩, hpre⟩, hB1.alloc hB1.size _⟩ ⟨W.heap.size, bE1.lt, Blk.new W _ _, rfl⟩
  case body =>
    rintro l pre x a' W hl ⟨r, hr⟩ ⟨⟨⟨bO1, bR1, bE1⟩, hpre⟩, hB1⟩ ⟨Bx, hBx, bX, rfl⟩ hlt
    obtain ⟨c0, c1, c2, c3, c4, c5, c6⟩ := bR1.seven
    have f0 := bR1.frozen 0
    have f1 := bR1.frozen 1
    have f2 := bR1.frozen 2
    have f3 := bR1.frozen 3
    have f4 := bR1.frozen 4
    have f5 := bR1.frozen 5
    have f6 := bR1.frozen 6
    have ce := bE1.one
    have fe := bE1.frozen 0
    have co := bO1.one
    unfold keC at bX
    obtain ⟨x0, x1, x2, x3, x4, x5, x6⟩ := bX.seven
    by_cases hx : x.nm = s
    · have hx' : (x.nm == s) = true := by simpa using hx
      have Hx := Lib.hid hx
      clear hx
      gi_wp2
      obtain ⟨g1, g2, g3, g4⟩ := seven_stored (.string (S x.nm)) (.int .i64 (x.kd : Int)) (.int .i64 (x.lo : Int)) (.int .i64 (x.hi : Int)) (.string (S x.df)) (.bool x.no) (.bool x.lg) .nilIface bR1 bE1 (Nat.le_succ _) hB1
      exact ⟨g4.from _, ⟨rfl, pre, x, rfl, hpre, Hx.out, g1, g2⟩, g3⟩
    · have hx' : (x.nm == s) = false := by simpa using hx
      gi_wp2
      exact ⟨KeepsFrom.refl _ _, Below.refl _ _, ⟨⟨bO1, bR1, bE1⟩, fun k hk => by
        rcases List.mem_append.1 hk with h | h
        · exact hpre k h
        · rw [List.mem_singleton.1 h]; exact hx⟩, hB1⟩
  case done =>
    rintro D xs W hD rfl ⟨⟨⟨bO1, bR1, bE1⟩, hpre⟩, hB1⟩ hK
    obtain ⟨c0, c1, c2, c3, c4, c5, c6⟩ := bR1.seven
    have f0 := bR1.frozen 0
    have f1 := bR1.frozen 1
    have f2 := bR1.frozen 2
    have f3 := bR1.frozen 3
    have f4 := bR1.frozen 4
    have f5 := bR1.frozen 5
    have f6 := bR1.frozen 6
    have ce := bE1.one
    have fe := bE1.frozen 0
    gi_wp2
    obtain ⟨g1, g2, g3, g4⟩ := seven_stored (.string (S [])) (.int .i64 0) (.int .i64 0) (.int .i64 0) (.string (S [])) (.bool false) (.bool false) (.iface 42 (.int .i64 5)) bR1 bE1 (Nat.le_succ _) hB1
    have hK' := g4.same D _ hK rfl
    refine ⟨by simp, .inl ⟨_, _, rfl, run_takeDeferred hK', ?_⟩⟩
    have e1 : w.heap.size + 1 ≠ D := by omega
    have e2 : w.heap.size + 1 + 1 ≠ D := by omega
    have hB2 := g3.trans (belowK_b (w := w) (Nat.le_refl _) _ D _ (.deferred none) (by omega) hK' rfl rfl)
    have g1' := g1.put (.deferred none) e1
    have g2' := g2.put (.deferred none) e2
    obtain ⟨q0, q1, q2, q3, q4, q5, q6⟩ := g1'.seven
    have qe := g2'.one
    refine ⟨ofV s, ?_, rfl, hB2⟩
    unfold ofV
    rw [rowOf_none hpre]
    clear g1 g2 g3 g4 hK' g1' g2' hB2 c0 c1 c2 c3 c4 c5 c6 f0 f1 f2 f3 f4 f5 f6 ce fe
    simp [results, Tryz.results57, go_sem, q0, q1, q2, q3, q4, q5, q6, qe, keZ]
  case stop =>
    rintro D c pre W hD hp ⟨⟨rfl, q, k, rfl, hq, hk, bR1, bE1⟩, hB1⟩ hK
    gi_wp2
    refine ⟨by simp, .inl ⟨_, _, rfl, run_takeDeferred hK, ?_⟩⟩
    have e1 : w.heap.size + 1 ≠ D := by omega
    have e2 : w.heap.size + 1 + 1 ≠ D := by omega
    have hB2 := hB1.trans (belowK_b (w := w) (Nat.le_refl _) _ D _ (.deferred none) (by omega) hK rfl rfl)
    unfold keC at bR1
    have g1' := bR1.put (.deferred none) e1
    have g2' := bE1.put (.deferred none) e2
    obtain ⟨q0, q1, q2, q3, q4, q5, q6⟩ := g1'.seven
    have qe := g2'.one
    refine ⟨ofV s, ?_, rfl, hB2⟩
    unfold ofV
    rw [rowOf_prefix hp hq hk]
    clear g1' g2' hB2 hq hp hk
    simp [results, Tryz.results57, go_sem, q0, q1, q2, q3, q4, q5, q6, qe, keC]
theorem of_any (s : List UInt8) (w : World) : Calls Tryz.prog 57 #[.string (S s)] w fun e W' => e = .returned (ofV s) ∧ Below w.heap.size w W' :=
  (callsIn_wide (n := 6)).1 (of_in _ 6 trivial trivial rfl (Nat.le_refl _) s w)
theorem of_none {s : List UInt8} (w : World) (h : rowOf s = none) : Calls Tryz.prog 57 #[.string (S s)] w fun e W' => e = .returned (.tuple #[.agg keZ, .iface 42 (.int .i64 5)]) ∧ Below w.heap.size w W' := by
  have C := of_any s w
  unfold ofV at C
  rw [h] at C
  exact C
theorem of_some {s : List UInt8} {k : Ke} (w : World) (h : rowOf s = some k) : Calls Tryz.prog 57 #[.string (S s)] w fun e W' => e = .returned (.tuple #[.agg (keC k).toArray, .nilIface]) ∧ Below w.heap.size w W' := by
  have C := of_any s w
  unfold ofV at C
  rw [h] at C
  exact C
end Go.Proofs.YtlcadichpcdgpaaGreatDoor
namespace Go.Proofs.YtlcadichpcdgpaaGreatDoor
open Go Go.RowKit
/-- all but the blocks from lo to hi, and but what is no cells from B on, lies as it lay -/
structure Off (lo hi B : Nat) (W W' : World) : Prop where
  os : W'.os = W.os
  tape : W'.tape = W.tape
  output : W'.output = W.output
  size : W.heap.size ≤ W'.heap.size
  same : ∀ (k : Nat) (o : Obj), W.heap[k]? = some o → ¬ (lo ≤ k ∧ k < hi) → (o.isCells = true ∨ k < B) → W'.heap[k]? = some o
/-- an iterator's step: all but the blocks from lo to hi lies as it lay -/
structure StepI (lo hi : Nat) (W W' : World) : Prop where
  os : W'.os = W.os
  tape : W'.tape = W.tape
  output : W'.output = W.output
  size : W.heap.size ≤ W'.heap.size
  same : ∀ (k : Nat) (o : Obj), W.heap[k]? = some o → ¬ (lo ≤ k ∧ k < hi) → W'.heap[k]? = some o
theorem StepI.off {lo hi : Nat} {W W' : World} (h : StepI lo hi W W') (B : Nat) : Off lo hi B W W' := ⟨h.os, h.tape, h.output, h.size, fun k o hk hn _ => h.same k o hk hn⟩
theorem StepI.of_below {lo hi : Nat} {W W' : World} (h : Below W.heap.size W W') : StepI lo hi W W' :=
  ⟨h.os, h.tape, h.output, h.size, fun k _ hk _ => (h.block k (Array.getElem?_eq_some_iff.1 hk).1).trans hk⟩
theorem StepI.set {lo hi b : Nat} (W : World) (v : Value) (h1 : lo ≤ b) (h2 : b < hi) : StepI lo hi W (W.setCell ⟨b, 0, none⟩ v) :=
  ⟨rfl, rfl, rfl, by simp [World.setCell], fun k _ hk hn => (setCell_heap_other (fun e => hn (by subst e; exact ⟨h1, h2⟩)) v).trans hk⟩
theorem off_put {lo hi B : Nat} {W : World} {l : Nat} {o : Obj} (o' : Obj) (hB : B ≤ l) (hl : W.heap[l]? = some o) (ho : o.isCells = false) : Off lo hi B W (W.putObj l o') := by
  have hg := grownBy_putObj' W l o'
  refine ⟨hg.os, hg.tape, hg.output, hg.size, fun k p hk _ hp => ?_⟩
  by_cases e : k = l
  · subst e
    rw [hl] at hk
    cases hk
    rcases hp with hp | hp
    · rw [ho] at hp; cases hp
    · omega
  · exact (World.putObj_heap_other e).trans hk
theorem off_alloc (lo hi B : Nat) (W : World) (o : Obj) : Off lo hi B W (W.alloc o) := (StepI.of_below ((Below.refl _ W).alloc (Nat.le_refl _) o)).off B
/-- an invariant that abides such steps -/
def AbOff {β : Type} (lo hi B : Nat) (I : β → World → Prop) : Prop := ∀ s W W', I s W → Off lo hi B W W' → I s W'
theorem AbOff.and {β : Type} {lo hi B : Nat} {I I' : β → World → Prop} (h : AbOff lo hi B I) (h' : AbOff lo hi B I') : AbOff lo hi B (fun s W => I s W ∧ I' s W) := fun s W W' hs hk => ⟨h s W W' hs.1 hk, h' s W W' hs.2 hk⟩
theorem abOff_const {β : Type} {lo hi B : Nat} (p : β → Prop) : AbOff lo hi B (fun s (_ : World) => p s) := fun _ _ _ h _ => h
theorem abOff_below {β : Type} {lo hi B n₀ : Nat} {w₀ : World} (h1 : n₀ ≤ lo) (h2 : n₀ ≤ B) (h3 : n₀ ≤ w₀.heap.size) : AbOff lo hi B (fun (_ : β) W => Below n₀ w₀ W) := fun _ W W' hs hk =>
  hs.trans ⟨hk.os, hk.tape, hk.output, hk.size, fun k hlt => by
    have hlt' : k < W.heap.size := Nat.lt_of_lt_of_le hlt (Nat.le_trans h3 hs.size)
    rw [hk.same k _ (Array.getElem?_eq_getElem hlt') (fun h => absurd h.1 (by omega)) (.inr (by omega)), Array.getElem?_eq_getElem hlt']⟩
theorem Blk.off {W W' : World} {lo hi B b : Nat} {C : Array Value} {t : TypeId} (h : Blk W b C t) (hk : Off lo hi B W W') (hb : ¬ (lo ≤ b ∧ b < hi)) : Blk W' b C t := hk.same b _ h hb (.inl rfl)
/-- the iterator's blocks, and all below n₀, lie as they lay -/
structure KeptIn (n₀ lo hi : Nat) (W W' : World) : Prop where
  size : W.heap.size ≤ W'.heap.size
  same : ∀ k, (k < n₀ ∨ (lo ≤ k ∧ k < hi)) → W'.heap[k]? = W.heap[k]?
theorem KeptIn.refl (n₀ lo hi : Nat) (W : World) : KeptIn n₀ lo hi W W := ⟨Nat.le_refl _, fun _ _ => rfl⟩
theorem KeptIn.trans {n₀ lo hi : Nat} {X Y Z : World} (h : KeptIn n₀ lo hi X Y) (k : KeptIn n₀ lo hi Y Z) : KeptIn n₀ lo hi X Z := ⟨Nat.le_trans h.size k.size, fun i h1 => (k.same i h1).trans (h.same i h1)⟩
theorem KeptIn.put {n₀ lo hi : Nat} (W : World) (l : Nat) (o' : Obj) (h0 : n₀ ≤ l) (h : hi ≤ l) : KeptIn n₀ lo hi W (W.putObj l o') := ⟨(grownBy_putObj' W l o').size, fun k h2 => World.putObj_heap_other (by omega)⟩
theorem KeptIn.set {n₀ lo hi b : Nat} (W : World) (v : Value) (h0 : n₀ ≤ b) (h : b < lo ∨ hi ≤ b) : KeptIn n₀ lo hi W (W.setCell ⟨b, 0, none⟩ v) := ⟨by simp [World.setCell], fun k h2 => setCell_heap_other (by omega) v⟩
theorem KeptIn.grown {n₀ lo hi : Nat} {X Y Z : World} (h : KeptIn n₀ lo hi X Y) {row : Option Nat} (hg : Y.grownBy Z row) (h0 : n₀ ≤ Y.heap.size) (h1 : hi ≤ Y.heap.size) (hr : ∀ k, row = some k → n₀ ≤ k ∧ (k < lo ∨ hi ≤ k)) : KeptIn n₀ lo hi X Z :=
  ⟨Nat.le_trans h.size hg.size, fun k hk => (hg.block k (by omega) (fun e => by have := hr k e.symm; omega)).trans (h.same k hk)⟩
theorem KeptIn.of_below {n₀ lo hi : Nat} {W W' : World} (h : Below W.heap.size W W') (h0 : n₀ ≤ W.heap.size) (h1 : hi ≤ W.heap.size) : KeptIn n₀ lo hi W W' := ⟨h.size, fun k hk => h.block k (by omega)⟩
theorem Blk.keptIn {n₀ lo hi : Nat} {W W' : World} {b : Nat} {C : Array Value} {t : TypeId} (h : Blk W b C t) (hk : KeptIn n₀ lo hi W W') (hb : b < n₀ ∨ (lo ≤ b ∧ b < hi)) : Blk W' b C t := (hk.same b hb).trans h
theorem cell_same {W W' : World} {b : Nat} (h : W'.heap[b]? = W.heap[b]?) (i : Nat) : W'.cell? ⟨b, i, none⟩ = W.cell? ⟨b, i, none⟩ := by
  unfold World.cell?
  simp only [h]
/-- the contract of an iterator that keeps its place in the blocks from lo to hi -/
def SeqCell {α : Type} (F : Fence) (n : Nat) (P : Program) (g : Nat) (lb : Array Value) (encs : α → Array Value) (n₀ lo hi : Nat) (S Sp : List α → Prop) (w : World) : Prop :=
  ∀ (l : Nat) (J Jx : List α → World → Prop) (W : World), Below w.heap.size w W → (∀ s X Y, J s X → StepI lo hi X Y → J s Y) →
    (∀ pre x W1, J pre W1 → Sp (pre ++ [x]) → YieldAt F (n - 1) P l (encs x) W1 fun e W' =>
      (e = .returned (.bool true) ∧ J (pre ++ [x]) W' ∧ KeptIn n₀ lo hi W1 W') ∨ (e = .returned (.bool false) ∧ Jx (pre ++ [x]) W')) →
    J [] W →
    CallsIn F n P g (#[.func (.yield l) #[] #[]] ++ lb) W fun e W' => (∃ v, e = .returned v) ∧ ((∃ xs, S xs ∧ J xs W') ∨ (∃ pre, Sp pre ∧ Jx pre W'))
/-- how a round's body may be left -/
def cellPost {α : Type} (n₀ lo hi B : Nat) (I : List α → World → Prop) (Ix : Code → List α → World → Prop) (xs : List α) (W : World) : Exit → Act → World → Prop
  | .normal, _, W' => KeepsFrom B W W' ∧ KeptIn n₀ lo hi W W' ∧ I xs W'
  | .ret, _, W' => KeepsFrom B W W' ∧ Ix .ret xs W'
  | .exit id, _, W' => KeepsFrom B W W' ∧ Ix (.exit id) xs W'
  | .goto t, _, W' => KeepsFrom B W W' ∧ Ix (.goto t) xs W'
  | .panic _, _, _ => False
  | .outgrown, _, _ => False
variable {F : Fence} {n : Nat} {P : Program}
set_option linter.unusedVariables false in
theorem wpIn_rangeFunc_cell {α : Type} {g : Operand} {ps : Array Tmp} {assign body : Code} {Q : Exit → Act → World → Prop} {a : Act} {w : World}
    (hro : F.round = none) (h1 : 1 ≤ n) {gf : Nat} {lb : Array Value} (hg : a.eval g = .func (.func gf) #[] lb) (hFg : F.fn gf) (eg : ∀ args w, (callFunc gf args).run P w = .ok (.enter gf args) w)
    {encs : α → Array Value} {n₀ lo hi : Nat} {S Sp : List α → Prop} (hseq : SeqCell F (n - 1) P gf lb encs n₀ lo hi S Sp w) (hn₀ : n₀ ≤ w.heap.size) (hhi : hi ≤ w.heap.size) (hps : ∀ x, (encs x).size = ps.size)
    (I : List α → World → Prop) (Ix : Code → List α → World → Prop) (hI : AbOff lo hi w.heap.size I) (hIx : ∀ c, AbOff lo hi w.heap.size (Ix c)) (h0 : I [] w) (a₁ : α → Act)
    (hassign : ∀ (l : Nat) (x : α) (W : World) (K : Act → World → Prop), K (a₁ x) W →
      assign.wpIn (F.inRound l) (n - 1 - 1) P (Exit.then K (fun _ _ _ => False)) { tmps := (ps.zip (encs x)).foldl (fun t (p, v) => t.setIfInBounds p v) a.tmps, defers := [] } W)
    (hbody : ∀ (l : Nat) (pre : List α) (x : α) (W : World), I pre W → Sp (pre ++ [x]) → body.wpIn (F.inRound l) (n - 1 - 1) P (cellPost n₀ lo hi w.heap.size I Ix (pre ++ [x]) W) (a₁ x) W)
    (hdone : ∀ (D : Nat) (xs : List α) (W : World), w.heap.size ≤ D → S xs → I xs W → W.heap[D]? = some (.deferred (some [])) → Q .normal { a with defers := { target := .collected D, args := #[] } :: a.defers } W)
    (hstop : ∀ (D : Nat) (c : Code) (pre : List α) (W : World), w.heap.size ≤ D → Sp pre → Ix c pre W → W.heap[D]? = some (.deferred (some [])) → c.wpIn F n P Q { a with defers := { target := .collected D, args := #[] } :: a.defers } W) :
    (Code.rangeFunc g ps assign body).wpIn F n P Q a w := by
  refine wpIn_rangeFunc ?_
  intro fn hfn
  rw [hro]
  obtain ⟨rec, hrec⟩ : ∃ rec : LoopState → Option Code → Loop, rec = fun st pe => { state := st, pending := pe, fn, tmps := a.tmps, params := ps, assign, body, defers := w.heap.size } := ⟨_, rfl⟩
  obtain ⟨W1, hW1⟩ : ∃ W1, (w.alloc (.deferred (some []))).alloc (.loop (rec .ready none)) = W1 := ⟨_, rfl⟩
  have hL1 : W1.heap[w.heap.size + 1]? = some (.loop (rec .ready none)) := by
    rw [← hW1]
    have := World.alloc_heap_new (w.alloc (.deferred (some []))) (.loop (rec .ready none))
    rwa [World.size_alloc] at this
  have hK1 : W1.heap[w.heap.size]? = some (.deferred (some [])) := by
    rw [← hW1]
    exact (Below.heap_alloc _ _ _ (by simp)).trans (World.alloc_heap_new w _)
  have hI1 : I [] W1 := by
    rw [← hW1]
    exact hI _ _ _ (hI _ _ _ h0 (off_alloc _ _ _ _ _)) (off_alloc _ _ _ _ _)
  have hb1 : Below w.heap.size w W1 := by
    rw [← hW1]
    exact ((Below.refl _ w).alloc (Nat.le_refl _) _).alloc (by simp) _
  refine ⟨w.heap.size + 1, [{ target := .collected w.heap.size, args := #[] }], W1, { target := .fn (.func gf) lb, args := #[.func (.yield (w.heap.size + 1)) #[] #[]] }, W1, gf,
    #[.func (.yield (w.heap.size + 1)) #[] #[]] ++ lb, W1, ?_, ?_, ?_, ?_, fun _ => h1, ?_⟩
  · rw [← hW1, hrec]
    exact run_enterLoop_outer _ _ _ _ _
  · simp only [resolve, hg]
    simp [go_sem]
  · intro f' hf'
    simp [Target.leads] at hf'
    subst hf'
    exact hFg
  · simp [invoke, go_sem, eg]
  · refine (hseq (w.heap.size + 1)
      (fun pre W => I pre W ∧ W.heap[w.heap.size + 1]? = some (.loop (rec .ready none)) ∧ W.heap[w.heap.size]? = some (.deferred (some [])))
      (fun pre W => ∃ c, Ix c pre W ∧ W.heap[w.heap.size + 1]? = some (.loop (rec .done (some c))) ∧ W.heap[w.heap.size]? = some (.deferred (some [])))
      W1 hb1
      (fun s X Y hs hk => ⟨hI s X Y hs.1 (hk.off _), hk.same _ _ hs.2.1 (by omega), hk.same _ _ hs.2.2 (by omega)⟩)
      ?_ ⟨hI1, hL1, hK1⟩).mono ?_
    · rintro pre x W ⟨hi', hl, hk⟩ hlen
      have hlt : w.heap.size + 1 < W.heap.size := (Array.getElem?_eq_some_iff.1 hl).1
      have hy := run_yield (P := P) (args := encs x) hl (by rw [hrec]; exact hps x)
      rw [hrec] at hy
      refine ⟨fn, _, assign, body, hy, roundIn_of_wpIn hfn (hassign _ x W _ ⟨_, run_beginRound hl (by rw [hrec]), ?_⟩)⟩
      have hl2 : (W.putObj (w.heap.size + 1) (.loop { rec .ready none with state := .busy })).heap[w.heap.size + 1]? = some (.loop { rec .ready none with state := .busy }) := World.putObj_heap_same hlt
      have hk2 : (W.putObj (w.heap.size + 1) (.loop { rec .ready none with state := .busy })).heap[w.heap.size]? = some (.deferred (some [])) := (World.putObj_heap_other (by omega)).trans hk
      have hw2 : KeptIn n₀ lo hi W (W.putObj (w.heap.size + 1) (.loop { rec .ready none with state := .busy })) := KeptIn.put _ _ _ (by omega) (by omega)
      refine wpIn_mono (hbody _ pre x _ (hI _ _ _ hi' (off_put _ (by omega) hl rfl)) hlen) ?_
      have fin : ∀ (jump : Option Code) (W3 : World), KeepsFrom w.heap.size (W.putObj (w.heap.size + 1) (.loop { rec .ready none with state := .busy })) W3 →
          (Instr.endRound (w.heap.size + 1) jump).run P W3 = .ok (.bool jump.isNone) (W3.putObj (w.heap.size + 1) (.loop (rec (if jump.isNone then .ready else .done) jump))) ∧
          W3.heap[w.heap.size + 1]? = some (.loop { rec .ready none with state := .busy }) ∧
          (W3.putObj (w.heap.size + 1) (.loop (rec (if jump.isNone then .ready else .done) jump))).heap[w.heap.size + 1]? = some (.loop (rec (if jump.isNone then .ready else .done) jump)) ∧
          (W3.putObj (w.heap.size + 1) (.loop (rec (if jump.isNone then .ready else .done) jump))).heap[w.heap.size]? = some (.deferred (some [])) := fun jump W3 hk3 => by
        have hl3 := hk3.same _ _ (by omega) hl2 rfl
        have := run_endRound (P := P) jump hl3
        rw [hrec] at this ⊢
        exact ⟨this, by rw [hrec] at hl3; exact hl3, World.putObj_heap_same (Array.getElem?_eq_some_iff.1 hl3).1, (World.putObj_heap_other (by omega)).trans (hk3.same _ _ (Nat.le_refl _) hk2 rfl)⟩
      rintro e a3 W3 hp
      cases e with
      | normal =>
        obtain ⟨hk3, hkp3, hi3⟩ := hp
        obtain ⟨hr, hl3, hl4, hk4⟩ := fin none W3 hk3
        exact ⟨_, _, hr, .inl ⟨rfl, ⟨hI _ _ _ hi3 (off_put _ (by omega) hl3 rfl), hl4, hk4⟩, (hw2.trans hkp3).trans (KeptIn.put _ _ _ (by omega) (by omega))⟩⟩
      | ret =>
        obtain ⟨hk3, hi3⟩ := hp
        obtain ⟨hr, hl3, hl4, hk4⟩ := fin (some .ret) W3 hk3
        exact ⟨_, _, hr, .inr ⟨rfl, .ret, hIx _ _ _ _ hi3 (off_put _ (by omega) hl3 rfl), hl4, hk4⟩⟩
      | exit id =>
        obtain ⟨hk3, hi3⟩ := hp
        obtain ⟨hr, hl3, hl4, hk4⟩ := fin (some (.exit id)) W3 hk3
        exact ⟨_, _, hr, .inr ⟨rfl, .exit id, hIx _ _ _ _ hi3 (off_put _ (by omega) hl3 rfl), hl4, hk4⟩⟩
      | goto t =>
        obtain ⟨hk3, hi3⟩ := hp
        obtain ⟨hr, hl3, hl4, hk4⟩ := fin (some (.goto t)) W3 hk3
        exact ⟨_, _, hr, .inr ⟨rfl, .goto t, hIx _ _ _ _ hi3 (off_put _ (by omega) hl3 rfl), hl4, hk4⟩⟩
      | panic ch => exact hp.elim
      | outgrown => exact hp.elim
    · rintro e W2 ⟨⟨v, rfl⟩, (⟨xs, hS, hi', hl, hk⟩ | ⟨pre, hSp, c, hi', hl, hk⟩)⟩
      · exact ⟨none, _, by have := run_endLoop (P := P) hl (by rw [hrec]; simp); rw [hrec] at this; exact this, hdone _ xs _ (Nat.le_refl _) hS (hI _ _ _ hi' (off_put _ (by omega) hl rfl)) ((World.putObj_heap_other (by omega)).trans hk)⟩
      · exact ⟨some c, _, by have := run_endLoop (P := P) hl (by rw [hrec]; simp); rw [hrec] at this; exact this, hstop _ c pre _ (Nat.le_refl _) hSp (hIx _ _ _ _ hi' (off_put _ (by omega) hl rfl)) ((World.putObj_heap_other (by omega)).trans hk)⟩
end Go.Proofs.YtlcadichpcdgpaaGreatDoor
namespace Go.Proofs.YtlcadichpcdgpaaGreatDoor
open Go Go.RowKit Go.Shelf
attribute [local go_sem] Oper.semAt_some
theorem MaxCell.same {W W' : World} (h : MaxCell W) (e : W'.heap[2]? = W.heap[2]?) : MaxCell W' := by
  obtain ⟨m, hm⟩ := h
  exact ⟨m, (cell_same e 0).trans hm⟩
theorem MaxCell.lt {W : World} (h : MaxCell W) : 2 < W.heap.size := by
  obtain ⟨m, hm⟩ := h
  exact block_lt_of_cell (w := W) (a := ⟨_, 0, none⟩) hm
theorem idx_any (c : UInt8) (s : List UInt8) (w : World) (hl : s.length ≤ 1000000) (hm : MaxCell w) :
    Calls Tryz.prog 92 #[.string (S s), .string (S [c])] w fun e w' => e = .returned (.int .i64 (match cut1 c s with
      | none => -1
      | some (a, _) => (a.length : Int))) ∧ w = w' := by
  obtain ⟨m, hm⟩ := hm
  have C := Tryz.strings_Index (S s) (S [c]) m w (by rw [S_size]; omega) hm
  have e1 : (S s).data.toList = s := by simp [S]
  have e2 : (S [c]).data.toList = [c] := by simp [S]
  rw [e1, e2, index_one] at C
  refine C.mono ?_
  rintro e w' ⟨rfl, rfl⟩
  refine ⟨?_, rfl⟩
  cases cut1 c s with
  | none => rfl
  | some q => obtain ⟨a, b⟩ := q; rfl
theorem idx_none {c : UInt8} {s : List UInt8} (w : World) (hl : s.length ≤ 1000000) (hm : MaxCell w) (h : cut1 c s = none) :
    Calls Tryz.prog 92 #[.string (S s), .string (S [c])] w fun e w' => e = .returned (.int .i64 (-1)) ∧ w = w' := by
  have C := idx_any c s w hl hm
  rw [h] at C
  exact C
theorem idx_some {c : UInt8} {s a b : List UInt8} (w : World) (hl : s.length ≤ 1000000) (hm : MaxCell w) (h : cut1 c s = some (a, b)) :
    Calls Tryz.prog 92 #[.string (S s), .string (S [c])] w fun e w' => e = .returned (.int .i64 (a.length : Int)) ∧ w = w' := by
  have C := idx_any c s w hl hm
  rw [h] at C
  exact C
set_option maxRecDepth 100000 in
set_option maxHeartbeats 1000000 in
theorem splitSeq1_in (n : Nat) (hn : 1 ≤ n) (l n₀ b : Nat) (c : UInt8) (s : List UInt8) (hl : s.length ≤ 1000000) (J Jx : List (List UInt8) → World → Prop)
    (hJ : ∀ s X Y, J s X → StepI b (b + 3) X Y → J s Y)
    (hY : ∀ pre x W1, J pre W1 → pre ++ [x] <+: split1 c s → YieldAt Fence.wide (n - 1) Tryz.prog l #[.string (S x)] W1 fun e W' =>
      (e = .returned (.bool true) ∧ J (pre ++ [x]) W' ∧ KeptIn n₀ b (b + 3) W1 W') ∨ (e = .returned (.bool false) ∧ Jx (pre ++ [x]) W'))
    (W : World) (hB0 : Blk W b #[.string (S s)] 9) (hB1 : Blk W (b + 1) #[.string (S [c])] 9) (hB2 : Blk W (b + 2) #[.int .i64 0] 3) (hm : MaxCell W) (hg : 2 < n₀) (hnb : n₀ ≤ b) (h0 : J [] W) :
    CallsIn Fence.wide n Tryz.prog 90 #[.func (.yield l) #[] #[], .pointer (some ⟨b + 1, 0, none⟩), .pointer (some ⟨b, 0, none⟩), .pointer (some ⟨b + 2, 0, none⟩)] W fun e W' => (∃ v, e = .returned v) ∧
      ((∃ ys, ys = split1 c s ∧ J ys W') ∨ (∃ pre, pre <+: split1 c s ∧ Jx pre W')) := by
  refine callsIn_of_wp Tryz.func90 rfl trivial ?_ rfl
  simp only [Tryz.ntmps90, List.size_toArray, List.length_cons, List.length_nil, Nat.reduceAdd, Nat.reduceSub, Array.replicate_succ, Array.replicate_zero, List.push_toArray, List.append_toArray, List.nil_append, List.cons_append]
  have q1 := hB1.one
  gi_wp2
  gi_loopg [] s.length (fun g wr => ∃ pre r, split1 c s = pre ++ split1 c r ∧ r.length ≤ g ∧ pre.length + r.length ≤ s.length ∧ Blk wr b #[.string (S r)] 9 ∧ Blk wr (b + 1) #[.string (S [c])] 9 ∧ Blk wr (b + 2) #[.int .i64 0] 3 ∧ MaxCell wr ∧ J pre wr)
  case atStart => exact ⟨[], s, rfl, Nat.le_refl _, by simp, hB0, hB1, hB2, hm, h0⟩
  case round =>
    clear q1
    obtain ⟨pre, r, hsp, hg0, hlen, b0, b1, b2, hmr, hJs⟩ := hrel
    have q0 := b0.one
    have q1 := b1.one
    have q2 := b2.one
    cases h : cut1 c r with
    | none =>
      have C := Lib.hid (idx_none wr (by omega) hmr h)
      rw [split1_none h] at hsp
      obtain ⟨fn, tmps, assign, body, hy, hR⟩ := hY pre r wr hJs (by rw [hsp]; exact List.prefix_refl _)
      have HR := Lib.hid hR
      clear hR hY hJ
      gi_wp2_with fail
      refine ⟨trivial, (callsIn_wide.2 C.out).mono ?_⟩
      rintro e w' ⟨rfl, rfl⟩
      clear C
      gi_wp2_with fail
      refine HR.out.mono ?_
      clear HR hy
      rintro e W3 (⟨rfl, hJ3, hk3⟩ | ⟨rfl, hJx3⟩)
      · gi_wp2
        go_end0
        exact ⟨⟨_, rfl⟩, .inl ⟨pre ++ [r], hsp.symm, hJ3⟩⟩
      · gi_wp2
        go_end0
        exact ⟨⟨_, rfl⟩, .inr ⟨pre ++ [r], by rw [hsp]; exact List.prefix_refl _, hJx3⟩⟩
    | some q =>
      obtain ⟨a, r'⟩ := q
      have C := Lib.hid (idx_some wr (by omega) hmr h)
      obtain ⟨hr, hca⟩ := cut1_some h
      have hrl := congrArg List.length hr
      rw [List.length_append, List.length_cons] at hrl
      rw [split1_some h, List.append_cons] at hsp
      obtain ⟨fn, tmps, assign, body, hy, hR⟩ := hY pre a wr hJs (by rw [hsp]; exact List.prefix_append _ _)
      have HJ := Lib.hid hJ
      have HR := Lib.hid hR
      have Hr := Lib.hid hr
      have e1 : List.take a.length r = a := by rw [Hr.out]; simp
      have e2 : List.drop (a.length + 1) r = r' := by rw [Hr.out]; simp
      have l1 : (a.length : Int) ≤ (r.length : Int) := by omega
      have l2 : (a.length : Int) + 1 ≤ (r.length : Int) := by omega
      have l3 : r.length ≤ 1000000 := by omega
      have Hsp := Lib.hid hsp
      have Hrl := Lib.hid hrl
      clear hR hY hr hsp hrl hJ
      gi_wp2_with fail
      refine ⟨trivial, (callsIn_wide.2 C.out).mono ?_⟩
      rintro e w' ⟨rfl, rfl⟩
      clear C
      gi_wp2_with fail
      refine HR.out.mono ?_
      clear HR hy
      rintro e W3 (⟨rfl, hJ3, hk3⟩ | ⟨rfl, hJx3⟩)
      · have c0 := b0.keptIn hk3 (by omega)
        have c1 := b1.keptIn hk3 (by omega)
        have c2 := b2.keptIn hk3 (by omega)
        have hm3 := hmr.same (hk3.same _ (.inl hg))
        have p0 := c0.one
        have p1 := c1.one
        have p2 := c2.one
        have f0 := c0.frozen 0
        have e3 : List.take (r.length - (a.length + 1)) r' = r' := List.take_of_length_le (by have := Hrl.out; omega)
        have hJ4 := HJ.out _ _ _ hJ3 (StepI.set W3 (.string (S r')) (Nat.le_refl b) (by omega))
        have d0 := c0.set 0 (.string (S r'))
        have d1 := c1.other (b' := b) (i := 0) (by omega) (.string (S r'))
        have d2 := c2.other (b' := b) (i := 0) (by omega) (.string (S r'))
        have hm4 := hm3.same (setCell_heap_other (i := 0) (show 2 ≠ b by omega) (.string (S r')))
        clear hm3 hJ3 hk3 hmr b0 b1 b2 q0 q1 q2
        gi_wp2_with fail
        gi_roundg r'.length
        case measure => have := Hrl.out; omega
        case rel => exact ⟨pre ++ [a], r', Hsp.out, Nat.le_refl _, by have := Hrl.out; simp; omega, d0, d1, d2, hm4, hJ4⟩
      · gi_wp2
        refine bodyPost_ret (results_none rfl _ _ _) rfl ?_
        exact ⟨⟨_, rfl⟩, .inr ⟨pre ++ [a], by rw [Hsp.out]; exact List.prefix_append _ _, hJx3⟩⟩
theorem splitSeq_stops (n : Nat) (hn : 1 ≤ n) (n₀ b : Nat) (c : UInt8) (s : List UInt8) (hl : s.length ≤ 1000000) (w : World) (hB0 : Blk w b #[.string (S s)] 9) (hB1 : Blk w (b + 1) #[.string (S [c])] 9) (hB2 : Blk w (b + 2) #[.int .i64 0] 3) (hm : MaxCell w) (hg : 2 < n₀) (hnb : n₀ ≤ b) :
    SeqCell Fence.wide n Tryz.prog 90 #[.pointer (some ⟨b + 1, 0, none⟩), .pointer (some ⟨b, 0, none⟩), .pointer (some ⟨b + 2, 0, none⟩)] (fun x : List UInt8 => #[.string (S x)]) n₀ b (b + 3) (fun ys => ys = split1 c s) (fun pre => pre <+: split1 c s) w := fun l J Jx W hW hJ hY h0 =>
  splitSeq1_in n hn l n₀ b c s hl J Jx hJ hY W (hB0.later hW) (hB1.later hW) (hB2.later hW) (hm.later hW) hg hnb h0
/-- the iterator's value -/
def seqV (N : Nat) : Value := .func (.func 90) #[] #[.pointer (some ⟨N + 1, 0, none⟩), .pointer (some ⟨N, 0, none⟩), .pointer (some ⟨N + 2, 0, none⟩)]
theorem splitSeq_any (c : UInt8) (s : List UInt8) (w : World) :
    Calls Tryz.prog 69 #[.string (S s), .string (S [c])] w fun e w' => e = .returned (seqV w.heap.size) ∧ w' = ((w.alloc (.cells #[.string (S s)] 9)).alloc (.cells #[.string (S [c])] 9)).alloc (.cells #[.int .i64 0] 3) := by
  go_enter Tryz.func69, Tryz.ntmps69
  go_wp2
  go_ret
  exact ⟨rfl, rfl⟩
end Go.Proofs.YtlcadichpcdgpaaGreatDoor
namespace Go.Proofs.YtlcadichpcdgpaaGreatDoor
open Go.RowKit
/-- the slice value v reads as these strings in W -/
def StrV (W : World) (v : Value) (l : List (List UInt8)) : Prop := ∃ p c, v = .slice p l.length c ∧ (0 < l.length → ∃ b o, p = some ⟨b, o, none⟩ ∧ ∀ j (hj : j < l.length), W.cell? ⟨b, o + j, none⟩ = some (.string (S l[j])))
theorem StrV.later {W W' : World} {v : Value} {l : List (List UInt8)} (h : StrV W v l) (hb : Below W.heap.size W W') : StrV W' v l := by
  obtain ⟨p, c, hv, hc⟩ := h
  refine ⟨p, c, hv, fun hl => ?_⟩
  obtain ⟨b, o, hp, hcell⟩ := hc hl
  refine ⟨b, o, hp, fun j hj => ?_⟩
  rw [(bcell hb).1 b (o + j) (block_lt_of_cell (w := W) (a := ⟨b, o + j, none⟩) (hcell j hj))]
  exact hcell j hj
theorem strV_nil (W : World) : StrV W (.slice none 0 0) [] := ⟨none, 0, rfl, fun h => absurd h (by decide)⟩
theorem StrV.form {W : World} {v : Value} {l : List (List UInt8)} (h : StrV W v l) : ∃ p c, v = .slice p l.length c := by obtain ⟨p, c, h, _⟩ := h; exact ⟨p, c, h⟩
theorem StrV.cell {W : World} {p : Option Addr} {c : Nat} {l : List (List UInt8)} (h : StrV W (.slice p l.length c) l) {j : Nat} (hj : j < l.length) : ∃ b o, p = some ⟨b, o, none⟩ ∧ W.cell? ⟨b, o + j, none⟩ = some (.string (S l[j])) := by
  obtain ⟨p0, c0, hv, hc⟩ := h
  obtain ⟨rfl, rfl⟩ : p = p0 ∧ c = c0 := by simpa using hv
  obtain ⟨b, o, rfl, hcell⟩ := hc (by omega)
  exact ⟨b, o, rfl, hcell j hj⟩
/-- texts that a call collects in a slice of its own -/
def strVs (l : List (List UInt8)) : List Value := l.map fun s => .string (S s)
theorem strVs_len (l : List (List UInt8)) : (strVs l).length = l.length := by simp [strVs]
theorem strVs_app (l m : List (List UInt8)) : strVs (l ++ m) = strVs l ++ strVs m := by simp [strVs]
theorem strVs_one (l : List (List UInt8)) : ∀ u ∈ strVs l, u.oneCell' = true := by
  intro u hu
  obtain ⟨s, _, rfl⟩ := List.mem_map.1 hu
  rfl
def StBuf (base : Nat) (W : World) (v : Value) (l : List (List UInt8)) : Prop := W.ownsRow base 9 1 v l.length (strVs l)
theorem StBuf.nil (base : Nat) (W : World) : StBuf base W (.slice none 0 0) [] := World.ownsRow_nil W base 9 1
theorem StBuf.alloc {base : Nat} {W : World} {v : Value} {l : List (List UInt8)} (h : StBuf base W v l) (o : Obj) : StBuf base (W.alloc o) v l := World.ownsRow.alloc h o
theorem StBuf.drewN {base : Nat} {W : World} {v : Value} {l : List (List UInt8)} (h : StBuf base W v l) (n : Nat) : StBuf base (W.drewN n) v l := h
theorem StBuf.later {base : Nat} {W W' : World} {v : Value} {l : List (List UInt8)} (h : StBuf base W v l) (hb : Below W.heap.size W W') : StBuf base W' v l := by
  refine World.ownsRow.kept (row := none) h ⟨hb.os, hb.tape, hb.output, hb.size, fun k hk _ => hb.block k hk⟩ ?_
  cases hv : v.ownBlock with
  | none => exact .inl rfl
  | some k => exact .inr (by simp)
theorem StBuf.form {base : Nat} {W : World} {v : Value} {l : List (List UInt8)} (h : StBuf base W v l) : ∃ p cap, v = .slice p l.length cap := by
  rcases h.2 with ⟨rfl, h0⟩ | ⟨g, cap, cur, hv, _⟩
  · exact ⟨none, 0, by rw [h0]⟩
  · exact ⟨_, _, hv⟩
theorem StBuf.strs {base : Nat} {W : World} {v : Value} {l : List (List UInt8)} (h : StBuf base W v l) : StrV W v l := by
  rcases h.2 with ⟨rfl, h0⟩ | ⟨g, cap, cur, rfl, hbg, hg, hnc, hcm, hcs, htake⟩
  · obtain rfl : l = [] := List.eq_nil_of_length_eq_zero h0
    exact strV_nil W
  · refine ⟨_, _, rfl, fun _ => ⟨g, 0, rfl, fun j hj => ?_⟩⟩
    have h1 := World.ownsRow.cells h (g := g) rfl j (.string (S l[j])) (by simp [strVs, List.getElem?_eq_getElem hj])
    have e1 : (⟨g, 0, none⟩ : Addr).add j = ⟨g, 0 + j, none⟩ := by simp only [Addr.add]; split <;> simp_all
    rw [e1] at h1
    exact h1
theorem StBuf.ge {base : Nat} {W : World} {v : Value} {l : List (List UInt8)} (h : StBuf base W v l) : ∀ k, v.ownBlock = some k → base ≤ k := fun k hk => (World.ownsRow.lt h k hk).1
theorem infoSt : ∃ i, Tryz.prog.info? 9 = some i ∧ i.zero = some (.string (S [])) ∧ i.size = 1 ∧ i.bytes = 16 := info_parts (show (Tryz.prog.info? 9).map (fun i => (i.zero, i.size, i.bytes)) = some (some (.string (S [])), 1, 16) by kernel_rfl)
/-- what an append of one text asks -/
theorem appS_sides (s : List UInt8) (wu : World) (N n base : Nat) (hN : wu.heap.size = N) (hn : n ≤ 1000000) (hb : base ≤ N) :
    Hid (∀ j u, ([.string (S s)] : List Value)[j]? = some u → (wu.alloc (.cells #[.string (S s)] 9)).cell? ((⟨N, 0, none⟩ : Addr).add j) = some u) ∧ Hid (∀ u ∈ ([.string (S s)] : List Value), u.oneCell' = true) ∧ Hid (n + 1 ≤ maxLen) ∧ Hid ((n + 1) * 16 ≤ 140737488355328) ∧ Hid (base ≤ (wu.alloc (.cells #[.string (S s)] 9)).heap.size) := by
  subst hN
  refine ⟨Lib.hid ?_, Lib.hid ?_, Lib.hid (by unfold maxLen; omega), Lib.hid (by omega), Lib.hid (by simp; omega)⟩
  · intro j u h
    have hb := (Blk.new wu #[.string (S s)] 9).cell j
    have e1 : (⟨wu.heap.size, 0, none⟩ : Addr).add j = ⟨wu.heap.size, j, none⟩ := by simp only [Addr.add]; split <;> simp_all
    rw [e1, hb]
    simpa using h
  · exact strVs_one [s]
end Go.Proofs.YtlcadichpcdgpaaGreatDoor

namespace Go.Proofs.YtlcadichpcdgpaaGreatDoor
open Go.RowKit Go.Maps
theorem keyedI : Keyed Tryz.prog 3 := int_keyed Tryz.underlying3
theorem keyedS : Keyed Tryz.prog 9 := string_keyed Tryz.underlying9
theorem zeroB (w : World) : (zeroValue 4).run Tryz.prog w = .ok (.bool false) w := by kernel_rfl
theorem plainElem_bool_inv {P : Program} {e : TypeId} (he : P.underlying e = some .bool) {v : Value} {z : DataW Unit × List MemPlace} (h : plainElem P e v = some z) : ∃ a, v = .bool a ∧ z = (.lit (.bool a), []) := by
  unfold plainElem at h
  rw [he] at h
  cases v <;> simp at h
  subst h
  exact ⟨_, rfl, rfl⟩
def BMap (k : TypeId) (W : World) (b n : Nat) (f : Lit → Prop) : Prop :=
  ∃ D : DataW Unit, W.ownsMap Tryz.prog k (plainElem Tryz.prog 4) b n D ∧ ∀ kl, (f kl → D.atKey kl (.lit (.bool false)) = .lit (.bool true)) ∧ (¬ f kl → D.atKey kl (.lit (.bool false)) = .lit (.bool false))
theorem BMap.made (k : TypeId) (w : World) : BMap k (w.alloc (.map #[] 0)) w.heap.size 0 (fun _ => False) :=
  ⟨.map [], World.ownsMap_made _ _ _ _, fun _ => ⟨fun h => h.elim, fun _ => rfl⟩⟩
theorem BMap.lt {k : TypeId} {W : World} {b n : Nat} {f : Lit → Prop} (h : BMap k W b n f) : b < W.heap.size := by
  obtain ⟨D, ⟨es, clock, h1, _⟩, _⟩ := h
  exact (Array.getElem?_eq_some_iff.1 h1).1
theorem BMap.same {k : TypeId} {W W' : World} {b n : Nat} {f : Lit → Prop} (h : BMap k W b n f) (hb : W'.heap[b]? = W.heap[b]?) : BMap k W' b n f := by
  obtain ⟨D, ⟨es, clock, h1, h2, h3, h4⟩, hf⟩ := h
  exact ⟨D, ⟨es, clock, by rw [hb]; exact h1, h2, h3, h4⟩, hf⟩
theorem BMap.later {k : TypeId} {W W' : World} {b n : Nat} {f : Lit → Prop} (h : BMap k W b n f) (hb : Below W.heap.size W W') : BMap k W' b n f := h.same (hb.block b h.lt)
theorem BMap.alloc {k : TypeId} {W : World} {b n : Nat} {f : Lit → Prop} (h : BMap k W b n f) (o : Obj) : BMap k (W.alloc o) b n f := h.later ((Below.refl _ _).alloc (Nat.le_refl _) _)
theorem BMap.other {k : TypeId} {W W' : World} {b b' n : Nat} {f : Lit → Prop} (h : BMap k W b n f) (hg : W.grownBy W' (some b')) (hne : b ≠ b') : BMap k W' b n f :=
  h.same (hg.block b h.lt (fun e => hne (Option.some.inj e)))
theorem Blk.otherB {W W' : World} {b b' : Nat} {C : Array Value} {t : TypeId} (h : Blk W b C t) (hg : W.grownBy W' (some b')) (hne : b ≠ b') : Blk W' b C t :=
  (hg.block b h.lt (fun e => hne (Option.some.inj e))).trans h
theorem Below.grownB {B : Nat} {w W W' : World} {b : Nat} (h : Below B w W) (hg : W.grownBy W' (some b)) (hb : B ≤ b) (hB : B ≤ W.heap.size) : Below B w W' :=
  h.trans ⟨hg.os, hg.tape, hg.output, hg.size, fun k hk => hg.block k (Nat.lt_of_lt_of_le hk hB) (fun e => by have := Option.some.inj e; omega)⟩
theorem BMap.look {k t : TypeId} {W : World} {b n : Nat} {f : Lit → Prop} (h : BMap k W b n f) (K : Keyed Tryz.prog k) (ht : Tryz.prog.underlying t = some (.map k 4)) {key : Value} {kl : Lit} (hkey : keyOf Tryz.prog k key = some kl) :
    (f kl → (Instr.lookup t (.map (some b)) key false).run Tryz.prog W = .ok (.bool true) W) ∧ (¬ f kl → (Instr.lookup t (.map (some b)) key false).run Tryz.prog W = .ok (.bool false) W) := by
  obtain ⟨D, hown, hf⟩ := h
  obtain ⟨v, ps, hrun, hv⟩ := hown.lookup K ht (zeroB W) (plainElem_bool Tryz.underlying4 false) hkey
  obtain ⟨x, rfl, hz⟩ := plainElem_bool_inv Tryz.underlying4 hv
  have hx : D.atKey kl (.lit (.bool false)) = .lit (.bool x) := by injection hz
  have lb : ∀ {x y : Bool}, (DataW.lit (.bool x) : DataW Unit) = .lit (.bool y) → x = y := fun h => Lit.bool.inj (DataW.lit.inj h)
  exact ⟨fun h => by obtain rfl := lb (hx.symm.trans ((hf kl).1 h)); exact hrun, fun h => by obtain rfl := lb (hx.symm.trans ((hf kl).2 h)); exact hrun⟩
theorem BMap.put {k t : TypeId} {W : World} {b n : Nat} {f : Lit → Prop} (h : BMap k W b n f) (K : Keyed Tryz.prog k) (ht : Tryz.prog.underlying t = some (.map k 4)) (hn : n < 1000000) {key : Value} {kl : Lit} (hkey : keyOf Tryz.prog k key = some kl) (hl : WideAt.IsKeyLit kl) :
    ∃ w', (Instr.mapUpdate t (.map (some b)) key (.bool true)).run Tryz.prog W = .ok () w' ∧ BMap k w' b (n + 1) (fun x => x = kl ∨ f x) ∧ W.grownBy w' (some b) := by
  obtain ⟨D, hown, hf⟩ := h
  have hM := hown.isMap
  obtain ⟨w', hrun, r1, r2⟩ := hown.update K ht (by unfold maxLen; omega) hkey (plainElem_bool Tryz.underlying4 true)
  refine ⟨w', hrun, ⟨_, r1, fun x => ?_⟩, r2⟩
  by_cases e : x = kl
  · subst e
    exact ⟨fun _ => atKey_put_same hM hl _ _, fun h => absurd (.inl rfl) h⟩
  · rw [atKey_put_other e]
    exact ⟨fun h => (hf x).1 (h.resolve_left e), fun h => (hf x).2 (fun h' => h (.inr h'))⟩
theorem BMap.as {k : TypeId} {W : World} {b n : Nat} {f g : Lit → Prop} (h : BMap k W b n f) (e : ∀ x, f x ↔ g x) : BMap k W b n g := by
  obtain ⟨D, hown, hf⟩ := h
  exact ⟨D, hown, fun kl => ⟨fun h => (hf kl).1 ((e kl).2 h), fun h => (hf kl).2 (fun h' => h ((e kl).1 h'))⟩⟩
theorem BMap.mono {k : TypeId} {W : World} {b n n' : Nat} {f : Lit → Prop} (h : BMap k W b n f) (e : n ≤ n') : BMap k W b n' f := by
  obtain ⟨D, hown, hf⟩ := h
  exact ⟨D, hown.mono e, hf⟩
theorem keyI (n : Nat) (h : n < 1000) : keyOf Tryz.prog 3 (.int .i64 (n : Int)) = some (.int .i64 (n : Int)) :=
  keyOf_int_mk Tryz.underlying3 (by simp [Lit.wf, IntKind.min, IntKind.max, IntKind.signed, IntKind.bits]; omega)
theorem keyS (l : List UInt8) (h : l.length < 1000) : keyOf Tryz.prog 9 (.string (S l)) = some (.string l) := by
  have := Go.WideMaps.keyOf_string_mk (P := Tryz.prog) (k := 9) Tryz.underlying9 (s := S l) (by rw [S_size]; unfold maxLen; omega)
  rw [this]; rfl
/-- a map literal's store -/
theorem wpList_insert_b {P : Program} (w : World) {ops : Array Oper} {rest : List Oper} {o : Oper} {a : Act} {Q : Exit → Act → World → Prop}
    (hg : o.guard = none) (m x v : Operand) (t : TypeId) (hop : o.op = Op.insert t m x v) (w' : World)
    (hrun : (Instr.mapUpdate t (a.eval m) (a.eval x) (a.eval v)).run P w = .ok () w') (hK : wpList P ops Q rest (a.put o.dst undef) w') :
    wpList P ops Q (o :: rest) a w := by
  refine wpList_plain hg fun K' hK' => ?_
  unfold Oper.wp
  simp [execOp, hop, hrun, Result.andThen]
  exact hK' _ _ hK
end Go.Proofs.YtlcadichpcdgpaaGreatDoor
namespace Go.Proofs.YtlcadichpcdgpaaGreatDoor
open Go Go.RowKit Go.Shelf Go.Maps
attribute [local go_sem] Oper.semAt_some
theorem keyW (l : List UInt8) (h : l.length ≤ 1000000) : keyOf Tryz.prog 9 (.string (S l)) = some (.string l) := by
  have := Go.WideMaps.keyOf_string_mk (P := Tryz.prog) (k := 9) Tryz.underlying9 (s := S l) (by rw [S_size]; unfold maxLen; omega)
  rw [this]; rfl
theorem abOff_own {β : Type} {lo hi B n₀ B0 : Nat} {t e : TypeId} {size : Nat} (k : β → Nat) (f : β → List Value) (h1 : B0 < lo) (h2 : hi ≤ n₀) : AbOff lo hi B (fun (s : β) W => ∃ v, Boxed W B0 t v ∧ W.ownsRow n₀ e size v (k s) (f s)) := by
  rintro s W W' ⟨v, hv, hr⟩ hk
  refine ⟨v, hk.same _ _ hv (by omega) (.inl rfl), hr.1, ?_⟩
  rcases hr.2 with h0 | ⟨g, cap, cur, hgv, hg0, hgb, rest⟩
  · exact .inl h0
  · exact .inr ⟨g, cap, cur, hgv, hg0, hk.same _ _ hgb (by omega) (.inl rfl), rest⟩
theorem BMap.off {k : TypeId} {W W' : World} {lo hi B b n : Nat} {f : Lit → Prop} (h : BMap k W b n f) (hk : Off lo hi B W W') (h1 : ¬ (lo ≤ b ∧ b < hi)) (h2 : b < B) : BMap k W' b n f :=
  h.same (by rw [hk.same b _ (Array.getElem?_eq_getElem h.lt) h1 (.inr h2), Array.getElem?_eq_getElem h.lt])
theorem wpListIn_mapUpdate_b {F : Fence} {n : Nat} {P : Program} {ops : Array Oper} {rest : List Oper} {o : Oper} {a : Act} {w : World} {Q : Exit → Act → World → Prop} (hg : o.guard = none) (m x v : Operand) (t : TypeId) (hop : o.op = Op.mapUpdate t m x v) (w' : World)
    (hrun : (Instr.mapUpdate t (a.eval m) (a.eval x) (a.eval v)).run P w = .ok () w') (hK : wpListIn F n P ops Q rest (a.put o.dst undef) w') : wpListIn F n P ops Q (o :: rest) a w := by
  refine wpListIn_plain hg fun K hK' => ⟨fun f hf' => ?_, ?_⟩
  · unfold Oper.about at hf'
    rw [hop] at hf'
    cases hf'
  · rw [Oper.semAt_plain F _ _ (by rw [hop]; intro c hc'; cases hc')]
    unfold execOp
    simp only [hop, Sem.run_bind, hrun, Result.andThen_ok]
    exact hK' _ _ hK
theorem ownsRow_mono {W : World} {base base' : Nat} {e : TypeId} {size : Nat} {v : Value} {k : Nat} {xs : List Value} (h : W.ownsRow base e size v k xs) (hb : base' ≤ base) : W.ownsRow base' e size v k xs := by
  refine ⟨h.1, ?_⟩
  rcases h.2 with h0 | ⟨g, cap, cur, rfl, hbg, rest⟩
  · exact .inl h0
  · exact .inr ⟨g, cap, cur, rfl, Nat.le_trans hb hbg, rest⟩
theorem ownsRow_form {W : World} {base : Nat} {e : TypeId} {size : Nat} {v : Value} {k : Nat} {xs : List Value} (h : W.ownsRow base e size v k xs) : ∃ p cap, v = .slice p k cap := by
  rcases h.2 with ⟨rfl, h0⟩ | ⟨g, cap, cur, hv, _⟩
  · exact ⟨none, 0, by rw [h0]⟩
  · exact ⟨_, _, hv⟩
theorem ownsRow_ge {W : World} {base : Nat} {e : TypeId} {size : Nat} {v : Value} {k : Nat} {xs : List Value} (h : W.ownsRow base e size v k xs) : ∀ j, v.ownBlock = some j → base ≤ j := fun j hj => (World.ownsRow.lt h j hj).1
theorem Blk.grown {W W' : World} {b : Nat} {C : Array Value} {t : TypeId} {row : Option Nat} (h : Blk W b C t) (hg : W.grownBy W' row) (hne : ∀ k, row = some k → b ≠ k) : Blk W' b C t :=
  (hg.block b h.lt (fun e => hne b e.symm rfl)).trans h
theorem BMap.grown {k : TypeId} {W W' : World} {b n : Nat} {f : Lit → Prop} {row : Option Nat} (h : BMap k W b n f) (hg : W.grownBy W' row) (hne : ∀ j, row = some j → b ≠ j) : BMap k W' b n f :=
  h.same (hg.block b h.lt (fun e => hne b e.symm rfl))
def listN (r : Option (List (List UInt8))) : Int := match r with | some _ => 0 | none => 3
/-- a slice of texts and an error are returned -/
def RetLE1 (w : World) (r : Option (List (List UInt8))) (e : Ending) (w' : World) : Prop :=
  ∃ v, e = .returned (.tuple #[v, errV (listN r)]) ∧ StBuf w.heap.size w' v (r.getD []) ∧ Below w.heap.size w w'
theorem list_world (w : World) (s : List UInt8) : ∃ W0, ((((((((w.alloc (.cells #[.slice none 0 0] 22)).alloc (.cells #[.nilIface] 33)).alloc (.cells #[.slice none 0 0] 22)).alloc (.map #[] 0)).alloc (.cells #[.map (some (w.heap.size + 1 + 1 + 1))] 89)).alloc (.cells #[.string (S s)] 9)).alloc (.cells #[.string (S [44])] 9)).alloc (.cells #[.int .i64 0] 3)) = W0 ∧ W0.heap.size = w.heap.size + 8 ∧ Below w.heap.size w W0 ∧ Blk W0 (w.heap.size) #[.slice none 0 0] 22 ∧ Blk W0 (w.heap.size + 1) #[.nilIface] 33 ∧ Blk W0 (w.heap.size + 1 + 1) #[.slice none 0 0] 22 ∧ BMap 9 W0 (w.heap.size + 1 + 1 + 1) 0 (fun _ => False) ∧ Blk W0 (w.heap.size + 1 + 1 + 1 + 1) #[.map (some (w.heap.size + 1 + 1 + 1))] 89 ∧ Blk W0 (w.heap.size + 1 + 1 + 1 + 1 + 1) #[.string (S s)] 9 ∧ Blk W0 (w.heap.size + 1 + 1 + 1 + 1 + 1 + 1) #[.string (S [44])] 9 ∧ Blk W0 (w.heap.size + 1 + 1 + 1 + 1 + 1 + 1 + 1) #[.int .i64 0] 3 := by
  obtain ⟨w1, h1⟩ : ∃ w1, w.alloc (.cells #[.slice none 0 0] 22) = w1 := ⟨_, rfl⟩
  have z1 : w1.heap.size = w.heap.size + 1 := by rw [← h1, World.size_alloc]
  have b1 : Below w.heap.size w w1 := by rw [← h1]; exact (Below.refl _ w).alloc (by omega) _
  have f0_1 : Blk w1 (w.heap.size) #[.slice none 0 0] 22 := by have := Blk.new w #[.slice none 0 0] 22; rw [h1] at this; exact this
  obtain ⟨w2, h2⟩ : ∃ w2, w1.alloc (.cells #[.nilIface] 33) = w2 := ⟨_, rfl⟩
  have z2 : w2.heap.size = w.heap.size + 1 + 1 := by rw [← h2, World.size_alloc, z1]
  have b2 : Below w.heap.size w w2 := by rw [← h2]; exact (b1).alloc (by omega) _
  have f1_2 : Blk w2 (w.heap.size + 1) #[.nilIface] 33 := by have := Blk.new w1 #[.nilIface] 33; rw [h2, z1] at this; exact this
  have f0_2 := f0_1.alloc (.cells #[.nilIface] 33)
  rw [h2] at f0_2
  obtain ⟨w3, h3⟩ : ∃ w3, w2.alloc (.cells #[.slice none 0 0] 22) = w3 := ⟨_, rfl⟩
  have z3 : w3.heap.size = w.heap.size + 1 + 1 + 1 := by rw [← h3, World.size_alloc, z2]
  have b3 : Below w.heap.size w w3 := by rw [← h3]; exact (b2).alloc (by omega) _
  have f2_3 : Blk w3 (w.heap.size + 1 + 1) #[.slice none 0 0] 22 := by have := Blk.new w2 #[.slice none 0 0] 22; rw [h3, z2] at this; exact this
  have f0_3 := f0_2.alloc (.cells #[.slice none 0 0] 22)
  rw [h3] at f0_3
  have f1_3 := f1_2.alloc (.cells #[.slice none 0 0] 22)
  rw [h3] at f1_3
  obtain ⟨w4, h4⟩ : ∃ w4, w3.alloc (.map #[] 0) = w4 := ⟨_, rfl⟩
  have z4 : w4.heap.size = w.heap.size + 1 + 1 + 1 + 1 := by rw [← h4, World.size_alloc, z3]
  have b4 : Below w.heap.size w w4 := by rw [← h4]; exact (b3).alloc (by omega) _
  have f3_4 : BMap 9 w4 (w.heap.size + 1 + 1 + 1) 0 (fun _ => False) := by have := BMap.made 9 w3; rw [h4, z3] at this; exact this
  have f0_4 := f0_3.alloc (.map #[] 0)
  rw [h4] at f0_4
  have f1_4 := f1_3.alloc (.map #[] 0)
  rw [h4] at f1_4
  have f2_4 := f2_3.alloc (.map #[] 0)
  rw [h4] at f2_4
  obtain ⟨w5, h5⟩ : ∃ w5, w4.alloc (.cells #[.map (some (w.heap.size + 1 + 1 + 1))] 89) = w5 := ⟨_, rfl⟩
  have z5 : w5.heap.size = w.heap.size + 1 + 1 + 1 + 1 + 1 := by rw [← h5, World.size_alloc, z4]
  have b5 : Below w.heap.size w w5 := by rw [← h5]; exact (b4).alloc (by omega) _
  have f4_5 : Blk w5 (w.heap.size + 1 + 1 + 1 + 1) #[.map (some (w.heap.size + 1 + 1 + 1))] 89 := by have := Blk.new w4 #[.map (some (w.heap.size + 1 + 1 + 1))] 89; rw [h5, z4] at this; exact this
  have f0_5 := f0_4.alloc (.cells #[.map (some (w.heap.size + 1 + 1 + 1))] 89)
  rw [h5] at f0_5
  have f1_5 := f1_4.alloc (.cells #[.map (some (w.heap.size + 1 + 1 + 1))] 89)
  rw [h5] at f1_5
  have f2_5 := f2_4.alloc (.cells #[.map (some (w.heap.size + 1 + 1 + 1))] 89)
  rw [h5] at f2_5
  have f3_5 := f3_4.alloc (.cells #[.map (some (w.heap.size + 1 + 1 + 1))] 89)
  rw [h5] at f3_5
  obtain ⟨w6, h6⟩ : ∃ w6, w5.alloc (.cells #[.string (S s)] 9) = w6 := ⟨_, rfl⟩
  have z6 : w6.heap.size = w.heap.size + 1 + 1 + 1 + 1 + 1 + 1 := by rw [← h6, World.size_alloc, z5]
  have b6 : Below w.heap.size w w6 := by rw [← h6]; exact (b5).alloc (by omega) _
  have f5_6 : Blk w6 (w.heap.size + 1 + 1 + 1 + 1 + 1) #[.string (S s)] 9 := by have := Blk.new w5 #[.string (S s)] 9; rw [h6, z5] at this; exact this
  have f0_6 := f0_5.alloc (.cells #[.string (S s)] 9)
  rw [h6] at f0_6
  have f1_6 := f1_5.alloc (.cells #[.string (S s)] 9)
  rw [h6] at f1_6
  have f2_6 := f2_5.alloc (.cells #[.string (S s)] 9)
  rw [h6] at f2_6
  have f3_6 := f3_5.alloc (.cells #[.string (S s)] 9)
  rw [h6] at f3_6
  have f4_6 := f4_5.alloc (.cells #[.string (S s)] 9)
  rw [h6] at f4_6
  obtain ⟨w7, h7⟩ : ∃ w7, w6.alloc (.cells #[.string (S [44])] 9) = w7 := ⟨_, rfl⟩
  have z7 : w7.heap.size = w.heap.size + 1 + 1 + 1 + 1 + 1 + 1 + 1 := by rw [← h7, World.size_alloc, z6]
  have b7 : Below w.heap.size w w7 := by rw [← h7]; exact (b6).alloc (by omega) _
  have f6_7 : Blk w7 (w.heap.size + 1 + 1 + 1 + 1 + 1 + 1) #[.string (S [44])] 9 := by have := Blk.new w6 #[.string (S [44])] 9; rw [h7, z6] at this; exact this
  have f0_7 := f0_6.alloc (.cells #[.string (S [44])] 9)
  rw [h7] at f0_7
  have f1_7 := f1_6.alloc (.cells #[.string (S [44])] 9)
  rw [h7] at f1_7
  have f2_7 := f2_6.alloc (.cells #[.string (S [44])] 9)
  rw [h7] at f2_7
  have f3_7 := f3_6.alloc (.cells #[.string (S [44])] 9)
  rw [h7] at f3_7
  have f4_7 := f4_6.alloc (.cells #[.string (S [44])] 9)
  rw [h7] at f4_7
  have f5_7 := f5_6.alloc (.cells #[.string (S [44])] 9)
  rw [h7] at f5_7
  obtain ⟨w8, h8⟩ : ∃ w8, w7.alloc (.cells #[.int .i64 0] 3) = w8 := ⟨_, rfl⟩
  have z8 : w8.heap.size = w.heap.size + 1 + 1 + 1 + 1 + 1 + 1 + 1 + 1 := by rw [← h8, World.size_alloc, z7]
  have b8 : Below w.heap.size w w8 := by rw [← h8]; exact (b7).alloc (by omega) _
  have f7_8 : Blk w8 (w.heap.size + 1 + 1 + 1 + 1 + 1 + 1 + 1) #[.int .i64 0] 3 := by have := Blk.new w7 #[.int .i64 0] 3; rw [h8, z7] at this; exact this
  have f0_8 := f0_7.alloc (.cells #[.int .i64 0] 3)
  rw [h8] at f0_8
  have f1_8 := f1_7.alloc (.cells #[.int .i64 0] 3)
  rw [h8] at f1_8
  have f2_8 := f2_7.alloc (.cells #[.int .i64 0] 3)
  rw [h8] at f2_8
  have f3_8 := f3_7.alloc (.cells #[.int .i64 0] 3)
  rw [h8] at f3_8
  have f4_8 := f4_7.alloc (.cells #[.int .i64 0] 3)
  rw [h8] at f4_8
  have f5_8 := f5_7.alloc (.cells #[.int .i64 0] 3)
  rw [h8] at f5_8
  have f6_8 := f6_7.alloc (.cells #[.int .i64 0] 3)
  rw [h8] at f6_8
  exact ⟨w8, by rw [h1, h2, h3, h4, h5, h6, h7, h8], by omega, b8, f0_8, f1_8, f2_8, f3_8, f4_8, f5_8, f6_8, f7_8⟩
set_option maxRecDepth 100000 in
set_option maxHeartbeats 2000000 in
theorem list_in (s : List UInt8) (w : World) (hl : s.length ≤ 1000) (hm : MaxCell w) :
    CallsIn Fence.wide 6 Tryz.prog 59 #[.string (S s)] w (RetLE1 w (listR s)) := by
  obtain ⟨i0, hi, hz0, hz1, hz2⟩ := infoSt
  have hmm := @run_makeMap Tryz.prog
  refine callsIn_of_wp_marks Tryz.func59 rfl trivial ?_ rfl
  simp only [Tryz.ntmps59, List.size_toArray, List.length_cons, List.length_nil, Nat.reduceAdd, Nat.reduceSub, Array.replicate_succ, Array.replicate_zero, List.push_toArray, List.append_toArray, List.nil_append, List.cons_append]
  gi_wp2_with fail
  refine ⟨trivial, (callsIn_wide.2 (splitSeq_any 44 s _)).mono ?_⟩
  rintro e w' ⟨rfl, rfl⟩
  unfold seqV
  simp only [World.size_alloc]
  clear hmm
  obtain ⟨W0, hW0, hsz, hB0, b0, b1, bL, bM, bP, s0, s1, s2⟩ := list_world w s
  gi_wp2_with fail
  rw [hW0]
  clear hW0
  have hm0 := hm.later hB0
  have hg := hm.lt
  have hsplit := split1_sum 44 s.length s (Nat.le_refl _)
  refine wpIn_rangeFunc_cell rfl (by decide) (gf := 90) rfl trivial (enters_of Tryz.func90 (by kernel_rfl) rfl)
    (splitSeq_stops 5 (by decide) w.heap.size (w.heap.size + 5) 44 s (by omega) W0 s0 s1 s2 hm0 hg (by omega)) (by omega) (by omega) (fun _ => rfl)
    (fun pre W => ((∃ v, Boxed W (w.heap.size + 1 + 1) 22 v ∧ W.ownsRow (w.heap.size + 8) 9 1 v pre.length (strVs pre)) ∧ Blk W w.heap.size #[.slice none 0 0] 22 ∧ Blk W (w.heap.size + 1) #[.nilIface] 33 ∧ Blk W (w.heap.size + 1 + 1 + 1 + 1) #[.map (some (w.heap.size + 1 + 1 + 1))] 89 ∧ BMap 9 W (w.heap.size + 1 + 1 + 1) pre.length (fun x => ∃ y ∈ pre, x = .string y)) ∧ OkL pre ∧ w.heap.size + 8 ≤ W.heap.size ∧ Below w.heap.size w W)
    (fun c pre W => (c = .ret ∧ ¬ OkL pre ∧ Blk W w.heap.size #[.slice none 0 0] 22 ∧ Blk W (w.heap.size + 1) #[.iface 42 (.int .i64 3)] 33) ∧ Below w.heap.size w W)
    (by
      rintro pre W W' ⟨⟨h1, h2, h3, h4, h5⟩, h6, hz, h7⟩ hk
      exact ⟨⟨abOff_own (β := List (List UInt8)) (fun pre => pre.length) (fun pre => strVs pre) (by omega) (by omega) pre W W' h1 hk, h2.off hk (by omega), h3.off hk (by omega), h4.off hk (by omega), h5.off hk (by omega) (by omega)⟩, h6, Nat.le_trans hz hk.size, abOff_below (β := Unit) (by omega) (by omega) (Nat.le_refl _) () W W' h7 hk⟩)
    (by
      rintro c pre W W' ⟨⟨h1, h2, h3, h4⟩, h7⟩ hk
      exact ⟨⟨h1, h2, h3.off hk (by omega), h4.off hk (by omega)⟩, abOff_below (β := Unit) (by omega) (by omega) (Nat.le_refl _) () W W' h7 hk⟩)
    ⟨⟨⟨_, bL, World.ownsRow_nil _ _ _ _⟩, b0, b1, bP, bM.as (fun x => by simp)⟩, okL_nil, by omega, hB0⟩
    (fun x => { tmps := #[.string (S s), undef, .pointer (some ⟨w.heap.size, 0, none⟩), .pointer (some ⟨w.heap.size + 1, 0, none⟩), .pointer (some ⟨w.heap.size + 1 + 1, 0, none⟩), .pointer (some ⟨w.heap.size + 1 + 1 + 1 + 1, 0, none⟩), .string (S x), .map (some (w.heap.size + 1 + 1 + 1)), .string (S s), seqV (w.heap.size + 5), .string (S x), undef, undef, undef, undef, undef, undef, undef, undef, undef, undef, undef, undef, undef, undef, undef], defers := [] })
    ?assign ?body ?done ?stop
  case assign =>
    intro l x W K hK
    gi_wp2
    exact hK
  case body =>
    rintro l pre x W ⟨⟨⟨v, hv, hrow⟩, b0, b1, bP, bM⟩, hok, hz, hB⟩ hpx
    have hpl := hpx.length_le
    rw [List.length_append, List.length_singleton] at hpl
    have hxl : x.length ≤ 1000 := Nat.le_trans (hsplit.1 x (hpx.subset (by simp))) hl
    have hkx := keyW x (by omega)
    have c0 := b0.one
    have f0 := b0.frozen 0
    have c1 := b1.one
    have f1 := b1.frozen 0
    have cP := bP.one
    have cL := hv.cell
    by_cases hx : x = []
    · subst hx
      gi_wp2_with fail
      refine ⟨((KeepsOthers.setCell _ _ _).trans (KeepsOthers.setCell _ _ _)).from _, ⟨rfl, fun h => h.1 [] (by simp) rfl, ?_, ?_⟩, ?_⟩
      · exact (b0.set 0 _).other (by omega) _
      · exact (b1.other (by omega) _).set 0 _
      · exact (hB.setCell (p := ⟨w.heap.size, 0, none⟩) (Nat.le_refl _) _).setCell (p := ⟨w.heap.size + 1, 0, none⟩) (Nat.le_succ _) _
    · have hxe : x.isEmpty = false := by cases x with | nil => exact absurd rfl hx | cons _ _ => rfl
      by_cases hmem : x ∈ pre
      · have hlook := (bM.look keyedS Tryz.underlying89 hkx).1 ⟨x, hmem, rfl⟩
        gi_wp2_with fail
        refine ⟨((KeepsOthers.setCell _ _ _).trans (KeepsOthers.setCell _ _ _)).from _, ⟨rfl, fun h => ?_, ?_, ?_⟩, ?_⟩
        · exact ((okL_snoc hok).1 h).2 hmem
        · exact (b0.set 0 _).other (by omega) _
        · exact (b1.other (by omega) _).set 0 _
        · exact (hB.setCell (p := ⟨w.heap.size, 0, none⟩) (Nat.le_refl _) _).setCell (p := ⟨w.heap.size + 1, 0, none⟩) (Nat.le_succ _) _
      · have hlook := (bM.look keyedS Tryz.underlying89 hkx).2 (fun ⟨y, hy, e⟩ => hmem (by cases e; exact hy))
        obtain ⟨wm, hrun, bM', hgm⟩ := bM.put keyedS Tryz.underlying89 (by omega) hkx (by trivial)
        have hgmr : ∀ j, some (w.heap.size + 1 + 1 + 1) = some j → w.heap.size + 1 + 1 + 1 = j := fun j e => Option.some.inj e
        have hvm : Boxed wm (w.heap.size + 1 + 1) 22 v := hv.kept hgm (fun e => by have := Option.some.inj e; omega)
        have hrowm : wm.ownsRow (w.heap.size + 8) 9 1 v pre.length (strVs pre) := hrow.kept hgm (.inr (fun e => by have := ownsRow_ge hrow _ e; omega))
        have b0m := b0.grown hgm (fun k e => by have := hgmr k e; omega)
        have b1m := b1.grown hgm (fun k e => by have := hgmr k e; omega)
        have bPm := bP.grown hgm (fun k e => by have := hgmr k e; omega)
        have cLm := hvm.cell
        have hzm : w.heap.size + 8 ≤ wm.heap.size := Nat.le_trans hz hgm.size
        have K1 : KeptIn w.heap.size (w.heap.size + 5) (w.heap.size + 5 + 3) W wm := (KeptIn.refl _ _ _ _).grown hgm (by omega) (by omega) (fun k e => by have := hgmr k e; omega)
        have F1 : KeepsFrom W0.heap.size W wm := KeepsFrom.of_grownBy hgm (fun j e => by have := hgmr j e; omega)
        have B1 := hB.grown hgm hB.size (fun k e => by have := hgmr k e; omega)
        obtain ⟨HA1, HA2, HA3, HA4, HA5⟩ := appS_sides x wm wm.heap.size pre.length (w.heap.size + 8) rfl (by omega) hzm
        gi_wp2_with (first
          | (gi_at_mapUpdate; refine wpListIn_mapUpdate_b rfl _ _ _ _ rfl wm hrun ?_)
          | (gi_at_builtin; refine wpListIn_append_own _ rfl _ _ 22 rfl (w.heap.size + 8) 9 i0 (.string (S [])) 1 16 Tryz.underlying22 hi hz0 hz1 hz2 rfl (by decide) _ _ _ rfl (hrowm.alloc _) ⟨wm.heap.size, 0, none⟩ 1 1 [.string (S x)] rfl rfl HA1.out HA2.out HA3.out HA4.out HA5.out ?_; intro v' w1 hown' hgrow _; obtain ⟨g', cap', rfl⟩ := ownsRow_succ hown'; obtain ⟨hv1, hv2, hr2, hk2, hb2⟩ := hvm.appended (n₀ := w.heap.size) (by decide) (ownsRow_mono hrowm (by omega)) (by omega) (by omega) (ownsRow_mono hown' (by omega)) hgrow; have hc1 := hv1.cell; have hf1 := hv1.frozen))
        have hrg : ∀ k, v.ownBlock = some k → w.heap.size + 8 ≤ k := ownsRow_ge hrowm
        have K3 := (K1.trans (KeptIn.of_below ((Below.refl _ wm).alloc (Nat.le_refl _) (.cells #[.string (S x)] 9)) (by omega) (by omega))).grown hgrow (by simp; omega) (by simp; omega) (fun k e => by have := hrg k e; omega)
        refine ⟨F1.trans (hk2.from _), K3.trans (KeptIn.set _ _ (by omega) (.inl (by omega))), ⟨⟨_, hv2, ?_⟩, ?_, ?_, ?_, ?_⟩, (okL_snoc hok).2 ⟨hx, hmem⟩, Nat.le_trans hzm hb2.size, B1.trans hb2⟩
        · have h3 := hown'.kept (grownBy_setCell' w1 (w.heap.size + 1 + 1) (.slice (some ⟨g', 0, none⟩) (pre.length + 1) cap')) (.inr (hv1.not_row (by decide) hown').symm)
          rw [List.length_append, strVs_app]
          exact h3
        · exact ((b0m.alloc _).grown hgrow (fun k e => by have := hrg k e; omega)).other (by omega) _
        · exact ((b1m.alloc _).grown hgrow (fun k e => by have := hrg k e; omega)).other (by omega) _
        · exact ((bPm.alloc _).grown hgrow (fun k e => by have := hrg k e; omega)).other (by omega) _
        · rw [List.length_append]
          exact (((bM'.alloc _).grown hgrow (fun k e => by have := hrg k e; omega)).same (setCell_heap_other (by omega) _)).as (fun y => ⟨fun h => by
            rcases h with rfl | ⟨z, hz, rfl⟩
            · exact ⟨x, by simp, rfl⟩
            · exact ⟨z, List.mem_append_left _ hz, rfl⟩, fun ⟨z, hz, e⟩ => by
            rcases List.mem_append.1 hz with hz | hz
            · exact .inr ⟨z, hz, e⟩
            · rw [List.mem_singleton.1 hz] at e; exact .inl e⟩)
  case done =>
    rintro D xs W hD rfl ⟨⟨⟨v, hv, hrow⟩, b0, b1, bP, bM⟩, hok, hz, hB⟩ hK
    have c0 := b0.one
    have f0 := b0.frozen 0
    have c1 := b1.one
    have f1 := b1.frozen 0
    have cL := hv.cell
    obtain ⟨p, cap, rfl⟩ := ownsRow_form hrow
    gi_wp2
    have k1 : KeepsOthers W ((W.setCell ⟨w.heap.size, 0, none⟩ (.slice p (split1 44 s).length cap)).setCell ⟨w.heap.size + 1, 0, none⟩ .nilIface) := (KeepsOthers.setCell _ _ _).trans (KeepsOthers.setCell _ _ _)
    have g1 : Blk ((W.setCell ⟨w.heap.size, 0, none⟩ (.slice p (split1 44 s).length cap)).setCell ⟨w.heap.size + 1, 0, none⟩ .nilIface) w.heap.size #[.slice p (split1 44 s).length cap] 22 := (b0.set 0 _).other (by omega) _
    have g2 : Blk ((W.setCell ⟨w.heap.size, 0, none⟩ (.slice p (split1 44 s).length cap)).setCell ⟨w.heap.size + 1, 0, none⟩ .nilIface) (w.heap.size + 1) #[.nilIface] 33 := (b1.other (by omega) _).set 0 _
    have hb2 := (hB.setCell (p := ⟨w.heap.size, 0, none⟩) (Nat.le_refl _) (.slice p (split1 44 s).length cap)).setCell (p := ⟨w.heap.size + 1, 0, none⟩) (Nat.le_succ _) .nilIface
    have hr1 := hrow.kept (grownBy_setCell' W w.heap.size (.slice p (split1 44 s).length cap)) (.inr (fun e => by have := ownsRow_ge hrow _ e; omega))
    have hr2 := hr1.kept (grownBy_setCell' _ (w.heap.size + 1) .nilIface) (.inr (fun e => by have := ownsRow_ge hr1 _ e; omega))
    have hK' := k1.same D _ hK rfl
    refine ⟨by simp, .inl ⟨_, _, rfl, run_takeDeferred hK', ?_⟩⟩
    have q0 := (g1.put (.deferred none) (show w.heap.size ≠ D by omega)).one
    have q1 := (g2.put (.deferred none) (show w.heap.size + 1 ≠ D by omega)).one
    have hr3 := ownsRow_putObj hr2 (.deferred none) hK' rfl
    have hb3 := hb2.trans (belowK_b (w := w) (Nat.le_refl _) _ D _ (.deferred none) (by omega) hK' rfl rfl)
    refine ⟨.tuple #[.slice p (split1 44 s).length cap, .nilIface], ?_, .slice p (split1 44 s).length cap, ?_, ?_, hb3⟩
    · clear hr3 hb3 hr2 hr1 hb2 g1 g2 k1 hK' c0 c1 f0 f1 cL
      simp [results, Tryz.results59, go_sem, q0, q1]
    · unfold listR
      rw [if_pos hok]
      rfl
    · unfold listR
      rw [if_pos hok]
      exact ownsRow_mono hr3 (by omega)
  case stop =>
    rintro D c pre W hD hp ⟨⟨rfl, hno, b0, b1⟩, hB⟩ hK
    have hnot : listR s = none := by
      unfold listR
      rw [if_neg (fun h => hno (okL_prefix h hp))]
    gi_wp2
    refine ⟨by simp, .inl ⟨_, _, rfl, run_takeDeferred hK, ?_⟩⟩
    have q0 := (b0.put (.deferred none) (show w.heap.size ≠ D by omega)).one
    have q1 := (b1.put (.deferred none) (show w.heap.size + 1 ≠ D by omega)).one
    have hb3 := hB.trans (belowK_b (w := w) (Nat.le_refl _) _ D _ (.deferred none) (by omega) hK rfl rfl)
    refine ⟨.tuple #[.slice none 0 0, .iface 42 (.int .i64 3)], ?_, .slice none 0 0, ?_, ?_, hb3⟩
    · simp [results, Tryz.results59, go_sem, q0, q1]
    · rw [hnot]
      rfl
    · rw [hnot]
      exact World.ownsRow_nil _ _ _ _
theorem list_any (s : List UInt8) (w : World) (hl : s.length ≤ 1000) (hm : MaxCell w) : Calls Tryz.prog 59 #[.string (S s)] w (RetLE1 w (listR s)) :=
  (callsIn_wide (n := 6)).1 (list_in s w hl hm)
end Go.Proofs.YtlcadichpcdgpaaGreatDoor
