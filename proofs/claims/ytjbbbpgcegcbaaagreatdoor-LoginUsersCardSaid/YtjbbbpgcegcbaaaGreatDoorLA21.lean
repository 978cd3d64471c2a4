/- LA21: several texts in one. -/
import Derived.Laws.Tables
import Derived.LoopIn
import Derived.LoopNIn
import Derived.OwnWalkIn
import Derived.RangeFuncBound
import Derived.RangeFuncCalls
import Derived.RangeFuncLeaves
import Derived.RangeFuncNested
import Derived.Shelf.Abstract
import Derived.Shelf.RegionOpen
import Derived.TacticsInMore
import Derived.Test.YtjbbbpgcegcbaaaGreatDoorRows
import Derived.Test.YtjbbbpgcegcbaaaGreatDoorLA01
import Derived.Test.YtjbbbpgcegcbaaaGreatDoorLA04
import Derived.Test.YtjbbbpgcegcbaaaGreatDoorLA05
import Derived.Test.YtjbbbpgcegcbaaaGreatDoorLA08
import Derived.Test.YtjbbbpgcegcbaaaGreatDoorLA09
import Derived.Test.YtjbbbpgcegcbaaaGreatDoorLA15
namespace Go.Proofs.YtjbbbpgcegcbaaaGreatDoor
open Go.RowKit Go.Shelf
attribute [local go_sem] Oper.semAt_some
theorem wpListIn_buildAs {F : Fence} {n : Nat} {P : Program} {ops : Array Oper} {rest : List Oper} {o : Oper} {a : Act} {w : World} {Q : Exit → Act → World → Prop} (hg : o.guard = none) (t : TypeId) (parts : Array (Nat × Operand)) (ho : o.op = .build t parts)
  (d : Option Tmp) (hd : o.dst = d) (cells : Array Value) (hf : P.built t (parts.map fun (i, x) => (i, a.eval x)).toList = some cells)
  (h : wpListIn F n P ops Q rest (a.put d (.agg cells)) w) : wpListIn F n P ops Q (o :: rest) a w := by
 subst hd
 refine wpListIn_plain hg fun K hK => ⟨fun f hf' => ?_, ?_⟩
 ·unfold Oper.about at hf'
  rw [ho] at hf'
  cases hf'
 ·rw [Oper.semAt_plain F _ _ (by rw [ho]; intro c hc'; cases hc')]
  unfold execOp
  simp only [ho, Sem.run_bind, run_build w t _ cells hf, Result.andThen_ok]
  exact hK _ _ h
set_option maxRecDepth 100000 in
theorem ke_index0 (w : World) : (Instr.index 278 (.agg keRowsC) (.int .i64 ((0 : Nat) : Int))).run Tryz.prog w = .ok (keV (keAt 0)) w := by kernel_rfl
set_option maxRecDepth 100000 in
theorem ke_index1 (w : World) : (Instr.index 278 (.agg keRowsC) (.int .i64 ((1 : Nat) : Int))).run Tryz.prog w = .ok (keV (keAt 1)) w := by kernel_rfl
set_option maxRecDepth 100000 in
theorem ke_index2 (w : World) : (Instr.index 278 (.agg keRowsC) (.int .i64 ((2 : Nat) : Int))).run Tryz.prog w = .ok (keV (keAt 2)) w := by kernel_rfl
set_option maxRecDepth 100000 in
theorem ke_index3 (w : World) : (Instr.index 278 (.agg keRowsC) (.int .i64 ((3 : Nat) : Int))).run Tryz.prog w = .ok (keV (keAt 3)) w := by kernel_rfl
set_option maxRecDepth 100000 in
theorem ke_index4 (w : World) : (Instr.index 278 (.agg keRowsC) (.int .i64 ((4 : Nat) : Int))).run Tryz.prog w = .ok (keV (keAt 4)) w := by kernel_rfl
set_option maxRecDepth 100000 in
theorem ke_index5 (w : World) : (Instr.index 278 (.agg keRowsC) (.int .i64 ((5 : Nat) : Int))).run Tryz.prog w = .ok (keV (keAt 5)) w := by kernel_rfl
set_option maxRecDepth 100000 in
theorem ke_index6 (w : World) : (Instr.index 278 (.agg keRowsC) (.int .i64 ((6 : Nat) : Int))).run Tryz.prog w = .ok (keV (keAt 6)) w := by kernel_rfl
set_option maxRecDepth 100000 in
theorem ke_index7 (w : World) : (Instr.index 278 (.agg keRowsC) (.int .i64 ((7 : Nat) : Int))).run Tryz.prog w = .ok (keV (keAt 7)) w := by kernel_rfl
set_option maxRecDepth 100000 in
theorem ke_index8 (w : World) : (Instr.index 278 (.agg keRowsC) (.int .i64 ((8 : Nat) : Int))).run Tryz.prog w = .ok (keV (keAt 8)) w := by kernel_rfl
set_option maxRecDepth 100000 in
theorem ke_index9 (w : World) : (Instr.index 278 (.agg keRowsC) (.int .i64 ((9 : Nat) : Int))).run Tryz.prog w = .ok (keV (keAt 9)) w := by kernel_rfl
set_option maxRecDepth 100000 in
theorem ke_index10 (w : World) : (Instr.index 278 (.agg keRowsC) (.int .i64 ((10 : Nat) : Int))).run Tryz.prog w = .ok (keV (keAt 10)) w := by kernel_rfl
set_option maxRecDepth 100000 in
theorem ke_index11 (w : World) : (Instr.index 278 (.agg keRowsC) (.int .i64 ((11 : Nat) : Int))).run Tryz.prog w = .ok (keV (keAt 11)) w := by kernel_rfl
set_option maxRecDepth 100000 in
theorem ke_index12 (w : World) : (Instr.index 278 (.agg keRowsC) (.int .i64 ((12 : Nat) : Int))).run Tryz.prog w = .ok (keV (keAt 12)) w := by kernel_rfl
set_option maxRecDepth 100000 in
theorem ke_index13 (w : World) : (Instr.index 278 (.agg keRowsC) (.int .i64 ((13 : Nat) : Int))).run Tryz.prog w = .ok (keV (keAt 13)) w := by kernel_rfl
set_option maxRecDepth 100000 in
theorem ke_index14 (w : World) : (Instr.index 278 (.agg keRowsC) (.int .i64 ((14 : Nat) : Int))).run Tryz.prog w = .ok (keV (keAt 14)) w := by kernel_rfl
set_option maxRecDepth 100000 in
theorem ke_index15 (w : World) : (Instr.index 278 (.agg keRowsC) (.int .i64 ((15 : Nat) : Int))).run Tryz.prog w = .ok (keV (keAt 15)) w := by kernel_rfl
set_option maxRecDepth 100000 in
theorem ke_index16 (w : World) : (Instr.index 278 (.agg keRowsC) (.int .i64 ((16 : Nat) : Int))).run Tryz.prog w = .ok (keV (keAt 16)) w := by kernel_rfl
set_option maxRecDepth 100000 in
theorem ke_index17 (w : World) : (Instr.index 278 (.agg keRowsC) (.int .i64 ((17 : Nat) : Int))).run Tryz.prog w = .ok (keV (keAt 17)) w := by kernel_rfl
theorem ke_index (k : Nat) (hk : k < 18) (w : World) : (Instr.index 278 (.agg keRowsC) (.int .i64 (k : Int))).run Tryz.prog w = .ok (keV (keAt k)) w := by
 have h : k = 0 ∨ k = 1 ∨ k = 2 ∨ k = 3 ∨ k = 4 ∨ k = 5 ∨ k = 6 ∨ k = 7 ∨ k = 8 ∨ k = 9 ∨ k = 10 ∨ k = 11 ∨ k = 12 ∨ k = 13 ∨ k = 14 ∨ k = 15 ∨ k = 16 ∨ k = 17 := by omega
 rcases h with rfl | rfl | rfl | rfl | rfl | rfl | rfl | rfl | rfl | rfl | rfl | rfl | rfl | rfl | rfl | rfl | rfl | rfl
 ·exact ke_index0 w
 ·exact ke_index1 w
 ·exact ke_index2 w
 ·exact ke_index3 w
 ·exact ke_index4 w
 ·exact ke_index5 w
 ·exact ke_index6 w
 ·exact ke_index7 w
 ·exact ke_index8 w
 ·exact ke_index9 w
 ·exact ke_index10 w
 ·exact ke_index11 w
 ·exact ke_index12 w
 ·exact ke_index13 w
 ·exact ke_index14 w
 ·exact ke_index15 w
 ·exact ke_index16 w
 ·exact ke_index17 w
set_option maxRecDepth 100000 in
theorem krows1_in (F : Fence) (n : Nat) (hf : F.fn 148) (hro : F.round = none) (hn : 1 ≤ n) (l n₀ : Nat) (J Jx : List Ke → World → Prop)
  (hY : ∀ pre x W, J pre W → pre.length < 18 → YieldAt F (n - 1) Tryz.prog l #[keV x] W fun e W' =>
   (e = .returned (.bool true) ∧ J (pre ++ [x]) W' ∧ Below n₀ W W') ∨ (e = .returned (.bool false) ∧ Jx (pre ++ [x]) W'))
  (W : World) (hJ : AbidesFrom W.heap.size J) (h0 : J [] W) :
  CallsIn F n Tryz.prog 148 #[.func (.yield l) #[] #[]] W fun e W' => (∃ v, e = .returned v) ∧
   ((∃ ys, ys = keRows ∧ J ys W') ∨ (∃ pre, pre <+: keRows ∧ Jx pre W')) := by
 refine callsIn_of_wp Tryz.func148 rfl hf ?_ hro
 simp only [Tryz.ntmps148, List.size_toArray, List.length_cons, List.length_nil, Nat.reduceAdd, Nat.reduceSub, Array.replicate_succ, Array.replicate_zero, List.push_toArray, List.append_toArray, List.nil_append, List.cons_append]
 repeat (first | apply wpIn_block | (apply wpIn_seq_k; intro _ _) | apply wpIn_region_lit)
 refine wpListIn_buildAs rfl 202 _ rfl (some 4) rfl (keC ke0).toArray (by as_aux_lemma => kernel_rfl) ?_
 refine wpListIn_buildAs rfl 202 _ rfl (some 5) rfl (keC ke1).toArray (by as_aux_lemma => kernel_rfl) ?_
 refine wpListIn_buildAs rfl 202 _ rfl (some 6) rfl (keC ke2).toArray (by as_aux_lemma => kernel_rfl) ?_
 refine wpListIn_buildAs rfl 202 _ rfl (some 7) rfl (keC ke3).toArray (by as_aux_lemma => kernel_rfl) ?_
 refine wpListIn_buildAs rfl 202 _ rfl (some 8) rfl (keC ke4).toArray (by as_aux_lemma => kernel_rfl) ?_
 refine wpListIn_buildAs rfl 202 _ rfl (some 9) rfl (keC ke5).toArray (by as_aux_lemma => kernel_rfl) ?_
 refine wpListIn_buildAs rfl 202 _ rfl (some 10) rfl (keC ke6).toArray (by as_aux_lemma => kernel_rfl) ?_
 refine wpListIn_buildAs rfl 202 _ rfl (some 11) rfl (keC ke7).toArray (by as_aux_lemma => kernel_rfl) ?_
 refine wpListIn_buildAs rfl 202 _ rfl (some 12) rfl (keC ke8).toArray (by as_aux_lemma => kernel_rfl) ?_
 refine wpListIn_buildAs rfl 202 _ rfl (some 13) rfl (keC ke9).toArray (by as_aux_lemma => kernel_rfl) ?_
 refine wpListIn_buildAs rfl 202 _ rfl (some 14) rfl (keC ke10).toArray (by as_aux_lemma => kernel_rfl) ?_
 refine wpListIn_buildAs rfl 202 _ rfl (some 15) rfl (keC ke11).toArray (by as_aux_lemma => kernel_rfl) ?_
 refine wpListIn_buildAs rfl 202 _ rfl (some 16) rfl (keC ke12).toArray (by as_aux_lemma => kernel_rfl) ?_
 refine wpListIn_buildAs rfl 202 _ rfl (some 17) rfl (keC ke13).toArray (by as_aux_lemma => kernel_rfl) ?_
 refine wpListIn_buildAs rfl 202 _ rfl (some 18) rfl (keC ke14).toArray (by as_aux_lemma => kernel_rfl) ?_
 refine wpListIn_buildAs rfl 202 _ rfl (some 19) rfl (keC ke15).toArray (by as_aux_lemma => kernel_rfl) ?_
 refine wpListIn_buildAs rfl 202 _ rfl (some 20) rfl (keC ke16).toArray (by as_aux_lemma => kernel_rfl) ?_
 refine wpListIn_buildAs rfl 202 _ rfl (some 21) rfl (keC ke17).toArray (by as_aux_lemma => kernel_rfl) ?_
 refine wpListIn_buildAs rfl 278 _ rfl (some 22) rfl keRowsC (by as_aux_lemma => kernel_rfl) ?_
 gi_wp2
 have hidx := ke_index
 obtain ⟨RC, hRC⟩ : ∃ RC, Value.agg keRowsC = RC := ⟨_, rfl⟩
 rw [hRC] at hidx ⊢
 clear hRC
 gi_loopw [23] (fun p wr => ∃ k : Nat, k ≤ 18 ∧ p = .int .i64 k ∧ W.heap.size ≤ wr.heap.size ∧ J (keRows.take k) wr) (fun p _ => 18 - (intOf p).toNat)
 case atStart => exact ⟨0, by omega, rfl, Nat.le_refl _, h0⟩
 case round =>
  obtain ⟨k, hk, rfl, hsz, hJs⟩ := hrel
  by_cases hlt : k < 18
  ·obtain ⟨x, hx⟩ : ∃ x, keAt k = x := ⟨_, rfl⟩
   have hi := hidx k hlt
   rw [hx] at hi
   unfold keV keC at hi
   have hJ2 : J (keRows.take k) (wr.alloc (.cells #[.string (S x.nm), .int .i64 (x.kd : Int), .int .i64 (x.lo : Int), .int .i64 (x.hi : Int), .string (S x.df), .bool x.no, .bool x.lg] 202)) := hJ _ _ _ none hJs (World.grownBy_alloc _ _ none) (fun r e => by cases e)
   obtain ⟨fn, tmps, assign, body, hy, hR⟩ := hY (keRows.take k) x _ hJ2 (by rw [ke_take_len k hk]; exact hlt)
   unfold keV keC at hy
   clear hidx hY
   have htk := Lib.hid (show keRows.take k ++ [x] = keRows.take (k + 1) by rw [← hx]; exact ke_take k hlt)
   gi_wp2
   refine hR.mono ?_
   clear hR hy
   rintro e W3 (⟨rfl, hJ3, hk3⟩ | ⟨rfl, hJx3⟩)
   ·gi_wp2
    go_roundw
    case rel => exact ⟨k + 1, by omega, by go_num, by have := hk3.size; simp at this; omega, by have h3 := hJ3; rw [htk.out] at h3; exact h3⟩
    case measure => simp [intOf]; omega
   ·gi_wp2
    refine bodyPost_ret (results_none rfl _ _ _) rfl ?_
    exact ⟨⟨_, rfl⟩, .inr ⟨keRows.take (k + 1), List.take_prefix _ _, by rw [htk.out] at hJx3; exact hJx3⟩⟩
  ·have hk18 : k = 18 := by omega
   gi_wp2
   go_end0
   exact ⟨⟨_, rfl⟩, .inl ⟨keRows, rfl, by rw [hk18] at hJs; exact hJs⟩⟩
theorem krows_stops (F : Fence) (n : Nat) (hf : F.fn 148) (hro : F.round = none) (hn : 1 ≤ n) (n₀ : Nat) (w : World) :
  SeqStopsK F n Tryz.prog 148 #[] (fun x : Ke => #[keV x]) (Below n₀) (fun ys => ys = keRows) (fun pre => pre <+: keRows) 18 w := fun l J Jx W _ hJ _ hY h0 =>
 krows1_in F n hf hro hn l n₀ J Jx hY W hJ h0
attribute [local go_sem] Oper.semAt_some
def keZ : Array Value := #[.string (S []), .int .i64 0, .int .i64 0, .int .i64 0, .string (S []), .bool false, .bool false]
def ofV (s : List UInt8) : Value := match rowOf s with
 | some k => .tuple #[.agg (keC k).toArray, .nilIface]
 | none => .tuple #[.agg keZ, .iface 56 (.int .i64 5)]
theorem seven_stored {w W : World} {N b : Nat} {o0 o1 o2 o3 o4 o5 o6 oe : Value} {t te : TypeId} (x0 x1 x2 x3 x4 x5 x6 e : Value) (hR : Blk W b #[o0, o1, o2, o3, o4, o5, o6] t) (hE : Blk W (b + 1) #[oe] te) (hb : N ≤ b) (hB : Below N w W) :
  Blk ((((((((W.setCell ⟨b, 0, none⟩ x0).setCell ⟨b, 1, none⟩ x1).setCell ⟨b, 2, none⟩ x2).setCell ⟨b, 3, none⟩ x3).setCell ⟨b, 4, none⟩ x4).setCell ⟨b, 5, none⟩ x5).setCell ⟨b, 6, none⟩ x6).setCell ⟨b + 1, 0, none⟩ e) b #[x0, x1, x2, x3, x4, x5, x6] t ∧
  Blk ((((((((W.setCell ⟨b, 0, none⟩ x0).setCell ⟨b, 1, none⟩ x1).setCell ⟨b, 2, none⟩ x2).setCell ⟨b, 3, none⟩ x3).setCell ⟨b, 4, none⟩ x4).setCell ⟨b, 5, none⟩ x5).setCell ⟨b, 6, none⟩ x6).setCell ⟨b + 1, 0, none⟩ e) (b + 1) #[e] te ∧
  Below N w ((((((((W.setCell ⟨b, 0, none⟩ x0).setCell ⟨b, 1, none⟩ x1).setCell ⟨b, 2, none⟩ x2).setCell ⟨b, 3, none⟩ x3).setCell ⟨b, 4, none⟩ x4).setCell ⟨b, 5, none⟩ x5).setCell ⟨b, 6, none⟩ x6).setCell ⟨b + 1, 0, none⟩ e) ∧
  KeepsOthers W ((((((((W.setCell ⟨b, 0, none⟩ x0).setCell ⟨b, 1, none⟩ x1).setCell ⟨b, 2, none⟩ x2).setCell ⟨b, 3, none⟩ x3).setCell ⟨b, 4, none⟩ x4).setCell ⟨b, 5, none⟩ x5).setCell ⟨b, 6, none⟩ x6).setCell ⟨b + 1, 0, none⟩ e) := by
 have r0 : Blk (W.setCell ⟨b, 0, none⟩ x0) b #[x0, o1, o2, o3, o4, o5, o6] t := hR.set 0 x0
 have r1 : Blk ((W.setCell ⟨b, 0, none⟩ x0).setCell ⟨b, 1, none⟩ x1) b #[x0, x1, o2, o3, o4, o5, o6] t := r0.set 1 x1
 have r2 : Blk (((W.setCell ⟨b, 0, none⟩ x0).setCell ⟨b, 1, none⟩ x1).setCell ⟨b, 2, none⟩ x2) b #[x0, x1, x2, o3, o4, o5, o6] t := r1.set 2 x2
 have r3 : Blk ((((W.setCell ⟨b, 0, none⟩ x0).setCell ⟨b, 1, none⟩ x1).setCell ⟨b, 2, none⟩ x2).setCell ⟨b, 3, none⟩ x3) b #[x0, x1, x2, x3, o4, o5, o6] t := r2.set 3 x3
 have r4 : Blk (((((W.setCell ⟨b, 0, none⟩ x0).setCell ⟨b, 1, none⟩ x1).setCell ⟨b, 2, none⟩ x2).setCell ⟨b, 3, none⟩ x3).setCell ⟨b, 4, none⟩ x4) b #[x0, x1, x2, x3, x4, o5, o6] t := r3.set 4 x4
 have r5 : Blk ((((((W.setCell ⟨b, 0, none⟩ x0).setCell ⟨b, 1, none⟩ x1).setCell ⟨b, 2, none⟩ x2).setCell ⟨b, 3, none⟩ x3).setCell ⟨b, 4, none⟩ x4).setCell ⟨b, 5, none⟩ x5) b #[x0, x1, x2, x3, x4, x5, o6] t := r4.set 5 x5
 have r6 : Blk (((((((W.setCell ⟨b, 0, none⟩ x0).setCell ⟨b, 1, none⟩ x1).setCell ⟨b, 2, none⟩ x2).setCell ⟨b, 3, none⟩ x3).setCell ⟨b, 4, none⟩ x4).setCell ⟨b, 5, none⟩ x5).setCell ⟨b, 6, none⟩ x6) b #[x0, x1, x2, x3, x4, x5, x6] t := r5.set 6 x6
 have s0 : Blk (W.setCell ⟨b, 0, none⟩ x0) (b + 1) #[oe] te := Blk.other hE (Nat.succ_ne_self b) x0
 have s1 : Blk ((W.setCell ⟨b, 0, none⟩ x0).setCell ⟨b, 1, none⟩ x1) (b + 1) #[oe] te := Blk.other s0 (Nat.succ_ne_self b) x1
 have s2 : Blk (((W.setCell ⟨b, 0, none⟩ x0).setCell ⟨b, 1, none⟩ x1).setCell ⟨b, 2, none⟩ x2) (b + 1) #[oe] te := Blk.other s1 (Nat.succ_ne_self b) x2
 have s3 : Blk ((((W.setCell ⟨b, 0, none⟩ x0).setCell ⟨b, 1, none⟩ x1).setCell ⟨b, 2, none⟩ x2).setCell ⟨b, 3, none⟩ x3) (b + 1) #[oe] te := Blk.other s2 (Nat.succ_ne_self b) x3
 have s4 : Blk (((((W.setCell ⟨b, 0, none⟩ x0).setCell ⟨b, 1, none⟩ x1).setCell ⟨b, 2, none⟩ x2).setCell ⟨b, 3, none⟩ x3).setCell ⟨b, 4, none⟩ x4) (b + 1) #[oe] te := Blk.other s3 (Nat.succ_ne_self b) x4
 have s5 : Blk ((((((W.setCell ⟨b, 0, none⟩ x0).setCell ⟨b, 1, none⟩ x1).setCell ⟨b, 2, none⟩ x2).setCell ⟨b, 3, none⟩ x3).setCell ⟨b, 4, none⟩ x4).setCell ⟨b, 5, none⟩ x5) (b + 1) #[oe] te := Blk.other s4 (Nat.succ_ne_self b) x5
 have s6 : Blk (((((((W.setCell ⟨b, 0, none⟩ x0).setCell ⟨b, 1, none⟩ x1).setCell ⟨b, 2, none⟩ x2).setCell ⟨b, 3, none⟩ x3).setCell ⟨b, 4, none⟩ x4).setCell ⟨b, 5, none⟩ x5).setCell ⟨b, 6, none⟩ x6) (b + 1) #[oe] te := Blk.other s5 (Nat.succ_ne_self b) x6
 have t0 : Below N w (W.setCell ⟨b, 0, none⟩ x0) := Below.setCell hB (p := ⟨b, 0, none⟩) hb x0
 have t1 : Below N w ((W.setCell ⟨b, 0, none⟩ x0).setCell ⟨b, 1, none⟩ x1) := Below.setCell t0 (p := ⟨b, 1, none⟩) hb x1
 have t2 : Below N w (((W.setCell ⟨b, 0, none⟩ x0).setCell ⟨b, 1, none⟩ x1).setCell ⟨b, 2, none⟩ x2) := Below.setCell t1 (p := ⟨b, 2, none⟩) hb x2
 have t3 : Below N w ((((W.setCell ⟨b, 0, none⟩ x0).setCell ⟨b, 1, none⟩ x1).setCell ⟨b, 2, none⟩ x2).setCell ⟨b, 3, none⟩ x3) := Below.setCell t2 (p := ⟨b, 3, none⟩) hb x3
 have t4 : Below N w (((((W.setCell ⟨b, 0, none⟩ x0).setCell ⟨b, 1, none⟩ x1).setCell ⟨b, 2, none⟩ x2).setCell ⟨b, 3, none⟩ x3).setCell ⟨b, 4, none⟩ x4) := Below.setCell t3 (p := ⟨b, 4, none⟩) hb x4
 have t5 : Below N w ((((((W.setCell ⟨b, 0, none⟩ x0).setCell ⟨b, 1, none⟩ x1).setCell ⟨b, 2, none⟩ x2).setCell ⟨b, 3, none⟩ x3).setCell ⟨b, 4, none⟩ x4).setCell ⟨b, 5, none⟩ x5) := Below.setCell t4 (p := ⟨b, 5, none⟩) hb x5
 have t6 : Below N w (((((((W.setCell ⟨b, 0, none⟩ x0).setCell ⟨b, 1, none⟩ x1).setCell ⟨b, 2, none⟩ x2).setCell ⟨b, 3, none⟩ x3).setCell ⟨b, 4, none⟩ x4).setCell ⟨b, 5, none⟩ x5).setCell ⟨b, 6, none⟩ x6) := Below.setCell t5 (p := ⟨b, 6, none⟩) hb x6
 have u0 : KeepsOthers W (W.setCell ⟨b, 0, none⟩ x0) := KeepsOthers.setCell _ _ _
 have u1 : KeepsOthers W ((W.setCell ⟨b, 0, none⟩ x0).setCell ⟨b, 1, none⟩ x1) := u0.trans (KeepsOthers.setCell _ _ _)
 have u2 : KeepsOthers W (((W.setCell ⟨b, 0, none⟩ x0).setCell ⟨b, 1, none⟩ x1).setCell ⟨b, 2, none⟩ x2) := u1.trans (KeepsOthers.setCell _ _ _)
 have u3 : KeepsOthers W ((((W.setCell ⟨b, 0, none⟩ x0).setCell ⟨b, 1, none⟩ x1).setCell ⟨b, 2, none⟩ x2).setCell ⟨b, 3, none⟩ x3) := u2.trans (KeepsOthers.setCell _ _ _)
 have u4 : KeepsOthers W (((((W.setCell ⟨b, 0, none⟩ x0).setCell ⟨b, 1, none⟩ x1).setCell ⟨b, 2, none⟩ x2).setCell ⟨b, 3, none⟩ x3).setCell ⟨b, 4, none⟩ x4) := u3.trans (KeepsOthers.setCell _ _ _)
 have u5 : KeepsOthers W ((((((W.setCell ⟨b, 0, none⟩ x0).setCell ⟨b, 1, none⟩ x1).setCell ⟨b, 2, none⟩ x2).setCell ⟨b, 3, none⟩ x3).setCell ⟨b, 4, none⟩ x4).setCell ⟨b, 5, none⟩ x5) := u4.trans (KeepsOthers.setCell _ _ _)
 have u6 : KeepsOthers W (((((((W.setCell ⟨b, 0, none⟩ x0).setCell ⟨b, 1, none⟩ x1).setCell ⟨b, 2, none⟩ x2).setCell ⟨b, 3, none⟩ x3).setCell ⟨b, 4, none⟩ x4).setCell ⟨b, 5, none⟩ x5).setCell ⟨b, 6, none⟩ x6) := u5.trans (KeepsOthers.setCell _ _ _)
 exact ⟨r6.other (Nat.ne_of_lt (Nat.lt_succ_self b)) e, s6.set 0 e, Below.setCell t6 (p := ⟨b + 1, 0, none⟩) (Nat.le_succ_of_le hb) e, u6.trans (KeepsOthers.setCell _ _ _)⟩
set_option maxRecDepth 100000 in
set_option maxHeartbeats 1000000 in
theorem of_in (F : Fence) (n : Nat) (hf : F.fn 113) (hr : F.fn 148) (hro : F.round = none) (hn : 6 ≤ n) (s : List UInt8) (w : World) :
  CallsIn F n Tryz.prog 113 #[.string (S s)] w fun e W' => e = .returned (ofV s) ∧ Below w.heap.size w W' := by
 have h1 : 1 ≤ n := by omega
 refine callsIn_of_wp_marks Tryz.func113 rfl hf ?_ hro
 simp only [Tryz.ntmps113, List.size_toArray, List.length_cons, List.length_nil, Nat.reduceAdd, Nat.reduceSub, Array.replicate_succ, Array.replicate_zero, List.push_toArray, List.append_toArray, List.nil_append, List.cons_append]
 gi_wp2
 obtain ⟨wa, hwa⟩ : ∃ wa, w.alloc (.cells #[.string (S s)] 9) = wa := ⟨_, rfl⟩
 obtain ⟨wb, hwb⟩ : ∃ wb, wa.alloc (.cells keZ 202) = wb := ⟨_, rfl⟩
 have za : wa.heap.size = w.heap.size + 1 := by rw [← hwa]; simp
 have zb : wb.heap.size = w.heap.size + 2 := by rw [← hwb]; simp [za]
 have bO : Blk ((wb.alloc (.cells #[.nilIface] 43))) w.heap.size #[.string (S s)] 9 := by rw [← hwb, ← hwa]; exact ((Blk.new w #[.string (S s)] 9).alloc _).alloc _
 have bR : Blk ((wb.alloc (.cells #[.nilIface] 43))) (w.heap.size + 1) keZ 202 := by rw [← hwb, ← za]; exact (Blk.new wa keZ 202).alloc _
 have bE : Blk ((wb.alloc (.cells #[.nilIface] 43))) (w.heap.size + 1 + 1) #[.nilIface] 43 := by
  have := Blk.new wb #[.nilIface] 43
  rwa [zb] at this
 have hB0 : Below w.heap.size w (wb.alloc (.cells #[.nilIface] 43)) := by
  rw [← hwb, ← hwa]
  exact (((Below.refl _ w).alloc (Nat.le_refl _) _).alloc (by simp) _).alloc (by simp; omega) _
 have hsz : (wb.alloc (.cells #[.nilIface] 43)).heap.size = w.heap.size + 3 := by simp [zb]
 obtain ⟨W0, hW0⟩ : ∃ W0, ((w.alloc (.cells #[.string (S s)] 9)).alloc (.cells keZ 202)).alloc (.cells #[.nilIface] 43) = W0 := ⟨_, rfl⟩
 rw [hwa, hwb] at hW0
 rw [hW0] at bO bR bE hB0 hsz
 subst hwa
 subst hwb
 unfold keZ at hW0 bR
 rw [hW0]
 clear hW0
 refine wpIn_rangeFunc_ownH hro h1 (gf := 148) (lb := #[]) rfl hr (enters_of Tryz.func148 (by kernel_rfl) rfl)
  (krows_stops F (n - 1) hr hro (by omega) w.heap.size W0) belowK_t (belowK_b (by omega)) (Below.refl _ _) (fun _ => rfl)
  (fun pre W => ((Blk W w.heap.size #[.string (S s)] 9 ∧ Blk W (w.heap.size + 1) #[.string (S []), .int .i64 0, .int .i64 0, .int .i64 0, .string (S []), .bool false, .bool false] 202 ∧ Blk W (w.heap.size + 1 + 1) #[.nilIface] 43) ∧ (∀ k ∈ pre, k.nm ≠ s)) ∧ Below w.heap.size w W)
  (fun c pre W => (c = .ret ∧ ∃ q k, pre = q ++ [k] ∧ (∀ k ∈ q, k.nm ≠ s) ∧ k.nm = s ∧ Blk W (w.heap.size + 1) (keC k).toArray 202 ∧ Blk W (w.heap.size + 1 + 1) #[.nilIface] 43) ∧ Below w.heap.size w W)
  (OwnFrom.and (OwnFrom.and (OwnFrom.and (Own.from (Blk.own _ _ _) _) (OwnFrom.and (Own.from (Blk.own _ _ _) _) (Own.from (Blk.own _ _ _) _))) (Own.from (own_const _) _)) (ownFrom_below (Nat.le_refl _) (by omega)))
  (fun c => OwnFrom.and (Own.from (fun s X Y row hs hg hr => by
   obtain ⟨hc, q, k, h1, h2, h3, h4, h5⟩ := hs
   exact ⟨hc, q, k, h1, h2, h3, Blk.own _ (fun _ : Unit => _) _ () X Y row h4 hg hr, Blk.own _ (fun _ : Unit => _) _ () X Y row h5 hg hr⟩) _) (ownFrom_below (Nat.le_refl _) (by omega)))
  ⟨⟨⟨bO, bR, bE⟩, fun k hk => by cases hk⟩, hB0⟩
  (fun x a' W => ∃ Bx, w.heap.size + 2 < Bx ∧ Blk W Bx (keC x).toArray 202 ∧ a' = { tmps := #[.string (S s), .pointer (some ⟨w.heap.size, 0, none⟩), .pointer (some ⟨w.heap.size + 1, 0, none⟩), .pointer (some ⟨w.heap.size + 1 + 1, 0, none⟩), .pointer (some ⟨Bx, 0, none⟩), keV x, undef, undef, undef, undef, undef, undef, undef], defers := [] })
  (fun x a' _ X Y row hs hg hr => by obtain ⟨Bx, h1, h2, h3⟩ := hs; exact ⟨Bx, h1, Blk.own Bx (fun _ : Unit => _) _ () X Y row h2 hg (fun r e => (hr r e).2), h3⟩)
  ?assign ?body ?done ?stop
 case assign =>
  rintro l pre x W K ⟨⟨⟨bO1, bR1, bE1⟩, hpre⟩, hB1⟩ hK
  unfold keV keC at *
  gi_wp2
  exact hK _ _ ((KeepsOthers.alloc _ _).from _) ((Below.refl _ W).alloc hB1.size _) ⟨⟨⟨bO1.alloc _, bR1.alloc _, bE1.alloc _⟩, hpre⟩, hB1.alloc hB1.size _⟩ ⟨W.heap.size, bE1.lt, Blk.new W _ _, rfl⟩
 case body =>
  rintro l pre x a' W hl ⟨r, hr⟩ ⟨⟨⟨bO1, bR1, bE1⟩, hpre⟩, hB1⟩ ⟨Bx, hBx, bX, rfl⟩ hlt
  obtain ⟨c0, c1, c2, c3, c4, c5, c6⟩ := bR1.seven
  have f0 := bR1.frozen 0
  have f1 := bR1.frozen 1
  have f2 := bR1.frozen 2
  have f3 := bR1.frozen 3
  have f4 := bR1.frozen 4
  have f5 := bR1.frozen 5
  have f6 := bR1.frozen 6
  have ce := bE1.one
  have fe := bE1.frozen 0
  have co := bO1.one
  unfold keC at bX
  obtain ⟨x0, x1, x2, x3, x4, x5, x6⟩ := bX.seven
  by_cases hx : x.nm = s
  ·have hx' : (x.nm == s) = true := by simpa using hx
   have Hx := Lib.hid hx
   clear hx
   gi_wp2
   obtain ⟨g1, g2, g3, g4⟩ := seven_stored (.string (S x.nm)) (.int .i64 (x.kd : Int)) (.int .i64 (x.lo : Int)) (.int .i64 (x.hi : Int)) (.string (S x.df)) (.bool x.no) (.bool x.lg) .nilIface bR1 bE1 (Nat.le_succ _) hB1
   exact ⟨g4.from _, ⟨rfl, pre, x, rfl, hpre, Hx.out, g1, g2⟩, g3⟩
  ·have hx' : (x.nm == s) = false := by simpa using hx
   gi_wp2
   exact ⟨KeepsFrom.refl _ _, Below.refl _ _, ⟨⟨bO1, bR1, bE1⟩, fun k hk => by
    rcases List.mem_append.1 hk with h | h
    ·exact hpre k h
    ·rw [List.mem_singleton.1 h]; exact hx⟩, hB1⟩
 case done =>
  rintro D xs W hD rfl ⟨⟨⟨bO1, bR1, bE1⟩, hpre⟩, hB1⟩ hK
  obtain ⟨c0, c1, c2, c3, c4, c5, c6⟩ := bR1.seven
  have f0 := bR1.frozen 0
  have f1 := bR1.frozen 1
  have f2 := bR1.frozen 2
  have f3 := bR1.frozen 3
  have f4 := bR1.frozen 4
  have f5 := bR1.frozen 5
  have f6 := bR1.frozen 6
  have ce := bE1.one
  have fe := bE1.frozen 0
  gi_wp2
  obtain ⟨g1, g2, g3, g4⟩ := seven_stored (.string (S [])) (.int .i64 0) (.int .i64 0) (.int .i64 0) (.string (S [])) (.bool false) (.bool false) (.iface 56 (.int .i64 5)) bR1 bE1 (Nat.le_succ _) hB1
  have hK' := g4.same D _ hK rfl
  refine ⟨by simp, .inl ⟨_, _, rfl, run_takeDeferred hK', ?_⟩⟩
  have e1 : w.heap.size + 1 ≠ D := by omega
  have e2 : w.heap.size + 1 + 1 ≠ D := by omega
  have hB2 := g3.trans (belowK_b (w := w) (Nat.le_refl _) _ D _ (.deferred none) (by omega) hK' rfl rfl)
  have g1' := g1.put (.deferred none) e1
  have g2' := g2.put (.deferred none) e2
  obtain ⟨q0, q1, q2, q3, q4, q5, q6⟩ := g1'.seven
  have qe := g2'.one
  refine ⟨ofV s, ?_, rfl, hB2⟩
  unfold ofV
  rw [rowOf_none hpre]
  clear g1 g2 g3 g4 hK' g1' g2' hB2 c0 c1 c2 c3 c4 c5 c6 f0 f1 f2 f3 f4 f5 f6 ce fe
  simp [results, Tryz.results113, go_sem, q0, q1, q2, q3, q4, q5, q6, qe, keZ]
 case stop =>
  rintro D c pre W hD hp ⟨⟨rfl, q, k, rfl, hq, hk, bR1, bE1⟩, hB1⟩ hK
  gi_wp2
  refine ⟨by simp, .inl ⟨_, _, rfl, run_takeDeferred hK, ?_⟩⟩
  have e1 : w.heap.size + 1 ≠ D := by omega
  have e2 : w.heap.size + 1 + 1 ≠ D := by omega
  have hB2 := hB1.trans (belowK_b (w := w) (Nat.le_refl _) _ D _ (.deferred none) (by omega) hK rfl rfl)
  unfold keC at bR1
  have g1' := bR1.put (.deferred none) e1
  have g2' := bE1.put (.deferred none) e2
  obtain ⟨q0, q1, q2, q3, q4, q5, q6⟩ := g1'.seven
  have qe := g2'.one
  refine ⟨ofV s, ?_, rfl, hB2⟩
  unfold ofV
  rw [rowOf_prefix hp hq hk]
  clear g1' g2' hB2 hq hp hk
  simp [results, Tryz.results113, go_sem, q0, q1, q2, q3, q4, q5, q6, qe, keC]
theorem of_any (s : List UInt8) (w : World) : Calls Tryz.prog 113 #[.string (S s)] w fun e W' => e = .returned (ofV s) ∧ Below w.heap.size w W' :=
 (callsIn_wide (n := 6)).1 (of_in _ 6 trivial trivial rfl (Nat.le_refl _) s w)
theorem of_none {s : List UInt8} (w : World) (h : rowOf s = none) : Calls Tryz.prog 113 #[.string (S s)] w fun e W' => e = .returned (.tuple #[.agg keZ, .iface 56 (.int .i64 5)]) ∧ Below w.heap.size w W' := by
 have C := of_any s w
 unfold ofV at C
 rw [h] at C
 exact C
theorem of_some {s : List UInt8} {k : Ke} (w : World) (h : rowOf s = some k) : Calls Tryz.prog 113 #[.string (S s)] w fun e W' => e = .returned (.tuple #[.agg (keC k).toArray, .nilIface]) ∧ Below w.heap.size w W' := by
 have C := of_any s w
 unfold ofV at C
 rw [h] at C
 exact C
end Go.Proofs.YtjbbbpgcegcbaaaGreatDoor
namespace Go.Proofs.YtjbbbpgcegcbaaaGreatDoor
open Go.RowKit
theorem of_row {s nm df : List UInt8} {kd lo hi : Nat} {no lg : Bool} (w : World) (h : rowOf s = some ⟨nm, kd, lo, hi, df, no, lg⟩) : Calls Tryz.prog 113 #[.string (S s)] w fun e W' => e = .returned (.tuple #[.agg #[.string (S nm), .int .i64 (kd : Int), .int .i64 (lo : Int), .int .i64 (hi : Int), .string (S df), .bool no, .bool lg], .nilIface]) ∧ Below w.heap.size w W' := of_some w h
theorem of_no {s : List UInt8} (w : World) (h : rowOf s = none) : Calls Tryz.prog 113 #[.string (S s)] w fun e W' => e = .returned (.tuple #[.agg #[.string (S []), .int .i64 0, .int .i64 0, .int .i64 0, .string (S []), .bool false, .bool false], .iface 56 (.int .i64 5)]) ∧ Below w.heap.size w W' := of_none w h
theorem numE_fit (k : Ke) (v : List UInt8) (hk : k.kd = 3 ∨ k.kd = 4 ∨ k.kd = 7) : (numE v (k.lo : Int) (k.hi : Int)).2 = ((fitK k v : Nat) : Int) := by
 rw [fitK_num hk]
 cases hn : numR v with
 | none => rw [numE_none hn]; rfl
 | some n =>
  simp only
  by_cases h : n < k.lo ∨ k.hi < n
  ·rw [numE_off hn (by omega), if_pos h]; rfl
  ·rw [numE_in hn (by omega) (by omega), if_neg h]; rfl
def RetErrN (w : World) (n : Nat) (e : Ending) (w' : World) : Prop := e = .returned (errV (n : Int)) ∧ Below w.heap.size w w'
set_option maxRecDepth 100000 in
set_option maxHeartbeats 1000000 in
theorem fits_any (nm v : List UInt8) (w : World) (hv : v.length ≤ 1000) (hE : Env w) :
  Calls Tryz.prog 79 #[.string (S nm), .string (S v)] w (RetErrN w (keyFits nm v)) := by
 cases hr : rowOf nm with
 | none =>
  have C := Lib.hid (of_no w hr)
  have R := Lib.hid (show keyFits nm v = 5 by unfold keyFits; rw [hr])
  clear hr hE
  go_enter Tryz.func79, Tryz.ntmps79
  go_wp2_with fail
  refine C.out.mono ?_
  rintro e w1 ⟨rfl, hb1⟩
  have Hb1 := Lib.hid (hb1.alloc hb1.size (.cells #[.string (S []), .int .i64 0, .int .i64 0, .int .i64 0, .string (S []), .bool false, .bool false] 202))
  clear hb1
  go_wp2_with fail
  go_ret
  rw [R.out]
  exact ⟨rfl, Hb1.out⟩
 | some k =>
  have hkk := rowOf_ok hr
  have hR := show keyFits nm v = fitK k v by unfold keyFits; rw [hr]
  rw [hR]
  clear hR
  obtain ⟨kn, kd, lo, hi, df, no, lg⟩ := k
  have C0 := of_row w hr
  obtain ⟨K, hK⟩ : ∃ K : Int, (kd : Int) = K := ⟨_, rfl⟩
  rw [hK] at C0
  have C := Lib.hid C0
  clear C0
  have LI := Lib.hid (fun W (h : Below w.heap.size w W) => list_any v W hv (hE.later h).mc)
  have NU := Lib.hid (fun W (h : Below w.heap.size w W) => numeral_any v (lo : Int) (hi : Int) W (by omega) (hE.later h))
  have NF := Lib.hid (numE_fit ⟨kn, kd, lo, hi, df, no, lg⟩ v)
  have FL := Lib.hid (@fitK_list ⟨kn, kd, lo, hi, df, no, lg⟩ v)
  have FY := Lib.hid (@fitK_yes ⟨kn, kd, lo, hi, df, no, lg⟩ v)
  have FT := Lib.hid (@fitK_told ⟨kn, kd, lo, hi, df, no, lg⟩ v)
  have h1 := hkk.2.2.1
  have h7 := hkk.2.2.2.1
  simp only at h1 h7
  clear hkk hr hE
  obtain ⟨r, hr⟩ : ∃ r, fitK ⟨kn, kd, lo, hi, df, no, lg⟩ v = r := ⟨_, rfl⟩
  rw [hr] at NF FL FY FT ⊢
  clear hr
  go_enter Tryz.func79, Tryz.ntmps79
  go_wp2_with fail
  refine C.out.mono ?_
  rintro e w1 ⟨rfl, hb1⟩
  obtain ⟨w2, hw2⟩ : ∃ w2, w1.alloc (.cells #[.string (S kn), .int .i64 K, .int .i64 (lo : Int), .int .i64 (hi : Int), .string (S df), .bool no, .bool lg] 202) = w2 := ⟨_, rfl⟩
  have hb2 : Below w.heap.size w w2 := by rw [← hw2]; exact hb1.alloc hb1.size _
  have Hb2 := Lib.hid hb2
  have bK : Blk w2 w1.heap.size #[.string (S kn), .int .i64 K, .int .i64 (lo : Int), .int .i64 (hi : Int), .string (S df), .bool no, .bool lg] 202 := by rw [← hw2]; exact Blk.new w1 _ _
  obtain ⟨_, c1, c2, c3, _, _, _⟩ := bK.seven
  clear bK
  have LI := Lib.hid (LI.out w2 hb2)
  have NU := Lib.hid (NU.out w2 hb2)
  clear hb1 hb2 C
  have hc : (kd = 1 ∧ K = 1) ∨ (kd = 2 ∧ K = 2) ∨ (kd = 3 ∧ K = 3) ∨ (kd = 4 ∧ K = 4) ∨ (kd = 5 ∧ K = 5) ∨ (kd = 6 ∧ K = 6) ∨ (kd = 7 ∧ K = 7) := by omega
  clear h1 h7 hK
  rcases hc with ⟨rfl, rfl⟩ | ⟨rfl, rfl⟩ | ⟨rfl, rfl⟩ | ⟨rfl, rfl⟩ | ⟨rfl, rfl⟩ | ⟨rfl, rfl⟩ | ⟨rfl, rfl⟩
  ·have E := Lib.hid (FY.out (.inl rfl))
   by_cases hy : v = yesL
   ·subst hy
    rw [if_pos (.inl rfl)] at E
    unfold yesL
    go_wp2_with fail
    go_ret
    rw [E.out]
    exact ⟨rfl, Hb2.out⟩
   ·by_cases hn : v = noL
    ·subst hn
     rw [if_pos (.inr rfl)] at E
     unfold noL
     go_wp2_with fail
     go_ret
     rw [E.out]
     exact ⟨rfl, Hb2.out⟩
    ·rw [if_neg (by rintro (h | h); exact hy h; exact hn h)] at E
     have g1 : ¬ v = [89, 101, 115] := hy
     have g2 : ¬ v = [78, 111] := hn
     have g3 : (v == [89, 101, 115]) = false := by simpa using g1
     have g4 : (v == [78, 111]) = false := by simpa using g2
     clear hy hn
     go_wp2_with fail
     go_ret
     rw [E.out]
     exact ⟨rfl, Hb2.out⟩
  ·have E := Lib.hid (FY.out (.inr rfl))
   by_cases hy : v = yesL
   ·subst hy
    rw [if_pos (.inl rfl)] at E
    unfold yesL
    go_wp2_with fail
    go_ret
    rw [E.out]
    exact ⟨rfl, Hb2.out⟩
   ·by_cases hn : v = noL
    ·subst hn
     rw [if_pos (.inr rfl)] at E
     unfold noL
     go_wp2_with fail
     go_ret
     rw [E.out]
     exact ⟨rfl, Hb2.out⟩
    ·rw [if_neg (by rintro (h | h); exact hy h; exact hn h)] at E
     have g1 : ¬ v = [89, 101, 115] := hy
     have g2 : ¬ v = [78, 111] := hn
     have g3 : (v == [89, 101, 115]) = false := by simpa using g1
     have g4 : (v == [78, 111]) = false := by simpa using g2
     clear hy hn
     go_wp2_with fail
     go_ret
     rw [E.out]
     exact ⟨rfl, Hb2.out⟩
  ·have E := NF.out (.inl rfl)
   unfold RetNI at NU
   rw [E] at NU
   clear E
   go_wp2_with fail
   refine NU.out.mono ?_
   rintro e w3 ⟨rfl, hb3⟩
   have Hb3 := Lib.hid (below_then Hb2.out hb3)
   clear hb3
   go_wp2_with fail
   go_ret
   exact ⟨rfl, Hb3.out⟩
  ·have E := NF.out (.inr (.inl rfl))
   unfold RetNI at NU
   rw [E] at NU
   clear E
   go_wp2_with fail
   refine NU.out.mono ?_
   rintro e w3 ⟨rfl, hb3⟩
   have Hb3 := Lib.hid (below_then Hb2.out hb3)
   clear hb3
   go_wp2_with fail
   go_ret
   exact ⟨rfl, Hb3.out⟩
  ·have E := Lib.hid (FL.out rfl)
   go_wp2_with fail
   refine LI.out.mono ?_
   rintro e w3 ⟨vl, rfl, _, hb3⟩
   have Hb3 := Lib.hid (below_then Hb2.out hb3)
   clear hb3
   go_wp2_with fail
   go_ret
   refine ⟨?_, Hb3.out⟩
   rw [E.out]
   unfold listN
   cases listR v <;> rfl
  ·have E := Lib.hid (FT.out rfl)
   by_cases hv0 : v = []
   ·subst hv0
    rw [if_pos rfl] at E
    go_wp2_with fail
    go_ret
    rw [E.out]
    exact ⟨rfl, Hb2.out⟩
   ·rw [if_neg hv0] at E
    have hve : v.isEmpty = false := by cases v with | nil => exact absurd rfl hv0 | cons _ _ => rfl
    clear hv0
    go_wp2_with fail
    go_ret
    rw [E.out]
    exact ⟨rfl, Hb2.out⟩
  ·have E := NF.out (.inr (.inr rfl))
   unfold RetNI at NU
   rw [E] at NU
   clear E
   go_wp2_with fail
   refine NU.out.mono ?_
   rintro e w3 ⟨rfl, hb3⟩
   have Hb3 := Lib.hid (below_then Hb2.out hb3)
   clear hb3
   go_wp2_with fail
   go_ret
   exact ⟨rfl, Hb3.out⟩
theorem fits_at {nm v : List UInt8} {n : Nat} {ev : Value} (w : World) (h : keyFits nm v = n) (he : errV (n : Int) = ev) (hv : v.length ≤ 1000) (hE : Env w) :
  Calls Tryz.prog 79 #[.string (S nm), .string (S v)] w fun e w' => e = .returned ev ∧ Below w.heap.size w w' := by
 have C := fits_any nm v w hv hE
 unfold RetErrN at C
 rw [h, he] at C
 exact C
end Go.Proofs.YtjbbbpgcegcbaaaGreatDoor
namespace Go.Proofs.YtjbbbpgcegcbaaaGreatDoor
open Go.RowKit
set_option linter.unusedVariables false
theorem PrsV.take {W : World} {p : Option Addr} {c n : Nat} {l : List Pr} (h : PrsV W (.slice p l.length c) l) (hn : n ≤ l.length) : PrsV W (.slice p n c) (l.take n) := by
 obtain ⟨p0, c0, hv, hlc, hc⟩ := h
 obtain ⟨rfl, rfl⟩ : p = p0 ∧ c = c0 := by simpa using hv
 refine ⟨p, c, by rw [List.length_take, Nat.min_eq_left hn], by rw [List.length_take]; omega, fun hl => ?_⟩
 rw [List.length_take] at hl
 obtain ⟨b, o, hp, hcell⟩ := hc (by omega)
 refine ⟨b, o, hp, fun j hj => ?_⟩
 rw [List.length_take] at hj
 rw [List.getElem_take]
 exact hcell j (by omega)
end Go.Proofs.YtjbbbpgcegcbaaaGreatDoor
