/- keys.rows: an iterator over the table. -/
import Derived.Test.YtikcgnalcchlpaaGreatDoorKeyTab
import Derived.Test.YtikcgnalcchlpaaGreatDoorRows
import Derived.RangeFuncNested
import Derived.RangeFuncBound
import Derived.RangeFuncCalls
import Derived.RangeFuncLeaves
import Derived.Shelf.Abstract
import Derived.Shelf.RegionOpen
import Derived.OwnWalkIn
import Derived.TacticsInMore
import Derived.LoopNIn
import Derived.LoopIn
import Derived.Laws.Tables
namespace Go.Proofs.YtikcgnalcchlpaaGreatDoor
open Go.RowKit Go.Shelf
attribute [local go_sem] Oper.semAt_some
theorem wpListIn_buildAs {F : Fence} {n : Nat} {P : Program} {ops : Array Oper} {rest : List Oper} {o : Oper} {a : Act} {w : World} {Q : Exit → Act → World → Prop} (hg : o.guard = none) (t : TypeId) (parts : Array (Nat × Operand)) (ho : o.op = .build t parts)
    (d : Option Tmp) (hd : o.dst = d) (cells : Array Value) (hf : P.built t (parts.map fun (i, x) => (i, a.eval x)).toList = some cells)
    (h : wpListIn F n P ops Q rest (a.put d (.agg cells)) w) : wpListIn F n P ops Q (o :: rest) a w := by
  subst hd
  refine wpListIn_plain hg fun K hK => ⟨fun f hf' => ?_, ?_⟩
  · unfold Oper.about at hf'
    rw [ho] at hf'
    cases hf'
  · rw [Oper.semAt_plain F _ _ (by rw [ho]; intro c hc'; cases hc')]
    unfold execOp
    simp only [ho, Sem.run_bind, run_build w t _ cells hf, Result.andThen_ok]
    exact hK _ _ h
set_option maxRecDepth 100000 in
theorem ke_index0 (w : World) : (Instr.index 108 (.agg keRowsC) (.int .i64 ((0 : Nat) : Int))).run Tryz.prog w = .ok (keV (keAt 0)) w := by kernel_rfl
set_option maxRecDepth 100000 in
theorem ke_index1 (w : World) : (Instr.index 108 (.agg keRowsC) (.int .i64 ((1 : Nat) : Int))).run Tryz.prog w = .ok (keV (keAt 1)) w := by kernel_rfl
set_option maxRecDepth 100000 in
theorem ke_index2 (w : World) : (Instr.index 108 (.agg keRowsC) (.int .i64 ((2 : Nat) : Int))).run Tryz.prog w = .ok (keV (keAt 2)) w := by kernel_rfl
set_option maxRecDepth 100000 in
theorem ke_index3 (w : World) : (Instr.index 108 (.agg keRowsC) (.int .i64 ((3 : Nat) : Int))).run Tryz.prog w = .ok (keV (keAt 3)) w := by kernel_rfl
set_option maxRecDepth 100000 in
theorem ke_index4 (w : World) : (Instr.index 108 (.agg keRowsC) (.int .i64 ((4 : Nat) : Int))).run Tryz.prog w = .ok (keV (keAt 4)) w := by kernel_rfl
set_option maxRecDepth 100000 in
theorem ke_index5 (w : World) : (Instr.index 108 (.agg keRowsC) (.int .i64 ((5 : Nat) : Int))).run Tryz.prog w = .ok (keV (keAt 5)) w := by kernel_rfl
set_option maxRecDepth 100000 in
theorem ke_index6 (w : World) : (Instr.index 108 (.agg keRowsC) (.int .i64 ((6 : Nat) : Int))).run Tryz.prog w = .ok (keV (keAt 6)) w := by kernel_rfl
set_option maxRecDepth 100000 in
theorem ke_index7 (w : World) : (Instr.index 108 (.agg keRowsC) (.int .i64 ((7 : Nat) : Int))).run Tryz.prog w = .ok (keV (keAt 7)) w := by kernel_rfl
set_option maxRecDepth 100000 in
theorem ke_index8 (w : World) : (Instr.index 108 (.agg keRowsC) (.int .i64 ((8 : Nat) : Int))).run Tryz.prog w = .ok (keV (keAt 8)) w := by kernel_rfl
set_option maxRecDepth 100000 in
theorem ke_index9 (w : World) : (Instr.index 108 (.agg keRowsC) (.int .i64 ((9 : Nat) : Int))).run Tryz.prog w = .ok (keV (keAt 9)) w := by kernel_rfl
set_option maxRecDepth 100000 in
theorem ke_index10 (w : World) : (Instr.index 108 (.agg keRowsC) (.int .i64 ((10 : Nat) : Int))).run Tryz.prog w = .ok (keV (keAt 10)) w := by kernel_rfl
set_option maxRecDepth 100000 in
theorem ke_index11 (w : World) : (Instr.index 108 (.agg keRowsC) (.int .i64 ((11 : Nat) : Int))).run Tryz.prog w = .ok (keV (keAt 11)) w := by kernel_rfl
set_option maxRecDepth 100000 in
theorem ke_index12 (w : World) : (Instr.index 108 (.agg keRowsC) (.int .i64 ((12 : Nat) : Int))).run Tryz.prog w = .ok (keV (keAt 12)) w := by kernel_rfl
set_option maxRecDepth 100000 in
theorem ke_index13 (w : World) : (Instr.index 108 (.agg keRowsC) (.int .i64 ((13 : Nat) : Int))).run Tryz.prog w = .ok (keV (keAt 13)) w := by kernel_rfl
set_option maxRecDepth 100000 in
theorem ke_index14 (w : World) : (Instr.index 108 (.agg keRowsC) (.int .i64 ((14 : Nat) : Int))).run Tryz.prog w = .ok (keV (keAt 14)) w := by kernel_rfl
set_option maxRecDepth 100000 in
theorem ke_index15 (w : World) : (Instr.index 108 (.agg keRowsC) (.int .i64 ((15 : Nat) : Int))).run Tryz.prog w = .ok (keV (keAt 15)) w := by kernel_rfl
set_option maxRecDepth 100000 in
theorem ke_index16 (w : World) : (Instr.index 108 (.agg keRowsC) (.int .i64 ((16 : Nat) : Int))).run Tryz.prog w = .ok (keV (keAt 16)) w := by kernel_rfl
set_option maxRecDepth 100000 in
theorem ke_index17 (w : World) : (Instr.index 108 (.agg keRowsC) (.int .i64 ((17 : Nat) : Int))).run Tryz.prog w = .ok (keV (keAt 17)) w := by kernel_rfl
theorem ke_index (k : Nat) (hk : k < 18) (w : World) : (Instr.index 108 (.agg keRowsC) (.int .i64 (k : Int))).run Tryz.prog w = .ok (keV (keAt k)) w := by
  have h : k = 0 ∨ k = 1 ∨ k = 2 ∨ k = 3 ∨ k = 4 ∨ k = 5 ∨ k = 6 ∨ k = 7 ∨ k = 8 ∨ k = 9 ∨ k = 10 ∨ k = 11 ∨ k = 12 ∨ k = 13 ∨ k = 14 ∨ k = 15 ∨ k = 16 ∨ k = 17 := by omega
  rcases h with rfl | rfl | rfl | rfl | rfl | rfl | rfl | rfl | rfl | rfl | rfl | rfl | rfl | rfl | rfl | rfl | rfl | rfl
  · exact ke_index0 w
  · exact ke_index1 w
  · exact ke_index2 w
  · exact ke_index3 w
  · exact ke_index4 w
  · exact ke_index5 w
  · exact ke_index6 w
  · exact ke_index7 w
  · exact ke_index8 w
  · exact ke_index9 w
  · exact ke_index10 w
  · exact ke_index11 w
  · exact ke_index12 w
  · exact ke_index13 w
  · exact ke_index14 w
  · exact ke_index15 w
  · exact ke_index16 w
  · exact ke_index17 w
set_option maxRecDepth 100000 in
theorem krows1_in (F : Fence) (n : Nat) (hf : F.fn 40) (hro : F.round = none) (hn : 1 ≤ n) (l n₀ : Nat) (J Jx : List Ke → World → Prop)
    (hY : ∀ pre x W, J pre W → pre.length < 18 → YieldAt F (n - 1) Tryz.prog l #[keV x] W fun e W' =>
      (e = .returned (.bool true) ∧ J (pre ++ [x]) W' ∧ Below n₀ W W') ∨ (e = .returned (.bool false) ∧ Jx (pre ++ [x]) W'))
    (W : World) (hJ : AbidesFrom W.heap.size J) (h0 : J [] W) :
    CallsIn F n Tryz.prog 40 #[.func (.yield l) #[] #[]] W fun e W' => (∃ v, e = .returned v) ∧
      ((∃ ys, ys = keRows ∧ J ys W') ∨ (∃ pre, pre <+: keRows ∧ Jx pre W')) := by
  refine callsIn_of_wp Tryz.func40 rfl hf ?_ hro
  simp only [Tryz.ntmps40, List.size_toArray, List.length_cons, List.length_nil, Nat.reduceAdd, Nat.reduceSub, Array.replicate_succ, Array.replicate_zero, List.push_toArray, List.append_toArray, List.nil_append, List.cons_append]
  repeat (first | apply wpIn_block | (apply wpIn_seq_k; intro _ _) | apply wpIn_region_lit)
  refine wpListIn_buildAs rfl 56 _ rfl (some 4) rfl (keC ke0).toArray (by as_aux_lemma => kernel_rfl) ?_
  refine wpListIn_buildAs rfl 56 _ rfl (some 5) rfl (keC ke1).toArray (by as_aux_lemma => kernel_rfl) ?_
  refine wpListIn_buildAs rfl 56 _ rfl (some 6) rfl (keC ke2).toArray (by as_aux_lemma => kernel_rfl) ?_
  refine wpListIn_buildAs rfl 56 _ rfl (some 7) rfl (keC ke3).toArray (by as_aux_lemma => kernel_rfl) ?_
  refine wpListIn_buildAs rfl 56 _ rfl (some 8) rfl (keC ke4).toArray (by as_aux_lemma => kernel_rfl) ?_
  refine wpListIn_buildAs rfl 56 _ rfl (some 9) rfl (keC ke5).toArray (by as_aux_lemma => kernel_rfl) ?_
  refine wpListIn_buildAs rfl 56 _ rfl (some 10) rfl (keC ke6).toArray (by as_aux_lemma => kernel_rfl) ?_
  refine wpListIn_buildAs rfl 56 _ rfl (some 11) rfl (keC ke7).toArray (by as_aux_lemma => kernel_rfl) ?_
  refine wpListIn_buildAs rfl 56 _ rfl (some 12) rfl (keC ke8).toArray (by as_aux_lemma => kernel_rfl) ?_
  refine wpListIn_buildAs rfl 56 _ rfl (some 13) rfl (keC ke9).toArray (by as_aux_lemma => kernel_rfl) ?_
  refine wpListIn_buildAs rfl 56 _ rfl (some 14) rfl (keC ke10).toArray (by as_aux_lemma => kernel_rfl) ?_
  refine wpListIn_buildAs rfl 56 _ rfl (some 15) rfl (keC ke11).toArray (by as_aux_lemma => kernel_rfl) ?_
  refine wpListIn_buildAs rfl 56 _ rfl (some 16) rfl (keC ke12).toArray (by as_aux_lemma => kernel_rfl) ?_
  refine wpListIn_buildAs rfl 56 _ rfl (some 17) rfl (keC ke13).toArray (by as_aux_lemma => kernel_rfl) ?_
  refine wpListIn_buildAs rfl 56 _ rfl (some 18) rfl (keC ke14).toArray (by as_aux_lemma => kernel_rfl) ?_
  refine wpListIn_buildAs rfl 56 _ rfl (some 19) rfl (keC ke15).toArray (by as_aux_lemma => kernel_rfl) ?_
  refine wpListIn_buildAs rfl 56 _ rfl (some 20) rfl (keC ke16).toArray (by as_aux_lemma => kernel_rfl) ?_
  refine wpListIn_buildAs rfl 56 _ rfl (some 21) rfl (keC ke17).toArray (by as_aux_lemma => kernel_rfl) ?_
  refine wpListIn_buildAs rfl 108 _ rfl (some 22) rfl keRowsC (by as_aux_lemma => kernel_rfl) ?_
  gi_wp2
  have hidx := ke_index
  obtain ⟨RC, hRC⟩ : ∃ RC, Value.agg keRowsC = RC := ⟨_, rfl⟩
  rw [hRC] at hidx ⊢
  clear hRC
  gi_loopw [23] (fun p wr => ∃ k : Nat, k ≤ 18 ∧ p = .int .i64 k ∧ W.heap.size ≤ wr.heap.size ∧ J (keRows.take k) wr) (fun p _ => 18 - (intOf p).toNat)
  case atStart => exact ⟨0, by omega, rfl, Nat.le_refl _, h0⟩
  case round =>
    obtain ⟨k, hk, rfl, hsz, hJs⟩ := hrel
    by_cases hlt : k < 18
    · obtain ⟨x, hx⟩ : ∃ x, keAt k = x := ⟨_, rfl⟩
      have hi := hidx k hlt
      rw [hx] at hi
      unfold keV keC at hi
      have hJ2 : J (keRows.take k) (wr.alloc (.cells #[.string (S x.nm), .int .i64 (x.kd : Int), .int .i64 (x.lo : Int), .int .i64 (x.hi : Int), .string (S x.df), .bool x.no, .bool x.lg] 56)) := hJ _ _ _ none hJs (World.grownBy_alloc _ _ none) (fun r e => by cases e)
      obtain ⟨fn, tmps, assign, body, hy, hR⟩ := hY (keRows.take k) x _ hJ2 (by rw [ke_take_len k hk]; exact hlt)
      unfold keV keC at hy
      clear hidx hY
      have htk := Lib.hid (show keRows.take k ++ [x] = keRows.take (k + 1) by rw [← hx]; exact ke_take k hlt)
      gi_wp2
      refine hR.mono ?_
      clear hR hy
      rintro e W3 (⟨rfl, hJ3, hk3⟩ | ⟨rfl, hJx3⟩)
      · gi_wp2
        go_roundw
        case rel => exact ⟨k + 1, by omega, by go_num, by have := hk3.size; simp at this; omega, by have h3 := hJ3; rw [htk.out] at h3; exact h3⟩
        case measure => simp [intOf]; omega
      · gi_wp2
        refine bodyPost_ret (results_none rfl _ _ _) rfl ?_
        exact ⟨⟨_, rfl⟩, .inr ⟨keRows.take (k + 1), List.take_prefix _ _, by rw [htk.out] at hJx3; exact hJx3⟩⟩
    · have hk18 : k = 18 := by omega
      gi_wp2
      go_end0
      exact ⟨⟨_, rfl⟩, .inl ⟨keRows, rfl, by rw [hk18] at hJs; exact hJs⟩⟩
theorem krows_stops (F : Fence) (n : Nat) (hf : F.fn 40) (hro : F.round = none) (hn : 1 ≤ n) (n₀ : Nat) (w : World) :
    SeqStopsK F n Tryz.prog 40 #[] (fun x : Ke => #[keV x]) (Below n₀) (fun ys => ys = keRows) (fun pre => pre <+: keRows) 18 w := fun l J Jx W _ hJ _ hY h0 =>
  krows1_in F n hf hro hn l n₀ J Jx hY W hJ h0
end Go.Proofs.YtikcgnalcchlpaaGreatDoor
