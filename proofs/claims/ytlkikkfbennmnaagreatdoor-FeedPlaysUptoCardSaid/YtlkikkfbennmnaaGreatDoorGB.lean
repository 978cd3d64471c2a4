/- Several texts in one: A block known whole: its cells, not frozen. No program stands in it.  | Fields as cells; how the table's rows are spelled. No function of the program is walked here.  | head.rows: an iterator over the table.  | head.find: the row of an op.  | head.number, head.row.list.  | head.Name, Flags, Fields; named.  | Flags as bits of an int. No function of the program is walked here.  -/
import Derived.Test.YtlkikkfbennmnaaGreatDoorGA
import Derived.RangeFuncNested
import Derived.RangeFuncBound
import Derived.Lib.Split
import Derived.Lib.IndexMore
import Derived.Lib.Atoi
import Derived.Laws.OwnMore
import Derived.Test.YtlkikkfbennmnaaGreatDoorRows
import Derived.RangeFuncCalls
import Derived.RangeFuncLeaves
import Derived.Shelf.Abstract
import Derived.Shelf.RegionOpen
import Derived.OwnWalkIn
import Derived.TacticsInMore
import Derived.LoopNIn
import Derived.LoopIn
import Derived.Laws.Tables
import Derived.Test.YtlkikkfbennmnaaGreatDoorShHd
import Derived.Lib.AtoiErrMem
namespace Go.Proofs.YtlkikkfbennmnaaGreatDoor
open Go.RowKit
def Blk (W : World) (b : Nat) (C : Array Value) (t : TypeId) : Prop := W.heap[b]? = some (.cells C t (0, 0))
theorem Blk.new (w : World) (C : Array Value) (t : TypeId) : Blk (w.alloc (.cells C t)) w.heap.size C t := World.alloc_heap_new w _
theorem Blk.lt {W : World} {b : Nat} {C : Array Value} {t : TypeId} (h : Blk W b C t) : b < W.heap.size := (Array.getElem?_eq_some_iff.1 h).1
theorem Blk.cell {W : World} {b : Nat} {C : Array Value} {t : TypeId} (h : Blk W b C t) (i : Nat) : W.cell? ⟨b, i, none⟩ = C[i]? := by
  have h' : W.heap[b]? = some (.cells C t (0, 0)) := h
  unfold World.cell?
  simp [h']
theorem Blk.frozen {W : World} {b : Nat} {C : Array Value} {t : TypeId} (h : Blk W b C t) (i : Nat) : W.frozen? ⟨b, i, none⟩ = false := by
  have h' : W.heap[b]? = some (.cells C t (0, 0)) := h
  unfold World.frozen?
  simp [h']
theorem Blk.later {W W' : World} {b : Nat} {C : Array Value} {t : TypeId} (h : Blk W b C t) (hb : Below W.heap.size W W') : Blk W' b C t := (hb.block b h.lt).trans h
theorem Blk.below {B : Nat} {W W' : World} {b : Nat} {C : Array Value} {t : TypeId} (h : Blk W b C t) (hb : Below B W W') (hlt : b < B) : Blk W' b C t := (hb.block b hlt).trans h
theorem Blk.alloc {W : World} {b : Nat} {C : Array Value} {t : TypeId} (h : Blk W b C t) (o : Obj) : Blk (W.alloc o) b C t := h.later ((Below.refl _ _).alloc (Nat.le_refl _) _)
theorem Blk.drew {W : World} {b : Nat} {C : Array Value} {t : TypeId} (h : Blk W b C t) : Blk W.drew b C t := h
theorem Blk.drewN {W : World} {b : Nat} {C : Array Value} {t : TypeId} (h : Blk W b C t) (n : Nat) : Blk (W.drewN n) b C t := h
theorem setCell_heap_same {w : World} {b i : Nat} {C : Array Value} {t : TypeId} {fr : Nat × Nat} (h : w.heap[b]? = some (.cells C t fr)) (v : Value) : (w.setCell ⟨b, i, none⟩ v).heap[b]? = some (.cells (C.setIfInBounds i v) t fr) := by
  have hlt : b < w.heap.size := (Array.getElem?_eq_some_iff.1 h).1
  have hv : w.heap[b] = .cells C t fr := (Array.getElem?_eq_some_iff.1 h).2
  unfold World.setCell
  show (w.heap.modify b _)[b]? = _
  rw [Array.getElem?_eq_getElem (by simpa using hlt), Array.getElem_modify]
  simp [hv]
theorem setCell_heap_other {w : World} {b i k : Nat} (hne : k ≠ b) (v : Value) : (w.setCell ⟨b, i, none⟩ v).heap[k]? = w.heap[k]? := by
  unfold World.setCell
  show (w.heap.modify b _)[k]? = _
  simp [Array.getElem?_modify, Ne.symm hne]
theorem Blk.set {W : World} {b : Nat} {C : Array Value} {t : TypeId} (h : Blk W b C t) (i : Nat) (v : Value) : Blk (W.setCell ⟨b, i, none⟩ v) b (C.setIfInBounds i v) t := setCell_heap_same h v
theorem Blk.other {W : World} {b b' i : Nat} {C : Array Value} {t : TypeId} (h : Blk W b C t) (hne : b ≠ b') (v : Value) : Blk (W.setCell ⟨b', i, none⟩ v) b C t := (setCell_heap_other hne v).trans h
theorem Blk.put {W : World} {b D : Nat} {C : Array Value} {t : TypeId} (h : Blk W b C t) (o : Obj) (hne : b ≠ D) : Blk (W.putObj D o) b C t := (World.putObj_heap_other (fun e => hne e)).trans h
theorem Blk.own {β : Type} (b : Nat) (f : β → Array Value) (t : TypeId) : Own (fun s W => Blk W b (f s) t) := fun s X Y row hs hg hrow => by
  have hs' : X.heap[b]? = some (.cells (f s) t (0, 0)) := hs
  refine (hg.block b (Array.getElem?_eq_some_iff.1 hs').1 (fun e => ?_)).trans hs'
  obtain ⟨o, ho, hc⟩ := hrow b e.symm
  rw [hs'] at ho
  cases ho
  cases hc
theorem own_const {β : Type} (p : β → Prop) : Own (fun s (_ : World) => p s) := fun _ _ _ _ h _ _ => h
theorem Blk.one {W : World} {b : Nat} {x : Value} {t : TypeId} (h : Blk W b #[x] t) : W.cell? ⟨b, 0, none⟩ = some x := h.cell 0
theorem Blk.two {W : World} {b : Nat} {x y : Value} {t : TypeId} (h : Blk W b #[x, y] t) : W.cell? ⟨b, 0, none⟩ = some x ∧ W.cell? ⟨b, 1, none⟩ = some y := ⟨h.cell 0, h.cell 1⟩
theorem Blk.three {W : World} {b : Nat} {x y z : Value} {t : TypeId} (h : Blk W b #[x, y, z] t) : W.cell? ⟨b, 0, none⟩ = some x ∧ W.cell? ⟨b, 1, none⟩ = some y ∧ W.cell? ⟨b, 2, none⟩ = some z := ⟨h.cell 0, h.cell 1, h.cell 2⟩
theorem Blk.four {W : World} {b : Nat} {x y z u : Value} {t : TypeId} (h : Blk W b #[x, y, z, u] t) : W.cell? ⟨b, 0, none⟩ = some x ∧ W.cell? ⟨b, 1, none⟩ = some y ∧ W.cell? ⟨b, 2, none⟩ = some z ∧ W.cell? ⟨b, 3, none⟩ = some u := ⟨h.cell 0, h.cell 1, h.cell 2, h.cell 3⟩
end Go.Proofs.YtlkikkfbennmnaaGreatDoor
namespace Go.Proofs.YtlkikkfbennmnaaGreatDoor
open Go.RowKit
def fieldC (f : Fd) : List Value := [.string (S f.nm), .int .i64 (f.pos : Int), .int .i64 (f.sz : Int)]
def cellsF (l : List Fd) : Array Value := (l.flatMap fieldC).toArray
def fd0 : Fd := ⟨[], 0, 0⟩
theorem cellsF_len : ∀ (l : List Fd), (cellsF l).size = 3 * l.length
  | [] => rfl
  | f :: l => by
    have := cellsF_len l
    unfold cellsF at *
    simp only [List.flatMap_cons, List.size_toArray, List.length_append, List.length_cons] at *
    rw [this]; simp [fieldC]; omega
theorem cellsF_get : ∀ (l : List Fd) (j : Nat) (hj : j < l.length) (i : Nat), i < 3 → (cellsF l)[j * 3 + i]? = (fieldC l[j])[i]?
  | [], j, hj, _, _ => by simp at hj
  | f :: l, j, hj, i, hi => by
    unfold cellsF
    simp only [List.flatMap_cons, List.getElem?_toArray]
    cases j with
    | zero => rw [List.getElem?_append_left (by simp [fieldC]; omega)]; simp
    | succ j =>
      rw [List.getElem?_append_right (by simp [fieldC]; omega)]
      have h := cellsF_get l j (by simpa using hj) i hi
      unfold cellsF at h
      rw [List.getElem?_toArray] at h
      rw [show (j + 1) * 3 + i - (fieldC f).length = j * 3 + i by simp [fieldC]; omega, h]
      rfl
theorem cellsF_set (l : List Fd) (j : Nat) (hj : j < l.length) (f : Fd) :
    (((cellsF l).setIfInBounds (j * 3) (.string (S f.nm))).setIfInBounds (j * 3 + 1) (.int .i64 (f.pos : Int))).setIfInBounds (j * 3 + 2) (.int .i64 (f.sz : Int)) = cellsF (l.set j f) := by
  apply Array.ext_getElem?
  intro i
  have hs := cellsF_len l
  have hs2 := cellsF_len (l.set j f)
  rw [List.length_set] at hs2
  by_cases hi : i < 3 * l.length
  · obtain ⟨a, b, rfl, hb⟩ : ∃ a b, i = a * 3 + b ∧ b < 3 := ⟨i / 3, i % 3, by omega, by omega⟩
    have ha : a < l.length := by omega
    rw [cellsF_get _ a (by rw [List.length_set]; exact ha) b hb]
    simp only [Array.getElem?_setIfInBounds, Array.size_setIfInBounds, hs]
    by_cases hab : a = j
    · subst hab
      rw [List.getElem_set_self]
      have hb' : b = 0 ∨ b = 1 ∨ b = 2 := by omega
      rcases hb' with rfl | rfl | rfl
      · rw [if_neg (by omega), if_neg (by omega), if_pos (by omega), if_pos (by omega)]; rfl
      · rw [if_neg (by omega), if_pos (by omega), if_pos (by omega)]; rfl
      · rw [if_pos (by omega), if_pos (by omega)]; rfl
    · rw [if_neg (by omega), if_neg (by omega), if_neg (by omega), List.getElem_set_ne (by omega), cellsF_get _ a ha b hb]
  · rw [Array.getElem?_eq_none (by simp only [Array.size_setIfInBounds]; omega), Array.getElem?_eq_none (by omega)]
theorem madeCells_F (n : Nat) : madeCells #[Value.string (S []), .int .i64 0, .int .i64 0] (n * 3) = cellsF (List.replicate n fd0) := by
  apply Array.ext_getElem?
  intro i
  have h1 : (madeCells #[Value.string (S []), .int .i64 0, .int .i64 0] (n * 3)).size = n * 3 := size_madeCells _ _
  have h2 := cellsF_len (List.replicate n fd0)
  rw [List.length_replicate] at h2
  by_cases hi : i < n * 3
  · obtain ⟨a, b, rfl, hb⟩ : ∃ a b, i = a * 3 + b ∧ b < 3 := ⟨i / 3, i % 3, by omega, by omega⟩
    rw [cellsF_get _ a (by rw [List.length_replicate]; omega) b hb, Array.getElem?_eq_getElem (by omega)]
    unfold madeCells
    simp only [Array.getElem_map, Array.getElem_range, List.getElem_replicate]
    have e : (a * 3 + b) % (#[Value.string (S []), .int .i64 0, .int .i64 0] : Array Value).size = b := by
      show (a * 3 + b) % 3 = b
      omega
    rw [e]
    have hb' : b = 0 ∨ b = 1 ∨ b = 2 := by omega
    rcases hb' with rfl | rfl | rfl <;> rfl
  · rw [Array.getElem?_eq_none (by omega), Array.getElem?_eq_none (by omega)]
/-- what stands when k fields have been laid -/
def rowsF (fs : List Fd) (k : Nat) : List Fd := fs.take k ++ List.replicate (fs.length - k) fd0
theorem rowsF_0 (fs : List Fd) : rowsF fs 0 = List.replicate fs.length fd0 := by simp [rowsF]
theorem rowsF_all (fs : List Fd) : rowsF fs fs.length = fs := by simp [rowsF]
theorem rowsF_len (fs : List Fd) (k : Nat) (hk : k ≤ fs.length) : (rowsF fs k).length = fs.length := by simp [rowsF]; omega
theorem rowsF_step (fs : List Fd) (k : Nat) (hk : k < fs.length) : (rowsF fs k).set k fs[k] = rowsF fs (k + 1) := by
  unfold rowsF
  have hl : (fs.take k).length = k := by simp; omega
  rw [List.set_append_right _ _ (by omega), hl, Nat.sub_self, show fs.length - k = (fs.length - (k + 1)) + 1 by omega, List.replicate_succ, List.set_cons_zero, List.take_succ_eq_append_getElem hk, List.append_assoc]
  rfl
-- how they are spelled
def dec2 (n : Nat) : List UInt8 := if n < 10 then [UInt8.ofNat (48 + n)] else [UInt8.ofNat (48 + n / 10), UInt8.ofNat (48 + n % 10)]
def numT (f : Fd) : List UInt8 := dec2 f.pos ++ 32 :: dec2 f.sz
def fieldT (f : Fd) : List UInt8 := f.nm ++ 32 :: numT f
def spelt (f : Fd) : Bool := Lib.cut (fieldT f) [32] == (f.nm, numT f, true) && Lib.cut (numT f) [32] == (dec2 f.pos, dec2 f.sz, true) &&
  Lib.atoi (dec2 f.pos) == some (f.pos : Int) && Lib.atoi (dec2 f.sz) == some (f.sz : Int) && decide ((fieldT f).length < 100)
def speltK (k : Kd) : Bool := k.fs.all spelt && Lib.splitK [44, 32] 0 (Lib.count k.tx [44, 32]) k.tx == k.fs.map fieldT && Lib.count k.tx [44, 32] + 1 == k.fs.length && decide (k.tx.length < 1000)
theorem kinds_spelt : kinds.all speltK = true := by decide +kernel
structure Spelt (k : Kd) : Prop where
  fld : ∀ f ∈ k.fs, Lib.cut (fieldT f) [32] = (f.nm, numT f, true) ∧ Lib.cut (numT f) [32] = (dec2 f.pos, dec2 f.sz, true) ∧ Lib.atoi (dec2 f.pos) = some (f.pos : Int) ∧ Lib.atoi (dec2 f.sz) = some (f.sz : Int) ∧ (fieldT f).length < 100
  split : Lib.splitK [44, 32] 0 (Lib.count k.tx [44, 32]) k.tx = k.fs.map fieldT
  cnt : Lib.count k.tx [44, 32] + 1 = k.fs.length
  len : k.tx.length < 1000
theorem spelt_of {k : Kd} (h : k ∈ kinds) : Spelt k := by
  have := List.all_eq_true.1 kinds_spelt k h
  unfold speltK at this
  simp only [Bool.and_eq_true, decide_eq_true_eq, beq_iff_eq] at this
  obtain ⟨⟨⟨h1, h2⟩, h3⟩, h4⟩ := this
  refine ⟨fun f hf => ?_, h2, h3, h4⟩
  have hs := List.all_eq_true.1 h1 f hf
  unfold spelt at hs
  simp only [Bool.and_eq_true, decide_eq_true_eq, beq_iff_eq] at hs
  obtain ⟨⟨⟨⟨a, b⟩, c⟩, d⟩, e⟩ := hs
  exact ⟨a, b, c, d, e⟩
theorem dec2_len (n : Nat) : (dec2 n).length ≤ 2 := by unfold dec2; split <;> simp
theorem splitB_of {k : Kd} (h : Spelt k) : Lib.splitB (S [44, 32]) 0 (Lib.countB (S k.tx) (S [44, 32])) (S k.tx) = k.fs.map fun f => S (fieldT f) := by
  have e1 : Lib.countB (S k.tx) (S [44, 32]) = Lib.count k.tx [44, 32] := by show Lib.count (S k.tx).data.toList (S [44, 32]).data.toList = _; simp [S]
  rw [e1]
  have hd := Lib.splitB_data (S [44, 32]) 0 (Lib.count k.tx [44, 32]) (S k.tx)
  have e2 : (S [44, 32]).data.toList = [44, 32] := by simp [S]
  have e3 : (S k.tx).data.toList = k.tx := by simp [S]
  rw [e2, e3, h.split] at hd
  have hinv : ∀ s : ByteArray, S s.data.toList = s := fun s => by apply ByteArray.ext; simp [S]
  have := congrArg (List.map S) hd
  rw [List.map_map, List.map_map] at this
  rw [show (S ∘ fun x : ByteArray => x.data.toList) = id from funext fun s => hinv s, List.map_id] at this
  rw [this]
  rfl
theorem countB_of {k : Kd} (h : Spelt k) : Lib.countB (S k.tx) (S [44, 32]) + 1 = k.fs.length := by
  have e1 : Lib.countB (S k.tx) (S [44, 32]) = Lib.count k.tx [44, 32] := by show Lib.count (S k.tx).data.toList (S [44, 32]).data.toList = _; simp [S]
  rw [e1, h.cnt]
end Go.Proofs.YtlkikkfbennmnaaGreatDoor
namespace Go.Proofs.YtlkikkfbennmnaaGreatDoor
open Go.RowKit Go.Shelf
attribute [local go_sem] Oper.semAt_some
theorem wpListIn_buildTo {F : Fence} {n : Nat} {P : Program} {ops : Array Oper} {rest : List Oper} {o : Oper} {a : Act} {w : World} {Q : Exit → Act → World → Prop} (hg : o.guard = none) (t : TypeId) (parts : Array (Nat × Operand)) (ho : o.op = .build t parts)
    (d : Option Tmp) (hd : o.dst = d) (cells : Array Value) (hf : P.built t (parts.map fun (i, x) => (i, a.eval x)).toList = some cells)
    (h : wpListIn F n P ops Q rest (a.put d (.agg cells)) w) : wpListIn F n P ops Q (o :: rest) a w := by
  subst hd
  refine wpListIn_plain hg fun K hK => ⟨fun f hf' => ?_, ?_⟩
  · unfold Oper.about at hf'
    rw [ho] at hf'
    cases hf'
  · rw [Oper.semAt_plain F _ _ (by rw [ho]; intro c hc'; cases hc')]
    unfold execOp
    simp only [ho, Sem.run_bind, run_build w t _ cells hf, Result.andThen_ok]
    exact hK _ _ h
def rowC (k : Kd) : List Value := [.int .i64 (k.op : Int), .string (S k.nm), .int .i64 (k.fl : Int), .string (S k.tx)]
def rowV (k : Kd) : Value := .agg (rowC k).toArray
def rowsC : Array Value := (kinds.flatMap rowC).toArray
def kdAt (k : Nat) : Kd := kinds.getD k kd0
set_option maxRecDepth 100000 in
theorem rows_index0 (w : World) : (Instr.index 224 (.agg rowsC) (.int .i64 ((0 : Nat) : Int))).run Tryz.prog w = .ok (rowV (kdAt 0)) w := by kernel_rfl
set_option maxRecDepth 100000 in
theorem rows_index1 (w : World) : (Instr.index 224 (.agg rowsC) (.int .i64 ((1 : Nat) : Int))).run Tryz.prog w = .ok (rowV (kdAt 1)) w := by kernel_rfl
set_option maxRecDepth 100000 in
theorem rows_index2 (w : World) : (Instr.index 224 (.agg rowsC) (.int .i64 ((2 : Nat) : Int))).run Tryz.prog w = .ok (rowV (kdAt 2)) w := by kernel_rfl
set_option maxRecDepth 100000 in
theorem rows_index3 (w : World) : (Instr.index 224 (.agg rowsC) (.int .i64 ((3 : Nat) : Int))).run Tryz.prog w = .ok (rowV (kdAt 3)) w := by kernel_rfl
set_option maxRecDepth 100000 in
theorem rows_index4 (w : World) : (Instr.index 224 (.agg rowsC) (.int .i64 ((4 : Nat) : Int))).run Tryz.prog w = .ok (rowV (kdAt 4)) w := by kernel_rfl
set_option maxRecDepth 100000 in
theorem rows_index5 (w : World) : (Instr.index 224 (.agg rowsC) (.int .i64 ((5 : Nat) : Int))).run Tryz.prog w = .ok (rowV (kdAt 5)) w := by kernel_rfl
set_option maxRecDepth 100000 in
theorem rows_index6 (w : World) : (Instr.index 224 (.agg rowsC) (.int .i64 ((6 : Nat) : Int))).run Tryz.prog w = .ok (rowV (kdAt 6)) w := by kernel_rfl
set_option maxRecDepth 100000 in
theorem rows_index7 (w : World) : (Instr.index 224 (.agg rowsC) (.int .i64 ((7 : Nat) : Int))).run Tryz.prog w = .ok (rowV (kdAt 7)) w := by kernel_rfl
set_option maxRecDepth 100000 in
theorem rows_index8 (w : World) : (Instr.index 224 (.agg rowsC) (.int .i64 ((8 : Nat) : Int))).run Tryz.prog w = .ok (rowV (kdAt 8)) w := by kernel_rfl
set_option maxRecDepth 100000 in
theorem rows_index9 (w : World) : (Instr.index 224 (.agg rowsC) (.int .i64 ((9 : Nat) : Int))).run Tryz.prog w = .ok (rowV (kdAt 9)) w := by kernel_rfl
set_option maxRecDepth 100000 in
theorem rows_index10 (w : World) : (Instr.index 224 (.agg rowsC) (.int .i64 ((10 : Nat) : Int))).run Tryz.prog w = .ok (rowV (kdAt 10)) w := by kernel_rfl
set_option maxRecDepth 100000 in
theorem rows_index11 (w : World) : (Instr.index 224 (.agg rowsC) (.int .i64 ((11 : Nat) : Int))).run Tryz.prog w = .ok (rowV (kdAt 11)) w := by kernel_rfl
set_option maxRecDepth 100000 in
theorem rows_index12 (w : World) : (Instr.index 224 (.agg rowsC) (.int .i64 ((12 : Nat) : Int))).run Tryz.prog w = .ok (rowV (kdAt 12)) w := by kernel_rfl
set_option maxRecDepth 100000 in
theorem rows_index13 (w : World) : (Instr.index 224 (.agg rowsC) (.int .i64 ((13 : Nat) : Int))).run Tryz.prog w = .ok (rowV (kdAt 13)) w := by kernel_rfl
set_option maxRecDepth 100000 in
theorem rows_index14 (w : World) : (Instr.index 224 (.agg rowsC) (.int .i64 ((14 : Nat) : Int))).run Tryz.prog w = .ok (rowV (kdAt 14)) w := by kernel_rfl
set_option maxRecDepth 100000 in
theorem rows_index15 (w : World) : (Instr.index 224 (.agg rowsC) (.int .i64 ((15 : Nat) : Int))).run Tryz.prog w = .ok (rowV (kdAt 15)) w := by kernel_rfl
set_option maxRecDepth 100000 in
theorem rows_index16 (w : World) : (Instr.index 224 (.agg rowsC) (.int .i64 ((16 : Nat) : Int))).run Tryz.prog w = .ok (rowV (kdAt 16)) w := by kernel_rfl
set_option maxRecDepth 100000 in
theorem rows_index17 (w : World) : (Instr.index 224 (.agg rowsC) (.int .i64 ((17 : Nat) : Int))).run Tryz.prog w = .ok (rowV (kdAt 17)) w := by kernel_rfl
theorem rows_index (k : Nat) (hk : k < 18) (w : World) : (Instr.index 224 (.agg rowsC) (.int .i64 (k : Int))).run Tryz.prog w = .ok (rowV (kdAt k)) w := by
  have h : k = 0 ∨ k = 1 ∨ k = 2 ∨ k = 3 ∨ k = 4 ∨ k = 5 ∨ k = 6 ∨ k = 7 ∨ k = 8 ∨ k = 9 ∨ k = 10 ∨ k = 11 ∨ k = 12 ∨ k = 13 ∨ k = 14 ∨ k = 15 ∨ k = 16 ∨ k = 17 := by omega
  rcases h with rfl | rfl | rfl | rfl | rfl | rfl | rfl | rfl | rfl | rfl | rfl | rfl | rfl | rfl | rfl | rfl | rfl | rfl
  · exact rows_index0 w
  · exact rows_index1 w
  · exact rows_index2 w
  · exact rows_index3 w
  · exact rows_index4 w
  · exact rows_index5 w
  · exact rows_index6 w
  · exact rows_index7 w
  · exact rows_index8 w
  · exact rows_index9 w
  · exact rows_index10 w
  · exact rows_index11 w
  · exact rows_index12 w
  · exact rows_index13 w
  · exact rows_index14 w
  · exact rows_index15 w
  · exact rows_index16 w
  · exact rows_index17 w
theorem kinds_take (k : Nat) (h : k < 18) : kinds.take k ++ [kdAt k] = kinds.take (k + 1) := by
  rw [List.take_succ_eq_append_getElem (show k < kinds.length from h)]
  congr 2
  unfold kdAt
  rw [List.getD_eq_getElem?_getD, List.getElem?_eq_getElem (show k < kinds.length from h)]
  rfl
theorem kinds_take_len (k : Nat) (h : k ≤ 18) : (kinds.take k).length = k := by rw [List.length_take]; exact Nat.min_eq_left h
set_option maxRecDepth 100000 in
theorem rows1_in (F : Fence) (n : Nat) (hf : F.fn 99) (hro : F.round = none) (hn : 1 ≤ n) (l n₀ : Nat) (J Jx : List Kd → World → Prop)
    (hY : ∀ pre x W, J pre W → pre.length < 18 → YieldAt F (n - 1) Tryz.prog l #[rowV x] W fun e W' =>
      (e = .returned (.bool true) ∧ J (pre ++ [x]) W' ∧ Below n₀ W W') ∨ (e = .returned (.bool false) ∧ Jx (pre ++ [x]) W'))
    (W : World) (hJ : AbidesFrom W.heap.size J) (h0 : J [] W) :
    CallsIn F n Tryz.prog 99 #[.func (.yield l) #[] #[]] W fun e W' => (∃ v, e = .returned v) ∧
      ((∃ ys, ys = kinds ∧ J ys W') ∨ (∃ pre, pre <+: kinds ∧ Jx pre W')) := by
  refine callsIn_of_wp Tryz.func99 rfl hf ?_ hro
  simp only [Tryz.ntmps99, List.size_toArray, List.length_cons, List.length_nil, Nat.reduceAdd, Nat.reduceSub, Array.replicate_succ, Array.replicate_zero, List.push_toArray, List.append_toArray, List.nil_append, List.cons_append]
  repeat (first | apply wpIn_block | (apply wpIn_seq_k; intro _ _) | apply wpIn_region_lit)
  refine wpListIn_buildTo rfl 143 _ rfl (some 4) rfl (rowC kd0).toArray (by as_aux_lemma => kernel_rfl) ?_
  refine wpListIn_buildTo rfl 143 _ rfl (some 5) rfl (rowC kd1).toArray (by as_aux_lemma => kernel_rfl) ?_
  refine wpListIn_buildTo rfl 143 _ rfl (some 6) rfl (rowC kd2).toArray (by as_aux_lemma => kernel_rfl) ?_
  refine wpListIn_buildTo rfl 143 _ rfl (some 7) rfl (rowC kd3).toArray (by as_aux_lemma => kernel_rfl) ?_
  refine wpListIn_buildTo rfl 143 _ rfl (some 8) rfl (rowC kd4).toArray (by as_aux_lemma => kernel_rfl) ?_
  refine wpListIn_buildTo rfl 143 _ rfl (some 9) rfl (rowC kd5).toArray (by as_aux_lemma => kernel_rfl) ?_
  refine wpListIn_buildTo rfl 143 _ rfl (some 10) rfl (rowC kd6).toArray (by as_aux_lemma => kernel_rfl) ?_
  refine wpListIn_buildTo rfl 143 _ rfl (some 11) rfl (rowC kd7).toArray (by as_aux_lemma => kernel_rfl) ?_
  refine wpListIn_buildTo rfl 143 _ rfl (some 12) rfl (rowC kd8).toArray (by as_aux_lemma => kernel_rfl) ?_
  refine wpListIn_buildTo rfl 143 _ rfl (some 13) rfl (rowC kd9).toArray (by as_aux_lemma => kernel_rfl) ?_
  refine wpListIn_buildTo rfl 143 _ rfl (some 14) rfl (rowC kd10).toArray (by as_aux_lemma => kernel_rfl) ?_
  refine wpListIn_buildTo rfl 143 _ rfl (some 15) rfl (rowC kd11).toArray (by as_aux_lemma => kernel_rfl) ?_
  refine wpListIn_buildTo rfl 143 _ rfl (some 16) rfl (rowC kd12).toArray (by as_aux_lemma => kernel_rfl) ?_
  refine wpListIn_buildTo rfl 143 _ rfl (some 17) rfl (rowC kd13).toArray (by as_aux_lemma => kernel_rfl) ?_
  refine wpListIn_buildTo rfl 143 _ rfl (some 18) rfl (rowC kd14).toArray (by as_aux_lemma => kernel_rfl) ?_
  refine wpListIn_buildTo rfl 143 _ rfl (some 19) rfl (rowC kd15).toArray (by as_aux_lemma => kernel_rfl) ?_
  refine wpListIn_buildTo rfl 143 _ rfl (some 20) rfl (rowC kd16).toArray (by as_aux_lemma => kernel_rfl) ?_
  refine wpListIn_buildTo rfl 143 _ rfl (some 21) rfl (rowC kd17).toArray (by as_aux_lemma => kernel_rfl) ?_
  refine wpListIn_buildTo rfl 224 _ rfl (some 22) rfl rowsC (by as_aux_lemma => kernel_rfl) ?_
  gi_wp2
  have hidx := rows_index
  obtain ⟨RC, hRC⟩ : ∃ RC, Value.agg rowsC = RC := ⟨_, rfl⟩
  rw [hRC] at hidx ⊢
  clear hRC
  gi_loopw [23] (fun p wr => ∃ k : Nat, k ≤ 18 ∧ p = .int .i64 k ∧ W.heap.size ≤ wr.heap.size ∧ J (kinds.take k) wr) (fun p _ => 18 - (intOf p).toNat)
  case atStart => exact ⟨0, by omega, rfl, Nat.le_refl _, h0⟩
  case round =>
    obtain ⟨k, hk, rfl, hsz, hJs⟩ := hrel
    by_cases hlt : k < 18
    · obtain ⟨x, hx⟩ : ∃ x, kdAt k = x := ⟨_, rfl⟩
      have hi := hidx k hlt
      rw [hx] at hi
      unfold rowV rowC at hi
      have hJ2 : J (kinds.take k) (wr.alloc (.cells #[.int .i64 (x.op : Int), .string (S x.nm), .int .i64 (x.fl : Int), .string (S x.tx)] 143)) := hJ _ _ _ none hJs (World.grownBy_alloc _ _ none) (fun r e => by cases e)
      obtain ⟨fn, tmps, assign, body, hy, hR⟩ := hY (kinds.take k) x _ hJ2 (by rw [kinds_take_len k hk]; exact hlt)
      unfold rowV rowC at hy
      clear hidx hY
      have htk := Lib.hid (show kinds.take k ++ [x] = kinds.take (k + 1) by rw [← hx]; exact kinds_take k hlt)
      gi_wp2
      refine hR.mono ?_
      clear hR hy
      rintro e W3 (⟨rfl, hJ3, hk3⟩ | ⟨rfl, hJx3⟩)
      · gi_wp2
        go_roundw
        case rel => exact ⟨k + 1, by omega, by go_num, by have := hk3.size; simp at this; omega, by have h3 := hJ3; rw [htk.out] at h3; exact h3⟩
        case measure => simp [intOf]; omega
      · gi_wp2
        refine bodyPost_ret (results_none rfl _ _ _) rfl ?_
        exact ⟨⟨_, rfl⟩, .inr ⟨kinds.take (k + 1), List.take_prefix _ _, by rw [htk.out] at hJx3; exact hJx3⟩⟩
    · have hk18 : k = 18 := by omega
      gi_wp2
      go_end0
      exact ⟨⟨_, rfl⟩, .inl ⟨kinds, rfl, by rw [hk18] at hJs; exact hJs⟩⟩
theorem rows_stops (F : Fence) (n : Nat) (hf : F.fn 99) (hro : F.round = none) (hn : 1 ≤ n) (n₀ : Nat) (w : World) :
    SeqStopsK F n Tryz.prog 99 #[] (fun x : Kd => #[rowV x]) (Below n₀) (fun ys => ys = kinds) (fun pre => pre <+: kinds) 18 w := fun l J Jx W _ hJ _ hY h0 =>
  rows1_in F n hf hro hn l n₀ J Jx hY W hJ h0
end Go.Proofs.YtlkikkfbennmnaaGreatDoor
namespace Go.Proofs.YtlkikkfbennmnaaGreatDoor
open Go.RowKit Go.Shelf
attribute [local go_sem] Oper.semAt_some
def zeroC : Array Value := #[.int .i64 0, .string (S []), .int .i64 0, .string (S [])]
def findV (op : Int) : Value := match kindOf op with
  | some k => .tuple #[.agg (rowC k).toArray, .nilIface]
  | none => .tuple #[.agg zeroC, .iface 51 (.int .i64 1)]
theorem row_stored {w W : World} {N b : Nat} {o0 o1 o2 o3 oe : Value} {t te : TypeId} (x0 x1 x2 x3 e : Value) (hR : Blk W b #[o0, o1, o2, o3] t) (hE : Blk W (b + 1) #[oe] te) (hb : N ≤ b) (hB : Below N w W) :
    Blk (((((W.setCell ⟨b, 0, none⟩ x0).setCell ⟨b, 1, none⟩ x1).setCell ⟨b, 2, none⟩ x2).setCell ⟨b, 3, none⟩ x3).setCell ⟨b + 1, 0, none⟩ e) b #[x0, x1, x2, x3] t ∧
    Blk (((((W.setCell ⟨b, 0, none⟩ x0).setCell ⟨b, 1, none⟩ x1).setCell ⟨b, 2, none⟩ x2).setCell ⟨b, 3, none⟩ x3).setCell ⟨b + 1, 0, none⟩ e) (b + 1) #[e] te ∧
    Below N w (((((W.setCell ⟨b, 0, none⟩ x0).setCell ⟨b, 1, none⟩ x1).setCell ⟨b, 2, none⟩ x2).setCell ⟨b, 3, none⟩ x3).setCell ⟨b + 1, 0, none⟩ e) ∧
    KeepsOthers W (((((W.setCell ⟨b, 0, none⟩ x0).setCell ⟨b, 1, none⟩ x1).setCell ⟨b, 2, none⟩ x2).setCell ⟨b, 3, none⟩ x3).setCell ⟨b + 1, 0, none⟩ e) := by
  refine ⟨?_, ?_, ?_, ?_⟩
  · exact ((((hR.set 0 x0).set 1 x1).set 2 x2).set 3 x3).other (by omega) e
  · exact ((((hE.other (by omega) x0).other (by omega) x1).other (by omega) x2).other (by omega) x3).set 0 e
  · exact ((((hB.setCell (p := ⟨b, 0, none⟩) hb _).setCell (p := ⟨b, 1, none⟩) hb _).setCell (p := ⟨b, 2, none⟩) hb _).setCell (p := ⟨b, 3, none⟩) hb _).setCell (p := ⟨b + 1, 0, none⟩) (by show N ≤ b + 1; omega) _
  · exact ((((KeepsOthers.setCell _ _ _).trans (KeepsOthers.setCell _ _ _)).trans (KeepsOthers.setCell _ _ _)).trans (KeepsOthers.setCell _ _ _)).trans (KeepsOthers.setCell _ _ _)
theorem kindOf_prefix {op : Int} {q : List Kd} {k : Kd} (hp : q ++ [k] <+: kinds) (hq : ∀ k ∈ q, (k.op : Int) ≠ op) (hk : (k.op : Int) = op) : kindOf op = some k := by
  obtain ⟨r, hr⟩ := hp
  unfold kindOf
  rw [← hr, List.append_assoc, List.find?_append, List.find?_eq_none.2 (fun x hx => by simpa using hq x hx)]
  simp [hk]
theorem kindOf_none {op : Int} (hq : ∀ k ∈ kinds, (k.op : Int) ≠ op) : kindOf op = none := by
  unfold kindOf
  exact List.find?_eq_none.2 (fun x hx => by simpa using hq x hx)
set_option maxRecDepth 100000 in
set_option maxHeartbeats 1000000 in
theorem find_in (F : Fence) (n : Nat) (hf : F.fn 70) (hr : F.fn 99) (hro : F.round = none) (hn : 6 ≤ n) (op : Int) (w : World) :
    CallsIn F n Tryz.prog 70 #[.int .i64 op] w fun e W' => e = .returned (findV op) ∧ Below w.heap.size w W' := by
  have h1 : 1 ≤ n := by omega
  refine callsIn_of_wp_marks Tryz.func70 rfl hf ?_ hro
  simp only [Tryz.ntmps70, List.size_toArray, List.length_cons, List.length_nil, Nat.reduceAdd, Nat.reduceSub, Array.replicate_succ, Array.replicate_zero, List.push_toArray, List.append_toArray, List.nil_append, List.cons_append]
  gi_wp2
  have bO := ((Blk.new w #[.int .i64 op] 3).alloc (.cells #[.int .i64 0, .string (S []), .int .i64 0, .string (S [])] 143)).alloc (.cells #[.nilIface] 30)
  have bR := (Blk.new (w.alloc (.cells #[.int .i64 op] 3)) #[.int .i64 0, .string (S []), .int .i64 0, .string (S [])] 143).alloc (.cells #[.nilIface] 30)
  have bE := Blk.new ((w.alloc (.cells #[.int .i64 op] 3)).alloc (.cells #[.int .i64 0, .string (S []), .int .i64 0, .string (S [])] 143)) #[.nilIface] 30
  simp only [World.size_alloc] at bR bE
  have hB0 : Below w.heap.size w (((w.alloc (.cells #[.int .i64 op] 3)).alloc (.cells #[.int .i64 0, .string (S []), .int .i64 0, .string (S [])] 143)).alloc (.cells #[.nilIface] 30)) := (((Below.refl _ w).alloc (Nat.le_refl _) _).alloc (by simp) _).alloc (by simp; omega) _
  have hsz : (((w.alloc (.cells #[.int .i64 op] 3)).alloc (.cells #[.int .i64 0, .string (S []), .int .i64 0, .string (S [])] 143)).alloc (.cells #[.nilIface] 30)).heap.size = w.heap.size + 3 := by simp
  obtain ⟨W0, hW0⟩ : ∃ W0, ((w.alloc (.cells #[.int .i64 op] 3)).alloc (.cells #[.int .i64 0, .string (S []), .int .i64 0, .string (S [])] 143)).alloc (.cells #[.nilIface] 30) = W0 := ⟨_, rfl⟩
  rw [hW0] at bO bR bE hB0 hsz ⊢
  clear hW0
  refine wpIn_rangeFunc_ownH hro h1 (gf := 99) (lb := #[]) rfl hr (enters_of Tryz.func99 (by kernel_rfl) rfl)
    (rows_stops F (n - 1) hr hro (by omega) w.heap.size W0) belowK_t (belowK_b (by omega)) (Below.refl _ _) (fun _ => rfl)
    (fun pre W => ((Blk W w.heap.size #[.int .i64 op] 3 ∧ Blk W (w.heap.size + 1) #[.int .i64 0, .string (S []), .int .i64 0, .string (S [])] 143 ∧ Blk W (w.heap.size + 1 + 1) #[.nilIface] 30) ∧ (∀ k ∈ pre, (k.op : Int) ≠ op)) ∧ Below w.heap.size w W)
    (fun c pre W => (c = .ret ∧ ∃ q k, pre = q ++ [k] ∧ (∀ k ∈ q, (k.op : Int) ≠ op) ∧ (k.op : Int) = op ∧ Blk W (w.heap.size + 1) (rowC k).toArray 143 ∧ Blk W (w.heap.size + 1 + 1) #[.nilIface] 30) ∧ Below w.heap.size w W)
    (OwnFrom.and (OwnFrom.and (OwnFrom.and (Own.from (Blk.own _ _ _) _) (OwnFrom.and (Own.from (Blk.own _ _ _) _) (Own.from (Blk.own _ _ _) _))) (Own.from (own_const _) _)) (ownFrom_below (Nat.le_refl _) (by omega)))
    (fun c => OwnFrom.and (Own.from (fun s X Y row hs hg hr => by
      obtain ⟨hc, q, k, h1, h2, h3, h4, h5⟩ := hs
      exact ⟨hc, q, k, h1, h2, h3, Blk.own _ (fun _ : Unit => _) _ () X Y row h4 hg hr, Blk.own _ (fun _ : Unit => _) _ () X Y row h5 hg hr⟩) _) (ownFrom_below (Nat.le_refl _) (by omega)))
    ⟨⟨⟨bO, bR, bE⟩, fun k hk => by cases hk⟩, hB0⟩
    (fun x a' W => ∃ Bx, w.heap.size + 2 < Bx ∧ Blk W Bx (rowC x).toArray 143 ∧ a' = { tmps := #[.int .i64 op, .pointer (some ⟨w.heap.size, 0, none⟩), .pointer (some ⟨w.heap.size + 1, 0, none⟩), .pointer (some ⟨w.heap.size + 1 + 1, 0, none⟩), .pointer (some ⟨Bx, 0, none⟩), rowV x, undef, undef, undef, undef, undef, undef, undef], defers := [] })
    (fun x a' _ X Y row hs hg hr => by obtain ⟨Bx, h1, h2, h3⟩ := hs; exact ⟨Bx, h1, Blk.own Bx (fun _ : Unit => _) _ () X Y row h2 hg (fun r e => (hr r e).2), h3⟩)
    ?assign ?body ?done ?stop
  case assign =>
    rintro l pre x W K ⟨⟨⟨bO1, bR1, bE1⟩, hpre⟩, hB1⟩ hK
    unfold rowV rowC at *
    gi_wp2
    exact hK _ _ ((KeepsOthers.alloc _ _).from _) ((Below.refl _ W).alloc hB1.size _) ⟨⟨⟨bO1.alloc _, bR1.alloc _, bE1.alloc _⟩, hpre⟩, hB1.alloc hB1.size _⟩ ⟨W.heap.size, bE1.lt, Blk.new W _ _, rfl⟩
  case body =>
    rintro l pre x a' W hl ⟨r, hr⟩ ⟨⟨⟨bO1, bR1, bE1⟩, hpre⟩, hB1⟩ ⟨Bx, hBx, bX, rfl⟩ hlt
    obtain ⟨c0, c1, c2, c3⟩ := bR1.four
    have f0 := bR1.frozen 0
    have f1 := bR1.frozen 1
    have f2 := bR1.frozen 2
    have f3 := bR1.frozen 3
    have ce := bE1.one
    have fe := bE1.frozen 0
    have co := bO1.one
    unfold rowC at bX
    obtain ⟨x0, x1, x2, x3⟩ := bX.four
    by_cases hx : (x.op : Int) = op
    · have hx' : ((x.op : Int) == op) = true := by simpa using hx
      have Hx := Lib.hid hx
      clear hx
      gi_wp2
      obtain ⟨g1, g2, g3, g4⟩ := row_stored (.int .i64 (x.op : Int)) (.string (S x.nm)) (.int .i64 (x.fl : Int)) (.string (S x.tx)) .nilIface bR1 bE1 (Nat.le_succ _) hB1
      exact ⟨g4.from _, ⟨rfl, pre, x, rfl, hpre, Hx.out, g1, g2⟩, g3⟩
    · have hx' : ((x.op : Int) == op) = false := by simpa using hx
      gi_wp2
      exact ⟨KeepsFrom.refl _ _, Below.refl _ _, ⟨⟨bO1, bR1, bE1⟩, fun k hk => by
        rcases List.mem_append.1 hk with h | h
        · exact hpre k h
        · rw [List.mem_singleton.1 h]; exact hx⟩, hB1⟩
  case done =>
    rintro D xs W hD rfl ⟨⟨⟨bO1, bR1, bE1⟩, hpre⟩, hB1⟩ hK
    obtain ⟨c0, c1, c2, c3⟩ := bR1.four
    have f0 := bR1.frozen 0
    have f1 := bR1.frozen 1
    have f2 := bR1.frozen 2
    have f3 := bR1.frozen 3
    have ce := bE1.one
    have fe := bE1.frozen 0
    gi_wp2
    obtain ⟨g1, g2, g3, g4⟩ := row_stored (.int .i64 0) (.string (S [])) (.int .i64 0) (.string (S [])) (.iface 51 (.int .i64 1)) bR1 bE1 (Nat.le_succ _) hB1
    have hK' := g4.same D _ hK rfl
    refine ⟨by simp, .inl ⟨_, _, rfl, run_takeDeferred hK', ?_⟩⟩
    have e1 : w.heap.size + 1 ≠ D := by omega
    have e2 : w.heap.size + 1 + 1 ≠ D := by omega
    have hB2 := g3.trans (belowK_b (w := w) (Nat.le_refl _) _ D _ (.deferred none) (by omega) hK' rfl rfl)
    have g1' := g1.put (.deferred none) e1
    have g2' := g2.put (.deferred none) e2
    obtain ⟨q0, q1, q2, q3⟩ := g1'.four
    have qe := g2'.one
    refine ⟨findV op, ?_, rfl, hB2⟩
    unfold findV
    rw [kindOf_none hpre]
    clear g1 g2 g3 g4 hK' g1' g2' hB2 c0 c1 c2 c3 f0 f1 f2 f3 ce fe
    simp [results, Tryz.results70, go_sem, q0, q1, q2, q3, qe, zeroC]
  case stop =>
    rintro D c pre W hD hp ⟨⟨rfl, q, k, rfl, hq, hk, bR1, bE1⟩, hB1⟩ hK
    gi_wp2
    refine ⟨by simp, .inl ⟨_, _, rfl, run_takeDeferred hK, ?_⟩⟩
    have e1 : w.heap.size + 1 ≠ D := by omega
    have e2 : w.heap.size + 1 + 1 ≠ D := by omega
    have hB2 := hB1.trans (belowK_b (w := w) (Nat.le_refl _) _ D _ (.deferred none) (by omega) hK rfl rfl)
    unfold rowC at bR1
    have g1' := bR1.put (.deferred none) e1
    have g2' := bE1.put (.deferred none) e2
    obtain ⟨q0, q1, q2, q3⟩ := g1'.four
    have qe := g2'.one
    refine ⟨findV op, ?_, rfl, hB2⟩
    unfold findV
    rw [kindOf_prefix hp hq hk]
    clear g1' g2' hB2 hq hp hk
    simp [results, Tryz.results70, go_sem, q0, q1, q2, q3, qe, rowC]
theorem find_any (op : Int) (w : World) : Calls Tryz.prog 70 #[.int .i64 op] w fun e W' => e = .returned (findV op) ∧ Below w.heap.size w W' :=
  (callsIn_wide (n := 6)).1 (find_in _ 6 trivial trivial rfl (Nat.le_refl _) op w)
end Go.Proofs.YtlkikkfbennmnaaGreatDoor
namespace Go.Proofs.YtlkikkfbennmnaaGreatDoor
open Go.RowKit
/-- the cell of internal/bytealg.MaxLen -/
def MaxCell (w : World) : Prop := ∃ m : Int, w.cell? ⟨1, 0, none⟩ = some (.int .i64 m)
theorem MaxCell.later {w w' : World} (h : MaxCell w) (hb : Below w.heap.size w w') : MaxCell w' := by
  obtain ⟨m, hm⟩ := h
  exact ⟨m, by rw [(bcell hb).1 _ 0 (block_lt_of_cell (w := w) (a := ⟨_, 0, none⟩) hm)]; exact hm⟩
theorem number_any (l : List UInt8) (n : Int) (w : World) (hl : l.length ≤ 18) (h : Lib.atoi l = some n) :
    Calls Tryz.prog 102 #[.string (S l)] w fun e w' => e = .returned (.int .i64 n) ∧ Below w.heap.size w w' := by
  have C := Lib.hid (Tryz.strconv_Atoi (S l) n (by rw [S_size]; exact hl) (by simpa [S] using h) w)
  clear h
  go_enter Tryz.func102, Tryz.ntmps102
  go_wp2_with fail
  refine C.out.mono ?_
  rintro e w' ⟨rfl, t, rfl⟩
  have hb := Lib.bytesWorld_below w 5 t
  have Hb := Lib.hid hb
  clear hb
  go_wp2_with fail
  go_ret
  exact ⟨rfl, Hb.out⟩
theorem cut_any (l : List UInt8) (a b : List UInt8) (w : World) (hl : l.length < 1000) (h : Lib.cut l [32] = (a, b, true)) (hm : MaxCell w) :
    Calls Tryz.prog 101 #[.string (S l), .string (S [32])] w fun e w' => e = .returned (.tuple #[.string (S a), .string (S b), .bool true]) ∧ ∃ n, w' = w.drewN n := by
  obtain ⟨m, hm⟩ := hm
  have C := Tryz.strings_Cut (S l) (S [32]) m w (by rw [S_size]; omega) hm
  have e1 : (S l).data.toList = l := by simp [S]
  have e2 : (S [32]).data.toList = [32] := by simp [S]
  rw [e1, e2, h] at C
  exact C
/-- a block of fields -/
def Flds (W : World) (b : Nat) (fs : List Fd) : Prop := Blk W b (cellsF fs) 149
theorem Flds.get {W : World} {b : Nat} {fs : List Fd} (h : Flds W b fs) (j : Nat) (hj : j < fs.length) :
    W.cell? ⟨b, j * 3, none⟩ = some (.string (S fs[j].nm)) ∧ W.cell? ⟨b, j * 3 + 1, none⟩ = some (.int .i64 (fs[j].pos : Int)) ∧ W.cell? ⟨b, j * 3 + 2, none⟩ = some (.int .i64 (fs[j].sz : Int)) :=
  ⟨(Blk.cell h _).trans (cellsF_get fs j hj 0 (by decide)), (Blk.cell h _).trans (cellsF_get fs j hj 1 (by decide)), (Blk.cell h _).trans (cellsF_get fs j hj 2 (by decide))⟩
def RetFields (w : World) (fs : List Fd) (e : Ending) (w' : World) : Prop :=
  ∃ b, e = .returned (.slice (some ⟨b, 0, none⟩) fs.length fs.length) ∧ w.heap.size ≤ b ∧ Flds w' b fs ∧ Below w.heap.size w w'
theorem run_make_F (w : World) (n : Nat) (hn : n ≤ 100) : (Instr.makeSlice 146 (.int .i64 (n : Int)) (.int .i64 (n : Int))).run Tryz.prog w = .ok (.slice (some ⟨w.heap.size, 0, none⟩) n n) (w.alloc (.cells (cellsF (List.replicate n fd0)) 149)) := by
  obtain ⟨i, hi, hz, hs, hb⟩ := info_parts (show (Tryz.prog.info? 149).map (fun i => (i.zero, i.size, i.bytes)) = some (some (.agg #[.string (S []), .int .i64 0, .int .i64 0]), 3, 32) by kernel_rfl)
  have h := run_make (P := Tryz.prog) w 146 149 i _ Tryz.underlying146 hi hz .i64 .i64 n n (by omega) (Int.le_refl _) (by rw [hb]; omega) (by omega)
  simp only [Int.toNat_natCast, hs] at h
  rw [show (Value.agg #[Value.string (S []), Value.int IntKind.i64 0, Value.int IntKind.i64 0]).cells = #[Value.string (S []), Value.int IntKind.i64 0, Value.int IntKind.i64 0] from rfl, madeCells_F] at h
  exact h
/-- a block of strings -/
def Strs (W : World) (b : Nat) (l : List (List UInt8)) : Prop := ∀ j (hj : j < l.length), W.cell? ⟨b, j, none⟩ = some (.string (S l[j]))
theorem Strs.later {w w' : World} {b : Nat} {l : List (List UInt8)} (h : Strs w b l) (hb : Below w.heap.size w w') : Strs w' b l := fun j hj => by
  rw [(bcell hb).1 b j (block_lt_of_cell (w := w) (a := ⟨b, j, none⟩) (h j hj))]; exact h j hj
theorem split_any (k : Kd) (hk : k ∈ kinds) (w : World) (hm : MaxCell w) :
    Calls Tryz.prog 100 #[.string (S k.tx), .string (S [44, 32])] w fun e w' => ∃ b, e = .returned (.slice (some ⟨b, 0, none⟩) k.fs.length k.fs.length) ∧ w.heap.size ≤ b ∧ Strs w' b (k.fs.map fieldT) ∧ Below w.heap.size w w' := by
  have hs := spelt_of hk
  obtain ⟨m, hm2⟩ := hm
  have C := Tryz.strings_Split (S k.tx) (S [44, 32]) m _ (by rw [S_size]; have := hs.len; omega) hm2 (by rw [S_size]; decide)
  rw [countB_of hs, splitB_of hs] at C
  refine C.mono ?_
  rintro e w' ⟨rfl, rfl⟩
  refine ⟨_, rfl, Nat.le_refl _, fun j hj => ?_, (Below.refl _ _).alloc (Nat.le_refl _) _⟩
  rw [World.cell?_alloc_mark]
  simp only [List.map_map, List.getElem?_toArray, List.getElem?_map]
  rw [List.getElem?_eq_getElem (by simpa using hj)]
  simp
theorem row_keep {w W : World} {N b : Nat} {C : Array Value} {t : TypeId} (i : Nat) (x0 x1 x2 : Value) (hR : Blk W b C t) (hb : N ≤ b) (hB : Below N w W) :
    Blk (((W.setCell ⟨b, i, none⟩ x0).setCell ⟨b, i + 1, none⟩ x1).setCell ⟨b, i + 2, none⟩ x2) b (((C.setIfInBounds i x0).setIfInBounds (i + 1) x1).setIfInBounds (i + 2) x2) t ∧
    Below N w (((W.setCell ⟨b, i, none⟩ x0).setCell ⟨b, i + 1, none⟩ x1).setCell ⟨b, i + 2, none⟩ x2) :=
  ⟨((hR.set i x0).set (i + 1) x1).set (i + 2) x2, ((hB.setCell (p := ⟨b, i, none⟩) hb _).setCell (p := ⟨b, i + 1, none⟩) hb _).setCell (p := ⟨b, i + 2, none⟩) hb _⟩
set_option maxRecDepth 100000 in
theorem list_any (k : Kd) (hk : k ∈ kinds) (hlen : 1 ≤ k.fs.length ∧ k.fs.length ≤ 10) (w : World) (hm : MaxCell w) :
    Calls Tryz.prog 71 #[.agg #[.int .i64 (k.op : Int), .string (S k.nm), .int .i64 (k.fl : Int), .string (S k.tx)]] w (RetFields w k.fs) := by
  have hs := spelt_of hk
  have hmk := fun w => run_make_F w k.fs.length (by omega)
  have hb0 := (Below.refl w.heap.size w).alloc (Nat.le_refl _) (.cells #[.int .i64 (k.op : Int), .string (S k.nm), .int .i64 (k.fl : Int), .string (S k.tx)] 143)
  have C := Lib.hid (split_any k hk _ (hm.later hb0))
  have Hb0 := Lib.hid hb0
  have Hm := Lib.hid hm
  clear hb0 hm
  go_enter Tryz.func71, Tryz.ntmps71
  go_wp2_with fail
  refine C.out.mono ?_
  rintro e w1 ⟨b, rfl, hlb, hst, hb1⟩
  have Hst := Lib.hid hst
  have Hb1 := Lib.hid (below_then Hb0.out hb1)
  have hlt1 : b < w1.heap.size := block_lt_of_cell (w := w1) (a := ⟨b, 0, none⟩) (hst 0 (by rw [List.length_map]; omega))
  clear C hst hb1
  go_wp2_with fail
  go_loopw [21] (fun i wr => ∃ j : Nat, j ≤ k.fs.length ∧ i = .int .i64 j ∧ Blk wr w1.heap.size (cellsF (rowsF k.fs j)) 149 ∧ Below w1.heap.size w1 wr) (fun i _ => k.fs.length - (intOf i).toNat)
  case atStart => exact ⟨0, by omega, rfl, by rw [rowsF_0]; exact Blk.new _ _ _, (Below.refl _ _).alloc (Nat.le_refl _) _⟩
  case round =>
    obtain ⟨j, hj, rfl, hB, hbw⟩ := hrel
    have HB := Lib.hid hB
    have Hbw := Lib.hid hbw
    by_cases hlt : j < k.fs.length
    · obtain ⟨f, hf⟩ : ∃ f, k.fs[j] = f := ⟨_, rfl⟩
      obtain ⟨s1, s2, s3, s4, s5⟩ := hs.fld f (by rw [← hf]; exact List.getElem_mem _)
      have hc : wr.cell? ⟨b, j, none⟩ = some (.string (S (fieldT f))) := by
        have := (Hst.out.later hbw) j (by rw [List.length_map]; exact hlt)
        rw [this, List.getElem_map, hf]
      have hm1 := (Hm.out.later Hb1.out).later hbw
      have HM := Lib.hid hm1
      have C1 := fun n => Lib.hid (cut_any (fieldT f) f.nm (numT f) (wr.drewN n) (by omega) s1 hm1)
      have C2 := fun n => Lib.hid (cut_any (numT f) (dec2 f.pos) (dec2 f.sz) (wr.drewN n) (by unfold fieldT at s5; simp at s5; omega) s2 hm1)
      have d1 := dec2_len f.pos
      have d2 := dec2_len f.sz
      have N1 := fun w => Lib.hid (number_any (dec2 f.pos) f.pos w (by omega) s3)
      have N2 := fun w => Lib.hid (number_any (dec2 f.sz) f.sz w (by omega) s4)
      have Hf := Lib.hid hf
      clear hm1 hB hbw s1 s2 s3 s4 hf
      go_wp2_with fail
      refine (C1 0).out.mono ?_
      rintro e w2 ⟨rfl, n2, rfl⟩
      go_wp2_with fail
      refine (C2 _).out.mono ?_
      rintro e w3 ⟨rfl, n3, rfl⟩
      go_wp2_with fail
      refine (N1 _).out.mono ?_
      rintro e w4 ⟨rfl, hb4⟩
      have Hb4 := Lib.hid hb4
      clear hb4
      go_wp2_with fail
      refine (N2 _).out.mono ?_
      rintro e w5 ⟨rfl, hb5⟩
      have Hb5 := Lib.hid hb5
      clear hb5
      clear C1 C2 N1 N2
      have hW5 : Below (wr.drewN (n2 + n3)).heap.size (wr.drewN (n2 + n3)) w5 := below_then Hb4.out Hb5.out
      have hsz5 : wr.heap.size ≤ w5.heap.size := hW5.size
      have B5 : Blk w5 w1.heap.size (cellsF (rowsF k.fs j)) 149 := (HB.out.drewN (n2 + n3)).later hW5
      have hjl : j < (rowsF k.fs j).length := by rw [rowsF_len k.fs j hj]; exact hlt
      obtain ⟨q0, q1, q2⟩ := Flds.get B5 j hjl
      have f0 := B5.frozen (j * 3)
      have f1 := B5.frozen (j * 3 + 1)
      have f2 := B5.frozen (j * 3 + 2)
      have hB5 : Below w1.heap.size w1 w5 := (below_drewN Hbw.out (n2 + n3)).trans (hW5.mono Hbw.out.size)
      obtain ⟨g1, g2⟩ := row_keep (j * 3) (.string (S f.nm)) (.int .i64 (f.pos : Int)) (.int .i64 (f.sz : Int)) B5 (Nat.le_refl _) hB5
      rw [cellsF_set _ j hjl] at g1
      have hst := rowsF_step k.fs j hlt
      rw [Hf.out] at hst
      rw [hst] at g1
      have G1 := Lib.hid g1
      have G2 := Lib.hid g2
      clear g1 g2 hst B5 hW5 hB5 Hb4 Hb5
      go_wp2_with fail
      go_roundw
      case rel => exact ⟨j + 1, by omega, by go_num, G1.out, G2.out⟩
      case measure => simp [intOf]; omega
    · have hjn : j = k.fs.length := by omega
      subst hjn
      go_wp2_with fail
      go_ret
      have h1 := HB.out
      rw [rowsF_all] at h1
      exact ⟨_, rfl, Hb1.out.size, h1, below_then Hb1.out Hbw.out⟩
end Go.Proofs.YtlkikkfbennmnaaGreatDoor
namespace Go.Proofs.YtlkikkfbennmnaaGreatDoor
open Go.RowKit
theorem find_none {op : Int} (h : kindOf op = none) (w : World) : Calls Tryz.prog 70 #[.int .i64 op] w fun e W' => e = .returned (.tuple #[.agg #[.int .i64 0, .string (S []), .int .i64 0, .string (S [])], .iface 51 (.int .i64 1)]) ∧ Below w.heap.size w W' :=
  (find_any op w).mono fun e W' ⟨he, hb⟩ => ⟨by rw [he]; unfold findV; rw [h]; rfl, hb⟩
theorem find_some {op : Int} {k : Kd} (h : kindOf op = some k) (w : World) : Calls Tryz.prog 70 #[.int .i64 op] w fun e W' => e = .returned (.tuple #[.agg #[.int .i64 (k.op : Int), .string (S k.nm), .int .i64 (k.fl : Int), .string (S k.tx)], .nilIface]) ∧ Below w.heap.size w W' :=
  (find_any op w).mono fun e W' ⟨he, hb⟩ => ⟨by rw [he]; unfold findV; rw [h]; rfl, hb⟩
theorem fields_none {op : Int} (h : kindOf op = none) (w : World) : Calls Tryz.prog 73 #[.int .i64 op] w fun e W' => e = .returned (.tuple #[.slice none 0 0, .iface 51 (.int .i64 1)]) ∧ Below w.heap.size w W' := by
  have C := Lib.hid (find_none h w)
  clear h
  go_enter Tryz.func73, Tryz.ntmps73
  go_wp2_with fail
  refine C.out.mono ?_
  rintro e w' ⟨rfl, hb⟩
  have Hb := Lib.hid hb
  clear hb
  go_wp2_with fail
  go_ret2
  exact ⟨rfl, Hb.out.alloc Hb.out.size _⟩
def RetFieldsE (w : World) (fs : List Fd) (e : Ending) (w' : World) : Prop :=
  ∃ b, e = .returned (.tuple #[.slice (some ⟨b, 0, none⟩) fs.length fs.length, .nilIface]) ∧ w.heap.size ≤ b ∧ Flds w' b fs ∧ Below w.heap.size w w'
theorem kind_list {op : Int} {k : Kd} (h : kindOf op = some k) (w : World) (hm : MaxCell w) :
    Calls Tryz.prog 71 #[.agg #[.int .i64 (k.op : Int), .string (S k.nm), .int .i64 (k.fl : Int), .string (S k.tx)]] w (RetFields w k.fs) :=
  list_any k (kindOf_mem h).1 ⟨(kindFacts h).len0, (kindFacts h).len⟩ w hm
theorem fields_some {op : Int} {k : Kd} (h : kindOf op = some k) (w : World) (hm : MaxCell w) : Calls Tryz.prog 73 #[.int .i64 op] w (RetFieldsE w k.fs) := by
  have C := Lib.hid (find_some h w)
  have L := fun w hm => Lib.hid (kind_list h w hm)
  have Hm := Lib.hid hm
  clear h hm
  go_enter Tryz.func73, Tryz.ntmps73
  go_wp2_with fail
  refine C.out.mono ?_
  rintro e w' ⟨rfl, hb⟩
  have hb2 := hb.alloc hb.size (.cells #[.int .i64 (k.op : Int), .string (S k.nm), .int .i64 (k.fl : Int), .string (S k.tx)] 143)
  have L2 := Lib.hid (L _ (Hm.out.later hb2)).out
  have Hb2 := Lib.hid hb2
  clear hb hb2 L
  go_wp2_with fail
  refine L2.out.mono ?_
  rintro e w2 ⟨b, rfl, hlb, hF, hb3⟩
  have HF := Lib.hid hF
  have Hb3 := Lib.hid (below_then Hb2.out hb3)
  have hle : w.heap.size ≤ b := Nat.le_trans Hb2.out.size hlb
  clear hF hb3
  go_wp2_with fail
  go_ret2
  exact ⟨b, rfl, hle, HF.out, Hb3.out⟩
end Go.Proofs.YtlkikkfbennmnaaGreatDoor
namespace Go.Proofs.YtlkikkfbennmnaaGreatDoor
open Go.RowKit
theorem wrap_i64_zero (n : Nat) (hn : n < 2 ^ 64) : IntKind.i64.wrap (n : Int) = 0 ↔ n = 0 := by
  have e : (2 : Int) ^ IntKind.i64.bits = 18446744073709551616 := by decide
  have s : IntKind.i64.signed = true := rfl
  have h2 : (2 : Nat) ^ 64 = 18446744073709551616 := by decide
  rw [h2] at hn
  have e2 : (2 : Int) ^ (IntKind.i64.bits - 1) = 9223372036854775808 := by decide
  unfold IntKind.wrap
  simp only [e, e2, s, Bool.true_and]
  split <;> simp only [decide_eq_true_eq] at * <;> omega
theorem wrap_i64_small (n m : Nat) (hn : n < 2 ^ 64) (hm : m < 256) : IntKind.i64.wrap (n : Int) = m ↔ n = m := by
  have e : (2 : Int) ^ IntKind.i64.bits = 18446744073709551616 := by decide
  have s : IntKind.i64.signed = true := rfl
  have h2 : (2 : Nat) ^ 64 = 18446744073709551616 := by decide
  rw [h2] at hn
  have e2 : (2 : Int) ^ (IntKind.i64.bits - 1) = 9223372036854775808 := by decide
  unfold IntKind.wrap
  simp only [e, e2, s, Bool.true_and]
  split <;> simp only [decide_eq_true_eq] at * <;> omega
theorem ofInt_small (m : Nat) (hm : m < 256) : (BitVec.ofInt 64 (m : Int)).toNat = m := by
  rw [BitVec.ofInt_natCast, BitVec.toNat_ofNat]; exact Nat.mod_eq_of_lt (by omega)
theorem ofInt_pos (fl : Int) (h0 : 0 ≤ fl) (h1 : fl ≤ 9223372036854775807) : (BitVec.ofInt 64 fl).toNat = fl.toNat := by
  obtain ⟨a, rfl⟩ := Int.eq_ofNat_of_zero_le h0
  have h2 : (2 : Nat) ^ 64 = 18446744073709551616 := by decide
  show (BitVec.ofInt 64 ((a : Nat) : Int)).toNat = a
  rw [BitVec.ofInt_natCast, BitVec.toNat_ofNat]; exact Nat.mod_eq_of_lt (by omega)
theorem ofInt_neg (fl : Int) (h0 : fl < 0) (h1 : -9223372036854775808 ≤ fl) : 256 ≤ (BitVec.ofInt 64 fl).toNat := by
  rw [BitVec.toNat_ofInt]
  omega
theorem bv_and_le (x y : BitVec 64) : (x &&& ~~~y) = 0 ↔ x &&& y = x := by
  constructor
  · intro h
    ext i hi
    have := congrArg (fun z : BitVec 64 => z[i]) h
    simp only [BitVec.getElem_and, BitVec.getElem_not] at this
    simp only [BitVec.getElem_and]
    cases hx : x[i] <;> cases hy : y[i] <;> simp_all
  · intro h
    ext i hi
    have := congrArg (fun z : BitVec 64 => z[i]) h
    simp only [BitVec.getElem_and] at this
    simp only [BitVec.getElem_and, BitVec.getElem_not]
    cases hx : x[i] <;> cases hy : y[i] <;> simp_all
theorem flOk_bv (fl : Int) (m : Nat) (hm : m < 256) (h0 : -9223372036854775808 ≤ fl) (h1 : fl ≤ 9223372036854775807) :
    flOk fl m = true ↔ BitVec.ofInt 64 fl &&& BitVec.ofInt 64 (m : Int) = BitVec.ofInt 64 fl := by
  have hb : (BitVec.ofInt 64 fl &&& BitVec.ofInt 64 (m : Int) = BitVec.ofInt 64 fl) ↔ (BitVec.ofInt 64 fl).toNat &&& m = (BitVec.ofInt 64 fl).toNat := by
    rw [← BitVec.toNat_inj, BitVec.toNat_and, ofInt_small m hm]
  rw [hb]
  unfold flOk
  simp only [Bool.and_eq_true, decide_eq_true_eq, beq_iff_eq]
  by_cases hn : 0 ≤ fl
  · rw [ofInt_pos fl hn h1]
    exact ⟨fun h => h.2, fun h => ⟨hn, h⟩⟩
  · have := ofInt_neg fl (by omega) h0
    constructor
    · intro h; exact absurd h.1 hn
    · intro h
      have hle : (BitVec.ofInt 64 fl).toNat &&& m ≤ m := Nat.and_le_right
      omega
theorem andNot_fl (fl : Int) (m : Nat) (hm : m < 256) (h0 : -9223372036854775808 ≤ fl) (h1 : fl ≤ 9223372036854775807) :
    bits .andNot .i64 fl (m : Int) = 0 ↔ flOk fl m = true := by
  rw [flOk_bv fl m hm h0 h1, ← bv_and_le]
  show IntKind.i64.wrap ((BitVec.ofInt 64 fl &&& ~~~BitVec.ofInt 64 (m : Int)).toNat : Int) = 0 ↔ _
  rw [wrap_i64_zero _ (BitVec.isLt _)]
  constructor
  · intro h; apply BitVec.eq_of_toNat_eq; simpa using h
  · intro h; rw [h]; rfl
theorem andNot_no (fl : Int) (m : Nat) (hm : m < 256) (h0 : -9223372036854775808 ≤ fl) (h1 : fl ≤ 9223372036854775807) (h : flOk fl m = false) : (bits .andNot .i64 fl (m : Int) != 0) = true := by
  have := andNot_fl fl m hm h0 h1
  rw [h] at this
  simp only [bne_iff_ne, ne_eq]
  intro e; exact absurd (this.1 e) (by simp)
theorem andNot_yes (fl : Int) (m : Nat) (hm : m < 256) (h0 : -9223372036854775808 ≤ fl) (h1 : fl ≤ 9223372036854775807) (h : flOk fl m = true) : bits .andNot .i64 fl (m : Int) = 0 := (andNot_fl fl m hm h0 h1).2 h
/-- fl | m == m, for fl that isn't below 0 -/
theorem or_fl (fl : Int) (m : Nat) (hm : m < 256) (h0 : 0 ≤ fl) (h1 : fl ≤ 9223372036854775807) : bits .or .i64 fl (m : Int) = m ↔ flOk fl m = true := by
  have hx := ofInt_pos fl h0 h1
  have hy := ofInt_small m hm
  show IntKind.i64.wrap ((BitVec.ofInt 64 fl ||| BitVec.ofInt 64 (m : Int)).toNat : Int) = m ↔ _
  rw [wrap_i64_small _ m (BitVec.isLt _) hm, BitVec.toNat_or, hx, hy, nat_or_eq]
  unfold flOk
  simp only [Bool.and_eq_true, decide_eq_true_eq, beq_iff_eq]
  exact ⟨fun h => ⟨h0, h⟩, fun h => h.2⟩
theorem or_yes (fl : Int) (m : Nat) (hm : m < 256) (h0 : 0 ≤ fl) (h1 : fl ≤ 9223372036854775807) (h : flOk fl m = true) : bits .or .i64 fl (m : Int) = m := (or_fl fl m hm h0 h1).2 h
theorem or_no (fl : Int) (m : Nat) (hm : m < 256) (h0 : 0 ≤ fl) (h1 : fl ≤ 9223372036854775807) (h : flOk fl m = false) : (bits .or .i64 fl (m : Int) != m) = true := by
  have := or_fl fl m hm h0 h1
  rw [h] at this
  simp only [bne_iff_ne, ne_eq]
  intro e; exact absurd (this.1 e) (by simp)
end Go.Proofs.YtlkikkfbennmnaaGreatDoor
