/- ref.known: 11.1's rows, as the reference has them. -/
import Derived.Test.YtikcgnalcchlpaaDoorRKeyPlain
import Derived.Test.YtikcgnalcchlpaaDoorRows
import Derived.Laws.Tables
import Derived.Great.BuildSlice
import Derived.BigFrame
import Derived.Deep.Cut
namespace Go.Proofs.YtikcgnalcchlpaaDoor
open Go Go.RowKit
theorem wpList_buildAs {P : Program} {ops : Array Oper} {rest : List Oper} {o : Oper} {a : Act} {w : World} {Q : Exit → Act → World → Prop} (hg : o.guard = none) (t : TypeId) (parts : Array (Nat × Operand)) (ho : o.op = .build t parts)
    (d : Option Tmp) (hd : o.dst = d) (cells : Array Value) (hf : P.built t (parts.map fun (i, x) => (i, a.eval x)).toList = some cells)
    (h : wpList P ops Q rest (a.put d (.agg cells)) w) : wpList P ops Q (o :: rest) a w := by
  subst hd
  exact wpList_build hg t parts ho (by rw [hf]; rfl) (by rw [hf]; exact h)
theorem wpList_moveTo {P : Program} {ops : Array Oper} {rest : List Oper} {o : Oper} {a : Act} {w : World} {Q : Exit → Act → World → Prop} (hg : o.guard = none) (x : Operand) (ho : o.op = .move x)
    (d : Option Tmp) (hd : o.dst = d) (h : wpList P ops Q rest (a.put d (a.eval x)) w) : wpList P ops Q (o :: rest) a w := by
  subst hd
  exact wpList_plain hg fun K hK => BigFrame.wp_move x ho (hK _ _ h)
theorem wpList_buildSliceTo {P : Program} {ops : Array Oper} {rest : List Oper} {o : Oper} {a : Act} {w : World} {Q : Exit → Act → World → Prop} (hg : o.guard = none) (t e : TypeId) (len : Nat) (parts : Array (Nat × Operand)) (ho : o.op = .buildSlice t len parts)
    (d : Option Tmp) (hd : o.dst = d) (cells : Array Value) (hu : P.underlying t = some (.slice e))
    (hf : ((P.info? e).bind fun ie => ie.zero.bind fun z => if 0 < len * ie.size ∧ len * ie.size ≤ 2 ^ 24 then Instr.fill (fun i => some (i * ie.size, ie.size)) ((Array.range (len * ie.size)).map (z.cells[· % z.cells.size]!)) (parts.map fun (i, x) => (i, a.eval x)).toList else none) = some cells)
    (h : wpList P ops Q rest (a.put d (.slice (some ⟨w.heap.size, 0, none⟩) len len)) (w.alloc (.cells cells e))) : wpList P ops Q (o :: rest) a w := by
  subst hd
  cases hie : P.info? e with
  | none => rw [hie] at hf; cases hf
  | some ie =>
    rw [hie, Option.bind_some] at hf
    cases hz : ie.zero with
    | none => rw [hz] at hf; cases hf
    | some z =>
      rw [hz, Option.bind_some] at hf
      split at hf
      · rename_i hc
        exact wpList_buildSlice hg t e len parts ho cells ie z hu hie hz (by omega) (by omega) hf h
      · cases hf
/-- the rows are returned in a block of their own -/
def RetKnown (w : World) (e : Ending) (w' : World) : Prop := ∃ b, e = .returned (.slice (some ⟨b, 0, none⟩) 18 18) ∧ KeB w b w'
set_option maxRecDepth 100000 in
theorem known_any (w : World) : Calls Tryd.prog 10 #[] w (RetKnown w) := by
  have HR := Lib.hid (show RetKnown w (.returned (.slice (some ⟨w.heap.size, 0, none⟩) 18 18)) (w.alloc (.cells keRowsC 23)) from ⟨w.heap.size, rfl, Blk.new w _ _, (Below.refl _ _).alloc (Nat.le_refl _) _⟩)
  go_enter Tryd.func10, Tryd.ntmps10
  go_upto_region 2 with (fail)
  repeat (first | apply wp_block | (apply wp_seq_k; intro _ _) | apply wp_region_lit)
  refine wpList_buildAs rfl 23 _ rfl (some 2) rfl (keC ke0).toArray (by as_aux_lemma => kernel_rfl) ?_
  refine wpList_buildAs rfl 23 _ rfl (some 3) rfl (keC ke1).toArray (by as_aux_lemma => kernel_rfl) ?_
  refine wpList_buildAs rfl 23 _ rfl (some 4) rfl (keC ke2).toArray (by as_aux_lemma => kernel_rfl) ?_
  refine wpList_buildAs rfl 23 _ rfl (some 5) rfl (keC ke3).toArray (by as_aux_lemma => kernel_rfl) ?_
  refine wpList_buildAs rfl 23 _ rfl (some 6) rfl (keC ke4).toArray (by as_aux_lemma => kernel_rfl) ?_
  refine wpList_buildAs rfl 23 _ rfl (some 7) rfl (keC ke5).toArray (by as_aux_lemma => kernel_rfl) ?_
  refine wpList_moveTo rfl _ rfl (some 8) rfl ?_
  refine wpList_buildAs rfl 23 _ rfl (some 9) rfl (keC ke6).toArray (by as_aux_lemma => kernel_rfl) ?_
  refine wpList_moveTo rfl _ rfl (some 10) rfl ?_
  refine wpList_buildAs rfl 23 _ rfl (some 11) rfl (keC ke7).toArray (by as_aux_lemma => kernel_rfl) ?_
  refine wpList_moveTo rfl _ rfl (some 12) rfl ?_
  refine wpList_buildAs rfl 23 _ rfl (some 13) rfl (keC ke8).toArray (by as_aux_lemma => kernel_rfl) ?_
  refine wpList_buildAs rfl 23 _ rfl (some 14) rfl (keC ke9).toArray (by as_aux_lemma => kernel_rfl) ?_
  refine wpList_buildAs rfl 23 _ rfl (some 15) rfl (keC ke10).toArray (by as_aux_lemma => kernel_rfl) ?_
  refine wpList_buildAs rfl 23 _ rfl (some 16) rfl (keC ke11).toArray (by as_aux_lemma => kernel_rfl) ?_
  refine wpList_buildAs rfl 23 _ rfl (some 17) rfl (keC ke12).toArray (by as_aux_lemma => kernel_rfl) ?_
  refine wpList_buildAs rfl 23 _ rfl (some 18) rfl (keC ke13).toArray (by as_aux_lemma => kernel_rfl) ?_
  refine wpList_buildAs rfl 23 _ rfl (some 19) rfl (keC ke14).toArray (by as_aux_lemma => kernel_rfl) ?_
  refine wpList_buildAs rfl 23 _ rfl (some 20) rfl (keC ke15).toArray (by as_aux_lemma => kernel_rfl) ?_
  refine wpList_buildAs rfl 23 _ rfl (some 21) rfl (keC ke16).toArray (by as_aux_lemma => kernel_rfl) ?_
  refine wpList_buildAs rfl 23 _ rfl (some 22) rfl (keC ke17).toArray (by as_aux_lemma => kernel_rfl) ?_
  refine wpList_buildSliceTo rfl 36 23 18 _ rfl (some 23) rfl keRowsC rfl (by as_aux_lemma => kernel_rfl) ?_
  go_wp2_with fail
  go_ret
  exact HR.out
end Go.Proofs.YtikcgnalcchlpaaDoor
