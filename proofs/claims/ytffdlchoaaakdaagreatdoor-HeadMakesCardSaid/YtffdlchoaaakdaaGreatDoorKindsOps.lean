/- Operations one by one, at an act that is a letter: for regions that draw (XFlow). -/
import Derived.Test.YtffdlchoaaakdaaGreatDoorFlow
import Derived.Test.YtffdlchoaaakdaaGreatDoorList
import Derived.Great.BuildSlice
import Derived.Laws.Tables
namespace Go.Proofs.YtffdlchoaaakdaaGreatDoor
open Go Go.RowKit
theorem opw_value {P : Program} {o : Oper} {a : Act} {w w' : World} {v : Value} {K : Act → World → Prop} {Q : Exit → Act → World → Prop} (h : (execOp a.eval o).run P w = .ok (.value v) w') (hK : K (a.put o.dst v) w') : Oper.wp P o a w K Q := by
  unfold Oper.wp
  rw [h]
  exact hK
theorem opw_enter {P : Program} {o : Oper} {a : Act} {w w1 : World} {f : FuncId} {args : Array Value} {K : Act → World → Prop} {Q : Exit → Act → World → Prop} (h : (execOp a.eval o).run P w = .ok (.enter f args) w1)
    (hC : Calls P f args w1 fun e w' => ∃ v, e = .returned v ∧ K (a.put o.dst v) w') : Oper.wp P o a w K Q := by
  unfold Oper.wp
  rw [h, Oper.upon_enter]
  refine hC.mono ?_
  rintro e w' ⟨v, rfl, hK⟩
  exact hK
theorem opw_move {P : Program} {o : Oper} {a : Act} {w : World} {x : Operand} {K : Act → World → Prop} {Q : Exit → Act → World → Prop} (ho : o.op = .move x) (hK : K (a.put o.dst (a.eval x)) w) : Oper.wp P o a w K Q :=
  opw_value (w' := w) (by unfold execOp; rw [ho]; rfl) hK
theorem opw_assign {P : Program} {o : Oper} {a : Act} {w : World} {x : Operand} {K : Act → World → Prop} {Q : Exit → Act → World → Prop} (ho : o.op = .assign x) (hK : K (a.put o.dst (a.eval x)) w) : Oper.wp P o a w K Q :=
  opw_value (w' := w) (by unfold execOp; rw [ho]; rfl) hK
theorem run_loadF (w : World) (b : Nat) (x y z : Value) (h0 : w.cell? ⟨b, 0, none⟩ = some x) (h1 : w.cell? ⟨b, 1, none⟩ = some y) (h2 : w.cell? ⟨b, 2, none⟩ = some z) :
    (Instr.loadAt 45 (.pointer (some ⟨b, 0, none⟩))).run Tryz.prog w = .ok (.agg #[x, y, z]) w := by
  have u := Tryz.isAgg45
  have s := Tryz.sizeOf45
  go_simp
theorem opw_load {o : Oper} {a : Act} {w : World} {t : Nat} {b : Nat} {x y z : Value} {K : Act → World → Prop} {Q : Exit → Act → World → Prop} (ho : o.op = .load 45 (.tmp t)) (ha : a.tmps.getD t undef = .pointer (some ⟨b, 0, none⟩))
    (h0 : w.cell? ⟨b, 0, none⟩ = some x) (h1 : w.cell? ⟨b, 1, none⟩ = some y) (h2 : w.cell? ⟨b, 2, none⟩ = some z) (hK : K (a.put o.dst (.agg #[x, y, z])) w) : Oper.wp Tryz.prog o a w K Q :=
  opw_value (w' := w) (by
    have e : a.eval (.tmp t) = .pointer (some ⟨b, 0, none⟩) := ha
    unfold execOp
    rw [ho]
    simp only [Sem.run_bind, e, run_loadF w b x y z h0 h1 h2]
    rfl) hK
/-- a call of a function by name, or by a slot that holds it -/
theorem opw_call {P : Program} {o : Oper} {a : Act} {w : World} {f : FuncId} {fn : Func} {x : Operand} {args : Array Operand} {ts : Array TypeId} {K : Act → World → Prop} {Q : Exit → Act → World → Prop} (hf : P.funcs[f]? = some fn) (hname : (fn.name == "runtime.NumGoroutine") = false) (hb : fn.body.isNone = false)
    (ho : o.op = .call { callee := .value x, args := args, argTypes := ts }) (hx : a.eval x = .func (.func f) #[] #[])
    (hC : Calls P f (args.map a.eval) w fun e w' => ∃ v, e = .returned v ∧ K (a.put o.dst v) w') : Oper.wp P o a w K Q :=
  opw_enter (w1 := w) (args := args.map a.eval) (by
    have h1 : fn.name ≠ "runtime.NumGoroutine" := by simpa using hname
    have h2 : fn.body ≠ none := fun h => by rw [h] at hb; cases hb
    unfold execOp
    rw [ho]
    simp [resolve, invoke, hx, Deferred.ofValue, callFunc, run_program, hf, h1, h2]) hC
/-- a slice of fields is written out -/
theorem opw_row {o : Oper} {a : Act} {w : World} {n : Nat} {parts : Array (Nat × Operand)} {vals : List (Nat × Value)} {cells : Array Value} {K : Act → World → Prop} {Q : Exit → Act → World → Prop} (ho : o.op = .buildSlice 25 n parts)
    (hv : (parts.map fun (i, x) => (i, a.eval x)).toList = vals) (hn : n ≤ 100) (h0 : 0 < n)
    (hf : Instr.fill (fun i => some (i * 3, 3)) ((Array.range (n * 3)).map ((Value.agg #[.string (S []), .int .i64 0, .int .i64 0]).cells[· % (Value.agg #[.string (S []), .int .i64 0, .int .i64 0]).cells.size]!)) vals = some cells)
    (hK : K (a.put o.dst (.slice (some ⟨w.heap.size, 0, none⟩) n n)) (w.alloc (.cells cells 45))) : Oper.wp Tryz.prog o a w K Q := by
  obtain ⟨i, hi, hz, hs, _⟩ := info_parts (show (Tryz.prog.info? 45).map (fun i => (i.zero, i.size, i.bytes)) = some (some (.agg #[.string (S []), .int .i64 0, .int .i64 0]), 3, 32) by kernel_rfl)
  refine opw_value ?_ hK
  have h := run_buildSlice (P := Tryz.prog) w 25 45 n (parts.map fun (i, x) => (i, a.eval x)) cells i _ Tryz.underlying25 hi hz (by rw [hs]; omega) (by rw [hs]; omega) (by rw [hs, hv]; exact hf)
  unfold execOp
  rw [ho]
  simp only [Sem.run_bind, h]
  rfl
/-- a struct is written out -/
theorem opw_build {P : Program} {o : Oper} {a : Act} {w : World} {t : TypeId} {parts : Array (Nat × Operand)} {vals : List (Nat × Value)} {cells : Array Value} {K : Act → World → Prop} {Q : Exit → Act → World → Prop} (ho : o.op = .build t parts)
    (hv : (parts.map fun (i, x) => (i, a.eval x)).toList = vals) (hf : P.built t vals = some cells) (hK : K (a.put o.dst (.agg cells)) w) : Oper.wp P o a w K Q := by
  refine opw_value ?_ hK
  have h := run_build (P := P) w t (parts.map fun (i, x) => (i, a.eval x)) cells (by rw [hv]; exact hf)
  unfold execOp
  rw [ho]
  simp only [Sem.run_bind, h]
  rfl
end Go.Proofs.YtffdlchoaaakdaaGreatDoor
