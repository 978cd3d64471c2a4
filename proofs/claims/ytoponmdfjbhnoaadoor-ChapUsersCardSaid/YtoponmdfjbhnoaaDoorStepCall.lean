/- A call within a region that draws its order, by a contract; an append whose run is told. No program stands in it. -/
import Derived.Test.YtoponmdfjbhnoaaDoorBase
import Derived.Deep.RegionLaw
namespace Go.Proofs.YtoponmdfjbhnoaaDoor
open Go Go.RowKit
theorem step_call {P : Program} {ops : Array Oper} {o : Oper} {a : Act} {w : World} {f : FuncId} {fn : Func} {x : Operand} {args : Array Operand} {ts : Array TypeId} {K : Act → World → Prop} {Q : Exit → Act → World → Prop} {E : Prop} {post : Ending → World → Prop} {vs : Array Value}
    (hgd : o.guard = none) (ho : o.op = .call { callee := .value x, args := args, argTypes := ts }) (hf : P.funcs[f]? = some fn) (hname : (fn.name == "runtime.NumGoroutine") = false) (hb : fn.body.isNone = false)
    (hx : a.eval x = .func (.func f) #[] #[]) (hvs : args.map a.eval = vs) (hC : Calls P f vs w post) (h : ∀ e w', post e w' → ∃ v, e = .returned v ∧ K (a.put o.dst v) w') :
    if Region.wanted o (yielded ops a.tmps) = true then Oper.wp P o a w K Q else E := by
  have hw : Region.wanted o (yielded ops a.tmps) = true := by simp [Region.wanted, hgd]
  rw [if_pos hw]
  have hrun : (execOp a.eval o).run P w = .ok (.enter f (args.map a.eval)) w := by
    have h1 : fn.name ≠ "runtime.NumGoroutine" := by simpa using hname
    have h2 : fn.body ≠ none := fun h => by rw [h] at hb; cases hb
    unfold execOp
    rw [ho]
    simp [resolve, invoke, hx, Deferred.ofValue, callFunc, run_program, hf, h1, h2]
  unfold Oper.wp
  rw [hrun, hvs, Oper.upon_enter]
  refine hC.mono ?_
  intro e w' hp
  obtain ⟨v, rfl, hK⟩ := h e w' hp
  exact hK
/-- of an operation that is guarded, and wanted: 'refine step_wanted ?_ ?_; rfl; refine call_in ..' -/
theorem step_wanted {P : Program} {ops : Array Oper} {o : Oper} {a : Act} {w : World} {K : Act → World → Prop} {Q : Exit → Act → World → Prop} {E : Prop} (hw : Region.wanted o (yielded ops a.tmps) = true) (h : Oper.wp P o a w K Q) :
    if Region.wanted o (yielded ops a.tmps) = true then Oper.wp P o a w K Q else E := by rw [if_pos hw]; exact h
theorem call_in {P : Program} {o : Oper} {a : Act} {w : World} {f : FuncId} {fn : Func} {x : Operand} {args : Array Operand} {ts : Array TypeId} {K : Act → World → Prop} {Q : Exit → Act → World → Prop} {post : Ending → World → Prop} {vs : Array Value}
    (ho : o.op = .call { callee := .value x, args := args, argTypes := ts }) (hf : P.funcs[f]? = some fn) (hname : (fn.name == "runtime.NumGoroutine") = false) (hb : fn.body.isNone = false)
    (hx : a.eval x = .func (.func f) #[] #[]) (hvs : args.map a.eval = vs) (hC : Calls P f vs w post) (h : ∀ e w', post e w' → ∃ v, e = .returned v ∧ K (a.put o.dst v) w') :
    Oper.wp P o a w K Q := by
  have hrun : (execOp a.eval o).run P w = .ok (.enter f (args.map a.eval)) w := by
    have h1 : fn.name ≠ "runtime.NumGoroutine" := by simpa using hname
    have h2 : fn.body ≠ none := fun h => by rw [h] at hb; cases hb
    unfold execOp
    rw [ho]
    simp [resolve, invoke, hx, Deferred.ofValue, callFunc, run_program, hf, h1, h2]
  unfold Oper.wp
  rw [hrun, hvs, Oper.upon_enter]
  refine hC.mono ?_
  intro e w' hp
  obtain ⟨v, rfl, hK⟩ := h e w' hp
  exact hK
theorem step_append_run {P : Program} {ops : Array Oper} {o : Oper} {a : Act} {w w' : World} {K : Act → World → Prop} {Q : Exit → Act → World → Prop} {E : Prop} {v x v' : Value} {s y : Operand} {t u : TypeId}
    (hgd : o.guard = none) (ho : o.op = .call { callee := .builtin .append, args := #[s, y], argTypes := #[t, u] }) (hs : a.eval s = v) (hy : a.eval y = x)
    (hrun : (Builtin.append_ #[t, u] o.type #[v, x]).run P w = .ok v' w') (hK : K (a.put o.dst v') w') :
    if Region.wanted o (yielded ops a.tmps) = true then Oper.wp P o a w K Q else E := by
  have hw : Region.wanted o (yielded ops a.tmps) = true := by simp [Region.wanted, hgd]
  rw [if_pos hw]
  unfold Oper.wp
  simp [execOp, ho, resolve, invoke, builtin, hs, hy, hrun, Result.andThen]
  exact hK
end Go.Proofs.YtoponmdfjbhnoaaDoor
