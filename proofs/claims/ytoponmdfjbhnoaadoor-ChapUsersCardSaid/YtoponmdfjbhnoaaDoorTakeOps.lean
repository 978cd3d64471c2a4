/- A region that draws, operation by operation: one that yields is taken at once, one that isn't wanted too; a call by its contract. No program stands in it. -/
import Derived.Test.YtoponmdfjbhnoaaDoorStepCall
import Derived.OrdersHeld
import Derived.Below
namespace Go.Proofs.YtoponmdfjbhnoaaDoor
open Go Go.RowKit
variable {ops : Array Oper} {S : World → Prop} {o : Oper} {a : Act}
theorem takeN {P : Program} {Q : Exit → Act → World → Prop} {md : Region.Mode} {i : Nat} {oi : Oper} (v : Value) {fuel : Nat} {listed : Array Bool} {w : World} (d : Option Tmp) (hi : ops[i]? = some oi) (hd : oi.dst = d)
    (hs : Region.noSelect ops = true) (hf : Region.free md ops listed i = true) (hr : (Region.ready md ops listed).contains i = true)
    (hQ : ∀ c a w, Q (.panic c) (a.put d v) w → Q (.panic c) a w) (hy : YieldsIf P ops S oi v a) (hS : S w)
    (h : wpAnyH P md ops Q S fuel (listed.setIfInBounds i true) (a.put d v) w) : wpAnyH P md ops Q S (fuel + 1) listed a w := by
  subst hd
  exact wpAnyH_take hi hs hf hr hQ hy hS h
theorem wantN {P : Program} {Q : Exit → Act → World → Prop} {i : Nat} {K : Act → World → Prop} {w : World} (hi : ops[i]? = some o) (hg : Region.wanted o (yielded ops a.tmps) = true) (h : Oper.wp P o a w K Q) : wpOp P ops Q i K a w := by
  unfold wpOp
  simp only [hi]
  rw [if_pos hg]
  exact .inl h
theorem callN {P : Program} {Q : Exit → Act → World → Prop} {w : World} {f : FuncId} {fn : Func} {x : Operand} {args : Array Operand} {ts : Array TypeId} {K : Act → World → Prop} (d : Option Tmp) (hd : o.dst = d) (hf : P.funcs[f]? = some fn) (hname : (fn.name == "runtime.NumGoroutine") = false) (hb : fn.body.isNone = false)
    (ho : o.op = .call { callee := .value x, args := args, argTypes := ts }) (hx : a.eval x = .func (.func f) #[] #[])
    (hC : Calls P f (args.map a.eval) w fun e w' => ∃ v, e = .returned v ∧ K (a.put d v) w') : Oper.wp P o a w K Q := by
  subst hd
  exact call_in ho hf hname hb hx rfl hC (fun _ _ h => h)
end Go.Proofs.YtoponmdfjbhnoaaDoor
