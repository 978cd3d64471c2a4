/- Several texts in one: A region that draws its order, by what holds between its operations: one step an operation, however many orders there are.  | A region that draws its order, whose operations only make memory, and each yields a value: what each value is, said of a world that may grow.  | Operations one by one, at an act that is a letter: for regions that draw (XFlow).  | ref.kinds' great region as a list, and what the kernel sees of it.  | ref.kinds' great region: each operation's form, and what its value is, reckoned form by form.  | ref.kinds' great region: one step, whichever operation it is.  | ref.kinds: 5.1's rows, as the reference has them (made by gen_kinds.py).  | ref.Kind: what is known of a PDU, as the reference has it.  -/
import Derived.OrdersHeld
import Derived.Below
import Derived.Test.YtlkikkfbennmnaaGreatDoorGB
import Derived.Great.BuildSlice
import Derived.Laws.Tables
import Derived.Great.FillDense
import Derived.Test.YtlkikkfbennmnaaGreatDoorGA
import Derived.BigRegion
import Derived.LoopN
import Derived.Deep.CutBlock
import Derived.Deep.CutRange
namespace Go.Proofs.YtlkikkfbennmnaaGreatDoor
open Go
theorem getD_both {l : Array Bool} {i : Nat} (h : i < l.size) (a b : Bool) : l.getD i a = l.getD i b := by simp [Array.getD, h]
theorem count_set {l : Array Bool} {i : Nat} (h : i < l.size) (hf : l.getD i true = false) : ((l.setIfInBounds i true).toList.count false) + 1 = l.toList.count false := by
  have hi : l[i] = false := by simpa [Array.getD, h] using hf
  have e : (l.setIfInBounds i true).toList = l.toList.set i true := by simp
  rw [e]
  have hl : i < l.toList.length := by simpa using h
  have e2 : l.toList = l.toList.take i ++ false :: l.toList.drop (i + 1) := by
    have h4 := List.take_append_drop i l.toList
    rw [List.drop_eq_getElem_cons hl, (by simpa using hi : l.toList[i] = false)] at h4
    exact h4.symm
  have e3 : l.toList.set i true = l.toList.take i ++ true :: l.toList.drop (i + 1) := List.set_eq_take_append_cons_drop.trans (by rw [if_pos hl])
  rw [e3]
  conv => rhs; rw [e2]
  simp only [List.count_append, List.count_cons]
  simp
  omega
theorem ready_nil {md : Region.Mode} {ops : Array Oper} {listed : Array Bool} (hs : listed.size = ops.size) (hback : ∀ (i : Nat) (o : Oper), ops[i]? = some o → ∀ e ∈ o.after, e.on < i) (h : Region.ready md ops listed = []) :
    ∀ i, i < ops.size → listed.getD i true = true := by
  intro i
  induction i using Nat.strongRecOn with
  | _ i ih =>
    intro hi
    cases hc : listed.getD i true with
    | true => rfl
    | false =>
      have hm : i ∈ Region.ready md ops listed := mem_ready.2 ⟨hc, ops[i], Array.getElem?_eq_getElem hi, fun e he _ => by
        have hlt := hback i _ (Array.getElem?_eq_getElem hi) e he
        rw [getD_both (by omega) false true]
        exact ih e.on hlt (by omega)⟩
      rw [h] at hm
      cases hm
theorem wpAny_inv {P : Program} {md : Region.Mode} {ops : Array Oper} {Q : Exit → Act → World → Prop} (I : Array Bool → Act → World → Prop) (hback : ∀ (i : Nat) (o : Oper), ops[i]? = some o → ∀ e ∈ o.after, e.on < i)
    (hstep : ∀ (listed : Array Bool) (a : Act) (w : World) (i : Nat) (o : Oper), listed.size = ops.size → I listed a w → ops[i]? = some o → listed.getD i true = false → (∀ e ∈ o.after, Region.binds md e = true → listed.getD e.on false = true) → wpOp P ops Q i (I (listed.setIfInBounds i true)) a w)
    (hdone : ∀ (listed : Array Bool) (a : Act) (w : World), I listed a w → (∀ i, i < ops.size → listed.getD i true = true) → Q .normal a w) :
    ∀ fuel listed a w, listed.size = ops.size → listed.toList.count false ≤ fuel → I listed a w → wpAny P md ops Q fuel listed a w := by
  intro fuel
  induction fuel with
  | zero =>
    intro listed a w hs hc hI
    have hall : ∀ i, i < ops.size → listed.getD i true = true := fun i hi => by
      cases hg : listed.getD i true with
      | true => rfl
      | false =>
        have := count_set (l := listed) (i := i) (by omega) hg
        omega
    refine ⟨?_, hdone listed a w hI hall⟩
    apply List.eq_nil_iff_forall_not_mem.2
    intro i hi
    obtain ⟨h0, o, ho, _⟩ := mem_ready.1 hi
    rw [hall i (Array.getElem?_eq_some_iff.1 ho).1] at h0
    cases h0
  | succ fuel ih =>
    intro listed a w hs hc hI
    refine ⟨fun h => hdone listed a w hI (ready_nil hs hback h), fun i hi => ?_⟩
    obtain ⟨h0, o, ho, hall⟩ := mem_ready.1 hi
    have hlt : i < ops.size := (Array.getElem?_eq_some_iff.1 ho).1
    refine wpOp_mono (fun a' w' hI' => ih _ a' w' (by simp [hs]) ?_ hI') (hstep listed a w i o hs hI ho h0 hall)
    have := count_set (l := listed) (i := i) (by omega) h0
    omega
/-- THE LAW: 'I listed a w' says what holds when just these operations have come up -/
theorem wp_region_inv {P : Program} {ops : Array Oper} {Q : Exit → Act → World → Prop} {id : Nat} {a : Act} {w : World} (hm : P.follows .mixedOrders = true) (I : Array Bool → Act → World → Prop) (hback : ∀ (i : Nat) (o : Oper), ops[i]? = some o → ∀ e ∈ o.after, e.on < i)
    (hstart : I (Array.replicate ops.size false) a { w with drawn := w.drawn + 1 })
    (hstep : ∀ (listed : Array Bool) (a : Act) (w : World) (i : Nat) (o : Oper), listed.size = ops.size → I listed a w → ops[i]? = some o → listed.getD i true = false → (∀ e ∈ o.after, Region.binds .any e = true → listed.getD e.on false = true) → wpOp P ops Q i (I (listed.setIfInBounds i true)) a w)
    (hdone : ∀ (listed : Array Bool) (a : Act) (w : World), I listed a w → (∀ i, i < ops.size → listed.getD i true = true) → Q .normal a w) : (Code.region id ops true).wp P Q a w :=
  wp_region_any hm (wpAny_inv I hback hstep hdone ops.size _ a _ (by simp) (by simp) hstart)
end Go.Proofs.YtlkikkfbennmnaaGreatDoor
namespace Go.Proofs.YtlkikkfbennmnaaGreatDoor
open Go Go.RowKit
theorem getD_put_same {a : Act} {d : Nat} (v : Value) (h : d < a.tmps.size) : (a.put (some d) v).tmps.getD d undef = v := by
  simp [Act.put, Array.getD, h]
theorem getD_put_ne {a : Act} {d s : Nat} (v : Value) (h : d ≠ s) : (a.put (some d) v).tmps.getD s undef = a.tmps.getD s undef := by
  simp [Act.put, h]
theorem getD_set_same {l : Array Bool} {i : Nat} (h : i < l.size) (b : Bool) : (l.setIfInBounds i true).getD i b = true := by simp [Array.getD, h]
theorem getD_set_other {l : Array Bool} {i j : Nat} (h : i ≠ j) (b : Bool) : (l.setIfInBounds i true).getD j b = l.getD j b := by
  simp [h]
/-- what is so of act and world once some operations have come up -/
structure FlowI (ops : Array Oper) (Pv : Nat → Value → World → Prop) (a0 : Act) (w0 : World) (listed : Array Bool) (a : Act) (w : World) : Prop where
  low : Below w0.heap.size w0 w
  defers : a.defers = a0.defers
  size : a.tmps.size = a0.tmps.size
  rest : ∀ s, (∀ (j : Nat) (o : Oper), ops[j]? = some o → o.dst ≠ some s) → a.tmps.getD s undef = a0.tmps.getD s undef
  vals : ∀ (j : Nat) (o : Oper) (d : Nat), ops[j]? = some o → o.dst = some d → listed.getD j false = true → Pv j (a.tmps.getD d undef) w
theorem wp_region_flow {P : Program} {ops : Array Oper} {Q : Exit → Act → World → Prop} {id : Nat} {a0 : Act} {w0 : World} (hm : P.follows .mixedOrders = true) (hback : ∀ (i : Nat) (o : Oper), ops[i]? = some o → ∀ e ∈ o.after, e.on < i)
    (Pv : Nat → Value → World → Prop) (hstable : ∀ i v (W W' : World), Pv i v W → Below W.heap.size W W' → Pv i v W')
    (hdst : ∀ (i : Nat) (o : Oper), ops[i]? = some o → ∃ d, o.dst = some d ∧ d < a0.tmps.size)
    (hinj : ∀ (i j : Nat) (o o' : Oper), ops[i]? = some o → ops[j]? = some o' → o.dst = o'.dst → i = j)
    (hguard : ∀ (i : Nat) (o : Oper), ops[i]? = some o → o.guard = none)
    (hstep : ∀ (i : Nat) (o : Oper), ops[i]? = some o → ∀ (listed : Array Bool) (a : Act) (w : World), FlowI ops Pv a0 w0 listed a w → (∀ e ∈ o.after, Region.binds .any e = true → listed.getD e.on false = true) →
      Oper.wp P o a w (fun a' w' => ∃ v, a' = a.put o.dst v ∧ Pv i v w' ∧ Below w.heap.size w w') Q)
    (hdone : ∀ (listed : Array Bool) (a : Act) (w : World), FlowI ops Pv a0 w0 listed a w → (∀ i, i < ops.size → listed.getD i false = true) → Q .normal a w) : (Code.region id ops true).wp P Q a0 w0 := by
  refine wp_region_inv hm (fun listed a w => listed.size = ops.size ∧ FlowI ops Pv a0 w0 listed a w) hback ?_ ?_ ?_
  · refine ⟨by simp, (Below.refl _ _).drew, rfl, rfl, fun _ _ => rfl, fun j o d ho _ hl => ?_⟩
    have hlt : j < ops.size := (Array.getElem?_eq_some_iff.1 ho).1
    simp [Array.getD, hlt] at hl
  · intro listed a w i o hs hI ho hnl hall
    obtain ⟨d, hd, hdlt⟩ := hdst i o ho
    have hlt : i < ops.size := (Array.getElem?_eq_some_iff.1 ho).1
    have h := hstep i o ho listed a w hI.2 hall
    unfold wpOp
    simp only [ho]
    have hw : Region.wanted o (yielded ops a.tmps) = true := by simp [Region.wanted, hguard i o ho]
    rw [if_pos hw]
    refine .inl (Oper.wp_mono (fun a' w' hK => ?_) h)
    obtain ⟨v, rfl, hv, hb⟩ := hK
    rw [hd]
    refine ⟨by simp [hs], hI.2.low.trans (hb.mono hI.2.low.size), ?_, ?_, ?_, ?_⟩
    · simp [Act.put, hI.2.defers]
    · simp [Act.put, hI.2.size]
    · intro s hns
      rw [getD_put_ne v (fun e => hns i o ho (by rw [hd, e]))]
      exact hI.2.rest s hns
    · intro j o' d' ho' hd' hl
      by_cases e : j = i
      · subst e
        have : o' = o := Option.some.inj (ho'.symm.trans ho)
        subst this
        have : d' = d := Option.some.inj (hd'.symm.trans hd)
        subst this
        rw [getD_put_same v (by rw [hI.2.size]; exact hdlt)]
        exact hv
      · rw [getD_put_ne v (fun e2 => e (hinj j i o' o ho' ho (by rw [hd, hd', e2])))]
        rw [getD_set_other (Ne.symm e)] at hl
        exact hstable _ _ _ _ (hI.2.vals j o' d' ho' hd' hl) hb
  · intro listed a w hI hall
    exact hdone listed a w hI.2 (fun i hi => by rw [getD_both (by rw [hI.1]; exact hi) false true]; exact hall i hi)
end Go.Proofs.YtlkikkfbennmnaaGreatDoor
namespace Go.Proofs.YtlkikkfbennmnaaGreatDoor
open Go Go.RowKit
theorem opw_value {P : Program} {o : Oper} {a : Act} {w w' : World} {v : Value} {K : Act → World → Prop} {Q : Exit → Act → World → Prop} (h : (execOp a.eval o).run P w = .ok (.value v) w') (hK : K (a.put o.dst v) w') : Oper.wp P o a w K Q := by
  unfold Oper.wp
  rw [h]
  exact hK
theorem opw_enter {P : Program} {o : Oper} {a : Act} {w w1 : World} {f : FuncId} {args : Array Value} {K : Act → World → Prop} {Q : Exit → Act → World → Prop} (h : (execOp a.eval o).run P w = .ok (.enter f args) w1)
    (hC : Calls P f args w1 fun e w' => ∃ v, e = .returned v ∧ K (a.put o.dst v) w') : Oper.wp P o a w K Q := by
  unfold Oper.wp
  rw [h, Oper.upon_enter]
  refine hC.mono ?_
  rintro e w' ⟨v, rfl, hK⟩
  exact hK
theorem opw_move {P : Program} {o : Oper} {a : Act} {w : World} {x : Operand} {K : Act → World → Prop} {Q : Exit → Act → World → Prop} (ho : o.op = .move x) (hK : K (a.put o.dst (a.eval x)) w) : Oper.wp P o a w K Q :=
  opw_value (w' := w) (by unfold execOp; rw [ho]; rfl) hK
theorem opw_assign {P : Program} {o : Oper} {a : Act} {w : World} {x : Operand} {K : Act → World → Prop} {Q : Exit → Act → World → Prop} (ho : o.op = .assign x) (hK : K (a.put o.dst (a.eval x)) w) : Oper.wp P o a w K Q :=
  opw_value (w' := w) (by unfold execOp; rw [ho]; rfl) hK
theorem run_loadF (w : World) (b : Nat) (x y z : Value) (h0 : w.cell? ⟨b, 0, none⟩ = some x) (h1 : w.cell? ⟨b, 1, none⟩ = some y) (h2 : w.cell? ⟨b, 2, none⟩ = some z) :
    (Instr.loadAt 149 (.pointer (some ⟨b, 0, none⟩))).run Tryz.prog w = .ok (.agg #[x, y, z]) w := by
  have u := Tryz.isAgg149
  have s := Tryz.sizeOf149
  go_simp
theorem opw_load {o : Oper} {a : Act} {w : World} {t : Nat} {b : Nat} {x y z : Value} {K : Act → World → Prop} {Q : Exit → Act → World → Prop} (ho : o.op = .load 149 (.tmp t)) (ha : a.tmps.getD t undef = .pointer (some ⟨b, 0, none⟩))
    (h0 : w.cell? ⟨b, 0, none⟩ = some x) (h1 : w.cell? ⟨b, 1, none⟩ = some y) (h2 : w.cell? ⟨b, 2, none⟩ = some z) (hK : K (a.put o.dst (.agg #[x, y, z])) w) : Oper.wp Tryz.prog o a w K Q :=
  opw_value (w' := w) (by
    have e : a.eval (.tmp t) = .pointer (some ⟨b, 0, none⟩) := ha
    unfold execOp
    rw [ho]
    simp only [Sem.run_bind, e, run_loadF w b x y z h0 h1 h2]
    rfl) hK
/-- a call of a function by name, or by a slot that holds it -/
theorem opw_call {P : Program} {o : Oper} {a : Act} {w : World} {f : FuncId} {fn : Func} {x : Operand} {args : Array Operand} {ts : Array TypeId} {K : Act → World → Prop} {Q : Exit → Act → World → Prop} (hf : P.funcs[f]? = some fn) (hname : (fn.name == "runtime.NumGoroutine") = false) (hb : fn.body.isNone = false)
    (ho : o.op = .call { callee := .value x, args := args, argTypes := ts }) (hx : a.eval x = .func (.func f) #[] #[])
    (hC : Calls P f (args.map a.eval) w fun e w' => ∃ v, e = .returned v ∧ K (a.put o.dst v) w') : Oper.wp P o a w K Q :=
  opw_enter (w1 := w) (args := args.map a.eval) (by
    have h1 : fn.name ≠ "runtime.NumGoroutine" := by simpa using hname
    have h2 : fn.body ≠ none := fun h => by rw [h] at hb; cases hb
    unfold execOp
    rw [ho]
    simp [resolve, invoke, hx, Deferred.ofValue, callFunc, run_program, hf, h1, h2]) hC
/-- a slice of fields is written out -/
theorem opw_row {o : Oper} {a : Act} {w : World} {n : Nat} {parts : Array (Nat × Operand)} {vals : List (Nat × Value)} {cells : Array Value} {K : Act → World → Prop} {Q : Exit → Act → World → Prop} (ho : o.op = .buildSlice 146 n parts)
    (hv : (parts.map fun (i, x) => (i, a.eval x)).toList = vals) (hn : n ≤ 100) (h0 : 0 < n)
    (hf : Instr.fill (fun i => some (i * 3, 3)) ((Array.range (n * 3)).map ((Value.agg #[.string (S []), .int .i64 0, .int .i64 0]).cells[· % (Value.agg #[.string (S []), .int .i64 0, .int .i64 0]).cells.size]!)) vals = some cells)
    (hK : K (a.put o.dst (.slice (some ⟨w.heap.size, 0, none⟩) n n)) (w.alloc (.cells cells 149))) : Oper.wp Tryz.prog o a w K Q := by
  obtain ⟨i, hi, hz, hs, _⟩ := info_parts (show (Tryz.prog.info? 149).map (fun i => (i.zero, i.size, i.bytes)) = some (some (.agg #[.string (S []), .int .i64 0, .int .i64 0]), 3, 32) by kernel_rfl)
  refine opw_value ?_ hK
  have h := run_buildSlice (P := Tryz.prog) w 146 149 n (parts.map fun (i, x) => (i, a.eval x)) cells i _ Tryz.underlying146 hi hz (by rw [hs]; omega) (by rw [hs]; omega) (by rw [hs, hv]; exact hf)
  unfold execOp
  rw [ho]
  simp only [Sem.run_bind, h]
  rfl
/-- a struct is written out -/
theorem opw_build {P : Program} {o : Oper} {a : Act} {w : World} {t : TypeId} {parts : Array (Nat × Operand)} {vals : List (Nat × Value)} {cells : Array Value} {K : Act → World → Prop} {Q : Exit → Act → World → Prop} (ho : o.op = .build t parts)
    (hv : (parts.map fun (i, x) => (i, a.eval x)).toList = vals) (hf : P.built t vals = some cells) (hK : K (a.put o.dst (.agg cells)) w) : Oper.wp P o a w K Q := by
  refine opw_value ?_ hK
  have h := run_build (P := P) w t (parts.map fun (i, x) => (i, a.eval x)) cells (by rw [hv]; exact hf)
  unfold execOp
  rw [ho]
  simp only [Sem.run_bind, h]
  rfl
end Go.Proofs.YtlkikkfbennmnaaGreatDoor
namespace Go.Proofs.YtlkikkfbennmnaaGreatDoor
open Go Go.RowKit
def regionIn : Code → Nat → Option (Array Oper × Bool)
  | .region id ops d, n => if id = n then some (ops, d) else none
  | .seq x y, n => match regionIn x n with
    | some r => some r
    | none => regionIn y n
  | _, _ => none
noncomputable def kReg : Option (Array Oper × Bool) := (Tryz.f118).body.bind fun c => regionIn c 6
noncomputable def kOps : Array Oper := (kReg.map (·.1)).getD #[]
theorem kOps_draws : kReg.map (·.2) = some true := by kernel_rfl
theorem kOps_size : kOps.size = 201 := by kernel_rfl
theorem kOps_back0 : (kOps.toList.zipIdx.all fun p => p.1.after.toList.all fun e => decide (e.on < p.2)) = true := by kernel_rfl
theorem kOps_dst0 : kOps.toList.map (·.dst) = (List.range 200).map (fun i => some (22 + i)) ++ [some 0] := by kernel_rfl
theorem kOps_guard0 : (kOps.toList.all fun o => o.guard.isNone) = true := by kernel_rfl
theorem kOps_back (i : Nat) (o : Oper) (h : kOps[i]? = some o) : ∀ e ∈ o.after, e.on < i := by
  intro e he
  have h1 := List.all_eq_true.1 kOps_back0 (o, i) (List.mem_zipIdx_iff_getElem?.2 (by simpa using h))
  have h2 := List.all_eq_true.1 h1 e (by simpa using he)
  simpa using h2
theorem kOps_guard (i : Nat) (o : Oper) (h : kOps[i]? = some o) : o.guard = none := by
  have := List.all_eq_true.1 kOps_guard0 o (List.mem_of_getElem? (i := i) (by simpa using h))
  simpa using this
theorem kOps_dst (i : Nat) (o : Oper) (h : kOps[i]? = some o) : i < 201 ∧ o.dst = some (if i < 200 then 22 + i else 0) := by
  have hi : i < 201 := by rw [← kOps_size]; exact (Array.getElem?_eq_some_iff.1 h).1
  have h1 := congrArg (·[i]?) kOps_dst0
  simp only [List.getElem?_map] at h1
  have h2 : kOps.toList[i]? = some o := by simpa using h
  rw [h2] at h1
  refine ⟨hi, ?_⟩
  by_cases h200 : i < 200
  · rw [if_pos h200]
    rw [List.getElem?_append_left (by simpa using h200), List.getElem?_map, List.getElem?_range h200] at h1
    exact Option.some.inj h1
  · obtain rfl : i = 200 := by omega
    rw [if_neg (by omega)]
    exact Option.some.inj h1
theorem kOps_inj (i j : Nat) (o o' : Oper) (h : kOps[i]? = some o) (h' : kOps[j]? = some o') (e : o.dst = o'.dst) : i = j := by
  obtain ⟨a1, a2⟩ := kOps_dst i o h
  obtain ⟨b1, b2⟩ := kOps_dst j o' h'
  rw [a2, b2] at e
  have := Option.some.inj e
  split at this <;> split at this <;> omega
end Go.Proofs.YtlkikkfbennmnaaGreatDoor
namespace Go.Proofs.YtlkikkfbennmnaaGreatDoor
open Go Go.RowKit
structure Rk where
  op : Nat
  nm : List UInt8
  fl : Nat
  fs : List Fd
inductive KSpec where
  | fd (f : Fd)
  | row (fs : List Fd)
  | kd (k : Rk)
  | all (ks : List Rk)
  | fn
def fdV (f : Fd) : Value := .agg #[.string (S f.nm), .int .i64 (f.pos : Int), .int .i64 (f.sz : Int)]
def rkV (k : Rk) (b : Nat) : Value := .agg #[.int .i64 (k.op : Int), .string (S k.nm), .int .i64 (k.fl : Int), .slice (some ⟨b, 0, none⟩) k.fs.length k.fs.length]
def rkC (k : Rk) (b : Nat) : List Value := [.int .i64 (k.op : Int), .string (S k.nm), .int .i64 (k.fl : Int), .slice (some ⟨b, 0, none⟩) k.fs.length k.fs.length]
def cellsRk (ks : List Rk) (bs : List Nat) : Array Value := ((ks.zip bs).flatMap fun x => rkC x.1 x.2).toArray
def KSpec.holds : KSpec → Value → World → Prop
  | .fd f, v, _ => v = fdV f
  | .row fs, v, W => ∃ b, v = .slice (some ⟨b, 0, none⟩) fs.length fs.length ∧ Flds W b fs
  | .kd k, v, W => ∃ b, v = rkV k b ∧ Flds W b k.fs
  | .all ks, v, W => ∃ b, ∃ bs : List Nat, v = .slice (some ⟨b, 0, none⟩) ks.length ks.length ∧ bs.length = ks.length ∧ Blk W b (cellsRk ks bs) 231 ∧ ∀ x ∈ ks.zip bs, Flds W x.2 x.1.fs
  | .fn, v, _ => v = .func (.func 134) #[] #[]
theorem KSpec.later {s : KSpec} {v : Value} {W W' : World} (h : s.holds v W) (hb : Below W.heap.size W W') : s.holds v W' := by
  cases s with
  | fd f => exact h
  | row fs => obtain ⟨b, e, hF⟩ := h; exact ⟨b, e, Blk.later hF hb⟩
  | kd k => obtain ⟨b, e, hF⟩ := h; exact ⟨b, e, Blk.later hF hb⟩
  | all ks => obtain ⟨b, bs, e, hl, hB, hF⟩ := h; exact ⟨b, bs, e, hl, hB.later hb, fun x hx => Blk.later (hF x hx) hb⟩
  | fn => exact h
def KSpec.fd? : KSpec → Option Fd
  | .fd f => some f
  | _ => none
def KSpec.kd? : KSpec → Option Rk
  | .kd f => some f
  | _ => none
def optAll {α : Type} : List (Option α) → Option (List α)
  | [] => some []
  | x :: xs => match x, optAll xs with
    | some a, some l => some (a :: l)
    | _, _ => none
theorem optAll_eq {α : Type} : ∀ {l : List (Option α)} {r : List α}, optAll l = some r → l = r.map some
  | [], r, h => by cases h; rfl
  | x :: xs, r, h => by
    unfold optAll at h
    split at h
    · rename_i a l e
      cases h
      rw [List.map_cons, optAll_eq e]
    · cases h
inductive KForm where
  | mf
  | ld (n : Nat)
  | at (nm : List UInt8) (p s : Nat)
  | row (js : List Nat)
  | call (jf j : Nat)
  | kd (op : Nat) (nm : List UInt8) (fl : Nat) (j : Nat)
  | all (js : List Nat)
  | mv (j : Nat)
def tmpsP (js : List Nat) : Array (Nat × Operand) := (js.zipIdx.map fun x => (x.2, Operand.tmp (22 + x.1))).toArray
theorem tmpsP_eval (a : Act) (js : List Nat) : ((tmpsP js).map fun (i, x) => (i, a.eval x)).toList = ((js.map fun j => a.eval (.tmp (22 + j))).zipIdx 0).map fun x => (x.2, x.1) := by
  unfold tmpsP
  simp [List.zipIdx_map, List.map_map, Function.comp_def]
/-- a slice of parts of s cells is written out -/
theorem opw_rows {P : Program} {o : Oper} {a : Act} {w : World} {t e : TypeId} {s n : Nat} {js : List Nat} {z : Value} {b : Nat} {K : Act → World → Prop} {Q : Exit → Act → World → Prop} (ho : o.op = .buildSlice t n (tmpsP js))
    (hn : js.length = n) (hi : (P.info? e).map (fun i => (i.zero, i.size, i.bytes)) = some (some z, s, b)) (hu : P.underlying t = some (.slice e)) (hs : 0 < s) (hs4 : s ≤ 10) (hn0 : 0 < n) (hn1 : n ≤ 100)
    (hv : ∀ j ∈ js, (a.eval (.tmp (22 + j))).cells.size = s)
    (hK : K (a.put o.dst (.slice (some ⟨w.heap.size, 0, none⟩) n n)) (w.alloc (.cells ((js.map fun j => a.eval (.tmp (22 + j))).flatMap fun v => v.cells.toList).toArray e))) : Oper.wp P o a w K Q := by
  obtain ⟨i, hi', hz, hsz, _⟩ := info_parts hi
  have hm : n * s ≤ 1000 := Nat.le_trans (Nat.mul_le_mul hn1 hs4) (by decide)
  have hp : 0 < n * s := Nat.mul_pos hn0 hs
  refine opw_value ?_ hK
  have h := run_buildSlice (P := P) w t e n ((tmpsP js).map fun (i, x) => (i, a.eval x)) _ i _ hu hi' hz (by rw [hsz]; omega) (by rw [hsz]; omega) (by
    rw [hsz, tmpsP_eval]
    exact Great.fill_whole hs _ _ (fun v hv' => by obtain ⟨j, hj, rfl⟩ := List.mem_map.1 hv'; exact hv j hj) (by simp [hn]))
  unfold execOp
  rw [ho]
  simp only [Sem.run_bind, h]
  rfl
/-- the ten variables, by number: they lie in slots 1 to 10, the function in slot 11 -/
def kVars : List Fd := [⟨[76, 85, 78], 8, 8⟩, ⟨[73, 84, 84], 16, 4⟩, ⟨[84, 84, 84], 20, 4⟩, ⟨[67, 109, 100, 83, 78], 24, 4⟩, ⟨[69, 120, 112, 83, 116, 97, 116, 83, 78], 28, 4⟩, ⟨[83, 116, 97, 116, 83, 78], 24, 4⟩, ⟨[69, 120, 112, 67, 109, 100, 83, 78], 28, 4⟩, ⟨[77, 97, 120, 67, 109, 100, 83, 78], 32, 4⟩, ⟨[73, 83, 73, 68], 8, 6⟩, ⟨[84, 83, 73, 72], 14, 2⟩]
def KForm.toOp : KForm → Op
  | .mf => .move (.tmp 11)
  | .ld n => .load 149 (.tmp (n + 1))
  | .at nm p s => .call { callee := .value (.func 133), args := #[.const (.string (S nm)), .const (.int .i64 (p : Int)), .const (.int .i64 (s : Int))], argTypes := #[9, 3, 3] }
  | .row js => .buildSlice 146 js.length (tmpsP js)
  | .call jf j => .call { callee := .value (.tmp (22 + jf)), args := #[.tmp (22 + j)], argTypes := #[146] }
  | .kd op nm fl j => .build 231 #[(0, .const (.int .i64 (op : Int))), (1, .const (.string (S nm))), (2, .const (.int .i64 (fl : Int))), (3, .tmp (22 + j))]
  | .all js => .buildSlice 228 js.length (tmpsP js)
  | .mv j => .assign (.tmp (22 + j))
def KForm.uses : KForm → List Nat
  | .row js => js
  | .call jf j => [jf, j]
  | .kd _ _ _ j => [j]
  | .all js => js
  | .mv j => [j]
  | _ => []
def KForm.spec (sp : List KSpec) : KForm → Option KSpec
  | .mf => some .fn
  | .ld n => (kVars[n]?).map .fd
  | .at nm p s => some (.fd ⟨nm, p, s⟩)
  | .row js => if 0 < js.length ∧ js.length ≤ 100 then (optAll (js.map fun j => (sp[j]?).bind KSpec.fd?)).map .row else none
  | .call jf j => match sp[jf]?, sp[j]? with
    | some .fn, some (.row fs) => some (.row fs)
    | _, _ => none
  | .kd op nm fl j => match sp[j]? with
    | some (.row fs) => some (.kd ⟨op, nm, fl, fs⟩)
    | _ => none
  | .all js => if 0 < js.length ∧ js.length ≤ 100 then (optAll (js.map fun j => (sp[j]?).bind KSpec.kd?)).map .all else none
  | .mv j => sp[j]?
theorem map_of {α β : Type} {f : Nat → Option α} {g : Nat → β} {h : α → β} : ∀ {js : List Nat} {r : List α}, js.map f = r.map some → (∀ j ∈ js, ∀ x, f j = some x → g j = h x) → js.map g = r.map h
  | [], [], _, _ => rfl
  | [], _ :: _, e, _ => by cases e
  | _ :: _, [], e, _ => by cases e
  | j :: js, x :: r, e, hh => by
    simp only [List.map_cons, List.cons.injEq] at e ⊢
    exact ⟨hh j (List.mem_cons_self ..) x e.1, map_of e.2 fun k hk => hh k (List.mem_cons_of_mem _ hk)⟩
theorem map_some {α β γ : Type} {f : Nat → Option α} {g : Nat → β} {h : α → γ → β} {p : α → γ → Prop} : ∀ {js : List Nat} {r : List α}, js.map f = r.map some → (∀ j ∈ js, ∀ x, f j = some x → ∃ b, g j = h x b ∧ p x b) →
    ∃ bs : List γ, bs.length = r.length ∧ js.map g = (r.zip bs).map (fun y => h y.1 y.2) ∧ ∀ y ∈ r.zip bs, p y.1 y.2
  | [], [], _, _ => ⟨[], rfl, rfl, fun _ h => absurd h List.not_mem_nil⟩
  | [], _ :: _, e, _ => by cases e
  | _ :: _, [], e, _ => by cases e
  | j :: js, x :: r, e, hh => by
    simp only [List.map_cons, List.cons.injEq] at e
    obtain ⟨bs, hl, hm, hp⟩ := map_some e.2 fun k hk => hh k (List.mem_cons_of_mem _ hk)
    obtain ⟨b, hg, hpb⟩ := hh j (List.mem_cons_self ..) x e.1
    refine ⟨b :: bs, by simp [hl], by simp [hg, hm], fun y hy => ?_⟩
    rcases List.mem_cons.1 hy with rfl | hy
    · exact hpb
    · exact hp y hy
theorem flat_fd (fs : List Fd) : ((fs.map fdV).flatMap fun v => v.cells.toList).toArray = cellsF fs := by
  unfold cellsF
  rw [List.flatMap_map]
  rfl
theorem flat_rk (ks : List Rk) (bs : List Nat) : (((ks.zip bs).map fun y => rkV y.1 y.2).flatMap fun v => v.cells.toList).toArray = cellsRk ks bs := by
  unfold cellsRk
  rw [List.flatMap_map]
  rfl
theorem built_kd (op fl : Int) (nm : List UInt8) (b n : Nat) : Tryz.prog.built 231 [(0, .int .i64 op), (1, .string (S nm)), (2, .int .i64 fl), (3, .slice (some ⟨b, 0, none⟩) n n)] = some #[.int .i64 op, .string (S nm), .int .i64 fl, .slice (some ⟨b, 0, none⟩) n n] := by kernel_rfl
def kForms : List KForm := [.mf,
  .ld 0,
  .ld 1,
  .ld 2,
  .ld 3,
  .ld 4,
  .row [1, 2, 3, 4, 5],
  .call 0 6,
  .kd 0 [78, 111, 112, 79, 117, 116] 128 7,
  .mf,
  .ld 0,
  .ld 1,
  .at [76, 101, 110, 103, 116, 104] 20 4,
  .ld 3,
  .ld 4,
  .at [67, 100, 98, 65] 32 8,
  .at [67, 100, 98, 66] 40 8,
  .row [10, 11, 12, 13, 14, 15, 16],
  .call 9 17,
  .kd 1 [83, 99, 115, 105, 67, 111, 109, 109, 97, 110, 100] 231 18,
  .mf,
  .ld 0,
  .ld 1,
  .at [82, 101, 102, 84, 97, 103] 20 4,
  .ld 3,
  .ld 4,
  .at [82, 101, 102, 67, 109, 100, 83, 78] 32 4,
  .at [69, 120, 112, 68, 97, 116, 97, 83, 78] 36 4,
  .row [21, 22, 23, 24, 25, 26, 27],
  .call 20 28,
  .kd 2 [84, 97, 115, 107, 82, 101, 113, 117, 101, 115, 116] 255 29,
  .mf,
  .at [86, 101, 114, 115, 105, 111, 110, 77, 97, 120] 2 1,
  .at [86, 101, 114, 115, 105, 111, 110, 77, 105, 110] 3 1,
  .ld 8,
  .ld 9,
  .ld 1,
  .at [67, 73, 68] 20 2,
  .ld 3,
  .ld 4,
  .row [32, 33, 34, 35, 36, 37, 38, 39],
  .call 31 40,
  .kd 3 [76, 111, 103, 105, 110, 82, 101, 113, 117, 101, 115, 116] 207 41,
  .mf,
  .ld 0,
  .ld 1,
  .ld 2,
  .ld 3,
  .ld 4,
  .row [44, 45, 46, 47, 48],
  .call 43 49,
  .kd 4 [84, 101, 120, 116, 82, 101, 113, 117, 101, 115, 116] 192 50,
  .mf,
  .ld 0,
  .ld 1,
  .ld 2,
  .ld 4,
  .at [68, 97, 116, 97, 83, 78] 36 4,
  .at [79, 102, 102, 115, 101, 116] 40 4,
  .row [53, 54, 55, 56, 57, 58],
  .call 52 59,
  .kd 5 [68, 97, 116, 97, 79, 117, 116] 128 60,
  .mf,
  .ld 1,
  .at [67, 73, 68] 20 2,
  .ld 3,
  .ld 4,
  .row [63, 64, 65, 66],
  .call 62 67,
  .kd 6 [76, 111, 103, 111, 117, 116, 82, 101, 113, 117, 101, 115, 116] 255 68,
  .mf,
  .ld 0,
  .ld 1,
  .ld 2,
  .ld 4,
  .at [66, 101, 103, 82, 117, 110] 40 4,
  .at [82, 117, 110, 76, 101, 110, 103, 116, 104] 44 4,
  .row [71, 72, 73, 74, 75, 76],
  .call 70 77,
  .kd 16 [83, 110, 97, 99, 107] 143 78,
  .mf,
  .ld 0,
  .ld 1,
  .ld 2,
  .ld 5,
  .ld 6,
  .ld 7,
  .row [81, 82, 83, 84, 85, 86],
  .call 80 87,
  .kd 32 [78, 111, 112, 73, 110] 128 88,
  .mf,
  .at [82, 101, 115, 112, 111, 110, 115, 101] 2 1,
  .at [83, 116, 97, 116, 117, 115] 3 1,
  .ld 1,
  .at [83, 110, 97, 99, 107, 84, 97, 103] 20 4,
  .ld 5,
  .ld 6,
  .ld 7,
  .at [69, 120, 112, 68, 97, 116, 97, 83, 78] 36 4,
  .at [66, 105, 100, 105, 82, 101, 115, 105, 100, 117, 97, 108] 40 4,
  .at [82, 101, 115, 105, 100, 117, 97, 108] 44 4,
  .row [91, 92, 93, 94, 95, 96, 97, 98, 99, 100],
  .call 90 101,
  .kd 33 [83, 99, 115, 105, 82, 101, 115, 112, 111, 110, 115, 101] 158 102,
  .mf,
  .at [82, 101, 115, 112, 111, 110, 115, 101] 2 1,
  .ld 1,
  .ld 5,
  .ld 6,
  .ld 7,
  .row [105, 106, 107, 108, 109],
  .call 104 110,
  .kd 34 [84, 97, 115, 107, 82, 101, 115, 112, 111, 110, 115, 101] 128 111,
  .mf,
  .at [86, 101, 114, 115, 105, 111, 110, 77, 97, 120] 2 1,
  .at [86, 101, 114, 115, 105, 111, 110, 65, 99, 116, 105, 118, 101] 3 1,
  .ld 8,
  .ld 9,
  .ld 1,
  .ld 5,
  .ld 6,
  .ld 7,
  .at [83, 116, 97, 116, 117, 115, 67, 108, 97, 115, 115] 36 1,
  .at [83, 116, 97, 116, 117, 115, 68, 101, 116, 97, 105, 108] 37 1,
  .row [114, 115, 116, 117, 118, 119, 120, 121, 122, 123],
  .call 113 124,
  .kd 35 [76, 111, 103, 105, 110, 82, 101, 115, 112, 111, 110, 115, 101] 207 125,
  .mf,
  .ld 0,
  .ld 1,
  .ld 2,
  .ld 5,
  .ld 6,
  .ld 7,
  .row [128, 129, 130, 131, 132, 133],
  .call 127 134,
  .kd 36 [84, 101, 120, 116, 82, 101, 115, 112, 111, 110, 115, 101] 192 135,
  .mf,
  .at [83, 116, 97, 116, 117, 115] 3 1,
  .ld 0,
  .ld 1,
  .ld 2,
  .ld 5,
  .ld 6,
  .ld 7,
  .at [68, 97, 116, 97, 83, 78] 36 4,
  .at [79, 102, 102, 115, 101, 116] 40 4,
  .at [82, 101, 115, 105, 100, 117, 97, 108] 44 4,
  .row [138, 139, 140, 141, 142, 143, 144, 145, 146, 147],
  .call 137 148,
  .kd 37 [68, 97, 116, 97, 73, 110] 199 149,
  .mf,
  .at [82, 101, 115, 112, 111, 110, 115, 101] 2 1,
  .ld 1,
  .ld 5,
  .ld 6,
  .ld 7,
  .at [84, 105, 109, 101, 50, 87, 97, 105, 116] 40 2,
  .at [84, 105, 109, 101, 50, 82, 101, 116, 97, 105, 110] 42 2,
  .row [152, 153, 154, 155, 156, 157, 158],
  .call 151 159,
  .kd 38 [76, 111, 103, 111, 117, 116, 82, 101, 115, 112, 111, 110, 115, 101] 128 160,
  .mf,
  .ld 0,
  .ld 1,
  .ld 2,
  .ld 5,
  .ld 6,
  .ld 7,
  .at [82, 50, 84, 83, 78] 36 4,
  .at [79, 102, 102, 115, 101, 116] 40 4,
  .at [76, 101, 110, 103, 116, 104] 44 4,
  .row [163, 164, 165, 166, 167, 168, 169, 170, 171],
  .call 162 172,
  .kd 49 [82, 50, 84] 128 173,
  .mf,
  .ld 0,
  .ld 1,
  .ld 5,
  .ld 6,
  .ld 7,
  .at [69, 118, 101, 110, 116] 36 1,
  .at [86, 67, 111, 100, 101] 37 1,
  .at [80, 97, 114, 97, 109, 101, 116, 101, 114, 49] 38 2,
  .at [80, 97, 114, 97, 109, 101, 116, 101, 114, 50] 40 2,
  .at [80, 97, 114, 97, 109, 101, 116, 101, 114, 51] 42 2,
  .row [176, 177, 178, 179, 180, 181, 182, 183, 184, 185],
  .call 175 186,
  .kd 50 [65, 115, 121, 110, 99] 128 187,
  .mf,
  .at [82, 101, 97, 115, 111, 110] 2 1,
  .ld 1,
  .ld 5,
  .ld 6,
  .ld 7,
  .at [68, 97, 116, 97, 83, 78] 36 4,
  .row [190, 191, 192, 193, 194, 195],
  .call 189 196,
  .kd 63 [82, 101, 106, 101, 99, 116] 128 197,
  .all [8, 19, 30, 42, 51, 61, 69, 79, 89, 103, 112, 126, 136, 150, 161, 174, 188, 198],
  .mv 199]
def kSpecs : List KSpec := kForms.foldl (fun acc F => acc ++ [(F.spec acc).getD .fn]) []
theorem kForms_len : kForms.length = 201 := by kernel_rfl
theorem kForms_ok : kOps.toList.map (·.op) = kForms.map KForm.toOp := by kernel_rfl
theorem kSpecs_ok : kForms.map (fun F => F.spec kSpecs) = kSpecs.map some := by kernel_rfl
theorem kUses_ok : ((kOps.toList.zip kForms).all fun x => x.2.uses.all fun j => decide (j < 200) && x.1.after.toList.any fun e => e.on == j && Region.binds .any e) = true := by kernel_rfl
end Go.Proofs.YtlkikkfbennmnaaGreatDoor
namespace Go.Proofs.YtlkikkfbennmnaaGreatDoor
open Go Go.RowKit
theorem at_any (nm : List UInt8) (p s : Int) (w : World) : Calls Tryz.prog 133 #[.string (S nm), .int .i64 p, .int .i64 s] w fun e w' => e = .returned (.agg #[.string (S nm), .int .i64 p, .int .i64 s]) ∧ Below w.heap.size w w' := by
  go_enter Tryz.func133, Tryz.ntmps133
  go_wp2_with fail
  exact bodyPost_ret (v := .agg #[.string (S nm), .int .i64 p, .int .i64 s]) (by simp [results, Tryz.results133, go_sem]) rfl ⟨rfl, (Below.refl _ _).alloc (Nat.le_refl _) _⟩
theorem listOf_any (v : Value) (w : World) : Calls Tryz.prog 134 #[v] w fun e w' => e = .returned v ∧ w = w' := by
  go_enter Tryz.func134, Tryz.ntmps134
  go_wp2_with fail
  go_ret
  exact ⟨rfl, rfl⟩
/-- the region's own variables: ten fields, and the function that hands back its list -/
structure KVars (a0 : Act) (w0 : World) : Prop where
  var : ∀ n f, kVars[n]? = some f → ∃ b, a0.tmps.getD (n + 1) undef = .pointer (some ⟨b, 0, none⟩) ∧ Blk w0 b #[.string (S f.nm), .int .i64 (f.pos : Int), .int .i64 (f.sz : Int)] 149
  clo : a0.tmps.getD 11 undef = .func (.func 134) #[] #[]
def kPv (i : Nat) (v : Value) (w : World) : Prop := ∀ s, kSpecs[i]? = some s → s.holds v w
theorem kPv_later (i : Nat) (v : Value) (W W' : World) (h : kPv i v W) (hb : Below W.heap.size W W') : kPv i v W' := fun s hs => KSpec.later (h s hs) hb
theorem kOps_low {t : Nat} (h0 : 0 < t) (h1 : t < 22) : ∀ (j : Nat) (o : Oper), kOps[j]? = some o → o.dst ≠ some t := fun j o ho e => by
  rw [(kOps_dst j o ho).2] at e
  have := Option.some.inj e
  split at this <;> omega
theorem kVars_len {n : Nat} {f : Fd} (h : kVars[n]? = some f) : n < 10 := (List.getElem?_eq_some_iff.1 h).1
set_option maxRecDepth 100000 in
theorem k_step {a0 : Act} {w0 : World} (hv : KVars a0 w0) {Q : Exit → Act → World → Prop} (i : Nat) (o : Oper) (ho : kOps[i]? = some o) (listed : Array Bool) (a : Act) (w : World) (hI : FlowI kOps kPv a0 w0 listed a w)
    (hall : ∀ e ∈ o.after, Region.binds .any e = true → listed.getD e.on false = true) : Oper.wp Tryz.prog o a w (fun a' w' => ∃ v, a' = a.put o.dst v ∧ kPv i v w' ∧ Below w.heap.size w w') Q := by
  have hi : i < 201 := (kOps_dst i o ho).1
  obtain ⟨F, hF⟩ : ∃ F, kForms[i]? = some F := ⟨kForms[i]'(by rw [kForms_len]; exact hi), List.getElem?_eq_getElem _⟩
  have hol : kOps.toList[i]? = some o := by simpa using ho
  have hop : o.op = F.toOp := by
    have h := congrArg (·[i]?) kForms_ok
    simp only [List.getElem?_map, hol, hF, Option.map_some] at h
    exact Option.some.inj h
  have hsp : ∃ s, F.spec kSpecs = some s ∧ kSpecs[i]? = some s := by
    have h := congrArg (·[i]?) kSpecs_ok
    simp only [List.getElem?_map, hF, Option.map_some] at h
    cases hs : kSpecs[i]? with
    | none => rw [hs] at h; cases h
    | some s => rw [hs] at h; exact ⟨s, Option.some.inj h, rfl⟩
  have huse : ∀ j ∈ F.uses, ∀ s, kSpecs[j]? = some s → s.holds (a.eval (.tmp (22 + j))) w := by
    intro j hj s hs
    have hz : (o, F) ∈ kOps.toList.zip kForms := List.mem_of_getElem? (i := i) (by rw [List.getElem?_zip_eq_some]; exact ⟨hol, hF⟩)
    have h1 := List.all_eq_true.1 (List.all_eq_true.1 kUses_ok _ hz) j hj
    simp only [Bool.and_eq_true, decide_eq_true_eq, List.any_eq_true, beq_iff_eq] at h1
    obtain ⟨hj2, e, he, rfl, hb⟩ := h1
    have hl := hall e (by simpa using he) hb
    obtain ⟨o', ho'⟩ : ∃ o', kOps[e.on]? = some o' := ⟨kOps[e.on]'(by rw [kOps_size]; omega), Array.getElem?_eq_getElem _⟩
    exact hI.vals e.on o' (22 + e.on) ho' (by rw [(kOps_dst e.on o' ho').2, if_pos hj2]) hl s hs
  obtain ⟨s, hs1, hs2⟩ := hsp
  have done : ∀ v w', s.holds v w' → Below w.heap.size w w' → ∃ v', a.put o.dst v = a.put o.dst v' ∧ kPv i v' w' ∧ Below w.heap.size w w' := fun v w' h hb => ⟨v, rfl, fun s' hs' => by cases hs2.symm.trans hs'; exact h, hb⟩
  cases F with
  | mf =>
    cases hs1
    refine opw_move hop (done _ _ ?_ (Below.refl _ _))
    exact (hI.rest 11 (kOps_low (by decide) (by decide))).trans hv.clo
  | ld n =>
    replace hs1 : (kVars[n]?).map KSpec.fd = some s := hs1
    cases hf : kVars[n]? with
    | none => rw [hf] at hs1; cases hs1
    | some f =>
      rw [hf] at hs1
      cases hs1
      obtain ⟨b, hp, hB⟩ := hv.var n f hf
      have hn := kVars_len hf
      obtain ⟨q0, q1, q2⟩ := (hB.later hI.low).three
      exact opw_load hop ((hI.rest (n + 1) (kOps_low (by omega) (by omega))).trans hp) q0 q1 q2 (done _ _ rfl (Below.refl _ _))
  | «at» nm p s' =>
    cases hs1
    refine opw_call (f := 133) Tryz.func133 (by kernel_rfl) (by kernel_rfl) hop rfl ?_
    simp only [List.map_toArray, List.map_cons, List.map_nil]
    exact (at_any nm p s' w).mono fun (e : Ending) w' ⟨he, hb⟩ => ⟨_, he, done _ _ rfl hb⟩
  | row js =>
    replace hs1 : (if 0 < js.length ∧ js.length ≤ 100 then (optAll (js.map fun j => (kSpecs[j]?).bind KSpec.fd?)).map KSpec.row else none) = some s := hs1
    split at hs1
    · rename_i hjl
      cases ha : optAll (js.map fun j => (kSpecs[j]?).bind KSpec.fd?) with
      | none => rw [ha] at hs1; cases hs1
      | some fs =>
        rw [ha] at hs1
        cases hs1
        have hm := optAll_eq ha
        have hval : ∀ j ∈ js, ∀ f, (kSpecs[j]?).bind KSpec.fd? = some f → a.eval (.tmp (22 + j)) = fdV f := by
          intro j hj f hf
          cases hk : kSpecs[j]? with
          | none => rw [hk] at hf; cases hf
          | some sj =>
            rw [hk] at hf
            cases sj with
            | fd g => cases hf; exact huse j hj _ hk
            | _ => cases hf
        have hvs := map_of hm hval
        have hlen : fs.length = js.length := by have := congrArg List.length hm; simpa using this.symm
        refine opw_rows (s := 3) (z := .agg #[.string (S []), .int .i64 0, .int .i64 0]) (b := 32) (e := 149) hop rfl (by kernel_rfl) Tryz.underlying146 (by decide) (by decide) hjl.1 hjl.2 (fun j hj => ?_) ?_
        · have h1 : a.eval (.tmp (22 + j)) ∈ js.map fun j => a.eval (.tmp (22 + j)) := List.mem_map.2 ⟨j, hj, rfl⟩
          rw [hvs] at h1
          obtain ⟨f, _, hf⟩ := List.mem_map.1 h1
          rw [← hf]
          rfl
        · rw [hvs, flat_fd]
          refine done _ _ ⟨w.heap.size, by rw [hlen], Blk.new w _ _⟩ ((Below.refl _ _).alloc (Nat.le_refl _) _)
    · cases hs1
  | call jf j =>
    replace hs1 : (match kSpecs[jf]?, kSpecs[j]? with
      | some .fn, some (.row fs) => some (KSpec.row fs)
      | _, _ => none) = some s := hs1
    split at hs1
    · rename_i fs h1 h2
      cases hs1
      have hf := huse jf (by simp [KForm.uses]) _ h1
      have hr := huse j (by simp [KForm.uses]) _ h2
      refine opw_call (f := 134) Tryz.func134 (by kernel_rfl) (by kernel_rfl) hop hf ?_
      simp only [List.map_toArray, List.map_cons, List.map_nil]
      exact (listOf_any (a.eval (.tmp (22 + j))) w).mono fun (e : Ending) w' ⟨he, hw⟩ => ⟨_, he, done _ _ (hw ▸ hr) (hw ▸ Below.refl _ _)⟩
    · cases hs1
  | kd op nm fl j =>
    replace hs1 : (match kSpecs[j]? with
      | some (.row fs) => some (KSpec.kd ⟨op, nm, fl, fs⟩)
      | _ => none) = some s := hs1
    split at hs1
    · rename_i fs h2
      cases hs1
      obtain ⟨b, hb, hF⟩ := huse j (by simp [KForm.uses]) _ h2
      refine opw_build hop (vals := [(0, .int .i64 (op : Int)), (1, .string (S nm)), (2, .int .i64 (fl : Int)), (3, .slice (some ⟨b, 0, none⟩) fs.length fs.length)]) ?_ (built_kd _ _ nm b _) (done _ _ ⟨b, rfl, hF⟩ (Below.refl _ _))
      rw [← hb]
      simp only [List.map_toArray, List.map_cons, List.map_nil]
      rfl
    · cases hs1
  | all js =>
    replace hs1 : (if 0 < js.length ∧ js.length ≤ 100 then (optAll (js.map fun j => (kSpecs[j]?).bind KSpec.kd?)).map KSpec.all else none) = some s := hs1
    split at hs1
    · rename_i hjl
      cases ha : optAll (js.map fun j => (kSpecs[j]?).bind KSpec.kd?) with
      | none => rw [ha] at hs1; cases hs1
      | some ks =>
        rw [ha] at hs1
        cases hs1
        have hm := optAll_eq ha
        have hval : ∀ j ∈ js, ∀ k, (kSpecs[j]?).bind KSpec.kd? = some k → ∃ b, a.eval (.tmp (22 + j)) = rkV k b ∧ Flds w b k.fs := by
          intro j hj k hf
          cases hk : kSpecs[j]? with
          | none => rw [hk] at hf; cases hf
          | some sj =>
            rw [hk] at hf
            cases sj with
            | kd g => cases hf; exact huse j hj _ hk
            | _ => cases hf
        obtain ⟨bs, hbl, hvs, hfl⟩ := map_some (p := fun (k : Rk) (b : Nat) => Flds w b k.fs) hm hval
        have hlen : ks.length = js.length := by have := congrArg List.length hm; simpa using this.symm
        refine opw_rows (s := 4) (z := .agg #[.int .i64 0, .string (S []), .int .i64 0, .slice none 0 0]) (b := 56) (e := 231) hop rfl (by kernel_rfl) Tryz.underlying228 (by decide) (by decide) hjl.1 hjl.2 (fun j hj => ?_) ?_
        · have h1 : a.eval (.tmp (22 + j)) ∈ js.map fun j => a.eval (.tmp (22 + j)) := List.mem_map.2 ⟨j, hj, rfl⟩
          rw [hvs] at h1
          obtain ⟨f, _, hf⟩ := List.mem_map.1 h1
          rw [← hf]
          rfl
        · rw [hvs, flat_rk]
          have hb := (Below.refl w.heap.size w).alloc (Nat.le_refl _) (.cells (cellsRk ks bs) 231)
          exact done _ _ ⟨w.heap.size, bs, by rw [hlen], hbl, Blk.new w _ _, fun x hx => Blk.later (hfl x hx) hb⟩ hb
    · cases hs1
  | mv j =>
    have hs3 : kSpecs[j]? = some s := hs1
    exact opw_assign hop (done _ _ (huse j (by simp [KForm.uses]) _ hs3) (Below.refl _ _))
end Go.Proofs.YtlkikkfbennmnaaGreatDoor
namespace Go.Proofs.YtlkikkfbennmnaaGreatDoor
open Go.RowKit
/-- what the walk carries: the variables' blocks, the rows' blocks, what was there -/
def KSt (w0 W : World) (vs : List (Nat × List UInt8 × Int × Int)) (l : List (Nat × Array Value)) : Prop :=
  (∀ x ∈ vs, Blk W x.1 #[.string (S x.2.1), .int .i64 x.2.2.1, .int .i64 x.2.2.2] 149) ∧ (∀ x ∈ l, Blk W x.1 x.2 149) ∧ Below w0.heap.size w0 W
theorem KSt.later {w0 W W' : World} {vs : List (Nat × List UInt8 × Int × Int)} {l : List (Nat × Array Value)} (h : KSt w0 W vs l) (hb : Below W.heap.size W W') : KSt w0 W' vs l :=
  ⟨fun x hx => (h.1 x hx).later hb, fun x hx => (h.2.1 x hx).later hb, below_then h.2.2 hb⟩
theorem KSt.var {w0 W : World} {vs : List (Nat × List UInt8 × Int × Int)} {l : List (Nat × Array Value)} (h : KSt w0 W vs l) {b : Nat} {nm : List UInt8} {p s : Int} (hb : Blk W b #[.string (S nm), .int .i64 p, .int .i64 s] 149) : KSt w0 W ((b, nm, p, s) :: vs) l :=
  ⟨fun x hx => by rcases List.mem_cons.1 hx with rfl | hx; exact hb; exact h.1 x hx, h.2.1, h.2.2⟩
theorem KSt.row {w0 W : World} {vs : List (Nat × List UInt8 × Int × Int)} {l : List (Nat × Array Value)} (h : KSt w0 W vs l) {b : Nat} {C : Array Value} (hb : Blk W b C 149) : KSt w0 W vs ((b, C) :: l) :=
  ⟨h.1, fun x hx => by rcases List.mem_cons.1 hx with rfl | hx; exact hb; exact h.2.1 x hx, h.2.2⟩
theorem KSt.at {w0 W : World} {vs : List (Nat × List UInt8 × Int × Int)} {l : List (Nat × Array Value)} (h : KSt w0 W vs l) {b : Nat} {nm : List UInt8} {p s : Int} (hm : (b, nm, p, s) ∈ vs) :
    W.cell? ⟨b, 0, none⟩ = some (.string (S nm)) ∧ W.cell? ⟨b, 1, none⟩ = some (.int .i64 p) ∧ W.cell? ⟨b, 2, none⟩ = some (.int .i64 s) := Blk.three (h.1 _ hm)
theorem alloc3 (W : World) (A B C : Array Value) (t : TypeId) : Blk (((W.alloc (.cells A t)).alloc (.cells B t)).alloc (.cells C t)) W.heap.size A t ∧ Blk (((W.alloc (.cells A t)).alloc (.cells B t)).alloc (.cells C t)) (W.heap.size + 1) B t ∧
    Blk (((W.alloc (.cells A t)).alloc (.cells B t)).alloc (.cells C t)) (W.heap.size + 1 + 1) C t ∧ Below W.heap.size W (((W.alloc (.cells A t)).alloc (.cells B t)).alloc (.cells C t)) := by
  have h1 := Blk.new (W.alloc (.cells A t)) B t
  have h2 := Blk.new ((W.alloc (.cells A t)).alloc (.cells B t)) C t
  rw [World.size_alloc] at h1
  rw [World.size_alloc, World.size_alloc] at h2
  exact ⟨((Blk.new W A t).alloc _).alloc _, h1.alloc _, h2, (((Below.refl W.heap.size W).alloc (Nat.le_refl _) _).alloc (by simp) _).alloc (by simp; omega) _⟩
theorem alloc2 (W : World) (A B : Array Value) (t : TypeId) : Blk ((W.alloc (.cells A t)).alloc (.cells B t)) W.heap.size A t ∧ Blk ((W.alloc (.cells A t)).alloc (.cells B t)) (W.heap.size + 1) B t ∧
    Below W.heap.size W ((W.alloc (.cells A t)).alloc (.cells B t)) := by
  have h1 := Blk.new (W.alloc (.cells A t)) B t
  rw [World.size_alloc] at h1
  exact ⟨(Blk.new W A t).alloc _, h1, ((Below.refl W.heap.size W).alloc (Nat.le_refl _) _).alloc (by simp) _⟩
def rkOf (k : Kd) : Rk := ⟨k.op, k.nm, k.fl, k.fs⟩
def RetKinds (w : World) (e : Ending) (w' : World) : Prop :=
  ∃ b, ∃ bs : List Nat, e = .returned (.slice (some ⟨b, 0, none⟩) 18 18) ∧ bs.length = 18 ∧ Blk w' b (cellsRk (kinds.map rkOf) bs) 231 ∧ (∀ x ∈ (kinds.map rkOf).zip bs, Flds w' x.2 x.1.fs) ∧ Below w.heap.size w w'
theorem kSpecs_last : kSpecs[200]? = some (.all (kinds.map rkOf)) := by kernel_rfl
set_option maxRecDepth 100000 in
set_option maxHeartbeats 4000000 in
theorem kinds_any (w : World) : Calls Tryz.prog 118 #[] w (RetKinds w) := by
  have HK := Lib.hid (show KSt w w [] [] from ⟨fun _ h => absurd h List.not_mem_nil, fun _ h => absurd h List.not_mem_nil, Below.refl _ _⟩)
  go_enter Tryz.func118, Tryz.ntmps118
  go_wp2_with fail
  refine (at_any _ _ _ _).mono ?_
  rintro e w1 ⟨rfl, hb⟩
  replace HK := Lib.hid (HK.out.later hb)
  clear hb
  go_wp2_with fail
  refine (at_any _ _ _ _).mono ?_
  rintro e w2 ⟨rfl, hb⟩
  replace HK := Lib.hid (HK.out.later hb)
  clear hb
  go_wp2_with fail
  refine (at_any _ _ _ _).mono ?_
  rintro e w3 ⟨rfl, hb⟩
  replace HK := Lib.hid (HK.out.later hb)
  clear hb
  go_upto_region 2 with (fail)
  obtain ⟨G1, G2, G3, G4⟩ := alloc3 w3 #[.string (S [76, 85, 78]), .int .i64 8, .int .i64 8] #[.string (S [73, 84, 84]), .int .i64 16, .int .i64 4] #[.string (S [84, 84, 84]), .int .i64 20, .int .i64 4] 149
  generalize (((w3.alloc (.cells #[.string (S [76, 85, 78]), .int .i64 8, .int .i64 8] 149)).alloc (.cells #[.string (S [73, 84, 84]), .int .i64 16, .int .i64 4] 149)).alloc (.cells #[.string (S [84, 84, 84]), .int .i64 20, .int .i64 4] 149)) = v0 at G1 G2 G3 G4 ⊢
  replace HK := Lib.hid ((((HK.out.later G4).var G1).var G2).var G3)
  clear G1 G2 G3 G4
  go_wp2_with fail
  refine (at_any _ _ _ _).mono ?_
  rintro e w4 ⟨rfl, hb⟩
  replace HK := Lib.hid (HK.out.later hb)
  clear hb
  go_wp2_with fail
  refine (at_any _ _ _ _).mono ?_
  rintro e w5 ⟨rfl, hb⟩
  replace HK := Lib.hid (HK.out.later hb)
  clear hb
  go_upto_region 3 with (fail)
  obtain ⟨G1, G2, G4⟩ := alloc2 w5 #[.string (S [67, 109, 100, 83, 78]), .int .i64 24, .int .i64 4] #[.string (S [69, 120, 112, 83, 116, 97, 116, 83, 78]), .int .i64 28, .int .i64 4] 149
  generalize ((w5.alloc (.cells #[.string (S [67, 109, 100, 83, 78]), .int .i64 24, .int .i64 4] 149)).alloc (.cells #[.string (S [69, 120, 112, 83, 116, 97, 116, 83, 78]), .int .i64 28, .int .i64 4] 149)) = v1 at G1 G2 G4 ⊢
  replace HK := Lib.hid (((HK.out.later G4).var G1).var G2)
  clear G1 G2 G4
  go_wp2_with fail
  refine (at_any _ _ _ _).mono ?_
  rintro e w6 ⟨rfl, hb⟩
  replace HK := Lib.hid (HK.out.later hb)
  clear hb
  go_wp2_with fail
  refine (at_any _ _ _ _).mono ?_
  rintro e w7 ⟨rfl, hb⟩
  replace HK := Lib.hid (HK.out.later hb)
  clear hb
  go_wp2_with fail
  refine (at_any _ _ _ _).mono ?_
  rintro e w8 ⟨rfl, hb⟩
  replace HK := Lib.hid (HK.out.later hb)
  clear hb
  go_upto_region 4 with (fail)
  obtain ⟨G1, G2, G3, G4⟩ := alloc3 w8 #[.string (S [83, 116, 97, 116, 83, 78]), .int .i64 24, .int .i64 4] #[.string (S [69, 120, 112, 67, 109, 100, 83, 78]), .int .i64 28, .int .i64 4] #[.string (S [77, 97, 120, 67, 109, 100, 83, 78]), .int .i64 32, .int .i64 4] 149
  generalize (((w8.alloc (.cells #[.string (S [83, 116, 97, 116, 83, 78]), .int .i64 24, .int .i64 4] 149)).alloc (.cells #[.string (S [69, 120, 112, 67, 109, 100, 83, 78]), .int .i64 28, .int .i64 4] 149)).alloc (.cells #[.string (S [77, 97, 120, 67, 109, 100, 83, 78]), .int .i64 32, .int .i64 4] 149)) = v2 at G1 G2 G3 G4 ⊢
  replace HK := Lib.hid ((((HK.out.later G4).var G1).var G2).var G3)
  clear G1 G2 G3 G4
  go_wp2_with fail
  refine (at_any _ _ _ _).mono ?_
  rintro e w9 ⟨rfl, hb⟩
  replace HK := Lib.hid (HK.out.later hb)
  clear hb
  go_wp2_with fail
  refine (at_any _ _ _ _).mono ?_
  rintro e w10 ⟨rfl, hb⟩
  replace HK := Lib.hid (HK.out.later hb)
  clear hb
  go_upto_region 5 with (fail)
  obtain ⟨G1, G2, G4⟩ := alloc2 w10 #[.string (S [73, 83, 73, 68]), .int .i64 8, .int .i64 6] #[.string (S [84, 83, 73, 72]), .int .i64 14, .int .i64 2] 149
  generalize ((w10.alloc (.cells #[.string (S [73, 83, 73, 68]), .int .i64 8, .int .i64 6] 149)).alloc (.cells #[.string (S [84, 83, 73, 72]), .int .i64 14, .int .i64 2] 149)) = v3 at G1 G2 G4 ⊢
  replace HK := Lib.hid (((HK.out.later G4).var G1).var G2)
  clear G1 G2 G4
  go_upto_region 6 with (fail)
  refine wp_region_flow (ops := kOps) (by kernel_rfl) kOps_back kPv kPv_later (fun i o h => ⟨_, (kOps_dst i o h).2, ?_⟩) kOps_inj kOps_guard (fun i o ho listed a w hI hall => k_step (Q := _) ⟨(fun n f h => match n, f, h with
      | 0, f, h => by cases h; exact ⟨_, rfl, HK.out.1 _ (.tail _ (.tail _ (.tail _ (.tail _ (.tail _ (.tail _ (.tail _ (.tail _ (.tail _ (.head _))))))))))⟩
      | 1, f, h => by cases h; exact ⟨_, rfl, HK.out.1 _ (.tail _ (.tail _ (.tail _ (.tail _ (.tail _ (.tail _ (.tail _ (.tail _ (.head _)))))))))⟩
      | 2, f, h => by cases h; exact ⟨_, rfl, HK.out.1 _ (.tail _ (.tail _ (.tail _ (.tail _ (.tail _ (.tail _ (.tail _ (.head _))))))))⟩
      | 3, f, h => by cases h; exact ⟨_, rfl, HK.out.1 _ (.tail _ (.tail _ (.tail _ (.tail _ (.tail _ (.tail _ (.head _)))))))⟩
      | 4, f, h => by cases h; exact ⟨_, rfl, HK.out.1 _ (.tail _ (.tail _ (.tail _ (.tail _ (.tail _ (.head _))))))⟩
      | 5, f, h => by cases h; exact ⟨_, rfl, HK.out.1 _ (.tail _ (.tail _ (.tail _ (.tail _ (.head _)))))⟩
      | 6, f, h => by cases h; exact ⟨_, rfl, HK.out.1 _ (.tail _ (.tail _ (.tail _ (.head _))))⟩
      | 7, f, h => by cases h; exact ⟨_, rfl, HK.out.1 _ (.tail _ (.tail _ (.head _)))⟩
      | 8, f, h => by cases h; exact ⟨_, rfl, HK.out.1 _ (.tail _ (.head _))⟩
      | 9, f, h => by cases h; exact ⟨_, rfl, HK.out.1 _ (.head _)⟩
      | _ + 10, f, h => (by cases h)), rfl⟩ i o ho listed a w hI hall) ?_
  · have hi := (kOps_dst i o h).1
    show (if i < 200 then 22 + i else 0) < 222
    split <;> omega
  · intro listed a wz hI hall
    obtain ⟨o, ho⟩ : ∃ o, kOps[200]? = some o := ⟨kOps[200]'(by rw [kOps_size]; decide), Array.getElem?_eq_getElem _⟩
    obtain ⟨b, bs, hv, hl, hB, hF⟩ := hI.vals 200 o 0 ho (by rw [(kOps_dst 200 o ho).2]; rfl) (hall 200 (by rw [kOps_size]; decide)) _ kSpecs_last
    have hlow := below_then HK.out.2.2 hI.low
    have hd : a.defers = [] := hI.defers
    obtain ⟨T, D⟩ := a
    obtain rfl : D = [] := hd
    have hT : T.getD 0 undef = .slice (some ⟨b, 0, none⟩) 18 18 := hv
    have HR : RetKinds w (.returned (.slice (some ⟨b, 0, none⟩) 18 18)) wz := ⟨b, bs, rfl, hl, hB, hF, hlow⟩
    have HR' := Lib.hid HR
    have HT := Lib.hid hT
    clear hI ho hall HK o hv hl hB hF hlow hT HR
    go_wp2_with fail
    exact bodyPost_ret (v := .slice (some ⟨b, 0, none⟩) 18 18) (by have hT := HT.out; simp [results, Tryz.results118, go_sem]; simpa using hT) rfl HR'.out
end Go.Proofs.YtlkikkfbennmnaaGreatDoor
namespace Go.Proofs.YtlkikkfbennmnaaGreatDoor
open Go.RowKit
theorem cellsRk_get : ∀ (ks : List Rk) (bs : List Nat) (j : Nat) (hj : j < ks.length) (hb : j < bs.length) (i : Nat), i < 4 → (cellsRk ks bs)[j * 4 + i]? = (rkC ks[j] bs[j])[i]?
  | [], _, j, hj, _, _, _ => by simp at hj
  | _ :: _, [], j, _, hb, _, _ => by simp at hb
  | k :: ks, b :: bs, j, hj, hb, i, hi => by
    unfold cellsRk
    simp only [List.zip_cons_cons, List.flatMap_cons, List.getElem?_toArray]
    cases j with
    | zero => rw [List.getElem?_append_left (by simp [rkC]; omega)]; simp
    | succ j =>
      rw [List.getElem?_append_right (by simp [rkC]; omega)]
      have h := cellsRk_get ks bs j (by simpa using hj) (by simpa using hb) i hi
      unfold cellsRk at h
      simp only [List.getElem?_toArray] at h
      rw [show (j + 1) * 4 + i - (rkC k b).length = j * 4 + i from by simp [rkC]; omega, h]
      simp
def RetKind (w : World) (k : Kd) (e : Ending) (w' : World) : Prop :=
  ∃ b, e = .returned (.tuple #[.string (S k.nm), .int .i64 (k.fl : Int), .slice (some ⟨b, 0, none⟩) k.fs.length k.fs.length, .bool true]) ∧ Flds w' b k.fs ∧ Below w.heap.size w w'
def RetNoKind (w : World) (e : Ending) (w' : World) : Prop :=
  e = .returned (.tuple #[.string (S []), .int .i64 0, .slice none 0 0, .bool false]) ∧ Below w.heap.size w w'
def RetKindO (w : World) (o : Option Kd) (e : Ending) (w' : World) : Prop := match o with
  | some k => RetKind w k e w'
  | none => RetNoKind w e w'
theorem kinds_len : kinds.length = 18 := by kernel_rfl
structure KindB (w : World) (b : Nat) (bs : List Nat) (W : World) : Prop where
  blk : Blk W b (cellsRk (kinds.map rkOf) bs) 231
  fl : ∀ x ∈ (kinds.map rkOf).zip bs, Flds W x.2 x.1.fs
  low : Below w.heap.size w W
theorem KindB.later {w W W' : World} {b : Nat} {bs : List Nat} (h : KindB w b bs W) (hb : Below W.heap.size W W') : KindB w b bs W' :=
  ⟨h.blk.later hb, fun x hx => Blk.later (h.fl x hx) hb, below_then h.low hb⟩
theorem KindB.get {w W : World} {b : Nat} {bs : List Nat} (h : KindB w b bs W) (j : Nat) (hj : j < kinds.length) (hjb : j < bs.length) :
    W.cell? ⟨b, j * 4, none⟩ = some (.int .i64 (kinds[j].op : Int)) ∧ W.cell? ⟨b, j * 4 + 1, none⟩ = some (.string (S kinds[j].nm)) ∧ W.cell? ⟨b, j * 4 + 2, none⟩ = some (.int .i64 (kinds[j].fl : Int)) ∧
    W.cell? ⟨b, j * 4 + 3, none⟩ = some (.slice (some ⟨bs[j], 0, none⟩) kinds[j].fs.length kinds[j].fs.length) ∧ Flds W bs[j] kinds[j].fs := by
  have hm : j < (kinds.map rkOf).length := by simpa using hj
  have e : (kinds.map rkOf)[j] = rkOf kinds[j] := List.getElem_map _
  have g := fun i hi => (h.blk.cell (j * 4 + i)).trans (cellsRk_get (kinds.map rkOf) bs j hm hjb i hi)
  rw [e] at g
  refine ⟨g 0 (by decide), g 1 (by decide), g 2 (by decide), g 3 (by decide), ?_⟩
  have hz : ((kinds.map rkOf)[j], bs[j]) ∈ (kinds.map rkOf).zip bs := List.mem_of_getElem? (i := j) (by rw [List.getElem?_zip_eq_some]; exact ⟨List.getElem?_eq_getElem _, List.getElem?_eq_getElem _⟩)
  have := h.fl _ hz
  rw [e] at this
  exact this
theorem kindOf_at {op : Int} {j : Nat} (hj : j < kinds.length) (hq : ∀ i (hi : i < j), (kinds[i].op : Int) ≠ op) (hk : (kinds[j].op : Int) = op) : kindOf op = some kinds[j] := by
  refine kindOf_prefix (q := kinds.take j) (k := kinds[j]) ?_ ?_ hk
  · rw [← List.take_succ_eq_append_getElem hj]; exact List.take_prefix _ _
  · intro k hm
    obtain ⟨i, hi, rfl⟩ := List.mem_iff_getElem.1 hm
    rw [List.getElem_take]
    exact hq i (by simp at hi; omega)
set_option maxRecDepth 100000 in
theorem refKind_any (op : Int) (w : World) : Calls Tryz.prog 107 #[.int .i64 op] w (RetKindO w (kindOf op)) := by
  go_enter Tryz.func107, Tryz.ntmps107
  go_wp2_with fail
  refine (kinds_any w).mono ?_
  rintro e w1 ⟨b, bs, rfl, hl, hB, hF, hb⟩
  have HK := Lib.hid (show KindB w b bs w1 from ⟨hB, hF, hb⟩)
  have Hl := Lib.hid hl
  clear hB hF hb hl
  go_wp2_with fail
  go_loopw [10] (fun i wr => ∃ j : Nat, j ≤ 18 ∧ i = .int .i64 j ∧ (∀ i (hi : i < j) (hk : i < kinds.length), (kinds[i].op : Int) ≠ op) ∧ KindB w b bs wr) (fun i _ => 18 - (intOf i).toNat)
  case atStart => exact ⟨0, by omega, rfl, fun i hi => absurd hi (Nat.not_lt_zero _), HK.out⟩
  case round =>
    obtain ⟨j, hj, rfl, hpre, hkb⟩ := hrel
    have HKB := Lib.hid hkb
    have Hpre := Lib.hid hpre
    clear hkb hpre
    by_cases hlt : j < 18
    · have hjk : j < kinds.length := by rw [kinds_len]; exact hlt
      obtain ⟨q0, q1, q2, q3, hfl⟩ := HKB.out.get j hjk (by rw [Hl.out]; exact hlt)
      have hke := fun h => kindOf_at (op := op) hjk (fun i hi => Hpre.out i hi (by rw [kinds_len]; omega)) h
      have hkn := fun (h : (kinds[j].op : Int) ≠ op) i (hi : i < j + 1) (hk : i < kinds.length) => (show (kinds[i].op : Int) ≠ op from by
        by_cases e : i = j
        · subst e; exact h
        · exact Hpre.out i (by omega) hk)
      obtain ⟨k, hk⟩ : ∃ k, kinds[j] = k := ⟨_, rfl⟩
      obtain ⟨B, hB⟩ : ∃ B, bs[j]'(by rw [Hl.out]; exact hlt) = B := ⟨_, rfl⟩
      rw [hk] at q0 q1 q2 q3 hfl hke hkn
      rw [hB] at q3 hfl
      have hnew := Blk.new wr #[.int .i64 (k.op : Int), .string (S k.nm), .int .i64 (k.fl : Int), .slice (some ⟨B, 0, none⟩) k.fs.length k.fs.length] 231
      have hbn := (Below.refl wr.heap.size wr).alloc (Nat.le_refl _) (.cells #[.int .i64 (k.op : Int), .string (S k.nm), .int .i64 (k.fl : Int), .slice (some ⟨B, 0, none⟩) k.fs.length k.fs.length] 231)
      have HFl := Lib.hid (show Flds _ B k.fs from Blk.later hfl hbn)
      have HKB2 := Lib.hid (HKB.out.later hbn)
      have Hke := Lib.hid hke
      have Hkn := Lib.hid hkn
      clear hfl hbn hnew hke hkn hk hB hjk
      by_cases ho : (k.op : Int) = op
      · have hb : ((k.op : Int) == op) = true := by simpa using ho
        have Ho := Lib.hid ho
        clear ho
        go_wp2_with fail
        obtain ⟨c0, c1, c2, c3⟩ := (Blk.new wr #[.int .i64 (k.op : Int), .string (S k.nm), .int .i64 (k.fl : Int), .slice (some ⟨B, 0, none⟩) k.fs.length k.fs.length] 231).four
        generalize (wr.alloc (.cells #[.int .i64 (k.op : Int), .string (S k.nm), .int .i64 (k.fl : Int), .slice (some ⟨B, 0, none⟩) k.fs.length k.fs.length] 231)) = w2 at HFl HKB2 c0 c1 c2 c3 ⊢
        have HR := Lib.hid (show ∀ n, RetKindO w (kindOf op) (.returned (.tuple #[.string (S k.nm), .int .i64 (k.fl : Int), .slice (some ⟨B, 0, none⟩) k.fs.length k.fs.length, .bool true])) (w2.drewN n) from fun n => by rw [Hke.out Ho.out]; exact ⟨B, rfl, HFl.out, below_drewN HKB2.out.low n⟩)
        go_quiet (fail)
        go_wp2_with fail
        exact bodyPost_ret (v := .tuple #[.string (S k.nm), .int .i64 (k.fl : Int), .slice (some ⟨B, 0, none⟩) k.fs.length k.fs.length, .bool true]) (by simp [results, Tryz.results107, go_sem]) rfl (HR.out _)
      · have hb : ((k.op : Int) == op) = false := by simpa using ho
        have Ho := Lib.hid ho
        clear ho
        go_wp2_with fail
        go_roundw
        case rel => exact ⟨j + 1, by omega, by go_num, Hkn.out Ho.out, HKB2.out⟩
        case measure => simp [intOf]; omega
    · have hj18 : j = 18 := by omega
      subst hj18
      have hno := kindOf_none (op := op) (fun k hk => by
        obtain ⟨i, hi, rfl⟩ := List.mem_iff_getElem.1 hk
        exact Hpre.out i (by rw [kinds_len] at hi; exact hi) hi)
      have HR : RetKindO w (kindOf op) (.returned (.tuple #[.string (S []), .int .i64 0, .slice none 0 0, .bool false])) wr := by rw [hno]; exact ⟨rfl, HKB.out.low⟩
      have HR' := Lib.hid HR
      clear hno HR
      go_wp2_with fail
      exact bodyPost_ret (v := .tuple #[.string (S []), .int .i64 0, .slice none 0 0, .bool false]) (by simp [results, Tryz.results107, go_sem]) rfl HR'.out
end Go.Proofs.YtlkikkfbennmnaaGreatDoor
