/- A region that draws its order, whose operations only make memory, and each yields a value: what each value is, said of a world that may grow. -/
import Derived.Test.YtffdlchoaaakdaaGreatDoorDraw
import Derived.Below
namespace Go.Proofs.YtffdlchoaaakdaaGreatDoor
open Go Go.RowKit
theorem getD_put_same {a : Act} {d : Nat} (v : Value) (h : d < a.tmps.size) : (a.put (some d) v).tmps.getD d undef = v := by
  simp [Act.put, Array.getD, h]
theorem getD_put_ne {a : Act} {d s : Nat} (v : Value) (h : d ≠ s) : (a.put (some d) v).tmps.getD s undef = a.tmps.getD s undef := by
  simp [Act.put, h]
theorem getD_set_same {l : Array Bool} {i : Nat} (h : i < l.size) (b : Bool) : (l.setIfInBounds i true).getD i b = true := by simp [Array.getD, h]
theorem getD_set_other {l : Array Bool} {i j : Nat} (h : i ≠ j) (b : Bool) : (l.setIfInBounds i true).getD j b = l.getD j b := by
  simp [h]
/-- what is so of act and world once some operations have come up -/
structure FlowI (ops : Array Oper) (Pv : Nat → Value → World → Prop) (a0 : Act) (w0 : World) (listed : Array Bool) (a : Act) (w : World) : Prop where
  low : Below w0.heap.size w0 w
  defers : a.defers = a0.defers
  size : a.tmps.size = a0.tmps.size
  rest : ∀ s, (∀ (j : Nat) (o : Oper), ops[j]? = some o → o.dst ≠ some s) → a.tmps.getD s undef = a0.tmps.getD s undef
  vals : ∀ (j : Nat) (o : Oper) (d : Nat), ops[j]? = some o → o.dst = some d → listed.getD j false = true → Pv j (a.tmps.getD d undef) w
theorem wp_region_flow {P : Program} {ops : Array Oper} {Q : Exit → Act → World → Prop} {id : Nat} {a0 : Act} {w0 : World} (hm : P.follows .mixedOrders = true) (hback : ∀ (i : Nat) (o : Oper), ops[i]? = some o → ∀ e ∈ o.after, e.on < i)
    (Pv : Nat → Value → World → Prop) (hstable : ∀ i v (W W' : World), Pv i v W → Below W.heap.size W W' → Pv i v W')
    (hdst : ∀ (i : Nat) (o : Oper), ops[i]? = some o → ∃ d, o.dst = some d ∧ d < a0.tmps.size)
    (hinj : ∀ (i j : Nat) (o o' : Oper), ops[i]? = some o → ops[j]? = some o' → o.dst = o'.dst → i = j)
    (hguard : ∀ (i : Nat) (o : Oper), ops[i]? = some o → o.guard = none)
    (hstep : ∀ (i : Nat) (o : Oper), ops[i]? = some o → ∀ (listed : Array Bool) (a : Act) (w : World), FlowI ops Pv a0 w0 listed a w → (∀ e ∈ o.after, Region.binds .any e = true → listed.getD e.on false = true) →
      Oper.wp P o a w (fun a' w' => ∃ v, a' = a.put o.dst v ∧ Pv i v w' ∧ Below w.heap.size w w') Q)
    (hdone : ∀ (listed : Array Bool) (a : Act) (w : World), FlowI ops Pv a0 w0 listed a w → (∀ i, i < ops.size → listed.getD i false = true) → Q .normal a w) : (Code.region id ops true).wp P Q a0 w0 := by
  refine wp_region_inv hm (fun listed a w => listed.size = ops.size ∧ FlowI ops Pv a0 w0 listed a w) hback ?_ ?_ ?_
  · refine ⟨by simp, (Below.refl _ _).drew, rfl, rfl, fun _ _ => rfl, fun j o d ho _ hl => ?_⟩
    have hlt : j < ops.size := (Array.getElem?_eq_some_iff.1 ho).1
    simp [Array.getD, hlt] at hl
  · intro listed a w i o hs hI ho hnl hall
    obtain ⟨d, hd, hdlt⟩ := hdst i o ho
    have hlt : i < ops.size := (Array.getElem?_eq_some_iff.1 ho).1
    have h := hstep i o ho listed a w hI.2 hall
    unfold wpOp
    simp only [ho]
    have hw : Region.wanted o (yielded ops a.tmps) = true := by simp [Region.wanted, hguard i o ho]
    rw [if_pos hw]
    refine .inl (Oper.wp_mono (fun a' w' hK => ?_) h)
    obtain ⟨v, rfl, hv, hb⟩ := hK
    rw [hd]
    refine ⟨by simp [hs], hI.2.low.trans (hb.mono hI.2.low.size), ?_, ?_, ?_, ?_⟩
    · simp [Act.put, hI.2.defers]
    · simp [Act.put, hI.2.size]
    · intro s hns
      rw [getD_put_ne v (fun e => hns i o ho (by rw [hd, e]))]
      exact hI.2.rest s hns
    · intro j o' d' ho' hd' hl
      by_cases e : j = i
      · subst e
        have : o' = o := Option.some.inj (ho'.symm.trans ho)
        subst this
        have : d' = d := Option.some.inj (hd'.symm.trans hd)
        subst this
        rw [getD_put_same v (by rw [hI.2.size]; exact hdlt)]
        exact hv
      · rw [getD_put_ne v (fun e2 => e (hinj j i o' o ho' ho (by rw [hd, hd', e2])))]
        rw [getD_set_other (Ne.symm e)] at hl
        exact hstable _ _ _ _ (hI.2.vals j o' d' ho' hd' hl) hb
  · intro listed a w hI hall
    exact hdone listed a w hI.2 (fun i hi => by rw [getD_both (by rw [hI.1]; exact hi) false true]; exact hall i hi)
end Go.Proofs.YtffdlchoaaakdaaGreatDoor
