/- wp_region_flow with its side conditions reckoned, its steps one by one. -/
import Derived.Test.YtffdlchoaaakdaaGreatDoorFlow
import Derived.Laws.Tables
namespace Go.Proofs.YtffdlchoaaakdaaGreatDoor
open Go Go.RowKit
def flowOk (n0 : Nat) (ops : Array Oper) : Bool :=
  (ops.toList.zipIdx.all fun p => p.1.after.toList.all fun e => decide (e.on < p.2)) && (ops.toList.all fun o => o.guard.isNone && match o.dst with
    | some d => decide (d < n0)
    | none => false) && decide (ops.toList.map (·.dst)).Nodup
theorem flowOk_back {n0 : Nat} {ops : Array Oper} (h : flowOk n0 ops = true) (i : Nat) (o : Oper) (ho : ops[i]? = some o) : ∀ e ∈ o.after, e.on < i := by
  unfold flowOk at h
  simp only [Bool.and_eq_true] at h
  intro e he
  have h1 := List.all_eq_true.1 h.1.1 (o, i) (List.mem_zipIdx_iff_getElem?.2 (by simpa using ho))
  simpa using List.all_eq_true.1 h1 e (by simpa using he)
theorem flowOk_one {n0 : Nat} {ops : Array Oper} (h : flowOk n0 ops = true) (i : Nat) (o : Oper) (ho : ops[i]? = some o) : o.guard = none ∧ ∃ d, o.dst = some d ∧ d < n0 := by
  unfold flowOk at h
  simp only [Bool.and_eq_true] at h
  have h1 := List.all_eq_true.1 h.1.2 o (List.mem_of_getElem? (i := i) (by simpa using ho))
  simp only [Bool.and_eq_true, Option.isNone_iff_eq_none] at h1
  refine ⟨h1.1, ?_⟩
  cases hd : o.dst with
  | none => rw [hd] at h1; cases h1.2
  | some d => rw [hd] at h1; exact ⟨d, rfl, by simpa using h1.2⟩
theorem flowOk_inj {n0 : Nat} {ops : Array Oper} (h : flowOk n0 ops = true) (i j : Nat) (o o' : Oper) (ho : ops[i]? = some o) (ho' : ops[j]? = some o') (e : o.dst = o'.dst) : i = j := by
  unfold flowOk at h
  simp only [Bool.and_eq_true, decide_eq_true_eq] at h
  have hi : (ops.toList.map (·.dst))[i]? = some o.dst := by rw [List.getElem?_map, show ops.toList[i]? = some o by simpa using ho]; rfl
  have hj : (ops.toList.map (·.dst))[j]? = some o.dst := by rw [List.getElem?_map, show ops.toList[j]? = some o' by simpa using ho', e]; rfl
  obtain ⟨hi1, hi2⟩ := List.getElem?_eq_some_iff.1 hi
  obtain ⟨hj1, hj2⟩ := List.getElem?_eq_some_iff.1 hj
  have hp := List.pairwise_iff_getElem.1 h.2
  rcases Nat.lt_trichotomy i j with hlt | he | hlt
  · exact absurd (hi2.trans hj2.symm) (hp i j hi1 hj1 hlt)
  · exact he
  · exact absurd (hj2.trans hi2.symm) (hp j i hj1 hi1 hlt)
def flowUse (ops : Array Oper) (o : Oper) (j d : Nat) : Bool := (match ops.toList[j]? with
  | some o' => o'.dst == some d
  | none => false) && o.after.toList.any fun e => e.on == j && Region.binds .any e
def flowFree (ops : Array Oper) (s : Nat) : Bool := ops.toList.all fun o => o.dst != some s
def stepAll (G : Nat → Oper → Prop) : Nat → List Oper → Prop
  | _, [] => True
  | i, o :: l => G i o ∧ stepAll G (i + 1) l
theorem stepAll_at {G : Nat → Oper → Prop} : ∀ {l : List Oper} {k i : Nat} {o : Oper}, stepAll G k l → l[i]? = some o → G (k + i) o
  | [], _, _, _, _, h => by cases h
  | x :: l, k, 0, o, hg, h => by cases h; exact hg.1
  | x :: l, k, i + 1, o, hg, h => by
    have := stepAll_at (k := k + 1) hg.2 (by simpa using h)
    rw [show k + (i + 1) = k + 1 + i from by omega]; exact this
/-- one operation: what it is given, what it must do -/
def FlowStep (P : Program) (ops : Array Oper) (Pv : Nat → Value → World → Prop) (a0 : Act) (w0 : World) (Q : Exit → Act → World → Prop) (i : Nat) (o : Oper) : Prop :=
  ∀ (a : Act) (w : World), Below w0.heap.size w0 w → (∀ s, flowFree ops s = true → a.tmps.getD s undef = a0.tmps.getD s undef) → (∀ j d, flowUse ops o j d = true → Pv j (a.tmps.getD d undef) w) →
    Oper.wp P o a w (fun a' w' => ∃ v, a' = a.put o.dst v ∧ Pv i v w' ∧ Below w.heap.size w w') Q
theorem wp_region_flowB {P : Program} {ops : Array Oper} {Q : Exit → Act → World → Prop} {id : Nat} {a0 : Act} {w0 : World} (hm : P.follows .mixedOrders = true) (hok : flowOk a0.tmps.size ops = true)
    (Pv : Nat → Value → World → Prop) (hstable : ∀ i v (W W' : World), Pv i v W → Below W.heap.size W W' → Pv i v W')
    (hstep : stepAll (FlowStep P ops Pv a0 w0 Q) 0 ops.toList)
    (hdone : ∀ (a : Act) (w : World), Below w0.heap.size w0 w → a.defers = a0.defers → a.tmps.size = a0.tmps.size → (∀ s, flowFree ops s = true → a.tmps.getD s undef = a0.tmps.getD s undef) → (∀ j o d, ops.toList[j]? = some o → o.dst = some d → Pv j (a.tmps.getD d undef) w) → Q .normal a w) :
    (Code.region id ops true).wp P Q a0 w0 := by
  have hfree : ∀ s, flowFree ops s = true → ∀ (j : Nat) (o : Oper), ops[j]? = some o → o.dst ≠ some s := fun s hs j o ho => by
    have := List.all_eq_true.1 hs o (List.mem_of_getElem? (i := j) (by simpa using ho))
    simpa using this
  refine wp_region_flow hm (flowOk_back hok) Pv hstable (fun i o h => (flowOk_one hok i o h).2) (flowOk_inj hok) (fun i o h => (flowOk_one hok i o h).1) ?_ ?_
  · intro i o ho listed a w hI hall
    have h := stepAll_at (i := i) (o := o) hstep (by simpa using ho)
    rw [Nat.zero_add] at h
    refine h a w hI.low (fun s hs => hI.rest s (hfree s hs)) (fun j d hu => ?_)
    unfold flowUse at hu
    simp only [Bool.and_eq_true, List.any_eq_true, beq_iff_eq] at hu
    obtain ⟨hu1, e, he, rfl, hb⟩ := hu
    cases hj : ops.toList[e.on]? with
    | none => rw [hj] at hu1; cases hu1
    | some o' =>
      rw [hj] at hu1
      exact hI.vals e.on o' d (by simpa using hj) (by simpa using hu1) (hall e (by simpa using he) hb)
  · intro listed a w hI hall
    exact hdone a w hI.low hI.defers hI.size (fun s hs => hI.rest s (hfree s hs)) (fun j o d ho hd => hI.vals j o d (by simpa using ho) hd (hall j (by have := (List.getElem?_eq_some_iff.1 ho).1; simpa using this)))
/-- values put one behind the other -/
def puts : Act → List (Option Tmp) → List Value → Act
  | a, d :: ds, v :: vs => puts (a.put d v) ds vs
  | a, _, _ => a
theorem act_eq {a b : Act} (hs : a.tmps.size = b.tmps.size) (hd : a.defers = b.defers) (h : ∀ s, a.tmps.getD s undef = b.tmps.getD s undef) : a = b := by
  obtain ⟨T, D⟩ := a
  obtain ⟨T', D'⟩ := b
  simp only at hs hd h
  subst hd
  congr 1
  apply Array.ext hs
  intro i h1 h2
  have := h i
  simpa [Array.getD, h1, h2] using this
theorem put_size (a : Act) (d : Option Tmp) (v : Value) : (a.put d v).tmps.size = a.tmps.size := by cases d <;> simp [Act.put]
theorem put_defers (a : Act) (d : Option Tmp) (v : Value) : (a.put d v).defers = a.defers := by cases d <;> simp [Act.put]
theorem puts_size : ∀ (ds : List (Option Tmp)) (vs : List Value) (a : Act), (puts a ds vs).tmps.size = a.tmps.size
  | [], vs, a => by cases vs <;> rfl
  | d :: ds, [], a => rfl
  | d :: ds, v :: vs, a => by rw [puts, puts_size ds vs, put_size]
theorem puts_defers : ∀ (ds : List (Option Tmp)) (vs : List Value) (a : Act), (puts a ds vs).defers = a.defers
  | [], vs, a => by cases vs <;> rfl
  | d :: ds, [], a => rfl
  | d :: ds, v :: vs, a => by rw [puts, puts_defers ds vs, put_defers]
theorem puts_out (s : Nat) : ∀ (ds : List (Option Tmp)) (vs : List Value) (a : Act), some s ∉ ds → (puts a ds vs).tmps.getD s undef = a.tmps.getD s undef
  | [], vs, a, _ => by cases vs <;> rfl
  | d :: ds, [], a, _ => rfl
  | d :: ds, v :: vs, a, h => by
    rw [puts, puts_out s ds vs _ (fun hm => h (List.mem_cons_of_mem _ hm))]
    cases d with
    | none => simp [Act.put]
    | some d => exact getD_put_ne v (fun e => h (by rw [e]; exact List.mem_cons_self ..))
theorem puts_in (s : Nat) : ∀ (ds : List (Option Tmp)) (vs : List Value) (a : Act) (j : Nat) (v : Value), ds.Nodup → ds[j]? = some (some s) → vs[j]? = some v → s < a.tmps.size → (puts a ds vs).tmps.getD s undef = v
  | [], _, _, _, _, _, h, _, _ => by simp at h
  | _ :: _, [], _, _, _, _, _, h, _ => by simp at h
  | d :: ds, u :: vs, a, 0, v, hn, h1, h2, hs => by
    simp only [List.getElem?_cons_zero, Option.some.injEq] at h1 h2
    subst h1 h2
    rw [puts, puts_out s ds vs _ (List.nodup_cons.1 hn).1]
    exact getD_put_same u hs
  | d :: ds, u :: vs, a, j + 1, v, hn, h1, h2, hs => by
    rw [puts]
    exact puts_in s ds vs _ j v (List.nodup_cons.1 hn).2 (by simpa using h1) (by simpa using h2) (by rw [put_size]; exact hs)
theorem wp_region_flowC {P : Program} {ops : Array Oper} {Q : Exit → Act → World → Prop} {id : Nat} {a0 : Act} {w0 : World} (hm : P.follows .mixedOrders = true) (hok : flowOk a0.tmps.size ops = true)
    (Pv : Nat → Value → World → Prop) (hstable : ∀ i v (W W' : World), Pv i v W → Below W.heap.size W W' → Pv i v W')
    (hstep : stepAll (FlowStep P ops Pv a0 w0 Q) 0 ops.toList)
    (hdone : ∀ (vs : List Value) (w : World), Below w0.heap.size w0 w → vs.length = ops.toList.length → (∀ j v, vs[j]? = some v → Pv j v w) → Q .normal (puts a0 (ops.toList.map (·.dst)) vs) w) :
    (Code.region id ops true).wp P Q a0 w0 := by
  refine wp_region_flowB hm hok Pv hstable hstep (fun a w hb hd hs hfree hvals => ?_)
  have hok' := hok
  unfold flowOk at hok'
  simp only [Bool.and_eq_true, decide_eq_true_eq] at hok'
  have h := hdone (ops.toList.map fun o => a.tmps.getD (o.dst.getD 0) undef) w hb (by simp) (fun j v hj => by
    rw [List.getElem?_map] at hj
    cases ho : ops.toList[j]? with
    | none => rw [ho] at hj; cases hj
    | some o =>
      rw [ho] at hj
      obtain ⟨_, d, hd, _⟩ := flowOk_one hok j o (by simpa using ho)
      have := Option.some.inj hj
      simp only [hd, Option.getD_some] at this
      rw [← this]
      exact hvals j o d ho hd)
  have e : a = puts a0 (ops.toList.map (·.dst)) (ops.toList.map fun o => a.tmps.getD (o.dst.getD 0) undef) := by
    refine act_eq (by rw [puts_size, hs]) (by rw [puts_defers, hd]) (fun s => ?_)
    by_cases hf : some s ∈ ops.toList.map (·.dst)
    · obtain ⟨j, hj, he⟩ := List.mem_iff_getElem.1 hf
      have hj' : j < ops.toList.length := by simpa using hj
      have hd' : (ops.toList[j]).dst = some s := by simpa using he
      obtain ⟨_, d, hdd, hlt⟩ := flowOk_one hok j (ops.toList[j]) (by rw [← Array.getElem?_toList]; exact List.getElem?_eq_getElem hj')
      have hds : d = s := by rw [hd'] at hdd; exact (Option.some.inj hdd).symm
      refine (puts_in s _ _ a0 j _ hok'.2 (by rw [List.getElem?_eq_getElem hj, he]) ?_ (hds ▸ hlt)).symm
      rw [List.getElem?_map, List.getElem?_eq_getElem hj']
      show some (a.tmps.getD ((ops.toList[j]).dst.getD 0) undef) = _
      rw [hd']
      rfl
    · rw [puts_out s _ _ _ hf]
      refine hfree s (List.all_eq_true.2 fun o ho => ?_)
      simp only [bne_iff_ne]
      exact fun h => hf (List.mem_map.2 ⟨o, ho, h⟩)
  rw [← e] at h
  exact h
end Go.Proofs.YtffdlchoaaakdaaGreatDoor
