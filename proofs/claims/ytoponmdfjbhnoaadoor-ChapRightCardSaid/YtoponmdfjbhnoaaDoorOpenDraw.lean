/- A draw (an id, a challenge) that came in, opened. -/
import Derived.Test.YtoponmdfjbhnoaaDoorOpenUsrs
import Derived.Lib.SmallJoins
namespace Go.Proofs.YtoponmdfjbhnoaaDoor
open Go.RowKit Go.ChangeShapes Go.WideShapes Go.Deep
structure Dw where
  id : Int
  ch : List UInt8
set_option maxRecDepth 100000 in
theorem open_draw {H : Type} {enc : TypeId × Value → H} {W : World} {base : Nat} {ts : List TypeId} {ds : List (DataW H)} {v : Value} {d : DataW H} {p : List MemPlace} (hsz : (DataW.weightsEach Tryd.prog ts ds).all (· ≤ reachBytes) = true) {j : Nat} (hts : ts[j]? = some 23) (hds : ds[j]? = some d)
    (hval : Value.okWide Tryd.prog W .any base 23 v) (h : DataW.Trod enc Tryd.prog W 0 (fun _ => true) true 23 v d p) : ∃ x : Dw, v = .agg #[.int .i64 x.id, .string (S x.ch)] ∧ ((Lit.int .i64 x.id).wf = true ∧ x.ch.length ≤ 140737488351232) := by
  obtain ⟨v0, v1, y0, y1, n, rfl, rfl, rfl, h0, h1⟩ := Joins.open_agg2 Tryd.underlying23 (by kernel_rfl) (by kernel_rfl) hval h
  have hwm : ∀ (i : Nat) (t : TypeId) (y : DataW H), ([3, 9] : List TypeId)[i]? = some t → ([y0.1, y1.1] : List (DataW H))[i]? = some y → ∀ k ∈ DataW.weights Tryd.prog t y, k ≤ reachBytes := fun i t y ht hy k hk => by
    have h1 := DataW.weights_mem_each ht hy k hk
    have h2 : k ∈ DataW.weights Tryd.prog 23 (.agg [y0.1, y1.1]) := by
      simp only [DataW.weights, Tryd.underlying23]
      exact h1
    have := List.all_eq_true.1 hsz _ (DataW.weights_mem_each hts hds _ h2)
    simpa using this
  obtain ⟨a, e0, _, wa⟩ := DataW.trod_int Tryd.underlying3 h0
  obtain ⟨b1, e1, z1, _⟩ := DataW.trod_string Tryd.underlying9 h1
  obtain ⟨s1, rfl⟩ := S_of b1
  obtain rfl : v0 = .int .i64 a := by simpa using e0
  obtain rfl : v1 = .string (S s1) := by simpa using e1
  have d1 : y1.1 = .lit (.string s1) := by
    have := congrArg Prod.fst z1
    simpa [S] using this
  have l1 := hwm 1 _ _ rfl rfl s1.length (by rw [d1]; simp [DataW.weights])
  have hrb : reachBytes = 140737488351232 := rfl
  exact ⟨⟨a, s1⟩, rfl, wa, by simp only; omega⟩
end Go.Proofs.YtoponmdfjbhnoaaDoor
