/- A user that came in, opened. -/
import Derived.Test.YtoponmdfjbhnoaaDoorOpenUsrs
import Derived.Lib.SmallJoins
namespace Go.Proofs.YtoponmdfjbhnoaaDoor
open Go.RowKit Go.ChangeShapes Go.WideShapes Go.Deep
set_option maxRecDepth 100000 in
theorem open_user {H : Type} {enc : TypeId × Value → H} {W : World} {base : Nat} {ts : List TypeId} {ds : List (DataW H)} {v : Value} {d : DataW H} {p : List MemPlace} (hsz : (DataW.weightsEach Tryd.prog ts ds).all (· ≤ reachBytes) = true) {j : Nat} (hts : ts[j]? = some 27) (hds : ds[j]? = some d)
    (hval : Value.okWide Tryd.prog W .any base 27 v) (h : DataW.Trod enc Tryd.prog W 0 (fun _ => true) true 27 v d p) : ∃ x : Us, v = .agg #[.string (S x.nm), .string (S x.sc)] ∧ (x.nm.length ≤ 140737488351232 ∧ x.sc.length ≤ 140737488351232) := by
  obtain ⟨v0, v1, y0, y1, n, rfl, rfl, rfl, h0, h1⟩ := Joins.open_agg2 Tryd.underlying27 (by kernel_rfl) (by kernel_rfl) hval h
  have hwm : ∀ (i : Nat) (t : TypeId) (y : DataW H), ([9, 9] : List TypeId)[i]? = some t → ([y0.1, y1.1] : List (DataW H))[i]? = some y → ∀ k ∈ DataW.weights Tryd.prog t y, k ≤ reachBytes := fun i t y ht hy k hk => by
    have h1 := DataW.weights_mem_each ht hy k hk
    have h2 : k ∈ DataW.weights Tryd.prog 27 (.agg [y0.1, y1.1]) := by
      simp only [DataW.weights, Tryd.underlying27]
      exact h1
    have := List.all_eq_true.1 hsz _ (DataW.weights_mem_each hts hds _ h2)
    simpa using this
  obtain ⟨b0, e0, z0, _⟩ := DataW.trod_string Tryd.underlying9 h0
  obtain ⟨s0, rfl⟩ := S_of b0
  obtain ⟨b1, e1, z1, _⟩ := DataW.trod_string Tryd.underlying9 h1
  obtain ⟨s1, rfl⟩ := S_of b1
  obtain rfl : v0 = .string (S s0) := by simpa using e0
  obtain rfl : v1 = .string (S s1) := by simpa using e1
  have d0 : y0.1 = .lit (.string s0) := by
    have := congrArg Prod.fst z0
    simpa [S] using this
  have d1 : y1.1 = .lit (.string s1) := by
    have := congrArg Prod.fst z1
    simpa [S] using this
  have l0 := hwm 0 _ _ rfl rfl s0.length (by rw [d0]; simp [DataW.weights])
  have l1 := hwm 1 _ _ rfl rfl s1.length (by rw [d1]; simp [DataW.weights])
  have hrb : reachBytes = 140737488351232 := rfl
  exact ⟨⟨s0, s1⟩, rfl, by simp only; omega, by simp only; omega⟩
end Go.Proofs.YtoponmdfjbhnoaaDoor
