/- A slice of users that came in, opened, with its reach. -/
import Derived.Test.YtoponmdfjbhnoaaDoorUsrs
import Derived.Deep.SlicePairs
import Derived.ChangeSame
import Derived.SizedLaws
import Derived.WideShapes
namespace Go.Proofs.YtoponmdfjbhnoaaDoor
open Go.RowKit Go.ChangeShapes Go.WideShapes Go.Deep
theorem weights_mem_allU {H : Type} {P : Program} {e : TypeId} {d : DataW H} {n : Nat} : ∀ {l : List (DataW H)}, d ∈ l → n ∈ d.weights P e → n ∈ DataW.weightsAll P e l
  | x :: l, hd, hn => by
    simp only [DataW.weightsAll, List.mem_append]
    rcases List.mem_cons.1 hd with rfl | hd
    · exact .inl hn
    · exact .inr (weights_mem_allU hd hn)
theorem list_ofU {α : Type} (P : Nat → α → Prop) : ∀ (n : Nat), (∀ i, i < n → ∃ a, P i a) → ∃ l : List α, l.length = n ∧ ∀ j (hj : j < l.length), P j l[j]
  | 0, _ => ⟨[], rfl, fun j hj => absurd hj (by simp)⟩
  | n + 1, h => by
    obtain ⟨l, hl, hP⟩ := list_ofU P n (fun i hi => h i (by omega))
    obtain ⟨a, ha⟩ := h n (by omega)
    refine ⟨l ++ [a], by simp [hl], fun j hj => ?_⟩
    by_cases hjn : j < l.length
    · rw [List.getElem_append_left hjn]; exact hP j hjn
    · have : j = n := by simp at hj; omega
      subst this
      rw [List.getElem_append_right (by omega)]
      simpa [hl] using ha
theorem us_spot {w : World} {a : Addr} {v : Value} (h : w.cell? a = some v) : a = ⟨a.block, a.off, none⟩ := by
  obtain ⟨b, o, sp⟩ := a
  unfold World.cell? at h
  cases sp with
  | none => rfl
  | some x => simp at h; split at h <;> simp at h
theorem us_add {w : World} {a : Addr} {v : Value} (h : w.cell? a = some v) (j : Nat) : a.add j = ⟨a.block, a.off + j, none⟩ := by
  unfold Addr.add
  split
  · rename_i h0; rw [h0]; exact us_spot h
  · rfl
/-- all that they have is no more than memory has -/
def WideU (l : List Us) : Prop := fitUs l ∧ l.length * 32 ≤ 140737488351232
set_option maxRecDepth 100000 in
theorem open_users {H : Type} {enc : TypeId × Value → H} {W : World} {base : Nat} {ts : List TypeId} {ds : List (DataW H)} {v : Value} {d : DataW H} {p : List MemPlace} (hsz : (DataW.weightsEach Tryd.prog ts ds).all (· ≤ reachBytes) = true) {j : Nat} (hts : ts[j]? = some 28) (hds : ds[j]? = some d)
    (hval : Value.okWide Tryd.prog W .any base 28 v) (h : DataW.Trod enc Tryd.prog W 0 (fun _ => true) true 28 v d p) : ∃ l : List Us, UsV W v l ∧ WideU l := by
  obtain ⟨a0, len, cap, rfl⟩ := Go.WideShapes.okWide_slice Tryd.underlying28 hval
  obtain ⟨fuel, hf⟩ := h
  have hf' := hf
  rw [show (Value.slice a0 len cap).cells.toList = [.slice a0 len cap] from rfl] at hf'
  have hrb : reachBytes = 140737488351232 := rfl
  rcases open_slice_pairs Tryd.underlying28 Tryd.underlying27 (by kernel_rfl) rfl rfl (by kernel_rfl) (by kernel_rfl) hf' with ⟨hcs, _⟩ | ⟨a, len', cap', m, n, V0, V1, D0, D1, P0, P1, hcs, _, hl, hm, hmm, hx, hi⟩
  · simp at hcs
    obtain ⟨rfl, rfl, rfl⟩ := hcs
    exact ⟨[], UsV.nil W, ⟨by decide, fun a h => absurd h List.not_mem_nil⟩, by decide⟩
  · simp at hcs
    obtain ⟨rfl, rfl, rfl⟩ := hcs
    simp only [Prod.mk.injEq] at hx
    obtain ⟨rfl, _⟩ := hx
    have hs := sized_slice hsz hts hds Tryd.underlying28
    rw [show Tryd.prog.bytesOf 27 = 32 by kernel_rfl] at hs
    have hlm : len ≤ m := by rw [hmm]; split <;> omega
    have hwe : ∀ i, i < len → ∀ s : List UInt8, (D0 i = .lit (.string s) ∨ D1 i = .lit (.string s)) → s.length ≤ 140737488351232 := fun i hil s hd => by
      have hmem : s.length ∈ DataW.weights Tryd.prog 28 (.slice ((List.range len).map fun i => .agg [D0 i, D1 i]) ((List.range (m - len)).map fun j => .agg [D0 (len + j), D1 (len + j)])) := by
        have hw : s.length ∈ DataW.weights Tryd.prog 27 (.agg [D0 i, D1 i]) := by
          rcases hd with hd | hd <;> (rw [hd]; simp [DataW.weights, Tryd.underlying27, DataW.weightsEach])
        have := weights_mem_allU (P := Tryd.prog) (e := 27) (l := (List.range len).map fun i => .agg [D0 i, D1 i]) (List.mem_map.2 ⟨i, List.mem_range.2 hil, rfl⟩) hw
        simp only [DataW.weights, Tryd.underlying28, List.mem_cons, List.mem_append]
        exact .inr (.inl this)
      have := List.all_eq_true.1 hsz _ (DataW.weights_mem_each hts hds _ hmem)
      have h2 : s.length ≤ reachBytes := by simpa using this
      omega
    obtain ⟨l, hll, hP⟩ := list_ofU (fun i (x : Us) => W.cell? (a.add (i * 2)) = some (.string (S x.nm)) ∧ W.cell? (a.add (i * 2 + 1)) = some (.string (S x.sc)) ∧ x.nm.length ≤ 140737488351232 ∧ x.sc.length ≤ 140737488351232) len (fun i hil => by
      obtain ⟨c0, c1, t0, t1⟩ := hi i (by omega)
      obtain ⟨b0, e0, y0, _⟩ := DataW.trod_string Tryd.underlying9 t0
      obtain ⟨s0, rfl⟩ := S_of b0
      obtain ⟨b1, e1, y1, _⟩ := DataW.trod_string Tryd.underlying9 t1
      obtain ⟨s1, rfl⟩ := S_of b1
      refine ⟨⟨s0, s1⟩, by rw [c0]; simpa using e0, by rw [c1]; simpa using e1, ?_, ?_⟩
      · have hd0 : D0 i = .lit (.string s0) := by
          have := congrArg Prod.fst y0
          simpa [S] using this
        exact hwe i hil s0 (.inl hd0)
      · have hd1 : D1 i = .lit (.string s1) := by
          have := congrArg Prod.fst y1
          simpa [S] using this
        exact hwe i hil s1 (.inr hd1))
    have hle : (((List.range len).map fun i => (DataW.agg [D0 i, D1 i] : DataW H))).length = len := by simp
    rw [hle] at hs
    refine ⟨l, ⟨some a, cap, by rw [hll], by omega, fun h0 => ?_⟩, ⟨by omega, fun x hx => ?_⟩, by omega⟩
    · have h1 := (hP 0 h0).1
      rw [Nat.zero_mul, show a.add 0 = a from rfl] at h1
      refine ⟨a.block, a.off, by rw [← us_spot h1], fun i hi => ?_⟩
      obtain ⟨g0, g1, _⟩ := hP i hi
      rw [us_add h1] at g0 g1
      exact ⟨g0, g1⟩
    · obtain ⟨i, hi, rfl⟩ := List.getElem_of_mem hx
      have := (hP i hi).2.2
      exact ⟨by omega, by omega⟩
end Go.Proofs.YtoponmdfjbhnoaaDoor
