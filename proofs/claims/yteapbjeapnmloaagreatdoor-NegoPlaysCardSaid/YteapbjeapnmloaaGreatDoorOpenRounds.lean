/- A slice of rounds (offers, of a login, of a discovery) that came in, opened. -/
import Derived.Test.YteapbjeapnmloaaGreatDoorOpenPrs
import Derived.Deep.Slices
import Derived.Deep.Strs
namespace Go.Proofs.YteapbjeapnmloaaGreatDoor
open Go.RowKit Go.ChangeShapes Go.WideShapes Go.Deep
set_option linter.unusedVariables false
structure Rd where
  o : List Pr
  lg : Bool
  dc : Bool
/-- the slice v reads as these rounds in W -/
def RdsV (W : World) (v : Value) (l : List Rd) : Prop := ∃ p c, v = .slice p l.length c ∧ (0 < l.length → ∃ b o, p = some ⟨b, o, none⟩ ∧ ∀ j (hj : j < l.length), ∃ ov, PrsV W ov l[j].o ∧ W.cell? ⟨b, o + j * 3, none⟩ = some ov ∧ W.cell? ⟨b, o + j * 3 + 1, none⟩ = some (.bool l[j].lg) ∧ W.cell? ⟨b, o + j * 3 + 2, none⟩ = some (.bool l[j].dc))
theorem RdsV.later {W W' : World} {v : Value} {l : List Rd} (h : RdsV W v l) (hb : Below W.heap.size W W') : RdsV W' v l := by
  obtain ⟨p, c, hv, hc⟩ := h
  refine ⟨p, c, hv, fun hl => ?_⟩
  obtain ⟨b, o, hp, hcell⟩ := hc hl
  have e : ∀ o x, W.cell? ⟨b, o, none⟩ = some x → W'.cell? ⟨b, o, none⟩ = some x := fun o x h => ((bcell hb).1 b o (block_lt_of_cell (w := W) (a := ⟨b, o, none⟩) h)).trans h
  exact ⟨b, o, hp, fun j hj => by
    obtain ⟨ov, g, h0, h1, h2⟩ := hcell j hj
    exact ⟨ov, g.later hb, e _ _ h0, e _ _ h1, e _ _ h2⟩⟩
theorem RdsV.form {W : World} {v : Value} {l : List Rd} (h : RdsV W v l) : ∃ p c, v = .slice p l.length c := by obtain ⟨p, c, h, _⟩ := h; exact ⟨p, c, h⟩
theorem RdsV.cell {W : World} {p : Option Addr} {c : Nat} {l : List Rd} (h : RdsV W (.slice p l.length c) l) {j : Nat} (hj : j < l.length) : ∃ b o ov, p = some ⟨b, o, none⟩ ∧ PrsV W ov l[j].o ∧ W.cell? ⟨b, o + j * 3, none⟩ = some ov ∧ W.cell? ⟨b, o + j * 3 + 1, none⟩ = some (.bool l[j].lg) ∧ W.cell? ⟨b, o + j * 3 + 2, none⟩ = some (.bool l[j].dc) := by
  obtain ⟨p0, c0, hv, hc⟩ := h
  obtain ⟨rfl, rfl⟩ : p = p0 ∧ c = c0 := by simpa using hv
  obtain ⟨b, o, rfl, hcell⟩ := hc (by omega)
  obtain ⟨ov, g⟩ := hcell j hj
  exact ⟨b, o, ov, rfl, g⟩
set_option maxRecDepth 100000 in
theorem open_prs_cell {H : Type} {enc : TypeId × Value → H} {W : World} {c : Value} {d : DataW H} {p : List MemPlace} {fuel : Nat} (hwd : ∀ k ∈ DataW.weights Tryz.prog 22 d, k ≤ reachBytes) (hf' : DataW.trod enc Tryz.prog W 0 (fun _ => true) true fuel 22 [c] = some (d, p)) : ∃ l : List Pr, PrsV W c l ∧ WideP l := by
  have hrb : reachBytes = 140737488351232 := rfl
  rcases open_slice_pairs Tryz.underlying22 Tryz.underlying35 (by kernel_rfl) rfl rfl (by kernel_rfl) (by kernel_rfl) hf' with ⟨hcs, _⟩ | ⟨a, len, cap, m, n, V0, V1, D0, D1, P0, P1, hcs, _, hl, hm, hmm, hx, hi⟩
  · obtain rfl : c = .slice none 0 0 := by simpa using hcs
    exact ⟨[], PrsV.nil W, ⟨by decide, fun a h => absurd h List.not_mem_nil⟩, by decide⟩
  · obtain rfl : c = .slice (some a) len cap := by simpa using hcs
    simp only [Prod.mk.injEq] at hx
    obtain ⟨rfl, _⟩ := hx
    have hlm : len ≤ m := by rw [hmm]; split <;> omega
    have hs : (len + (m - len)) * 32 ≤ reachBytes := by
      refine hwd _ ?_
      simp [DataW.weights, Tryz.underlying22, show Tryz.prog.bytesOf 35 = 32 by kernel_rfl]
    have hwe : ∀ i, i < len → ∀ s : List UInt8, (D0 i = .lit (.string s) ∨ D1 i = .lit (.string s)) → s.length ≤ 140737488351232 := fun i hil s hd => by
      have hmem : s.length ∈ DataW.weights Tryz.prog 22 (.slice ((List.range len).map fun i => .agg [D0 i, D1 i]) ((List.range (m - len)).map fun j => .agg [D0 (len + j), D1 (len + j)])) := by
        have hw : s.length ∈ DataW.weights Tryz.prog 35 (.agg [D0 i, D1 i]) := by
          rcases hd with hd | hd <;> (rw [hd]; simp [DataW.weights, Tryz.underlying35, DataW.weightsEach])
        have := weights_mem_allP (P := Tryz.prog) (e := 35) (l := (List.range len).map fun i => .agg [D0 i, D1 i]) (List.mem_map.2 ⟨i, List.mem_range.2 hil, rfl⟩) hw
        simp only [DataW.weights, Tryz.underlying22, List.mem_cons, List.mem_append]
        exact .inr (.inl this)
      have := hwd _ hmem
      omega
    obtain ⟨l, hll, hP⟩ := list_ofP (fun i (x : Pr) => W.cell? (a.add (i * 2)) = some (.string (S x.k)) ∧ W.cell? (a.add (i * 2 + 1)) = some (.string (S x.v)) ∧ x.k.length ≤ 140737488351232 ∧ x.v.length ≤ 140737488351232) len (fun i hil => by
      obtain ⟨c0, c1, t0, t1⟩ := hi i (by omega)
      obtain ⟨b0, e0, y0, _⟩ := DataW.trod_string Tryz.underlying9 t0
      obtain ⟨s0, rfl⟩ := S_of b0
      obtain ⟨b1, e1, y1, _⟩ := DataW.trod_string Tryz.underlying9 t1
      obtain ⟨s1, rfl⟩ := S_of b1
      refine ⟨⟨s0, s1⟩, by rw [c0]; simpa using e0, by rw [c1]; simpa using e1, ?_, ?_⟩
      · have hd0 : D0 i = .lit (.string s0) := by
          have := congrArg Prod.fst y0
          simpa [S] using this
        exact hwe i hil s0 (.inl hd0)
      · have hd1 : D1 i = .lit (.string s1) := by
          have := congrArg Prod.fst y1
          simpa [S] using this
        exact hwe i hil s1 (.inr hd1))
    refine ⟨l, ⟨some a, cap, by rw [hll], by omega, fun h0 => ?_⟩, ⟨by omega, fun x hx => ?_⟩, by omega⟩
    · have h1 := (hP 0 h0).1
      rw [Nat.zero_mul, show a.add 0 = a from rfl] at h1
      refine ⟨a.block, a.off, by rw [← prs_spot h1], fun i hi => ?_⟩
      obtain ⟨g0, g1, _⟩ := hP i hi
      rw [prs_add h1] at g0 g1
      exact ⟨g0, g1⟩
    · obtain ⟨i, hi, rfl⟩ := List.getElem_of_mem hx
      have := (hP i hi).2.2
      exact ⟨by omega, by omega⟩
theorem length3 {l : List Value} (h : l.length = 3) : ∃ c0 c1 c2, l = [c0, c1, c2] := by
  match l, h with
  | [c0, c1, c2], _ => exact ⟨c0, c1, c2, rfl⟩
set_option maxRecDepth 100000 in
theorem open_rounds {H : Type} {enc : TypeId × Value → H} {W : World} {base : Nat} {ts : List TypeId} {ds : List (DataW H)} {v : Value} {d : DataW H} {p : List MemPlace} (hsz : (DataW.weightsEach Tryz.prog ts ds).all (· ≤ reachBytes) = true) {j : Nat} (hts : ts[j]? = some 73) (hds : ds[j]? = some d)
    (hval : Value.okWide Tryz.prog W .any base 73 v) (h : DataW.Trod enc Tryz.prog W 0 (fun _ => true) true 73 v d p) :
    ∃ l : List Rd, RdsV W v l ∧ (∀ r ∈ l, WideP r.o) ∧ l.length ≤ 140737488355328 := by
  obtain ⟨a0, len, cap, rfl⟩ := okWide_slice Tryz.underlying73 hval
  obtain ⟨fuel, hf⟩ := h
  have hf' : DataW.trod enc Tryz.prog W 0 (fun _ => true) true fuel 73 [.slice a0 len cap] = some (d, p) := by simpa [Value.cells] using hf
  have hall : ∀ k ∈ DataW.weights Tryz.prog 73 d, k ≤ reachBytes := fun k hk => by
    have := List.all_eq_true.1 hsz _ (DataW.weights_mem_each hts hds _ hk)
    simpa using this
  rcases open_slice Tryz.underlying73 hf' with ⟨hcs, _⟩ | ⟨a, len', cap', m, n, D, Pl, hcs, _, hl, hm, hmm, hx, hi⟩
  · obtain ⟨rfl, rfl, rfl⟩ : a0 = none ∧ len = 0 ∧ cap = 0 := by simpa using hcs
    exact ⟨[], ⟨none, 0, rfl, fun h => absurd h (by decide)⟩, fun q h => absurd h List.not_mem_nil, by decide⟩
  · obtain ⟨rfl, rfl, rfl⟩ : a0 = some a ∧ len = len' ∧ cap = cap' := by simpa using hcs
    simp only [Prod.mk.injEq] at hx
    obtain ⟨rfl, _⟩ := hx
    have hrb : reachBytes = 140737488351232 := rfl
    have hlm : len ≤ m := by rw [hmm]; split <;> omega
    have hs : (len + (m - len)) * 32 ≤ reachBytes := by
      refine hall _ ?_
      simp [DataW.weights, Tryz.underlying73, show Tryz.prog.bytesOf 75 = 32 by kernel_rfl]
    have hce : Tryz.prog.cellsOf 75 = 3 := by kernel_rfl
    obtain ⟨l, hll, hP⟩ := list_ofP (fun i (q : Rd) => WideP q.o ∧ ∃ ov, PrsV W ov q.o ∧ W.cell? (a.add (i * 3)) = some ov ∧ W.cell? (a.add (i * 3 + 1)) = some (.bool q.lg) ∧ W.cell? (a.add (i * 3 + 2)) = some (.bool q.dc)) len (fun i hil => by
      obtain ⟨cs', g1, g2⟩ := hi i (by omega)
      rw [hce] at g1
      obtain ⟨_, hlen, hcell⟩ := World.cells?_some g1
      obtain ⟨c0, c1, c2, rfl⟩ := length3 hlen
      have hwd : ∀ k ∈ DataW.weights Tryz.prog 75 (D i), k ≤ reachBytes := fun k hk => by
        refine hall k ?_
        have := weights_mem_allP (P := Tryz.prog) (e := 75) (l := (List.range len).map D) (List.mem_map.2 ⟨i, List.mem_range.2 hil, rfl⟩) hk
        simp only [DataW.weights, Tryz.underlying73, List.mem_cons, List.mem_append]
        exact .inr (.inl this)
      obtain ⟨y0, y1, y2, n2, hx2, _, h0, h1, h2⟩ := trod_struct3 Tryz.underlying75 g2
      simp only [Prod.mk.injEq] at hx2
      obtain ⟨hd, _⟩ := hx2
      have h0' : DataW.trod enc Tryz.prog W 0 (fun _ => true) true n2 22 [c0] = some (y0.1, y0.2) := by
        rw [show Tryz.prog.cellsOf _ = 1 by kernel_rfl] at h0
        simpa using h0
      rw [show Tryz.prog.cellsOf _ = 1 by kernel_rfl] at h1 h2
      obtain ⟨b1, e1, _⟩ := DataW.trod_bool Tryz.underlying4 h1
      obtain ⟨b2, e2, _⟩ := DataW.trod_bool Tryz.underlying4 h2
      obtain rfl : c1 = .bool b1 := by simpa using e1
      obtain rfl : c2 = .bool b2 := by simpa using e2
      have hw0 : ∀ k ∈ DataW.weights Tryz.prog 22 y0.1, k ≤ reachBytes := fun k hk => by
        have h1 := DataW.weights_mem_each (P := Tryz.prog) (ts := [22, 4, 4]) (ds := [y0.1, y1.1, y2.1]) (j := 0) rfl rfl k hk
        refine hwd k ?_
        rw [hd]
        simp only [DataW.weights, Tryz.underlying75]
        exact h1
      obtain ⟨lo, hv, hw⟩ := open_prs_cell hw0 h0'
      have e := fun j (hj : j < 3) => hcell j (by simpa using hj)
      refine ⟨⟨lo, b1, b2⟩, hw, c0, hv, ?_, ?_, ?_⟩
      · have := e 0 (by omega); rw [add_add] at this; simpa using this
      · have := e 1 (by omega); rw [add_add] at this; simpa using this
      · have := e 2 (by omega); rw [add_add] at this; simpa using this)
    refine ⟨l, ⟨some a, cap, by rw [hll], fun h0 => ?_⟩, fun q hq => ?_, by omega⟩
    · obtain ⟨_, _, _, h1, _⟩ := hP 0 h0
      rw [Nat.zero_mul, show a.add 0 = a from rfl] at h1
      refine ⟨a.block, a.off, by rw [← prs_spot h1], fun i hi => ?_⟩
      obtain ⟨_, ov, hv, g0, g1, g2⟩ := hP i hi
      rw [prs_add h1] at g0 g1 g2
      exact ⟨ov, hv, g0, g1, g2⟩
    · obtain ⟨i, hi, rfl⟩ := List.getElem_of_mem hq
      exact (hP i hi).1
end Go.Proofs.YteapbjeapnmloaaGreatDoor
