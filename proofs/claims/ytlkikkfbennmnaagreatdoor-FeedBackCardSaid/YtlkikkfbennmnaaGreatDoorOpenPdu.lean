/- A PDU that came in, opened. -/
import Derived.Test.YtlkikkfbennmnaaGreatDoorOpenHead
import Derived.Test.YtlkikkfbennmnaaGreatDoorOpenAhs
import Derived.Test.YtlkikkfbennmnaaGreatDoorPduV
import Derived.Deep.Strs
namespace Go.Proofs.YtlkikkfbennmnaaGreatDoor
open Go.RowKit Go.ChangeShapes Go.WideShapes Go.Deep
theorem array6 {a : Array Value} (h : a.size = 6) : ∃ c0 c1 c2 c3 c4 c5, a = #[c0, c1, c2, c3, c4, c5] := by
  obtain ⟨l⟩ := a
  match l, h with
  | [c0, c1, c2, c3, c4, c5], _ => exact ⟨c0, c1, c2, c3, c4, c5, rfl⟩
set_option maxRecDepth 100000 in
theorem open_ahs_cell {H : Type} {enc : TypeId × Value → H} {W : World} {n : Nat} {c : Value} {d : DataW H} {p : List MemPlace} (hw : ∀ k ∈ DataW.weights Tryz.prog 43 d, k ≤ reachBytes)
    (hf : DataW.trod enc Tryz.prog W 0 (fun _ => true) true n 43 [c] = some (d, p)) : ∃ l : List Ah, AhsV W c l ∧ fitA l := by
  have hf' := hf
  rcases open_slice_pairs Tryz.underlying43 Tryz.underlying87 (by kernel_rfl) rfl rfl (by kernel_rfl) (by kernel_rfl) hf' with ⟨hcs, _⟩ | ⟨a, len, cap, m, n, V0, V1, D0, D1, P0, P1, hcs, _, hl, hm, hmm, hx, hi⟩
  · obtain rfl : c = .slice none 0 0 := by simpa using hcs
    exact ⟨[], AhsV.nil W, ⟨by decide, fun a h => absurd h List.not_mem_nil⟩⟩
  · obtain rfl : c = .slice (some a) len cap := by simpa using hcs
    simp only [Prod.mk.injEq] at hx
    obtain ⟨rfl, _⟩ := hx
    have hr := reachBytes_lt
    have hlm : len ≤ m := by rw [hmm]; split <;> omega
    have hs : (len + (m - len)) * 24 ≤ reachBytes := by
      refine hw _ ?_
      simp [DataW.weights, Tryz.underlying43, show Tryz.prog.bytesOf 87 = 24 by kernel_rfl]
    obtain ⟨l, hll, hP⟩ := list_of (fun i (x : Ah) => W.cell? (a.add (i * 2)) = some (.int .i64 x.k) ∧ W.cell? (a.add (i * 2 + 1)) = some (.string (S x.d)) ∧ x.d.length ≤ 140737488355328) len (fun i hil => by
      obtain ⟨c0, c1, t0, t1⟩ := hi i (by omega)
      obtain ⟨k, e0, _, _⟩ := DataW.trod_int Tryz.underlying3 t0
      obtain ⟨b, e1, y1, _⟩ := DataW.trod_string Tryz.underlying9 t1
      obtain ⟨s, rfl⟩ := S_of b
      refine ⟨⟨k, s⟩, by rw [c0]; simpa using e0, by rw [c1]; simpa using e1, ?_⟩
      have hd1 : D1 i = .lit (.string s) := by
        have := congrArg Prod.fst y1
        simpa [S] using this
      have hmem : s.length ∈ DataW.weights Tryz.prog 43 (.slice ((List.range len).map fun i => .agg [D0 i, D1 i]) ((List.range (m - len)).map fun j => .agg [D0 (len + j), D1 (len + j)])) := by
        have hw : s.length ∈ DataW.weights Tryz.prog 87 (.agg [D0 i, D1 i]) := by
          rw [hd1]
          simp [DataW.weights, Tryz.underlying87, DataW.weightsEach]
        have := weights_mem_all (P := Tryz.prog) (e := 87) (l := (List.range len).map fun i => .agg [D0 i, D1 i]) (List.mem_map.2 ⟨i, List.mem_range.2 hil, rfl⟩) hw
        simp only [DataW.weights, Tryz.underlying43, List.mem_cons, List.mem_append]
        exact .inr (.inl this)
      have h2 : s.length ≤ reachBytes := hw _ hmem
      simp only
      omega)
    refine ⟨l, ⟨some a, cap, by rw [hll], by omega, fun h0 => ?_⟩, ⟨by omega, fun x hx => ?_⟩⟩
    · have h1 := (hP 0 h0).1
      rw [Nat.zero_mul, show a.add 0 = a from rfl] at h1
      refine ⟨a.block, a.off, by rw [← ahs_spot h1], fun i hi => ?_⟩
      obtain ⟨g0, g1, _⟩ := hP i hi
      rw [ahs_add h1] at g0 g1
      exact ⟨g0, g1⟩
    · obtain ⟨i, hi, rfl⟩ := List.getElem_of_mem hx
      exact (hP i hi).2.2
set_option maxRecDepth 100000 in
theorem open_pdu {H : Type} {enc : TypeId × Value → H} {W : World} {base : Nat} {ts : List TypeId} {ds : List (DataW H)} {v : Value} {d : DataW H} {p : List MemPlace} (hsz : (DataW.weightsEach Tryz.prog ts ds).all (· ≤ reachBytes) = true) {j : Nat} (hts : ts[j]? = some 45) (hds : ds[j]? = some d)
    (hval : Value.okWide Tryz.prog W .any base 45 v) (h : DataW.Trod enc Tryz.prog W 0 (fun _ => true) true 45 v d p) :
    ∃ (q : Pd) (vv va : Value), v = pduV q vv va ∧ PduAt W q vv va ∧ FitP q := by
  obtain ⟨cs, rfl, hsize⟩ := okWide_struct Tryz.underlying45 hval
  obtain ⟨c0, c1, c2, c3, c4, c5, rfl⟩ := array6 (hsize.trans (by kernel_rfl))
  obtain ⟨fuel, hf⟩ := h
  obtain ⟨y0, y1, y2, n, hx, _, h0, h1, h2⟩ := trod_struct3 Tryz.underlying45 hf
  simp only [Prod.mk.injEq] at hx
  obtain ⟨rfl, rfl⟩ := hx
  have hwm : ∀ (i : Nat) (t : TypeId) (y : DataW H), ([42, 43, 9] : List TypeId)[i]? = some t → ([y0.1, y1.1, y2.1] : List (DataW H))[i]? = some y → ∀ k ∈ DataW.weights Tryz.prog t y, k ≤ reachBytes := fun i t y ht hy k hk => by
    have h1 := DataW.weights_mem_each ht hy k hk
    have h2 : k ∈ DataW.weights Tryz.prog 45 (.agg [y0.1, y1.1, y2.1]) := by
      simp only [DataW.weights, Tryz.underlying45]
      exact h1
    have := List.all_eq_true.1 hsz _ (DataW.weights_mem_each hts hds _ h2)
    simpa using this
  have h0' : DataW.trod enc Tryz.prog W 0 (fun _ => true) true n 42 [c0, c1, c2, c3] = some y0 := by
    rw [show Tryz.prog.cellsOf _ = 4 by kernel_rfl] at h0
    simpa [Value.cells] using h0
  have h1' : DataW.trod enc Tryz.prog W 0 (fun _ => true) true n 43 [c4] = some y1 := by
    rw [show Tryz.prog.cellsOf _ = 1 by kernel_rfl] at h1
    simpa [Value.cells] using h1
  have h2' : DataW.trod enc Tryz.prog W 0 (fun _ => true) true n 9 [c5] = some y2 := by
    rw [show Tryz.prog.cellsOf _ = 1 by kernel_rfl] at h2
    simpa [Value.cells] using h2
  obtain ⟨z0, z1, z2, z3, k, _, _, g0, g1, g2, g3⟩ := Joins.trod_struct4 Tryz.underlying42 h0'
  rw [show Tryz.prog.cellsOf _ = 1 by kernel_rfl] at g0 g1 g2 g3
  obtain ⟨a0, e0, _, w0⟩ := DataW.trod_int Tryz.underlying3 g0
  obtain ⟨a1, e1, _⟩ := DataW.trod_bool Tryz.underlying4 g1
  obtain ⟨a2, e2, _, w2⟩ := DataW.trod_int Tryz.underlying3 g2
  obtain ⟨vs, hv, hl⟩ := open_nums (c := c3) (by simpa using g3)
  obtain rfl : c0 = .int .i64 a0 := by simpa using e0
  obtain rfl : c1 = .bool a1 := by simpa using e1
  obtain rfl : c2 = .int .i64 a2 := by simpa using e2
  obtain ⟨l, ha, hfa⟩ := open_ahs_cell (d := y1.1) (p := y1.2) (hwm 1 _ _ rfl rfl) h1'
  obtain ⟨b, e5, y5, _⟩ := DataW.trod_string Tryz.underlying9 h2'
  obtain ⟨s, rfl⟩ := S_of b
  obtain rfl : c5 = .string (S s) := by simpa using e5
  have hds : y2.1 = .lit (.string s) := by
    have := congrArg Prod.fst y5
    simpa [S] using this
  have hsl := hwm 2 _ _ rfl rfl s.length (by rw [hds]; simp [DataW.weights])
  exact ⟨⟨⟨a0, a1, a2, vs⟩, l, s⟩, c3, c4, rfl, ⟨hv, ha⟩, ⟨I64_of_wf w2, hl, hfa, hsl⟩⟩
end Go.Proofs.YtlkikkfbennmnaaGreatDoor
