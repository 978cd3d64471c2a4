/- A slice of PDUs that came in, opened; a slice of integers. -/
import Derived.Test.YtlkikkfbennmnaaGreatDoorOpenPdu
import Derived.Test.YtlkikkfbennmnaaGreatDoorPieces
namespace Go.Proofs.YtlkikkfbennmnaaGreatDoor
open Go.RowKit Go.ChangeShapes Go.WideShapes Go.Deep
theorem length6 {l : List Value} (h : l.length = 6) : ∃ c0 c1 c2 c3 c4 c5, l = [c0, c1, c2, c3, c4, c5] := by
  match l, h with
  | [c0, c1, c2, c3, c4, c5], _ => exact ⟨c0, c1, c2, c3, c4, c5, rfl⟩
set_option maxRecDepth 100000 in
theorem open_pdu_cells {H : Type} {enc : TypeId × Value → H} {W : World} {n : Nat} {c0 c1 c2 c3 c4 c5 : Value} {d : DataW H} {p : List MemPlace} (hwd : ∀ k ∈ DataW.weights Tryz.prog 45 d, k ≤ reachBytes)
    (hf : DataW.trod enc Tryz.prog W 0 (fun _ => true) true n 45 [c0, c1, c2, c3, c4, c5] = some (d, p)) :
    ∃ (q : Pd) (vv va : Value), (c0 = .int .i64 q.h.op ∧ c1 = .bool q.h.now ∧ c2 = .int .i64 q.h.fl ∧ c3 = vv ∧ c4 = va ∧ c5 = .string (S q.d)) ∧ PduAt W q vv va ∧ FitP q := by
  obtain ⟨y0, y1, y2, n, hx, _, h0, h1, h2⟩ := trod_struct3 Tryz.underlying45 hf
  simp only [Prod.mk.injEq] at hx
  obtain ⟨rfl, rfl⟩ := hx
  have hwm : ∀ (i : Nat) (t : TypeId) (y : DataW H), ([42, 43, 9] : List TypeId)[i]? = some t → ([y0.1, y1.1, y2.1] : List (DataW H))[i]? = some y → ∀ k ∈ DataW.weights Tryz.prog t y, k ≤ reachBytes := fun i t y ht hy k hk => by
    have h1 := DataW.weights_mem_each ht hy k hk
    refine hwd k ?_
    simp only [DataW.weights, Tryz.underlying45]
    exact h1
  have h0' : DataW.trod enc Tryz.prog W 0 (fun _ => true) true n 42 [c0, c1, c2, c3] = some y0 := by
    rw [show Tryz.prog.cellsOf _ = 4 by kernel_rfl] at h0
    simpa [Value.cells] using h0
  have h1' : DataW.trod enc Tryz.prog W 0 (fun _ => true) true n 43 [c4] = some y1 := by
    rw [show Tryz.prog.cellsOf _ = 1 by kernel_rfl] at h1
    simpa [Value.cells] using h1
  have h2' : DataW.trod enc Tryz.prog W 0 (fun _ => true) true n 9 [c5] = some y2 := by
    rw [show Tryz.prog.cellsOf _ = 1 by kernel_rfl] at h2
    simpa [Value.cells] using h2
  obtain ⟨z0, z1, z2, z3, k, _, _, g0, g1, g2, g3⟩ := Joins.trod_struct4 Tryz.underlying42 h0'
  rw [show Tryz.prog.cellsOf _ = 1 by kernel_rfl] at g0 g1 g2 g3
  obtain ⟨a0, e0, _, w0⟩ := DataW.trod_int Tryz.underlying3 g0
  obtain ⟨a1, e1, _⟩ := DataW.trod_bool Tryz.underlying4 g1
  obtain ⟨a2, e2, _, w2⟩ := DataW.trod_int Tryz.underlying3 g2
  obtain ⟨vs, hv, hl⟩ := open_nums (c := c3) (by simpa using g3)
  obtain rfl : c0 = .int .i64 a0 := by simpa using e0
  obtain rfl : c1 = .bool a1 := by simpa using e1
  obtain rfl : c2 = .int .i64 a2 := by simpa using e2
  obtain ⟨l, ha, hfa⟩ := open_ahs_cell (d := y1.1) (p := y1.2) (hwm 1 _ _ rfl rfl) h1'
  obtain ⟨b, e5, y5, _⟩ := DataW.trod_string Tryz.underlying9 h2'
  obtain ⟨s, rfl⟩ := S_of b
  obtain rfl : c5 = .string (S s) := by simpa using e5
  have hds : y2.1 = .lit (.string s) := by
    have := congrArg Prod.fst y5
    simpa [S] using this
  have hsl := hwm 2 _ _ rfl rfl s.length (by rw [hds]; simp [DataW.weights])
  exact ⟨⟨⟨a0, a1, a2, vs⟩, l, s⟩, c3, c4, ⟨rfl, rfl, rfl, rfl, rfl, rfl⟩, ⟨hv, ha⟩, ⟨I64_of_wf w2, hl, hfa, hsl⟩⟩
set_option maxRecDepth 100000 in
theorem open_pdus {H : Type} {enc : TypeId × Value → H} {W : World} {base : Nat} {ts : List TypeId} {ds : List (DataW H)} {v : Value} {d : DataW H} {p : List MemPlace} (hsz : (DataW.weightsEach Tryz.prog ts ds).all (· ≤ reachBytes) = true) {j : Nat} (hts : ts[j]? = some 22) (hds : ds[j]? = some d)
    (hval : Value.okWide Tryz.prog W .any base 22 v) (h : DataW.Trod enc Tryz.prog W 0 (fun _ => true) true 22 v d p) :
    ∃ l : List Pd, PdusV W v l ∧ (∀ q ∈ l, FitP q) ∧ l.length ≤ 140737488355328 := by
  obtain ⟨a0, len, cap, rfl⟩ := okWide_slice Tryz.underlying22 hval
  obtain ⟨fuel, hf⟩ := h
  have hf' : DataW.trod enc Tryz.prog W 0 (fun _ => true) true fuel 22 [.slice a0 len cap] = some (d, p) := by simpa [Value.cells] using hf
  have hall : ∀ k ∈ DataW.weights Tryz.prog 22 d, k ≤ reachBytes := fun k hk => by
    have := List.all_eq_true.1 hsz _ (DataW.weights_mem_each hts hds _ hk)
    simpa using this
  rcases open_slice Tryz.underlying22 hf' with ⟨hcs, _⟩ | ⟨a, len', cap', m, n, D, Pl, hcs, _, hl, hm, hmm, hx, hi⟩
  · obtain ⟨rfl, rfl, rfl⟩ : a0 = none ∧ len = 0 ∧ cap = 0 := by simpa using hcs
    exact ⟨[], ⟨none, 0, rfl, fun h => absurd h (by decide)⟩, fun q h => absurd h List.not_mem_nil, by decide⟩
  · obtain ⟨rfl, rfl, rfl⟩ : a0 = some a ∧ len = len' ∧ cap = cap' := by simpa using hcs
    simp only [Prod.mk.injEq] at hx
    obtain ⟨rfl, _⟩ := hx
    have hr := reachBytes_lt
    have hlm : len ≤ m := by rw [hmm]; split <;> omega
    have hs : (len + (m - len)) * 88 ≤ reachBytes := by
      refine hall _ ?_
      simp [DataW.weights, Tryz.underlying22, show Tryz.prog.bytesOf 45 = 88 by kernel_rfl]
    have hce : Tryz.prog.cellsOf 45 = 6 := by kernel_rfl
    obtain ⟨l, hll, hP⟩ := list_of (fun i (q : Pd) => FitP q ∧ ∃ vv va, PduAt W q vv va ∧ W.cell? (a.add (i * 6)) = some (.int .i64 q.h.op) ∧ W.cell? (a.add (i * 6 + 1)) = some (.bool q.h.now) ∧ W.cell? (a.add (i * 6 + 2)) = some (.int .i64 q.h.fl) ∧ W.cell? (a.add (i * 6 + 3)) = some vv ∧ W.cell? (a.add (i * 6 + 4)) = some va ∧ W.cell? (a.add (i * 6 + 5)) = some (.string (S q.d))) len (fun i hil => by
      obtain ⟨cs', g1, g2⟩ := hi i (by omega)
      rw [hce] at g1
      obtain ⟨_, hlen, hcell⟩ := World.cells?_some g1
      obtain ⟨c0, c1, c2, c3, c4, c5, rfl⟩ := length6 hlen
      have hwd : ∀ k ∈ DataW.weights Tryz.prog 45 (D i), k ≤ reachBytes := fun k hk => by
        refine hall k ?_
        have := weights_mem_all (P := Tryz.prog) (e := 45) (l := (List.range len).map D) (List.mem_map.2 ⟨i, List.mem_range.2 hil, rfl⟩) hk
        simp only [DataW.weights, Tryz.underlying22, List.mem_cons, List.mem_append]
        exact .inr (.inl this)
      obtain ⟨q, vv, va, ⟨rfl, rfl, rfl, rfl, rfl, rfl⟩, hA, hF⟩ := open_pdu_cells hwd g2
      have e := fun j (hj : j < 6) => hcell j (by simpa using hj)
      refine ⟨q, hF, _, _, hA, ?_, ?_, ?_, ?_, ?_, ?_⟩
      · have := e 0 (by omega); rw [add_add] at this; simpa using this
      · have := e 1 (by omega); rw [add_add] at this; simpa using this
      · have := e 2 (by omega); rw [add_add] at this; simpa using this
      · have := e 3 (by omega); rw [add_add] at this; simpa using this
      · have := e 4 (by omega); rw [add_add] at this; simpa using this
      · have := e 5 (by omega); rw [add_add] at this; simpa using this)
    refine ⟨l, ⟨some a, cap, by rw [hll], fun h0 => ?_⟩, fun q hq => ?_, by omega⟩
    · obtain ⟨_, _, _, _, h1, _⟩ := hP 0 h0
      rw [Nat.zero_mul, show a.add 0 = a from rfl] at h1
      refine ⟨a.block, a.off, by rw [← ahs_spot h1], fun i hi => ?_⟩
      obtain ⟨_, vv, va, hA, g0, g1, g2, g3, g4, g5⟩ := hP i hi
      rw [ahs_add h1] at g0 g1 g2 g3 g4 g5
      exact ⟨vv, va, hA, g0, g1, g2, g3, g4, g5⟩
    · obtain ⟨i, hi, rfl⟩ := List.getElem_of_mem hq
      exact (hP i hi).1
end Go.Proofs.YtlkikkfbennmnaaGreatDoor
