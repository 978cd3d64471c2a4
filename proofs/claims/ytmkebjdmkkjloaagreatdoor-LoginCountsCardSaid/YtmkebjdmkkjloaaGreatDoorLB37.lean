/- LB37: several texts in one. -/
import Derived.BigQuiet
import Derived.BigRegion
import Derived.ChangeSame
import Derived.Deep.QuietTactic
import Derived.Deep.SlicePairs
import Derived.Deep.Slices
import Derived.Deep.Strs
import Derived.Laws.StructEq
import Derived.Lib.SliceRun
import Derived.Lib.SmallJoins
import Derived.SizedLaws
import Derived.SliceStrings
import Derived.WideShapes
import Derived.Test.YtmkebjdmkkjloaaGreatDoorLB10
import Derived.Test.YtmkebjdmkkjloaaGreatDoorLB22
import Derived.Test.YtmkebjdmkkjloaaGreatDoorLB23
import Derived.Test.YtmkebjdmkkjloaaGreatDoorLB36
namespace Go.Proofs.YtmkebjdmkkjloaaGreatDoor
open Go.RowKit Go.ChangeShapes Go.WideShapes Go.Deep
set_option linter.unusedVariables false
def sumPr (l : List Pr) : Nat := (l.map fun x => 1 + x.k.length + x.v.length).sum
set_option maxRecDepth 100000 in
theorem open_prs_bulk {H : Type} {enc : TypeId × Value → H} {W : World} {c : Value} {d : DataW H} {p : List MemPlace} {fuel : Nat} (hwd : ∀ k ∈ DataW.weights Tryz.prog 27 d, k ≤ reachBytes) (hf' : DataW.trod enc Tryz.prog W 0 (fun _ => true) true fuel 27 [c] = some (d, p)) : ∃ l : List Pr, PrsV W c l ∧ WideP l ∧ sumPr l ≤ Rows.uptoBulk d := by
 have hrb : reachBytes = 140737488351232 := rfl
 rcases open_slice_pairs Tryz.underlying27 Tryz.underlying61 (by kernel_rfl) rfl rfl (by kernel_rfl) (by kernel_rfl) hf' with ⟨hcs, _⟩ | ⟨a, len, cap, m, n, V0, V1, D0, D1, P0, P1, hcs, _, hl, hm, hmm, hx, hi⟩
 ·obtain rfl : c = .slice none 0 0 := by simpa using hcs
  exact ⟨[], PrsV.nil W, ⟨⟨by decide, fun a h => absurd h List.not_mem_nil⟩, by decide⟩, Nat.zero_le _⟩
 ·obtain rfl : c = .slice (some a) len cap := by simpa using hcs
  simp only [Prod.mk.injEq] at hx
  obtain ⟨rfl, _⟩ := hx
  have hlm : len ≤ m := by rw [hmm]; split <;> omega
  have hs : (len + (m - len)) * 32 ≤ reachBytes := by
   refine hwd _ ?_
   simp [DataW.weights, Tryz.underlying27, show Tryz.prog.bytesOf 61 = 32 by kernel_rfl]
  have hwe : ∀ i, i < len → ∀ s : List UInt8, (D0 i = .lit (.string s) ∨ D1 i = .lit (.string s)) → s.length ≤ 140737488351232 := fun i hil s hd => by
   have hmem : s.length ∈ DataW.weights Tryz.prog 27 (.slice ((List.range len).map fun i => .agg [D0 i, D1 i]) ((List.range (m - len)).map fun j => .agg [D0 (len + j), D1 (len + j)])) := by
    have hw : s.length ∈ DataW.weights Tryz.prog 61 (.agg [D0 i, D1 i]) := by
     rcases hd with hd | hd <;> (rw [hd]; simp [DataW.weights, Tryz.underlying61, DataW.weightsEach])
    have := weights_mem_allP (P := Tryz.prog) (e := 61) (l := (List.range len).map fun i => .agg [D0 i, D1 i]) (List.mem_map.2 ⟨i, List.mem_range.2 hil, rfl⟩) hw
    simp only [DataW.weights, Tryz.underlying27, List.mem_cons, List.mem_append]
    exact .inr (.inl this)
   have := hwd _ hmem
   omega
  obtain ⟨l, hll, hP⟩ := list_ofP (fun i (x : Pr) => (D0 i = .lit (.string x.k) ∧ D1 i = .lit (.string x.v)) ∧ W.cell? (a.add (i * 2)) = some (.string (S x.k)) ∧ W.cell? (a.add (i * 2 + 1)) = some (.string (S x.v)) ∧ x.k.length ≤ 140737488351232 ∧ x.v.length ≤ 140737488351232) len (fun i hil => by
   obtain ⟨c0, c1, t0, t1⟩ := hi i (by omega)
   obtain ⟨b0, e0, y0, _⟩ := DataW.trod_string Tryz.underlying9 t0
   obtain ⟨s0, rfl⟩ := S_of b0
   obtain ⟨b1, e1, y1, _⟩ := DataW.trod_string Tryz.underlying9 t1
   obtain ⟨s1, rfl⟩ := S_of b1
   have hd0 : D0 i = .lit (.string s0) := by
    have := congrArg Prod.fst y0
    simpa [S] using this
   have hd1 : D1 i = .lit (.string s1) := by
    have := congrArg Prod.fst y1
    simpa [S] using this
   exact ⟨⟨s0, s1⟩, ⟨hd0, hd1⟩, by rw [c0]; simpa using e0, by rw [c1]; simpa using e1, hwe i hil s0 (.inl hd0), hwe i hil s1 (.inr hd1)⟩)
  refine ⟨l, ⟨some a, cap, by rw [hll], by omega, fun h0 => ?_⟩, ⟨⟨by omega, fun x hx => ?_⟩, by omega⟩, bulk_slice hll (fun i hi => by
   rw [(hP i hi).1.1, (hP i hi).1.2]; simp only [Rows.uptoBulk, Rows.uptoBulkAll]; omega)⟩
  ·have h1 := (hP 0 h0).2.1
   rw [Nat.zero_mul, show a.add 0 = a from rfl] at h1
   refine ⟨a.block, a.off, by rw [← prs_spot h1], fun i hi => ?_⟩
   obtain ⟨_, g0, g1, _⟩ := hP i hi
   rw [prs_add h1] at g0 g1
   exact ⟨g0, g1⟩
  ·obtain ⟨i, hi, rfl⟩ := List.getElem_of_mem hx
   have := (hP i hi).2.2.2
   exact ⟨by omega, by omega⟩
end Go.Proofs.YtmkebjdmkkjloaaGreatDoor
namespace Go.Proofs.YtmkebjdmkkjloaaGreatDoor
open Go.RowKit Go.ChangeShapes Go.WideShapes Go.Deep
theorem weights_mem_allU {H : Type} {P : Program} {e : TypeId} {d : DataW H} {n : Nat} : ∀ {l : List (DataW H)}, d ∈ l → n ∈ d.weights P e → n ∈ DataW.weightsAll P e l
 | x :: l, hd, hn => by
  simp only [DataW.weightsAll, List.mem_append]
  rcases List.mem_cons.1 hd with rfl | hd
  ·exact .inl hn
  ·exact .inr (weights_mem_allU hd hn)
theorem list_ofU {α : Type} (P : Nat → α → Prop) : ∀ (n : Nat), (∀ i, i < n → ∃ a, P i a) → ∃ l : List α, l.length = n ∧ ∀ j (hj : j < l.length), P j l[j]
 | 0, _ => ⟨[], rfl, fun j hj => absurd hj (by simp)⟩
 | n + 1, h => by
  obtain ⟨l, hl, hP⟩ := list_ofU P n (fun i hi => h i (by omega))
  obtain ⟨a, ha⟩ := h n (by omega)
  refine ⟨l ++ [a], by simp [hl], fun j hj => ?_⟩
  by_cases hjn : j < l.length
  ·rw [List.getElem_append_left hjn]; exact hP j hjn
  ·have : j = n := by simp at hj; omega
   subst this
   rw [List.getElem_append_right (by omega)]
   simpa [hl] using ha
theorem us_spot {w : World} {a : Addr} {v : Value} (h : w.cell? a = some v) : a = ⟨a.block, a.off, none⟩ := by
 obtain ⟨b, o, sp⟩ := a
 unfold World.cell? at h
 cases sp with
 | none => rfl
 | some x => simp at h; split at h <;> simp at h
theorem us_add {w : World} {a : Addr} {v : Value} (h : w.cell? a = some v) (j : Nat) : a.add j = ⟨a.block, a.off + j, none⟩ := by
 unfold Addr.add
 split
 ·rename_i h0; rw [h0]; exact us_spot h
 ·rfl
def WideU (l : List Us) : Prop := fitUs l ∧ l.length * 32 ≤ 140737488351232
end Go.Proofs.YtmkebjdmkkjloaaGreatDoor
namespace Go.Proofs.YtmkebjdmkkjloaaGreatDoor
open Go.RowKit Go.ChangeShapes Go.WideShapes Go.Deep
set_option linter.unusedVariables false
def sumUs (l : List Us) : Nat := (l.map fun x => 1 + x.nm.length + x.sc.length).sum
set_option maxRecDepth 100000 in
theorem open_users_cell {H : Type} {enc : TypeId × Value → H} {W : World} {c : Value} {d : DataW H} {p : List MemPlace} {fuel : Nat} (hwd : ∀ k ∈ DataW.weights Tryz.prog 24 d, k ≤ reachBytes) (hf' : DataW.trod enc Tryz.prog W 0 (fun _ => true) true fuel 24 [c] = some (d, p)) : ∃ l : List Us, UsV W c l ∧ WideU l ∧ sumUs l ≤ Rows.uptoBulk d := by
 have hrb : reachBytes = 140737488351232 := rfl
 rcases open_slice_pairs Tryz.underlying24 Tryz.underlying26 (by kernel_rfl) rfl rfl (by kernel_rfl) (by kernel_rfl) hf' with ⟨hcs, _⟩ | ⟨a, len, cap, m, n, V0, V1, D0, D1, P0, P1, hcs, _, hl, hm, hmm, hx, hi⟩
 ·obtain rfl : c = .slice none 0 0 := by simpa using hcs
  exact ⟨[], UsV.nil W, ⟨⟨by decide, fun a h => absurd h List.not_mem_nil⟩, by decide⟩, Nat.zero_le _⟩
 ·obtain rfl : c = .slice (some a) len cap := by simpa using hcs
  simp only [Prod.mk.injEq] at hx
  obtain ⟨rfl, _⟩ := hx
  have hlm : len ≤ m := by rw [hmm]; split <;> omega
  have hs : (len + (m - len)) * 32 ≤ reachBytes := by
   refine hwd _ ?_
   simp [DataW.weights, Tryz.underlying24, show Tryz.prog.bytesOf 26 = 32 by kernel_rfl]
  have hwe : ∀ i, i < len → ∀ s : List UInt8, (D0 i = .lit (.string s) ∨ D1 i = .lit (.string s)) → s.length ≤ 140737488351232 := fun i hil s hd => by
   have hmem : s.length ∈ DataW.weights Tryz.prog 24 (.slice ((List.range len).map fun i => .agg [D0 i, D1 i]) ((List.range (m - len)).map fun j => .agg [D0 (len + j), D1 (len + j)])) := by
    have hw : s.length ∈ DataW.weights Tryz.prog 26 (.agg [D0 i, D1 i]) := by
     rcases hd with hd | hd <;> (rw [hd]; simp [DataW.weights, Tryz.underlying26, DataW.weightsEach])
    have := weights_mem_allU (P := Tryz.prog) (e := 26) (l := (List.range len).map fun i => .agg [D0 i, D1 i]) (List.mem_map.2 ⟨i, List.mem_range.2 hil, rfl⟩) hw
    simp only [DataW.weights, Tryz.underlying24, List.mem_cons, List.mem_append]
    exact .inr (.inl this)
   have := hwd _ hmem
   omega
  obtain ⟨l, hll, hP⟩ := list_ofU (fun i (x : Us) => (D0 i = .lit (.string x.nm) ∧ D1 i = .lit (.string x.sc)) ∧ W.cell? (a.add (i * 2)) = some (.string (S x.nm)) ∧ W.cell? (a.add (i * 2 + 1)) = some (.string (S x.sc)) ∧ x.nm.length ≤ 140737488351232 ∧ x.sc.length ≤ 140737488351232) len (fun i hil => by
   obtain ⟨c0, c1, t0, t1⟩ := hi i (by omega)
   obtain ⟨b0, e0, y0, _⟩ := DataW.trod_string Tryz.underlying9 t0
   obtain ⟨s0, rfl⟩ := S_of b0
   obtain ⟨b1, e1, y1, _⟩ := DataW.trod_string Tryz.underlying9 t1
   obtain ⟨s1, rfl⟩ := S_of b1
   have hd0 : D0 i = .lit (.string s0) := by
    have := congrArg Prod.fst y0
    simpa [S] using this
   have hd1 : D1 i = .lit (.string s1) := by
    have := congrArg Prod.fst y1
    simpa [S] using this
   exact ⟨⟨s0, s1⟩, ⟨hd0, hd1⟩, by rw [c0]; simpa using e0, by rw [c1]; simpa using e1, hwe i hil s0 (.inl hd0), hwe i hil s1 (.inr hd1)⟩)
  refine ⟨l, ⟨some a, cap, by rw [hll], by omega, fun h0 => ?_⟩, ⟨⟨by omega, fun x hx => ?_⟩, by omega⟩, bulk_slice hll (fun i hi => by
   rw [(hP i hi).1.1, (hP i hi).1.2]; simp only [Rows.uptoBulk, Rows.uptoBulkAll]; omega)⟩
  ·have h1 := (hP 0 h0).2.1
   rw [Nat.zero_mul, show a.add 0 = a from rfl] at h1
   refine ⟨a.block, a.off, by rw [← us_spot h1], fun i hi => ?_⟩
   obtain ⟨_, g0, g1, _⟩ := hP i hi
   rw [us_add h1] at g0 g1
   exact ⟨g0, g1⟩
  ·obtain ⟨i, hi, rfl⟩ := List.getElem_of_mem hx
   have := (hP i hi).2.2.2
   exact ⟨by omega, by omega⟩
def sumPo (l : List Po) : Nat := (l.map fun p => 1 + p.ad.length).sum
set_option maxRecDepth 100000 in
theorem open_pos_cell {H : Type} {enc : TypeId × Value → H} {W : World} {c : Value} {d : DataW H} {p : List MemPlace} {fuel : Nat} (hwd : ∀ k ∈ DataW.weights Tryz.prog 23 d, k ≤ reachBytes) (hf' : DataW.trod enc Tryz.prog W 0 (fun _ => true) true fuel 23 [c] = some (d, p)) : ∃ l : List Po, PosV W c l ∧ fitPo l ∧ sumPo l ≤ Rows.uptoBulk d := by
 have hrb : reachBytes = 140737488351232 := rfl
 rcases open_slice_pairs Tryz.underlying23 Tryz.underlying120 (by kernel_rfl) rfl rfl (by kernel_rfl) (by kernel_rfl) hf' with ⟨hcs, _⟩ | ⟨a, len, cap, m, n, V0, V1, D0, D1, P0, P1, hcs, _, hl, hm, hmm, hx, hi⟩
 ·obtain rfl : c = .slice none 0 0 := by simpa using hcs
  exact ⟨[], PosV.nil W, ⟨by decide, fun a h => absurd h List.not_mem_nil⟩, Nat.zero_le _⟩
 ·obtain rfl : c = .slice (some a) len cap := by simpa using hcs
  simp only [Prod.mk.injEq] at hx
  obtain ⟨rfl, _⟩ := hx
  have hlm : len ≤ m := by rw [hmm]; split <;> omega
  have hs : (len + (m - len)) * 24 ≤ reachBytes := by
   refine hwd _ ?_
   simp [DataW.weights, Tryz.underlying23, show Tryz.prog.bytesOf 120 = 24 by kernel_rfl]
  have hwe : ∀ i, i < len → ∀ s : List UInt8, D0 i = .lit (.string s) → s.length ≤ 140737488351232 := fun i hil s hd => by
   have hmem : s.length ∈ DataW.weights Tryz.prog 23 (.slice ((List.range len).map fun i => .agg [D0 i, D1 i]) ((List.range (m - len)).map fun j => .agg [D0 (len + j), D1 (len + j)])) := by
    have hw : s.length ∈ DataW.weights Tryz.prog 120 (.agg [D0 i, D1 i]) := by
     rw [hd]; simp [DataW.weights, Tryz.underlying120, DataW.weightsEach]
    have := weights_mem_allP (P := Tryz.prog) (e := 120) (l := (List.range len).map fun i => .agg [D0 i, D1 i]) (List.mem_map.2 ⟨i, List.mem_range.2 hil, rfl⟩) hw
    simp only [DataW.weights, Tryz.underlying23, List.mem_cons, List.mem_append]
    exact .inr (.inl this)
   have := hwd _ hmem
   omega
  obtain ⟨l, hll, hP⟩ := list_ofP (fun i (x : Po) => D0 i = .lit (.string x.ad) ∧ W.cell? (a.add (i * 2)) = some (.string (S x.ad)) ∧ W.cell? (a.add (i * 2 + 1)) = some (.int .i64 x.gr) ∧ x.ad.length ≤ 140737488351232 ∧ -9223372036854775808 ≤ x.gr ∧ x.gr ≤ 9223372036854775807) len (fun i hil => by
   obtain ⟨c0, c1, t0, t1⟩ := hi i (by omega)
   obtain ⟨b0, e0, y0, _⟩ := DataW.trod_string Tryz.underlying9 t0
   obtain ⟨s0, rfl⟩ := S_of b0
   obtain ⟨g, e1, _, wg⟩ := DataW.trod_int Tryz.underlying3 t1
   have wg2 : -9223372036854775808 ≤ g ∧ g ≤ 9223372036854775807 := by simpa [Lit.wf, IntKind.min, IntKind.max, IntKind.signed, IntKind.bits] using wg
   have hd0 : D0 i = .lit (.string s0) := by
    have := congrArg Prod.fst y0
    simpa [S] using this
   exact ⟨⟨s0, g⟩, hd0, by rw [c0]; simpa using e0, by rw [c1]; simpa using e1, hwe i hil s0 hd0, wg2⟩)
  refine ⟨l, ⟨some a, cap, by rw [hll], by omega, fun h0 => ?_⟩, ⟨by omega, fun x hx => ?_⟩, bulk_slice hll (fun i hi => by
   rw [(hP i hi).1]; simp only [Rows.uptoBulk, Rows.uptoBulkAll]; omega)⟩
  ·have h1 := (hP 0 h0).2.1
   rw [Nat.zero_mul, show a.add 0 = a from rfl] at h1
   refine ⟨a.block, a.off, by rw [← prs_spot h1], fun i hi => ?_⟩
   obtain ⟨_, g0, g1, _⟩ := hP i hi
   rw [prs_add h1] at g0 g1
   exact ⟨g0, g1⟩
  ·obtain ⟨i, hi, rfl⟩ := List.getElem_of_mem hx
   exact (hP i hi).2.2.2
def sumS (l : List (List UInt8)) : Nat := (l.map fun s => 1 + s.length).sum
def fitS (l : List (List UInt8)) : Prop := l.length ≤ 140737488355328 ∧ ∀ s ∈ l, s.length ≤ 140737488351232
set_option maxRecDepth 100000 in
theorem open_strs_cell {H : Type} {enc : TypeId × Value → H} {W : World} {c : Value} {d : DataW H} {p : List MemPlace} {fuel : Nat} (hwd : ∀ k ∈ DataW.weights Tryz.prog 22 d, k ≤ reachBytes) (hf' : DataW.trod enc Tryz.prog W 0 (fun _ => true) true fuel 22 [c] = some (d, p)) : ∃ l : List (List UInt8), StrV W c l ∧ fitS l ∧ sumS l ≤ Rows.uptoBulk d ∧ (∀ p n k, c = .slice p n k → n ≤ k) ∧ l.length * 16 ≤ 140737488351232 := by
 have hrb : reachBytes = 140737488351232 := rfl
 rcases open_strings Tryz.underlying22 Tryz.underlying9 (by kernel_rfl) hf' with ⟨hcs, _⟩ | ⟨a, len, cap, ss, hcs, _, hl1, hm, hz, hx, hcell, hws⟩
 ·obtain rfl : c = .slice none 0 0 := by simpa using hcs
  exact ⟨[], strV_nil W, ⟨by decide, fun s h => absurd h List.not_mem_nil⟩, Nat.zero_le _, fun _ _ _ h => (by cases h; exact Nat.le_refl _), by decide⟩
 ·obtain rfl : c = .slice (some a) len cap := by simpa using hcs
  simp only [Prod.mk.injEq] at hx
  obtain ⟨rfl, _⟩ := hx
  simp only [if_true] at hz
  have hs : ((ss.take len).length + (ss.drop len).length) * 16 ≤ reachBytes := by
   refine hwd _ ?_
   simp [DataW.weights, Tryz.underlying22, show Tryz.prog.bytesOf 9 = 16 by kernel_rfl, strs]
  have hwe : ∀ s ∈ ss.take len, s.data.toList.length ≤ 140737488351232 := fun s hmem => by
   have h1 : s.data.toList.length ∈ DataW.weights (H := H) Tryz.prog 9 (.lit (.string s.data.toList)) := by simp [DataW.weights]
   have h2 := weights_mem_allP (P := Tryz.prog) (e := 9) (l := strs (H := H) (ss.take len)) (List.mem_map.2 ⟨s, hmem, rfl⟩) h1
   have h3 : s.data.toList.length ∈ DataW.weights (H := H) Tryz.prog 22 (.slice (strs (ss.take len)) (strs (ss.drop len))) := by
    simp only [DataW.weights, Tryz.underlying22, List.mem_cons, List.mem_append]
    exact .inr (.inl h2)
   have := hwd _ h3
   omega
  have htl : (ss.take len).length = len := by rw [List.length_take]; omega
  have hlen : ((ss.take len).map fun s => s.data.toList).length = len := by rw [List.length_map]; exact htl
  refine ⟨(ss.take len).map fun s => s.data.toList, ⟨some a, cap, by rw [hlen], fun h0 => ?_⟩, ⟨?_, fun s hmem => ?_⟩, ?_, fun _ _ _ h => (by cases h; exact hl1), by rw [hlen]; omega⟩
  ·rw [hlen] at h0
   have h1 := hcell 0 (by omega)
   rw [show a.add 0 = a from rfl] at h1
   refine ⟨a.block, a.off, by rw [← prs_spot h1], fun i hi => ?_⟩
   rw [hlen] at hi
   have hc := hcell i (by omega)
   rw [prs_add h1 i] at hc
   rw [hc]
   have his : i < ss.length := by omega
   simp [List.getD_eq_getElem?_getD, List.getElem?_eq_getElem his, S]
  ·rw [hlen]; omega
  ·obtain ⟨x, hx, rfl⟩ := List.mem_map.1 hmem
   exact hwe x hx
  ·have h1 : ∀ r : List ByteArray, sumS (r.map fun s => s.data.toList) = Rows.uptoBulkAll (strs (H := H) r) := fun r => by
    induction r with
    | nil => rfl
    | cons x r ih =>
     unfold sumS strs at *
     simp only [List.map_cons, List.sum_cons, Rows.uptoBulkAll, Rows.uptoBulk]
     omega
   rw [h1]
   simp only [Rows.uptoBulk]
   omega
theorem array7 {a : Array Value} (h : a.size = 7) : ∃ c0 c1 c2 c3 c4 c5 c6, a = #[c0, c1, c2, c3, c4, c5, c6] := by
 obtain ⟨l⟩ := a
 match l, h with
 | [c0, c1, c2, c3, c4, c5, c6], _ => exact ⟨c0, c1, c2, c3, c4, c5, c6, rfl⟩
theorem trod_struct6 {H : Type} {enc : TypeId × Value → H} {P : Program} {w : World} {base : Nat} {spare : Nat → Bool} {held : Bool} {t : TypeId} {f0 f1 f2 f3 f4 f5 : Field} {fuel : Nat} {cs : List Value} {x : DataW H × List MemPlace} (ht : P.underlying t = some (.struct #[f0, f1, f2, f3, f4, f5])) (h : DataW.trod enc P w base spare held fuel t cs = some x) :
  ∃ y0 y1 y2 y3 y4 y5 n, x = (.agg [y0.1, y1.1, y2.1, y3.1, y4.1, y5.1], y0.2 ++ (y1.2 ++ (y2.2 ++ (y3.2 ++ (y4.2 ++ y5.2))))) ∧ DataW.trod enc P w base spare held n f0.type ((cs.drop f0.offset).take (P.cellsOf f0.type)) = some y0 ∧
   DataW.trod enc P w base spare held n f1.type ((cs.drop f1.offset).take (P.cellsOf f1.type)) = some y1 ∧ DataW.trod enc P w base spare held n f2.type ((cs.drop f2.offset).take (P.cellsOf f2.type)) = some y2 ∧
   DataW.trod enc P w base spare held n f3.type ((cs.drop f3.offset).take (P.cellsOf f3.type)) = some y3 ∧ DataW.trod enc P w base spare held n f4.type ((cs.drop f4.offset).take (P.cellsOf f4.type)) = some y4 ∧ DataW.trod enc P w base spare held n f5.type ((cs.drop f5.offset).take (P.cellsOf f5.type)) = some y5 := by
 obtain ⟨xs, n, _, rfl, hl, hlen, hf⟩ := DataW.trod_struct ht h
 match xs, hlen with
 | [y0, y1, y2, y3, y4, y5], _ => exact ⟨y0, y1, y2, y3, y4, y5, n, by simp, by simpa using hf 0 f0 rfl, by simpa using hf 1 f1 rfl, by simpa using hf 2 f2 rfl, by simpa using hf 3 f3 rfl, by simpa using hf 4 f4 rfl, by simpa using hf 5 f5 rfl⟩
structure FitCf (c : Cf) : Prop where
 ts : fitS c.ts
 ps : fitPo c.ps
 us : WideU c.us
 sn : c.sn.length ≤ 140737488351232
 ss : c.ss.length ≤ 140737488351232
 lim : -9223372036854775808 ≤ c.lim ∧ c.lim ≤ 9223372036854775807
 own : WideP c.own
 tb : c.ts.length * 16 ≤ 140737488351232
def crowdN (c : Cf) : Nat := sumS c.ts + sumPo c.ps + sumUs c.us + c.sn.length + c.ss.length
def bulkC (c : Cf) : Nat := crowdN c + sumPr c.own
set_option maxRecDepth 100000 in
theorem open_conf {H : Type} {enc : TypeId × Value → H} {W : World} {base : Nat} {ts : List TypeId} {ds : List (DataW H)} {v : Value} {d : DataW H} {p : List MemPlace} (hsz : (DataW.weightsEach Tryz.prog ts ds).all (· ≤ reachBytes) = true) {j : Nat} (hts : ts[j]? = some 29) (hds : ds[j]? = some d)
  (hval : Value.okWide Tryz.prog W .any base 29 v) (h : DataW.Trod enc Tryz.prog W 0 (fun _ => true) true 29 v d p) :
  ∃ (c : Cf) (vt vp vu vo : Value), v = confV c vt vp vu vo ∧ ConfAt W c vt vp vu vo ∧ FitCf c ∧ bulkC c ≤ Rows.uptoBulk d := by
 have hrb : reachBytes = 140737488351232 := rfl
 obtain ⟨cs, rfl, hsize⟩ := okWide_struct Tryz.underlying29 hval
 obtain ⟨c0, c1, c2, c3, c4, c5, c6, rfl⟩ := array7 (hsize.trans (by kernel_rfl))
 obtain ⟨fuel, hf⟩ := h
 obtain ⟨y0, y1, y2, y3, y4, y5, n, hx, h0, h1, h2, h3, h4, h5⟩ := trod_struct6 Tryz.underlying29 hf
 simp only [Prod.mk.injEq] at hx
 obtain ⟨rfl, rfl⟩ := hx
 have hwm : ∀ (i : Nat) (t : TypeId) (y : DataW H), ([22, 23, 24, 26, 3, 27] : List TypeId)[i]? = some t → ([y0.1, y1.1, y2.1, y3.1, y4.1, y5.1] : List (DataW H))[i]? = some y → ∀ k ∈ DataW.weights Tryz.prog t y, k ≤ reachBytes := fun i t y ht hy k hk => by
  have h1 := DataW.weights_mem_each ht hy k hk
  have h2 : k ∈ DataW.weights Tryz.prog 29 (.agg [y0.1, y1.1, y2.1, y3.1, y4.1, y5.1]) := by
   simp only [DataW.weights, Tryz.underlying29]
   exact h1
  have := List.all_eq_true.1 hsz _ (DataW.weights_mem_each hts hds _ h2)
  simpa using this
 have h0' : DataW.trod enc Tryz.prog W 0 (fun _ => true) true n 22 [c0] = some y0 := by
  rw [show Tryz.prog.cellsOf _ = 1 by kernel_rfl] at h0
  simpa [Value.cells] using h0
 have h1' : DataW.trod enc Tryz.prog W 0 (fun _ => true) true n 23 [c1] = some y1 := by
  rw [show Tryz.prog.cellsOf _ = 1 by kernel_rfl] at h1
  simpa [Value.cells] using h1
 have h2' : DataW.trod enc Tryz.prog W 0 (fun _ => true) true n 24 [c2] = some y2 := by
  rw [show Tryz.prog.cellsOf _ = 1 by kernel_rfl] at h2
  simpa [Value.cells] using h2
 have h3' : DataW.trod enc Tryz.prog W 0 (fun _ => true) true n 26 [c3, c4] = some y3 := by
  rw [show Tryz.prog.cellsOf _ = 2 by kernel_rfl] at h3
  simpa [Value.cells] using h3
 have h4' : DataW.trod enc Tryz.prog W 0 (fun _ => true) true n 3 [c5] = some y4 := by
  rw [show Tryz.prog.cellsOf _ = 1 by kernel_rfl] at h4
  simpa [Value.cells] using h4
 have h5' : DataW.trod enc Tryz.prog W 0 (fun _ => true) true n 27 [c6] = some y5 := by
  rw [show Tryz.prog.cellsOf _ = 1 by kernel_rfl] at h5
  simpa [Value.cells] using h5
 obtain ⟨z0, z1, m, hz, _, g0, g1⟩ := trod_struct2 Tryz.underlying26 h3'
 rw [show Tryz.prog.cellsOf _ = 1 by kernel_rfl] at g0 g1
 obtain ⟨b3, e3, x3, _⟩ := DataW.trod_string Tryz.underlying9 g0
 obtain ⟨s3, rfl⟩ := S_of b3
 obtain rfl : c3 = .string (S s3) := by simpa using e3
 obtain ⟨b4, e4, x4, _⟩ := DataW.trod_string Tryz.underlying9 g1
 obtain ⟨s4, rfl⟩ := S_of b4
 obtain rfl : c4 = .string (S s4) := by simpa using e4
 obtain ⟨a5, e5, _, w5⟩ := DataW.trod_int Tryz.underlying3 h4'
 obtain rfl : c5 = .int .i64 a5 := by simpa using e5
 have d3 : z0.1 = .lit (.string s3) := by
  have := congrArg Prod.fst x3
  simpa [S] using this
 have d4 : z1.1 = .lit (.string s4) := by
  have := congrArg Prod.fst x4
  simpa [S] using this
 have hy3 : y3.1 = .agg [z0.1, z1.1] := by rw [hz]
 have l3 := hwm 3 _ _ rfl rfl s3.length (by rw [hy3, d3, d4]; simp [DataW.weights, Tryz.underlying26, DataW.weightsEach])
 have l4 := hwm 3 _ _ rfl rfl s4.length (by rw [hy3, d3, d4]; simp [DataW.weights, Tryz.underlying26, DataW.weightsEach])
 obtain ⟨lt, ht, hft, hbt, hct, htb⟩ := open_strs_cell (d := y0.1) (p := y0.2) (hwm 0 _ _ rfl rfl) h0'
 obtain ⟨lp, hp, hfp, hbp⟩ := open_pos_cell (d := y1.1) (p := y1.2) (hwm 1 _ _ rfl rfl) h1'
 obtain ⟨lu, hu, hfu, hbu⟩ := open_users_cell (d := y2.1) (p := y2.2) (hwm 2 _ _ rfl rfl) h2'
 obtain ⟨lo, ho, hfo, hbo⟩ := open_prs_bulk (d := y5.1) (p := y5.2) (hwm 5 _ _ rfl rfl) h5'
 have w5' : -9223372036854775808 ≤ a5 ∧ a5 ≤ 9223372036854775807 := by simpa [Lit.wf, IntKind.min, IntKind.max, IntKind.signed, IntKind.bits] using w5
 refine ⟨⟨lt, lp, lu, s3, s4, a5, lo⟩, c0, c1, c2, c6, rfl, ⟨ht, hp, hu, ho, hct⟩, ⟨hft, hfp, hfu, by simp only; omega, by simp only; omega, w5', hfo, htb⟩, ?_⟩
 have hb3 : s3.length + s4.length ≤ Rows.uptoBulk y3.1 := by
  rw [hy3, d3, d4]; simp only [Rows.uptoBulk, Rows.uptoBulkAll]; omega
 unfold bulkC crowdN
 simp only [Rows.uptoBulk, Rows.uptoBulkAll]
 omega
end Go.Proofs.YtmkebjdmkkjloaaGreatDoor
namespace Go.Proofs.YtmkebjdmkkjloaaGreatDoor
open Go Go.RowKit
set_option linter.unusedVariables false
theorem run_eqUs (w : World) (k k' d d' : List UInt8) : (binOp .eql 26 (.agg #[.string (S k), .string (S d)]) (.agg #[.string (S k'), .string (S d')])).run Tryz.prog w = .ok (.bool (decide (k = k') && decide (d = d'))) w := by
 have hS : Tryz.prog.underlying 26 = some (.struct (Tryz.prog.fieldsOf 26)) := by kernel_rfl
 have hp : Tryz.prog.stoodInHeld 26 = false := by kernel_rfl
 rw [run_eql_struct, show (10000 : Nat) = 9999 + 1 from rfl, run_equalIn_agg w 9999 26 _ _ hS hp]
 simp only [Program.fieldsOf, Tryz.underlying26]
 go_simp
 by_cases h1 : k = k' <;> by_cases h2 : d = d' <;> simp [h1, h2]
set_option maxRecDepth 100000 in
set_option maxHeartbeats 8000000 in
theorem tright_any (c : Cf) (vt vp vu vo : Value) (w : World) (hv : ConfAt w c vt vp vu vo) (hf : FitCf c) (hE : Env w) (hg : ErrCell w) :
  Calls Tryz.prog 50 #[confV c vt vp vu vo] w (RetE w (tgtR c)) := by
 obtain ⟨ts, ps, us, sn, ss, lim, own⟩ := c
 obtain ⟨pt, ct, et, -⟩ := hv.ts
 obtain ⟨pp, cp, ep⟩ := hv.ps.form
 obtain ⟨pu, cu, eu⟩ := hv.us.form
 obtain ⟨po, co, eo⟩ := hv.own.form
 simp only at et ep eu eo
 subst et ep eu eo
 have hA := (Below.refl w.heap.size w).alloc (Nat.le_refl _) (.cells #[.slice pt ts.length ct, .slice pp ps.length cp, .slice pu us.length cu, .string (S sn), .string (S ss), .int .i64 lim, .slice po own.length co] 29)
 have hK := Blk.new w #[.slice pt ts.length ct, .slice pp ps.length cp, .slice pu us.length cu, .string (S sn), .string (S ss), .int .i64 lim, .slice po own.length co] 29
 obtain ⟨w0, hw0⟩ : ∃ w0, w.alloc (.cells #[.slice pt ts.length ct, .slice pp ps.length cp, .slice pu us.length cu, .string (S sn), .string (S ss), .int .i64 lim, .slice po own.length co] 29) = w0 := ⟨_, rfl⟩
 rw [hw0] at hA hK
 have HV := Lib.hid (hv.later hA)
 have HK := Lib.hid hK
 have HA := Lib.hid hA
 have HE := Lib.hid (hE.later hA)
 have Hg := Lib.hid (hg.later hA)
 have Hf := Lib.hid hf
 obtain ⟨R, hR⟩ : ∃ R, tgtR ⟨ts, ps, us, sn, ss, lim, own⟩ = R := ⟨_, rfl⟩
 rw [hR]
 have HR := Lib.hid hR
 have hts := hf.ts.1
 have hps := hf.ps.1
 have hus := hf.us.1.1
 simp only at hts hps hus
 clear hv hf hA hK hE hg hR
 unfold confV
 simp only
 obtain ⟨k0, k1, k2, k3, k4, k5, k6⟩ := HK.out.seven
 by_cases hmuch : 8 < ts.length ∨ 4 < ps.length ∨ 8 < us.length
 ·have hr4 := (tgtR_much (c := ⟨ts, ps, us, sn, ss, lim, own⟩) hmuch).symm.trans HR.out
  subst hr4
  by_cases m1 : (8 : Int) < (ts.length : Int)
  ·go_enter Tryz.func50, Tryz.ntmps50
   go_wp2_with fail
   go_ret
   exact ⟨_, rfl, .bare 4 (by decide), HA.out⟩
  ·by_cases m2 : (4 : Int) < (ps.length : Int)
   ·go_enter Tryz.func50, Tryz.ntmps50
    go_wp2_with fail
    go_ret
    exact ⟨_, rfl, .bare 4 (by decide), HA.out⟩
   ·have m3 : (8 : Int) < (us.length : Int) := by omega
    go_enter Tryz.func50, Tryz.ntmps50
    go_wp2_with fail
    go_ret
    exact ⟨_, rfl, .bare 4 (by decide), HA.out⟩
 ·have hr0 := (tgtR_few (c := ⟨ts, ps, us, sn, ss, lim, own⟩) hmuch).symm.trans HR.out
  simp only at hr0
  have m1 : ¬ (8 : Int) < (ts.length : Int) := by omega
  have m2 : ¬ (4 : Int) < (ps.length : Int) := by omega
  have m3 : ¬ (8 : Int) < (us.length : Int) := by omega
  have hvt := HV.out.ts
  simp only at hvt
  have T := wrongT_any ts _ w0 hvt (by omega) (fun s hs => by have := Hf.out.ts.2 s hs; omega)
  have HR0 := Lib.hid hr0
  obtain ⟨t1, t2, htt⟩ : ∃ t1 t2, tsBad 0 [] ts = (t1, t2) := ⟨_, _, rfl⟩
  rw [htt] at HR0 T
  have T := Lib.hid T
  clear hr0 hvt hmuch HR htt
  go_enter Tryz.func50, Tryz.ntmps50
  go_wp2_with fail
  refine T.out.mono ?_
  rintro e w1 ⟨ev, rfl, he, hb1⟩
  simp only at he
  have Hb1 := Lib.hid hb1
  clear hb1 T k0 k1 k2 k3 k4 k5 k6
  obtain ⟨k0, k1, k2, k3, k4, k5, k6⟩ := (HK.out.later Hb1.out).seven
  by_cases h1 : t1 = 0
  case neg =>
   have hr0 := HR0.out
   rw [if_pos h1] at hr0
   subst hr0
   obtain ⟨tt, xx, rfl⟩ := he.iface h1
   have He := Lib.hid he
   clear he
   go_wp2_with fail
   go_ret
   exact ⟨_, rfl, He.out, below_then HA.out Hb1.out⟩
  have hr0 := HR0.out
  rw [if_neg (fun h => h h1)] at hr0
  subst h1
  obtain rfl := he.zero
  have hvp := (HV.out.later Hb1.out).ps
  simp only at hvp
  have T := wrongP_any ps _ w1 hvp Hf.out.ps
  unfold tgtR2 at hr0
  simp only at hr0
  obtain ⟨p1, p2, hpp⟩ : ∃ p1 p2, poBad 0 ps = (p1, p2) := ⟨_, _, rfl⟩
  rw [hpp] at hr0 T
  have T := Lib.hid T
  have HR2 := Lib.hid hr0
  clear hr0 hvp hpp HR0 he
  go_wp2_with fail
  refine T.out.mono ?_
  rintro e w2 ⟨ev, rfl, he, hb2⟩
  simp only at he
  have Hb2 := Lib.hid (below_then Hb1.out hb2)
  clear hb2 T k0 k1 k2 k3 k4 k5 k6
  obtain ⟨k0, k1, k2, k3, k4, k5, k6⟩ := (HK.out.later Hb2.out).seven
  by_cases h1 : p1 = 0
  case neg =>
   have hr0 := HR2.out
   rw [if_pos h1] at hr0
   subst hr0
   obtain ⟨tt, xx, rfl⟩ := he.iface h1
   have He := Lib.hid he
   clear he
   go_wp2_with fail
   go_ret
   exact ⟨_, rfl, He.out, below_then HA.out Hb2.out⟩
  have hr0 := HR2.out
  rw [if_neg (fun h => h h1)] at hr0
  subst h1
  obtain rfl := he.zero
  have hvu := (HV.out.later Hb2.out).us
  simp only at hvu
  have T := wrongU_any us _ w2 hvu (by omega) (fun u hu => Hf.out.us.1.2 u hu)
  unfold tgtR3 at hr0
  simp only at hr0
  obtain ⟨u1, u2, huu⟩ : ∃ u1 u2, usBad 0 [] us = (u1, u2) := ⟨_, _, rfl⟩
  rw [huu] at hr0 T
  have T := Lib.hid T
  have HR3 := Lib.hid hr0
  clear hr0 hvu huu HR2 he
  go_wp2_with fail
  refine T.out.mono ?_
  rintro e w3 ⟨ev, rfl, he, hb3⟩
  simp only at he
  have Hb3 := Lib.hid (below_then Hb2.out hb3)
  clear hb3 T k0 k1 k2 k3 k4 k5 k6
  obtain ⟨k0, k1, k2, k3, k4, k5, k6⟩ := (HK.out.later Hb3.out).seven
  by_cases h1 : u1 = 0
  case neg =>
   have hr0 := HR3.out
   rw [if_pos h1] at hr0
   subst hr0
   obtain ⟨tt, xx, rfl⟩ := he.iface h1
   have He := Lib.hid he
   clear he
   go_wp2_with fail
   go_ret
   exact ⟨_, rfl, He.out, below_then HA.out Hb3.out⟩
  have hr0 := HR3.out
  rw [if_neg (fun h => h h1)] at hr0
  subst h1
  obtain rfl := he.zero
  have EQ := fun W => run_eqUs W sn [] ss []
  have hsn := Hf.out.sn
  have hss := Hf.out.ss
  simp only at hsn hss
  have N1 := Lib.hid (fun W => tnamed_any sn W (by omega))
  have N2 := Lib.hid (fun W => tnamed_any ss W (by omega))
  unfold restR at hr0
  simp only at hr0
  have HR4 := Lib.hid hr0
  have Hbe := Lib.hid (below_then HA.out Hb3.out)
  clear hr0 HR3 he Hb1 Hb2 m1 m2 m3
  by_cases hself : selfBad sn ss
  ·have hr0 := HR4.out
   rw [if_pos hself] at hr0
   subst hr0
   obtain ⟨hs1, hs2⟩ := hself
   have hx : (decide (sn = []) && decide (ss = [])) = false := by
    rw [Bool.and_eq_false_iff]
    by_cases h : sn = []
    ·exact .inr (decide_eq_false (fun h2 => hs1 ⟨h, h2⟩))
    ·exact .inl (decide_eq_false h)
   rw [hx] at EQ
   have EQ := EQ w3
   cases hn1 : nameOk sn with
   | false =>
    rw [hn1] at N1
    clear hs1 hs2 hx hn1 HR4
    go_wp2_with fail
    refine (N1.out _).mono ?_
    rintro e w' ⟨rfl, rfl⟩
    go_wp2_with fail
    go_ret
    exact ⟨_, rfl, .bare 3 (by decide), Hbe.out⟩
   | true =>
    have hn2 : nameOk ss = false := by
     cases h : nameOk ss with
     | false => rfl
     | true => exact absurd ⟨hn1, h⟩ hs2
    rw [hn1] at N1
    rw [hn2] at N2
    clear hs1 hs2 hx hn1 hn2 HR4
    go_wp2_with fail
    refine (N1.out _).mono ?_
    rintro e w' ⟨rfl, rfl⟩
    go_wp2_with fail
    refine (N2.out _).mono ?_
    rintro e w' ⟨rfl, rfl⟩
    go_wp2_with fail
    go_ret
    exact ⟨_, rfl, .bare 3 (by decide), Hbe.out⟩
  ·have hr0 := HR4.out
   rw [if_neg hself] at hr0
   have HR5 := Lib.hid hr0
   have hways : (sn = [] ∧ ss = []) ∨ ((decide (sn = []) && decide (ss = [])) = false ∧ nameOk sn = true ∧ nameOk ss = true) := by
    by_cases h : sn = [] ∧ ss = []
    ·exact .inl h
    ·refine .inr ⟨?_, ?_⟩
     ·rw [Bool.and_eq_false_iff]
      by_cases h3 : sn = []
      ·exact .inr (decide_eq_false (fun h2 => h ⟨h3, h2⟩))
      ·exact .inl (decide_eq_false h3)
     ·by_cases h4 : nameOk sn = true ∧ nameOk ss = true
      ·exact h4
      ·exact absurd ⟨h, h4⟩ hself
   have hvo := (HV.out.later Hb3.out).own
   simp only at hvo
   have NEW := newN_any own _ w3 hvo Hf.out.own.1 (HE.out.later Hb3.out) (Hg.out.later Hb3.out)
   unfold RetNewN at NEW
   have NEW := Lib.hid NEW
   clear hr0 HR4 hself hvo
   rcases hways with ⟨h1, h2⟩ | ⟨h1, h2, h3⟩
   ·subst h1 h2
    have EQ := EQ w3
    rw [show (decide (([] : List UInt8) = []) && decide (([] : List UInt8) = [])) = true by decide] at EQ
    by_cases hl : lim < 512 ∨ 100000 < lim
    ·have hr0 := HR5.out
     rw [if_pos hl] at hr0
     subst hr0
     rcases hl with hl | hl
     ·go_wp2_with fail
      go_ret
      exact ⟨_, rfl, .bare 2 (by decide), Hbe.out⟩
     ·have hl0 : ¬ lim < 512 := by omega
      go_wp2_with fail
      go_ret
      exact ⟨_, rfl, .bare 2 (by decide), Hbe.out⟩
    ·have hr0 := HR5.out
     rw [if_neg hl] at hr0
     have HR6 := Lib.hid hr0
     have hl0 : ¬ lim < 512 := by omega
     have hl1 : ¬ 100000 < lim := by omega
     clear hr0 hl HR5
     go_wp2_with fail
     refine NEW.out.mono ?_
     rintro e w5 (⟨hz, nb, mv, rfl, -, -, hb5⟩ | ⟨hz, ev, rfl, he, hb5⟩)
     ·go_wp2_with fail
      go_ret
      rw [← HR6.out, (newN_is hz).2]
      exact ⟨_, rfl, .good, below_then Hbe.out hb5⟩
     ·go_wp2_with fail
      go_ret
      rw [← HR6.out]
      exact ⟨_, rfl, he, below_then Hbe.out hb5⟩
   ·rw [h1] at EQ
    have EQ := EQ w3
    rw [h2] at N1
    rw [h3] at N2
    clear h1 h2 h3
    by_cases hl : lim < 512 ∨ 100000 < lim
    ·have hr0 := HR5.out
     rw [if_pos hl] at hr0
     subst hr0
     rcases hl with hl | hl
     ·go_wp2_with fail
      refine (N1.out _).mono ?_
      rintro e w' ⟨rfl, rfl⟩
      go_wp2_with fail
      refine (N2.out _).mono ?_
      rintro e w' ⟨rfl, rfl⟩
      go_wp2_with fail
      go_ret
      exact ⟨_, rfl, .bare 2 (by decide), Hbe.out⟩
     ·have hl0 : ¬ lim < 512 := by omega
      go_wp2_with fail
      refine (N1.out _).mono ?_
      rintro e w' ⟨rfl, rfl⟩
      go_wp2_with fail
      refine (N2.out _).mono ?_
      rintro e w' ⟨rfl, rfl⟩
      go_wp2_with fail
      go_ret
      exact ⟨_, rfl, .bare 2 (by decide), Hbe.out⟩
    ·have hr0 := HR5.out
     rw [if_neg hl] at hr0
     have HR6 := Lib.hid hr0
     have hl0 : ¬ lim < 512 := by omega
     have hl1 : ¬ 100000 < lim := by omega
     clear hr0 hl HR5
     go_wp2_with fail
     refine (N1.out _).mono ?_
     rintro e w' ⟨rfl, rfl⟩
     go_wp2_with fail
     refine (N2.out _).mono ?_
     rintro e w' ⟨rfl, rfl⟩
     go_wp2_with fail
     refine NEW.out.mono ?_
     rintro e w5 (⟨hz, nb, mv, rfl, -, -, hb5⟩ | ⟨hz, ev, rfl, he, hb5⟩)
     ·go_wp2_with fail
      go_ret
      rw [← HR6.out, (newN_is hz).2]
      exact ⟨_, rfl, .good, below_then Hbe.out hb5⟩
     ·go_wp2_with fail
      go_ret
      rw [← HR6.out]
      exact ⟨_, rfl, he, below_then Hbe.out hb5⟩
def RetSB2 (w : World) (l : List (List UInt8)) (e : Ending) (w' : World) : Prop := ∃ v, e = .returned v ∧ StBuf w.heap.size w' v l ∧ Below w.heap.size w w'
set_option maxRecDepth 100000 in
theorem cloneS_any (l : List (List UInt8)) (v : Value) (w : World) (hv : StrV w v l) (hl : l.length * 16 ≤ 140737488351232) :
  Calls Tryz.prog 54 #[v] w (RetSB2 w l) := by
 obtain ⟨i0, hi, hz0, hz1, hz2⟩ := infoSt
 have EN : ∀ (p : Option Addr) (n c : Nat) (W : World), (binOp .eql 22 (.slice p n c) (.slice none 0 0)).run Tryz.prog W = .ok (.bool p.isNone) W := fun p n c W => by
  exact Lib.run_eql_slice_nil W 22 9 p n c 0 0 Tryz.underlying22
 obtain ⟨p, c, rfl, hc⟩ := hv
 cases p with
 | none =>
  have h0 : l = [] := by
   rcases Nat.eq_zero_or_pos l.length with h | h
   ·exact List.eq_nil_of_length_eq_zero h
   ·obtain ⟨b, o, hp, _⟩ := hc h; cases hp
  subst h0
  clear hc
  go_enter Tryz.func54, Tryz.ntmps54
  go_wp2_with fail
  go_ret
  exact ⟨_, rfl, StBuf.nil _ _, Below.refl _ _⟩
 | some a =>
  have hb0 := (Below.refl w.heap.size w).alloc (Nat.le_refl _) (.cells #[] 9)
  have hbuf : StBuf w.heap.size (w.alloc (.cells #[] 9)) (.slice (some ⟨w.heap.size, 0, none⟩) 0 0) [] :=
   ⟨rfl, .inr ⟨w.heap.size, 0, #[], rfl, Nat.le_refl _, heap_alloc_new w _, Nat.le_refl _, Nat.zero_le _, rfl, rfl⟩⟩
  have HB := Lib.hid hbuf
  have Hb0 := Lib.hid hb0
  have h1 : ∀ j u, (strVs l)[j]? = some u → (w.alloc (.cells #[] 9)).cell? (a.add j) = some u := fun j u hu => by
   have hlt : j < (strVs l).length := by
    rcases Nat.lt_or_ge j (strVs l).length with h | h
    ·exact h
    ·rw [List.getElem?_eq_none h] at hu; cases hu
   rw [strVs_len] at hlt
   obtain ⟨b, o, hp, hcell⟩ := hc (by omega)
   cases hp
   have c0 := hcell j hlt
   have e0 : (⟨b, o, none⟩ : Addr).add j = ⟨b, o + j, none⟩ := by rw [Addr.add_lit]
   have hg : (strVs l)[j]? = some (.string (S l[j])) := by unfold strVs; rw [List.getElem?_map, List.getElem?_eq_getElem hlt]; rfl
   rw [e0, hb0.cell (p := ⟨b, o + j, none⟩) (block_lt_of_cell c0), c0, ← hg]; exact hu
  have H1 := Lib.hid h1
  have H2 := Lib.hid (strVs_one l)
  have H3 := Lib.hid (show 0 + l.length ≤ maxLen by unfold maxLen; omega)
  have H4 := Lib.hid (show (0 + l.length) * 16 ≤ 140737488355328 by omega)
  have H5 := Lib.hid (show w.heap.size ≤ (w.alloc (.cells #[] 9)).heap.size by simp)
  have H6 := Lib.hid (show (strVs l).length = l.length * 1 by rw [strVs_len, Nat.mul_one])
  clear hb0 hbuf h1 hc hl
  go_enter Tryz.func54, Tryz.ntmps54
  go_wp2_with (at_builtin; refine wpList_append_own _ rfl _ _ 22 rfl w.heap.size 9 i0 (.string (S [])) 1 16 Tryz.underlying22 hi hz0 hz1 hz2 rfl (by decide) (.slice (some ⟨w.heap.size, 0, none⟩) 0 0) 0 [] rfl HB.out a l.length c (strVs l) rfl H6.out H1.out H2.out H3.out H4.out H5.out ?_)
  intro v' wa hown hgrow hnil
  have hown' : StBuf w.heap.size wa v' l := by
   unfold StBuf
   exact hown
  have Hlow := Lib.hid (Hb0.out.grown hgrow (by simp) (fun k hk => by simp [Value.ownBlock] at hk; omega))
  have Hown := Lib.hid hown'
  clear hown hown' hgrow hnil
  go_wp2_with fail
  go_ret
  exact ⟨_, rfl, Hown.out, Hlow.out⟩
end Go.Proofs.YtmkebjdmkkjloaaGreatDoor
