/- A slice of acts that came in, opened. -/
import Derived.Test.YtlkikkfbennmnaaGreatDoorOpenAhs
import Derived.Test.YtlkikkfbennmnaaGreatDoorGA
import Derived.Deep.Strs
namespace Go.Proofs.YtlkikkfbennmnaaGreatDoor
open Go.RowKit Go.ChangeShapes Go.WideShapes Go.Deep
set_option linter.unusedVariables false
structure Ac where
  k : Int
  n : Int
  s : List UInt8
/-- the slice v reads as these acts in W -/
def ActsV (W : World) (v : Value) (l : List Ac) : Prop := ∃ p c, v = .slice p l.length c ∧ (0 < l.length → ∃ b o, p = some ⟨b, o, none⟩ ∧ ∀ j (hj : j < l.length), W.cell? ⟨b, o + j * 3, none⟩ = some (.int .i64 l[j].k) ∧ W.cell? ⟨b, o + j * 3 + 1, none⟩ = some (.int .i64 l[j].n) ∧ W.cell? ⟨b, o + j * 3 + 2, none⟩ = some (.string (S l[j].s)))
theorem ActsV.later {W W' : World} {v : Value} {l : List Ac} (h : ActsV W v l) (hb : Below W.heap.size W W') : ActsV W' v l := by
  obtain ⟨p, c, hv, hc⟩ := h
  refine ⟨p, c, hv, fun hl => ?_⟩
  obtain ⟨b, o, hp, hcell⟩ := hc hl
  have e : ∀ o x, W.cell? ⟨b, o, none⟩ = some x → W'.cell? ⟨b, o, none⟩ = some x := fun o x h => ((bcell hb).1 b o (block_lt_of_cell (w := W) (a := ⟨b, o, none⟩) h)).trans h
  exact ⟨b, o, hp, fun j hj => ⟨e _ _ (hcell j hj).1, e _ _ (hcell j hj).2.1, e _ _ (hcell j hj).2.2⟩⟩
theorem ActsV.form {W : World} {v : Value} {l : List Ac} (h : ActsV W v l) : ∃ p c, v = .slice p l.length c := by obtain ⟨p, c, h, _⟩ := h; exact ⟨p, c, h⟩
theorem ActsV.cell {W : World} {p : Option Addr} {c : Nat} {l : List Ac} (h : ActsV W (.slice p l.length c) l) {j : Nat} (hj : j < l.length) : ∃ b o, p = some ⟨b, o, none⟩ ∧ W.cell? ⟨b, o + j * 3, none⟩ = some (.int .i64 l[j].k) ∧ W.cell? ⟨b, o + j * 3 + 1, none⟩ = some (.int .i64 l[j].n) ∧ W.cell? ⟨b, o + j * 3 + 2, none⟩ = some (.string (S l[j].s)) := by
  obtain ⟨p0, c0, hv, hc⟩ := h
  obtain ⟨rfl, rfl⟩ : p = p0 ∧ c = c0 := by simpa using hv
  obtain ⟨b, o, rfl, hcell⟩ := hc (by omega)
  exact ⟨b, o, rfl, hcell j hj⟩
/-- how much they are told to be -/
def sumA : List Ac → Nat
  | [] => 0
  | a :: l => 1 + a.s.length + sumA l
theorem sumA_app : ∀ a b, sumA (a ++ b) = sumA a + sumA b
  | [], b => by simp [sumA]
  | x :: a, b => by rw [List.cons_append, sumA, sumA, sumA_app a b]; omega
theorem sumA_take (l : List Ac) (j : Nat) (h : j < l.length) : sumA (l.take (j + 1)) = sumA (l.take j) + (1 + l[j].s.length) := by
  rw [List.take_add_one, List.getElem?_eq_getElem h, sumA_app]
  rfl
theorem sumA_le (l : List Ac) (j : Nat) : sumA (l.take j) ≤ sumA l := by
  have h := congrArg sumA (List.take_append_drop j l)
  rw [sumA_app] at h
  omega
theorem sumA_len : ∀ l : List Ac, l.length ≤ sumA l
  | [] => Nat.le_refl _
  | a :: l => by have := sumA_len l; rw [sumA, List.length_cons]; omega
theorem bulk_acts {H : Type} : ∀ (l : List Ac) (D : Nat → DataW H) (k : Nat), (∀ i (hi : i < l.length), ∃ d0 d1, D (k + i) = .agg [d0, d1, .lit (.string l[i].s)]) → sumA l ≤ Rows.uptoBulkAll ((List.range l.length).map fun i => D (k + i))
  | [], _, _, _ => Nat.zero_le _
  | a :: l, D, k, h => by
    have ih := bulk_acts l D (k + 1) (fun i hi => by
      obtain ⟨d0, d1, e⟩ := h (i + 1) (by simpa using hi)
      exact ⟨d0, d1, by rw [show k + 1 + i = k + (i + 1) by omega, e]; rfl⟩)
    obtain ⟨d0, d1, e⟩ := h 0 (by simp)
    rw [List.length_cons, List.range_succ_eq_map, List.map_cons, List.map_map, sumA]
    simp only [Rows.uptoBulkAll]
    have e2 : (List.map ((fun i => D (k + i)) ∘ Nat.succ) (List.range l.length)) = (List.range l.length).map fun i => D (k + 1 + i) := by
      apply List.map_congr_left
      intro i _
      simp only [Function.comp]
      congr 1
      omega
    rw [e2, e]
    simp only [Rows.uptoBulk, Rows.uptoBulkAll, List.getElem_cons_zero]
    omega
set_option maxRecDepth 100000 in
theorem open_acts {H : Type} {enc : TypeId × Value → H} {W : World} {base : Nat} {ts : List TypeId} {ds : List (DataW H)} {v : Value} {d : DataW H} {p : List MemPlace} (hsz : (DataW.weightsEach Tryz.prog ts ds).all (· ≤ reachBytes) = true) {j : Nat} (hts : ts[j]? = some 70) (hds : ds[j]? = some d)
    (hval : Value.okWide Tryz.prog W .any base 70 v) (h : DataW.Trod enc Tryz.prog W 0 (fun _ => true) true 70 v d p) : ∃ l : List Ac, ActsV W v l ∧ (∀ a ∈ l, (-9223372036854775808 ≤ a.n ∧ a.n ≤ 9223372036854775807)) ∧ sumA l ≤ Rows.uptoBulk d := by
  obtain ⟨a0, len, cap, rfl⟩ := okWide_slice Tryz.underlying70 hval
  obtain ⟨fuel, hf⟩ := h
  have hf' : DataW.trod enc Tryz.prog W 0 (fun _ => true) true fuel 70 [.slice a0 len cap] = some (d, p) := by simpa [Value.cells] using hf
  rcases open_slice Tryz.underlying70 hf' with ⟨hcs, _⟩ | ⟨a, len', cap', m, n, D, Pl, hcs, _, hl, hm, hmm, hx, hi⟩
  · obtain ⟨rfl, rfl, rfl⟩ : a0 = none ∧ len = 0 ∧ cap = 0 := by simpa using hcs
    exact ⟨[], ⟨none, 0, rfl, fun h => absurd h (by decide)⟩, fun a h => absurd h List.not_mem_nil, Nat.zero_le _⟩
  · obtain ⟨rfl, rfl, rfl⟩ : a0 = some a ∧ len = len' ∧ cap = cap' := by simpa using hcs
    simp only [Prod.mk.injEq] at hx
    obtain ⟨rfl, _⟩ := hx
    have hlm : len ≤ m := by rw [hmm]; split <;> omega
    have hce : Tryz.prog.cellsOf 72 = 3 := by kernel_rfl
    obtain ⟨l, hll, hP⟩ := list_of (fun i (q : Ac) => (∃ d0 d1, D i = .agg [d0, d1, .lit (.string q.s)]) ∧ (-9223372036854775808 ≤ q.n ∧ q.n ≤ 9223372036854775807) ∧ W.cell? (a.add (i * 3)) = some (.int .i64 q.k) ∧ W.cell? (a.add (i * 3 + 1)) = some (.int .i64 q.n) ∧ W.cell? (a.add (i * 3 + 2)) = some (.string (S q.s))) len (fun i hil => by
      obtain ⟨cs', g1, g2⟩ := hi i (by omega)
      rw [hce] at g1
      obtain ⟨_, hlen, hcell⟩ := World.cells?_some g1
      obtain ⟨c0, c1, c2, rfl⟩ : ∃ c0 c1 c2, cs' = [c0, c1, c2] := by
        match cs', hlen with
        | [c0, c1, c2], _ => exact ⟨c0, c1, c2, rfl⟩
      obtain ⟨y0, y1, y2, n', hx, _, h0, h1, h2⟩ := trod_struct3 Tryz.underlying72 g2
      have h0' : DataW.trod enc Tryz.prog W 0 (fun _ => true) true n' 3 [c0] = some y0 := by
        rw [show Tryz.prog.cellsOf _ = 1 by kernel_rfl] at h0
        simpa using h0
      have h1' : DataW.trod enc Tryz.prog W 0 (fun _ => true) true n' 3 [c1] = some y1 := by
        rw [show Tryz.prog.cellsOf _ = 1 by kernel_rfl] at h1
        simpa using h1
      have h2' : DataW.trod enc Tryz.prog W 0 (fun _ => true) true n' 9 [c2] = some y2 := by
        rw [show Tryz.prog.cellsOf _ = 1 by kernel_rfl] at h2
        simpa using h2
      obtain ⟨k0, e0, _, _⟩ := DataW.trod_int Tryz.underlying3 h0'
      obtain ⟨k1, e1, _, w1⟩ := DataW.trod_int Tryz.underlying3 h1'
      obtain ⟨b, e2, y2', _⟩ := DataW.trod_string Tryz.underlying9 h2'
      obtain ⟨s, rfl⟩ := S_of b
      obtain rfl : c0 = .int .i64 k0 := by simpa using e0
      obtain rfl : c1 = .int .i64 k1 := by simpa using e1
      obtain rfl : c2 = .string (S s) := by simpa using e2
      simp only [Prod.mk.injEq] at hx
      have hds : y2.1 = .lit (.string s) := by
        have := congrArg Prod.fst y2'
        simpa [S] using this
      have e := fun j (hj : j < 3) => hcell j (by simpa using hj)
      refine ⟨⟨k0, k1, s⟩, ⟨y0.1, y1.1, by rw [hx.1, hds]⟩, by simpa [Lit.wf, IntKind.min, IntKind.max, IntKind.signed, IntKind.bits] using w1, ?_, ?_, ?_⟩
      · have := e 0 (by omega); rw [add_add] at this; simpa using this
      · have := e 1 (by omega); rw [add_add] at this; simpa using this
      · have := e 2 (by omega); rw [add_add] at this; simpa using this)
    refine ⟨l, ⟨some a, cap, by rw [hll], fun h0 => ?_⟩, fun q hq => ?_, ?_⟩
    · obtain ⟨_, _, h1, _⟩ := hP 0 h0
      rw [Nat.zero_mul, show a.add 0 = a from rfl] at h1
      refine ⟨a.block, a.off, by rw [← ahs_spot h1], fun i hi => ?_⟩
      obtain ⟨_, _, g0, g1, g2⟩ := hP i hi
      rw [ahs_add h1] at g0 g1 g2
      exact ⟨g0, g1, g2⟩
    · obtain ⟨i, hi, rfl⟩ := List.getElem_of_mem hq
      exact (hP i hi).2.1
    · have h1 := bulk_acts l D 0 (fun i hi => by
        obtain ⟨d0, d1, e⟩ := (hP i hi).1
        exact ⟨d0, d1, by rw [Nat.zero_add, e]⟩)
      rw [hll] at h1
      simp only [Nat.zero_add] at h1
      have h2 : sumA l ≤ Rows.uptoBulkAll (List.map D (List.range len)) := h1
      simp only [Rows.uptoBulk]
      omega
end Go.Proofs.YtlkikkfbennmnaaGreatDoor
