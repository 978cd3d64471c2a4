/- HeadValues: a head of one name and number; two fields compared. -/
import Derived.Test.YtffdlchoaaakdaaDoorHeadFlags
import Derived.Test.YtffdlchoaaakdaaDoorPick
import Derived.Laws.StructEq
namespace Go.Proofs.YtffdlchoaaakdaaDoor
open Go.RowKit
theorem apartF_names {fs : List Fd} (ha : apartF fs = true) : ∀ i j (hi : i < fs.length) (hj : j < fs.length), i < j → fs[i].nm ≠ fs[j].nm := by
  induction fs with
  | nil => intro i j hi; simp at hi
  | cons f fs ih =>
    intro i j hi hj hij
    obtain ⟨h1, h2⟩ := apartF_cons ha
    cases j with
    | zero => omega
    | succ j =>
      cases i with
      | zero => exact (h1 _ (List.getElem_mem (by simpa using hj))).2
      | succ i => exact ih h2 i j (by simpa using hi) (by simpa using hj) (by omega)
theorem idxName_own {fs : List Fd} (ha : apartF fs = true) (i : Nat) (hi : i < fs.length) : idxName fs fs[i].nm = some i :=
  idxName_first hi (fun j hj => apartF_names ha j i (by omega) hi hj) rfl
theorem names_ne {fs : List Fd} (ha : apartF fs = true) {i j : Nat} (hi : i < fs.length) (hj : j < fs.length) (h : i ≠ j) : fs[i].nm ≠ fs[j].nm := by
  rcases Nat.lt_or_gt_of_ne h with h | h
  · exact apartF_names ha i j hi hj h
  · exact Ne.symm (apartF_names ha j i hj hi h)
def oneVs (m i n : Nat) : List Nat := (List.replicate m 0).set i n
theorem oneVs_len (m i n : Nat) : (oneVs m i n).length = m := by simp [oneVs]
theorem oneVs_get (m i n j : Nat) (hj : j < m) : (oneVs m i n).getD j 0 = if i = j then n else 0 := by
  unfold oneVs
  rw [List.getD_eq_getElem?_getD, List.getElem?_set]
  by_cases h : i = j
  · subst h; simp [hj]
  · simp [h, hj]
theorem oneVs_at (m i n j : Nat) (hj : j < (oneVs m i n).length) : (oneVs m i n)[j] = if i = j then n else 0 := by
  rw [← oneVs_get m i n j (by rw [oneVs_len] at hj; exact hj), List.getD_eq_getElem?_getD, List.getElem?_eq_getElem hj]; rfl
theorem badVal_one {fs : List Fd} (i : Nat) (hi : i < fs.length) (n : Nat) : badVal fs (oneVs fs.length i n) = if n / 2 ^ (8 * fs[i].sz) = 0 then none else some i := by
  by_cases h : n / 2 ^ (8 * fs[i].sz) = 0
  · rw [if_pos h]
    refine badVal_none (oneVs_len _ _ _) fun j hj => ?_
    rw [oneVs_at]
    by_cases hij : i = j
    · subst hij; rw [if_pos rfl]; exact h
    · rw [if_neg hij]; exact Nat.zero_div _
  · rw [if_neg h]
    refine badVal_first hi (by rw [oneVs_len]; exact hi) (fun j hj => ?_) ?_
    · rw [oneVs_at, if_neg (by omega)]; exact Nat.zero_div _
    · rw [oneVs_at, if_pos rfl]; exact h
theorem right_one {op fl : Int} {k : Kd} (hk : kindOf op = some k) (i : Nat) (hi : i < k.fs.length) (n : Nat) :
    rightR ⟨op, false, fl, oneVs k.fs.length i n⟩ = if flOk fl k.fl = true then (if n / 2 ^ (8 * k.fs[i].sz) = 0 then (0, -1) else (2, (i : Int))) else (3, -1) := by
  unfold rightR
  simp only
  rw [hk]
  by_cases h : flOk fl k.fl = true
  · simp only [rightK, h, oneVs_len, badVal_one i hi n]
    by_cases h2 : n / 2 ^ (8 * k.fs[i].sz) = 0
    · simp [h2]
    · simp [h2]
  · have h' : flOk fl k.fl = false := by simpa using h
    simp [rightK, h']
theorem make_one {op fl : Int} {k : Kd} (hk : kindOf op = some k) (i : Nat) (hi : i < k.fs.length) (n : Nat) :
    makeR op fl [k.fs[i].nm] [n] = if flOk fl k.fl = true then (if n / 2 ^ (8 * k.fs[i].sz) = 0 then (⟨op, false, fl, oneVs k.fs.length i n⟩, 0, -1) else (hd0, 2, (i : Int))) else (hd0, 3, -1) := by
  have hf : fill k.fs [k.fs[i].nm] [n] (List.replicate k.fs.length 0) = (oneVs k.fs.length i n, 0) := by
    unfold fill
    rw [idxName_own (kindFacts hk).apart i hi]
    rfl
  rw [makeR_some _ _ hk hf, if_neg (by decide), right_one hk i hi n]
  by_cases h : flOk fl k.fl = true
  · by_cases h2 : n / 2 ^ (8 * k.fs[i].sz) = 0
    · simp [h, h2]
    · simp [h, h2]
  · simp [h]
theorem value_one {op fl : Int} {k : Kd} (hk : kindOf op = some k) (i n j : Nat) (hj : j < k.fs.length) :
    valueR ⟨op, false, fl, oneVs k.fs.length i n⟩ k.fs[j].nm = (if i = j then n else 0, 0) := by
  unfold valueR
  simp only
  rw [hk]
  simp only [valueK]
  rw [idxName_own (kindFacts hk).apart j hj]
  simp only [oneVs_len, oneVs_get _ _ _ _ hj, hj, if_true]
theorem size_lt {k : Kd} {n i : Nat} (hi : i < k.fs.length) (hf : ∀ f ∈ k.fs, 2 ≤ f.pos ∧ f.pos + f.sz ≤ 48 ∧ 1 ≤ f.sz ∧ f.sz ≤ 8 ∧ (f.pos + f.sz ≤ 4 ∨ 8 ≤ f.pos) ∧ 0 < f.nm.length ∧ f.nm.length < 50)
    (hn : n < 2 ^ 64) (h : n / 2 ^ (8 * k.fs[i].sz) ≠ 0) : k.fs[i].sz < 8 := by
  obtain ⟨_, _, _, h8, _⟩ := hf _ (List.getElem_mem hi)
  rcases Nat.lt_or_ge k.fs[i].sz 8 with h' | h'
  · exact h'
  · have : k.fs[i].sz = 8 := by omega
    rw [this] at h
    exact absurd (Nat.div_eq_of_lt hn) h
theorem run_eqFd (w : World) (a b : List UInt8) (p q s t : Int) :
    (binOp .eql 49 (.agg #[.string (S a), .int .i64 p, .int .i64 s]) (.agg #[.string (S b), .int .i64 q, .int .i64 t])).run Tryd.prog w = .ok (.bool (decide (a = b) && p == q && s == t)) w := by
  have hS : Tryd.prog.underlying 49 = some (.struct (Tryd.prog.fieldsOf 49)) := by kernel_rfl
  have hp : Tryd.prog.stoodInHeld 49 = false := by kernel_rfl
  rw [run_eql_struct, show (10000 : Nat) = 9999 + 1 from rfl, run_equalIn_agg w 9999 49 _ _ hS hp]
  simp only [Program.fieldsOf, Tryd.underlying49]
  go_simp
  by_cases h1 : a = b <;> by_cases h2 : p = q <;> by_cases h3 : s = t <;> simp [h1, h2, h3]
theorem run_neqFd (w : World) (a b : List UInt8) (p q s t : Int) :
    (binOp .neq 49 (.agg #[.string (S a), .int .i64 p, .int .i64 s]) (.agg #[.string (S b), .int .i64 q, .int .i64 t])).run Tryd.prog w = .ok (.bool (!(decide (a = b) && p == q && s == t))) w := by
  have hS : Tryd.prog.underlying 49 = some (.struct (Tryd.prog.fieldsOf 49)) := by kernel_rfl
  have hp : Tryd.prog.stoodInHeld 49 = false := by kernel_rfl
  rw [run_neq_struct, show (10000 : Nat) = 9999 + 1 from rfl, run_equalIn_agg w 9999 49 _ _ hS hp]
  simp only [Program.fieldsOf, Tryd.underlying49]
  go_simp
  by_cases h1 : a = b <;> by_cases h2 : p = q <;> by_cases h3 : s = t <;> simp [h1, h2, h3]
theorem fd_same (w : World) (a : List UInt8) (p s : Int) : (binOp .eql 49 (.agg #[.string (S a), .int .i64 p, .int .i64 s]) (.agg #[.string (S a), .int .i64 p, .int .i64 s])).run Tryd.prog w = .ok (.bool true) w := by
  rw [run_eqFd]; simp
theorem fd_same' (w : World) (a : List UInt8) (p s : Int) : (binOp .neq 49 (.agg #[.string (S a), .int .i64 p, .int .i64 s]) (.agg #[.string (S a), .int .i64 p, .int .i64 s])).run Tryd.prog w = .ok (.bool false) w := by
  rw [run_neqFd]; simp
theorem fd_other (w : World) {a b : List UInt8} (p q s t : Int) (h : a ≠ b) : (binOp .eql 49 (.agg #[.string (S a), .int .i64 p, .int .i64 s]) (.agg #[.string (S b), .int .i64 q, .int .i64 t])).run Tryd.prog w = .ok (.bool false) w := by
  rw [run_eqFd]; simp [h]
theorem fd_other' (w : World) {a b : List UInt8} (p q s t : Int) (h : a ≠ b) : (binOp .neq 49 (.agg #[.string (S a), .int .i64 p, .int .i64 s]) (.agg #[.string (S b), .int .i64 q, .int .i64 t])).run Tryd.prog w = .ok (.bool true) w := by
  rw [run_neqFd]; simp [h]
end Go.Proofs.YtffdlchoaaakdaaDoor
