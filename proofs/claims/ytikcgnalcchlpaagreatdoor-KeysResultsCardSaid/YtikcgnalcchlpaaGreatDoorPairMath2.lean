/- Pairs by the document's own road: a text in pieces between its noughts. Texts in pieces of so many bytes; what comes in parts. No program stands in it. -/
import Derived.Test.YtikcgnalcchlpaaGreatDoorPairMath
namespace Go.Proofs.YtikcgnalcchlpaaGreatDoor
open Go.RowKit
/-- a text between so many of a byte -/
def split1 (c : UInt8) : List UInt8 → List (List UInt8)
  | [] => [[]]
  | x :: l => if x = c then [] :: split1 c l else match split1 c l with
    | [] => [[x]]
    | a :: r => (x :: a) :: r
theorem split1_ne (c : UInt8) : ∀ s, split1 c s ≠ []
  | [] => by simp [split1]
  | x :: l => by
    unfold split1
    split
    · simp
    · split <;> simp
theorem split1_none {c : UInt8} : ∀ {s : List UInt8}, cut1 c s = none → split1 c s = [s]
  | [], _ => rfl
  | x :: l, h => by
    by_cases hx : x = c
    · subst hx
      unfold cut1 at h
      rw [if_pos rfl] at h; cases h
    · rw [cut1_cons c x l hx] at h
      cases e : cut1 c l with
      | none =>
        unfold split1
        rw [if_neg hx, split1_none e]
      | some q => rw [e] at h; cases h
theorem split1_some {c : UInt8} : ∀ {s a b : List UInt8}, cut1 c s = some (a, b) → split1 c s = a :: split1 c b
  | [], _, _, h => by cases h
  | x :: l, a, b, h => by
    by_cases hx : x = c
    · subst hx
      unfold cut1 at h
      rw [if_pos rfl] at h
      cases h
      show (if x = x then _ else _) = _
      rw [if_pos rfl]
    · rw [cut1_cons c x l hx] at h
      cases e : cut1 c l with
      | none => rw [e] at h; cases h
      | some q =>
        obtain ⟨a', b'⟩ := q
        rw [e] at h
        cases h
        show (if x = c then _ else _) = _
        rw [if_neg hx, split1_some e]
theorem count_none {c : UInt8} {s : List UInt8} (h : cut1 c s = none) (f : Nat) : Lib.countFrom [c] f s = 0 := by
  cases f with
  | zero => rfl
  | succ f =>
    unfold Lib.countFrom
    rw [index_one, h]
    rfl
theorem count_some {c : UInt8} {s a b : List UInt8} (h : cut1 c s = some (a, b)) (f : Nat) : Lib.countFrom [c] (f + 1) s = 1 + Lib.countFrom [c] f b := by
  show (if Lib.index s [c] == -1 then 0 else 1 + Lib.countFrom [c] f (s.drop ((Lib.index s [c]).toNat + [c].length))) = _
  rw [index_one, h]
  have h0 : ((a.length : Int) == -1) = false := by simp
  simp only [h0]
  obtain ⟨h1, _⟩ := cut1_some h
  have : (a.length : Int).toNat = a.length := by omega
  rw [this, h1]
  have h2 : List.drop (a.length + [c].length) (a ++ c :: b) = b := by
    rw [List.drop_append]
    simp
  rw [h2]
  simp
theorem splitK_some {c : UInt8} {s a b : List UInt8} (h : cut1 c s = some (a, b)) (k : Nat) : Lib.splitK [c] 0 (k + 1) s = a :: Lib.splitK [c] 0 k b := by
  show (if Lib.index s [c] == -1 then [s] else s.take ((Lib.index s [c]).toNat + 0) :: Lib.splitK [c] 0 k (s.drop ((Lib.index s [c]).toNat + [c].length))) = _
  rw [index_one, h]
  have h0 : ((a.length : Int) == -1) = false := by simp
  simp only [h0]
  obtain ⟨h1, _⟩ := cut1_some h
  have : (a.length : Int).toNat = a.length := by omega
  rw [this, h1]
  have h2 : List.drop (a.length + [c].length) (a ++ c :: b) = b := by
    rw [List.drop_append]
    simp
  rw [h2, Nat.add_zero, List.take_left]
  simp
theorem split_one (c : UInt8) : ∀ (n f : Nat) (s : List UInt8), s.length ≤ n → s.length < f → Lib.splitK [c] 0 (Lib.countFrom [c] f s) s = split1 c s
  | n, f, s, hn, hf => by
    cases h : cut1 c s with
    | none => rw [count_none h, split1_none h]; rfl
    | some q =>
      obtain ⟨a, b⟩ := q
      obtain ⟨h1, _⟩ := cut1_some h
      have hl := congrArg List.length h1
      simp at hl
      obtain ⟨f1, rfl⟩ : ∃ f1, f = f1 + 1 := ⟨f - 1, by omega⟩
      obtain ⟨n1, rfl⟩ : ∃ n1, n = n1 + 1 := ⟨n - 1, by omega⟩
      rw [count_some h, Nat.add_comm 1, splitK_some h, split_one c n1 f1 b (by omega) (by omega), split1_some h]
theorem split1_is (c : UInt8) (s : List UInt8) : Lib.splitK [c] 0 (Lib.count s [c]) s = split1 c s := split_one c s.length (s.length + 1) s (Nat.le_refl _) (by omega)
theorem count_split (c : UInt8) : ∀ (n f : Nat) (s : List UInt8), s.length ≤ n → s.length < f → Lib.countFrom [c] f s + 1 = (split1 c s).length
  | n, f, s, hn, hf => by
    cases h : cut1 c s with
    | none => rw [count_none h, split1_none h]; rfl
    | some q =>
      obtain ⟨a, b⟩ := q
      obtain ⟨h1, _⟩ := cut1_some h
      have hl := congrArg List.length h1
      simp at hl
      obtain ⟨f1, rfl⟩ : ∃ f1, f = f1 + 1 := ⟨f - 1, by omega⟩
      obtain ⟨n1, rfl⟩ : ∃ n1, n = n1 + 1 := ⟨n - 1, by omega⟩
      rw [count_some h, split1_some h, List.length_cons, ← count_split c n1 f1 b (by omega) (by omega)]
      omega
theorem count_one (c : UInt8) (s : List UInt8) : Lib.count s [c] + 1 = (split1 c s).length := count_split c s.length (s.length + 1) s (Nat.le_refl _) (by omega)
theorem split1_sum (c : UInt8) : ∀ (n : Nat) (s : List UInt8), s.length ≤ n → (∀ x ∈ split1 c s, x.length ≤ s.length) ∧ (split1 c s).length ≤ s.length + 1
  | n, s, hn => by
    cases h : cut1 c s with
    | none =>
      rw [split1_none h]
      refine ⟨fun x hx => ?_, by simp⟩
      rw [List.mem_singleton.1 hx]
      exact Nat.le_refl _
    | some q =>
      obtain ⟨a, b⟩ := q
      obtain ⟨h1, _⟩ := cut1_some h
      have hl := congrArg List.length h1
      simp at hl
      obtain ⟨n1, rfl⟩ : ∃ n1, n = n1 + 1 := ⟨n - 1, by omega⟩
      obtain ⟨i1, i2⟩ := split1_sum c n1 b (by omega)
      rw [split1_some h]
      refine ⟨fun x hx => ?_, by simp; omega⟩
      rcases List.mem_cons.1 hx with rfl | hx
      · omega
      · have := i1 x hx; omega
/-- the pairs of pieces, from the i-th piece on -/
def unpF : Nat → List (List UInt8) → List Pr → List Pr × Int × Int
  | _, [], acc => (acc, 0, -1)
  | i, [x], acc => if x = [] then (acc, 0, -1) else ([], 7, (i : Int))
  | i, x :: y :: r, acc => match cut1 61 x with
    | none => ([], 3, (i : Int))
    | some (k, v) => if i = 60 then ([], 4, -1) else if isKey k = true then if isVal v = true then unpF (i + 1) (y :: r) (acc ++ [⟨k, v⟩]) else ([], 3, (i : Int)) else ([], 5, (i : Int))
theorem unpF_one (i : Nat) (x : List UInt8) (acc : List Pr) : unpF i [x] acc = if x = [] then (acc, 0, -1) else ([], 7, (i : Int)) := by
  unfold unpF; rfl
theorem unpF_two (i : Nat) (x y : List UInt8) (r : List (List UInt8)) (acc : List Pr) : unpF i (x :: y :: r) acc = match cut1 61 x with
    | none => ([], 3, (i : Int))
    | some (k, v) => if i = 60 then ([], 4, -1) else if isKey k = true then if isVal v = true then unpF (i + 1) (y :: r) (acc ++ [⟨k, v⟩]) else ([], 3, (i : Int)) else ([], 5, (i : Int)) := by
  rw [unpF]
theorem unpF_is : ∀ (f : Nat) (s : List UInt8) (acc : List Pr), s.length ≤ f → unpF acc.length (split1 0 s) acc = prReadF f s acc
  | f, s, acc, hf => by
    by_cases h0 : s = []
    · subst h0
      rw [prReadF_nil]
      show unpF _ [[]] _ = _
      rw [unpF_one, if_pos rfl]
    · obtain ⟨f1, rfl⟩ : ∃ f1, f = f1 + 1 := ⟨f - 1, by have := List.length_pos_iff.2 h0; omega⟩
      rw [prReadF_succ, if_neg h0]
      cases h : cut1 0 s with
      | none =>
        rw [split1_none h, unpF_one, if_neg h0, prFirst_end h, if_pos (by simp)]
      | some q =>
        obtain ⟨t, r⟩ := q
        obtain ⟨h1, _⟩ := cut1_some h
        have hl := congrArg List.length h1
        simp at hl
        rw [split1_some h]
        obtain ⟨y, z, hyz⟩ : ∃ y z, split1 0 r = y :: z := by
          cases e : split1 0 r with
          | nil => exact absurd e (split1_ne 0 r)
          | cons y z => exact ⟨y, z, rfl⟩
        rw [hyz, unpF_two]
        cases h2 : cut1 61 t with
        | none =>
          rw [prFirst_form h h2]
          simp only
          rw [if_pos (by simp)]
        | some q =>
          obtain ⟨k, v⟩ := q
          rw [prFirst_good h h2]
          simp only
          rw [if_neg (by simp : ¬ ((0 : Int) ≠ 0))]
          by_cases h60 : acc.length = 60
          · rw [if_pos h60, if_pos h60]
          · rw [if_neg h60, if_neg h60]
            unfold wrongP
            simp only
            by_cases hk : isKey k = true
            · rw [if_pos hk, if_pos hk]
              by_cases hv : isVal v = true
              · rw [if_pos hv, if_pos hv, if_neg (by simp), ← hyz]
                have ih := unpF_is f1 r (acc ++ [⟨k, v⟩]) (by omega)
                rw [List.length_append] at ih
                exact ih
              · rw [if_neg hv, if_neg hv, if_pos (by decide)]
            · rw [if_neg hk, if_neg hk, if_pos (by decide)]
theorem unp_parse (s : List UInt8) : unpF 0 (split1 0 s) [] = prParse s := unpF_is s.length s [] (Nat.le_refl _)
/-! texts in pieces -/
def chunkF : Nat → Nat → List UInt8 → List (List UInt8)
  | 0, _, s => [s]
  | f + 1, n, s => if s.length ≤ n then [s] else s.take n :: chunkF f n (s.drop n)
theorem chunkF_succ (f n : Nat) (s : List UInt8) : chunkF (f + 1) n s = if s.length ≤ n then [s] else s.take n :: chunkF f n (s.drop n) := rfl
theorem chunkF_few (f n : Nat) {s : List UInt8} (h : s.length ≤ n) : chunkF f n s = [s] := by
  cases f with
  | zero => rfl
  | succ f => rw [chunkF_succ, if_pos h]
def chunks (n : Nat) (s : List UInt8) : List (List UInt8) := chunkF s.length n s
theorem chunkF_ne (f n : Nat) (s : List UInt8) : chunkF f n s ≠ [] := by
  cases f with
  | zero => simp [chunkF]
  | succ f => rw [chunkF_succ]; split <;> simp
theorem chunkF_join : ∀ (f n : Nat) (s : List UInt8), (chunkF f n s).flatten = s
  | 0, n, s => by simp [chunkF]
  | f + 1, n, s => by
    rw [chunkF_succ]
    split
    · simp
    · rw [List.flatten_cons, chunkF_join f n, List.take_append_drop]
theorem chunks_join (n : Nat) (s : List UInt8) : (chunks n s).flatten = s := chunkF_join _ _ _
theorem chunkF_fuel (n : Nat) (hn : 1 ≤ n) : ∀ (f g : Nat) (s : List UInt8), s.length ≤ f → s.length ≤ g → chunkF f n s = chunkF g n s
  | 0, g, s, hf, _ => by rw [chunkF_few g n (by omega)]; rfl
  | f + 1, 0, s, _, hg => by rw [chunkF_few (f + 1) n (by omega)]; rfl
  | f + 1, g + 1, s, hf, hg => by
    rw [chunkF_succ, chunkF_succ]
    by_cases h : s.length ≤ n
    · rw [if_pos h, if_pos h]
    · rw [if_neg h, if_neg h, chunkF_fuel n hn f g (s.drop n) (by simp; omega) (by simp; omega)]
/-- how many pieces there are -/
theorem chunkF_len (n : Nat) (hn : 1 ≤ n) : ∀ (f : Nat) (s : List UInt8), s.length ≤ f → (chunkF f n s).length = max 1 ((s.length + n - 1) / n)
  | 0, s, hf => by
    have : s.length = 0 := by omega
    rw [this]
    show 1 = _
    have : (0 + n - 1) / n = 0 := Nat.div_eq_of_lt (by omega)
    omega
  | f + 1, s, hf => by
    rw [chunkF_succ]
    by_cases h : s.length ≤ n
    · rw [if_pos h]
      show 1 = _
      by_cases h0 : s.length = 0
      · rw [h0]
        have : (0 + n - 1) / n = 0 := Nat.div_eq_of_lt (by omega)
        omega
      · have : (s.length + n - 1) / n = 1 := by
          rw [show s.length + n - 1 = (s.length - 1) + n by omega, Nat.add_div_right _ (by omega), Nat.div_eq_of_lt (by omega)]
        omega
    · rw [if_neg h, List.length_cons, chunkF_len n hn f (s.drop n) (by simp; omega)]
      rw [List.length_drop]
      have e : (s.length + n - 1) / n = (s.length - n + n - 1) / n + 1 := by
        rw [show s.length + n - 1 = (s.length - n + n - 1) + n by omega, Nat.add_div_right _ (by omega)]
      have p : 1 ≤ (s.length - n + n - 1) / n := by
        rw [Nat.le_div_iff_mul_le (by omega)]; omega
      omega
theorem chunks_len (n : Nat) (hn : 1 ≤ n) (s : List UInt8) : (chunks n s).length = max 1 ((s.length + n - 1) / n) := chunkF_len n hn _ _ (Nat.le_refl _)
/-- each has as many bytes as it may have, but the last one -/
theorem chunkF_each (n : Nat) (hn : 1 ≤ n) : ∀ (f : Nat) (s : List UInt8), s.length ≤ f → ∀ i (hi : i < (chunkF f n s).length), ((chunkF f n s)[i].length ≤ n ∧ (i + 1 < (chunkF f n s).length → (chunkF f n s)[i].length = n)) ∧ ((chunkF f n s)[i] = [] → s = [])
  | 0, s, hf, i, hi => by
    obtain rfl : s = [] := List.eq_nil_of_length_eq_zero (by omega)
    have : i = 0 := by simpa [chunkF] using hi
    subst this
    exact ⟨⟨by simp [chunkF], fun h => by simp [chunkF] at h⟩, fun _ => rfl⟩
  | f + 1, s, hf, i, hi => by
    by_cases h : s.length ≤ n
    · have e : chunkF (f + 1) n s = [s] := chunkF_few _ _ h
      simp only [e] at hi ⊢
      have : i = 0 := by simpa using hi
      subst this
      exact ⟨⟨h, fun h => by simp at h⟩, fun h => h⟩
    · have e : chunkF (f + 1) n s = s.take n :: chunkF f n (s.drop n) := by rw [chunkF_succ, if_neg h]
      simp only [e] at hi ⊢
      cases i with
      | zero =>
        have hl : (s.take n).length = n := by rw [List.length_take]; omega
        exact ⟨⟨by simp only [List.getElem_cons_zero]; omega, fun _ => by simp only [List.getElem_cons_zero]; exact hl⟩, fun h => by
          simp only [List.getElem_cons_zero] at h
          rw [h] at hl; simp at hl; omega⟩
      | succ i =>
        simp only [List.getElem_cons_succ, List.length_cons] at hi ⊢
        obtain ⟨⟨h1, h2⟩, h3⟩ := chunkF_each n hn f (s.drop n) (by simp; omega) i (by omega)
        refine ⟨⟨h1, fun hh => h2 (by omega)⟩, fun hh => ?_⟩
        have := congrArg List.length (h3 hh)
        simp at this
        omega
theorem chunks_each (n : Nat) (hn : 1 ≤ n) (s : List UInt8) (i : Nat) (hi : i < (chunks n s).length) : ((chunks n s)[i].length ≤ n ∧ (i + 1 < (chunks n s).length → (chunks n s)[i].length = n)) ∧ ((chunks n s)[i] = [] → s = []) := chunkF_each n hn _ _ (Nat.le_refl _) i hi
/-! what comes in parts -/
structure Ga where
  most : Nat
  came : List UInt8
/-- what comes of a text, behind which more comes or not -/
def addG (G : Ga) (s : List UInt8) (more : Bool) : (List Pr × Int × Int) × Ga :=
  if G.most < G.came.length + s.length then (([], 12, -1), ⟨G.most, []⟩) else
  if more = true then (([], 0, -1), ⟨G.most, G.came ++ s⟩) else (prParse (G.came ++ s), ⟨G.most, []⟩)
theorem addG_full {G : Ga} {s : List UInt8} (more : Bool) (h : G.most < G.came.length + s.length) : addG G s more = (([], 12, -1), ⟨G.most, []⟩) := by unfold addG; rw [if_pos h]
theorem addG_more {G : Ga} {s : List UInt8} (h : G.came.length + s.length ≤ G.most) : addG G s true = (([], 0, -1), ⟨G.most, G.came ++ s⟩) := by unfold addG; rw [if_neg (by omega), if_pos rfl]
theorem addG_end {G : Ga} {s : List UInt8} (h : G.came.length + s.length ≤ G.most) : addG G s false = (prParse (G.came ++ s), ⟨G.most, []⟩) := by unfold addG; rw [if_neg (by omega)]; rfl
theorem addG_fits (G : Ga) (s : List UInt8) (more : Bool) (_ : G.came.length ≤ G.most) : (addG G s more).2.came.length ≤ (addG G s more).2.most ∧ (addG G s more).2.most = G.most := by
  by_cases h1 : G.most < G.came.length + s.length
  · rw [addG_full more h1]; simp
  · cases more with
    | true => rw [addG_more (by omega)]; simp; omega
    | false => rw [addG_end (by omega)]; simp
end Go.Proofs.YtikcgnalcchlpaaGreatDoor
