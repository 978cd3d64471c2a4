/- Keys and values as text: how they are written, what is wrong with them, what a text is. No program stands in it. -/
import Derived.Test.YtikcgnalcchlpaaGreatDoorBase
import Derived.Lib.IndexMore
import Derived.Lib.Split
namespace Go.Proofs.YtikcgnalcchlpaaGreatDoor
open Go.RowKit
/-- a pair: its key, its value -/
structure Pr where
  k : List UInt8
  v : List UInt8
def greatB (c : UInt8) : Bool := decide (65 ≤ c.toNat ∧ c.toNat ≤ 90)
def mayB (c : UInt8) : Bool := greatB c || decide (97 ≤ c.toNat ∧ c.toNat ≤ 122) || decide (48 ≤ c.toNat ∧ c.toNat ≤ 57) || [46, 45, 43, 64, 95].contains c
def signB (c : UInt8) : Bool := decide (32 ≤ c.toNat ∧ c.toNat ≤ 126)
def isKey (s : List UInt8) : Bool := decide (1 ≤ s.length ∧ s.length ≤ 63) && greatB (s.getD 0 0) && s.all mayB
def isVal (s : List UInt8) : Bool := decide (s.length ≤ 255) && s.all signB
/-- what is wrong with a pair: an error's number, 0: nothing -/
def wrongP (p : Pr) : Int := if isKey p.k = true then if isVal p.v = true then 0 else 3 else 5
theorem wrongP_ok {p : Pr} (h : wrongP p = 0) : isKey p.k = true ∧ isVal p.v = true := by
  unfold wrongP at h
  by_cases h1 : isKey p.k = true
  · rw [if_pos h1] at h
    by_cases h2 : isVal p.v = true
    · exact ⟨h1, h2⟩
    · rw [if_neg h2] at h; exact absurd h (by decide)
  · rw [if_neg h1] at h; exact absurd h (by decide)
theorem wrongP_n (p : Pr) : wrongP p = 0 ∨ wrongP p = 3 ∨ wrongP p = 5 := by
  unfold wrongP
  split
  · split
    · exact .inl rfl
    · exact .inr (.inl rfl)
  · exact .inr (.inr rfl)
def okPs (l : List Pr) : Prop := ∀ p ∈ l, wrongP p = 0
def prRightF : Nat → List Pr → Int × Int
  | _, [] => (0, -1)
  | i, p :: l => if wrongP p = 0 then prRightF (i + 1) l else (wrongP p, (i : Int))
theorem prRightF_cons (i : Nat) (p : Pr) (l : List Pr) : prRightF i (p :: l) = if wrongP p = 0 then prRightF (i + 1) l else (wrongP p, (i : Int)) := rfl
def prRight (l : List Pr) : Int × Int := if 60 < l.length then (4, -1) else prRightF 0 l
theorem prRightF_ok : ∀ (l : List Pr) (i : Nat), okPs l → prRightF i l = (0, -1)
  | [], _, _ => rfl
  | p :: l, i, h => by
    rw [prRightF_cons, if_pos (h p (List.mem_cons_self ..))]
    exact prRightF_ok l _ (fun q hq => h q (List.mem_cons_of_mem _ hq))
theorem prRightF_is : ∀ (l : List Pr) (i : Nat), (prRightF i l).1 = 0 → okPs l
  | [], _, _ => fun _ h => absurd h List.not_mem_nil
  | p :: l, i, h => by
    rw [prRightF_cons] at h
    by_cases h1 : wrongP p = 0
    · rw [if_pos h1] at h
      exact fun q hq => by
        rcases List.mem_cons.1 hq with rfl | hq
        · exact h1
        · exact prRightF_is l _ h q hq
    · rw [if_neg h1] at h; exact absurd h h1
theorem prRight_is {l : List Pr} (h : (prRight l).1 = 0) : okPs l ∧ l.length ≤ 60 ∧ prRight l = (0, -1) := by
  unfold prRight at h ⊢
  by_cases h1 : 60 < l.length
  · rw [if_pos h1] at h; exact absurd h (by decide)
  · rw [if_neg h1] at h ⊢
    have := prRightF_is l 0 h
    exact ⟨this, by omega, prRightF_ok l 0 this⟩
theorem prRight_ok {l : List Pr} (h : okPs l) (hl : l.length ≤ 60) : prRight l = (0, -1) := by
  unfold prRight
  rw [if_neg (by omega)]
  exact prRightF_ok l 0 h
/-- a pair as text -/
def wrP (p : Pr) : List UInt8 := p.k ++ 61 :: (p.v ++ [0])
def prBytes (l : List Pr) : List UInt8 := l.flatMap wrP
theorem wrP_len (p : Pr) : (wrP p).length = p.k.length + p.v.length + 2 := by simp [wrP]; omega
theorem prBytes_nil : prBytes [] = [] := rfl
theorem prBytes_cons (p : Pr) (l : List Pr) : prBytes (p :: l) = wrP p ++ prBytes l := rfl
theorem prBytes_app (l m : List Pr) : prBytes (l ++ m) = prBytes l ++ prBytes m := by simp [prBytes]
theorem prBytes_one (p : Pr) : prBytes [p] = wrP p := by simp [prBytes]
def prPrint (l : List Pr) : List UInt8 × Int × Int := if (prRight l).1 = 0 then (prBytes l, 0, -1) else ([], prRight l)
/-- a text up to a byte, and what is behind it -/
def cut1 (c : UInt8) : List UInt8 → Option (List UInt8 × List UInt8)
  | [] => none
  | x :: l => if x = c then some ([], l) else match cut1 c l with
    | none => none
    | some (a, b) => some (x :: a, b)
theorem cut1_cons (c x : UInt8) (l : List UInt8) (h : x ≠ c) : cut1 c (x :: l) = match cut1 c l with
    | none => none
    | some (a, b) => some (x :: a, b) := by
  show (if x = c then _ else _) = _
  rw [if_neg h]
theorem cut1_none {c : UInt8} : ∀ {s : List UInt8}, cut1 c s = none → c ∉ s
  | [], _ => by simp
  | x :: l, h => by
    by_cases hx : x = c
    · subst hx
      unfold cut1 at h
      rw [if_pos rfl] at h; cases h
    · rw [cut1_cons c x l hx] at h
      cases e : cut1 c l with
      | none =>
        have := cut1_none e
        simp [this]
        exact fun h => hx h.symm
      | some q => rw [e] at h; cases h
theorem cut1_some {c : UInt8} : ∀ {s a b : List UInt8}, cut1 c s = some (a, b) → s = a ++ c :: b ∧ c ∉ a
  | [], _, _, h => by cases h
  | x :: l, a, b, h => by
    by_cases hx : x = c
    · subst hx
      unfold cut1 at h
      rw [if_pos rfl] at h
      cases h
      exact ⟨rfl, by simp⟩
    · rw [cut1_cons c x l hx] at h
      cases e : cut1 c l with
      | none => rw [e] at h; cases h
      | some q =>
        obtain ⟨a', b'⟩ := q
        rw [e] at h
        cases h
        obtain ⟨h1, h2⟩ := cut1_some e
        refine ⟨by rw [h1]; rfl, ?_⟩
        simp [h2]
        exact fun h => hx h.symm
theorem cut1_of {c : UInt8} : ∀ {a : List UInt8} (b : List UInt8), c ∉ a → cut1 c (a ++ c :: b) = some (a, b)
  | [], b, _ => by
    show (if c = c then _ else _) = _
    rw [if_pos rfl]
  | x :: a, b, h => by
    have hx : x ≠ c := fun e => h (by rw [e]; exact List.mem_cons_self ..)
    rw [List.cons_append, cut1_cons c x _ hx, cut1_of b (fun hc => h (List.mem_cons_of_mem _ hc))]
theorem cut1_not {c : UInt8} : ∀ {s : List UInt8}, c ∉ s → cut1 c s = none := by
  intro s h
  cases e : cut1 c s with
  | none => rfl
  | some q =>
    obtain ⟨a, b⟩ := q
    have := (cut1_some e).1
    rw [this] at h
    exact absurd (by simp) h
theorem index_one (c : UInt8) : ∀ (s : List UInt8), Lib.index s [c] = match cut1 c s with
    | none => -1
    | some (a, _) => (a.length : Int)
  | [] => rfl
  | x :: l => by
    have ih := index_one c l
    unfold Lib.index
    by_cases hx : x = c
    · subst hx
      have : cut1 x (x :: l) = some ([], l) := by unfold cut1; rw [if_pos rfl]
      rw [this]
      simp
    · rw [cut1_cons c x l hx]
      have hp : List.isPrefixOf [c] (x :: l) = false := by simp [List.isPrefixOf]; exact fun h => hx h.symm
      rw [hp, ih]
      cases e : cut1 c l with
      | none => simp
      | some q =>
        obtain ⟨a, b⟩ := q
        have h0 : ((a.length : Int) == -1) = false := by simp
        simp only [h0]
        simp
theorem cut_one (c : UInt8) (s : List UInt8) : Lib.cut s [c] = match cut1 c s with
    | none => (s, [], false)
    | some (a, b) => (a, b, true) := by
  unfold Lib.cut
  rw [index_one]
  cases e : cut1 c s with
  | none => simp
  | some q =>
    obtain ⟨a, b⟩ := q
    obtain ⟨h1, _⟩ := cut1_some e
    simp only
    rw [if_pos (by omega)]
    have : (a.length : Int).toNat = a.length := by omega
    rw [this, h1, List.take_left]
    have h2 : List.drop (a.length + [c].length) (a ++ c :: b) = b := by
      rw [List.drop_append]
      simp
    rw [h2]
/-- what a text begins with: an error's number, else 0, a pair, and what is behind it -/
def prFirst (s : List UInt8) : Int × Pr × List UInt8 := match cut1 0 s with
  | none => (7, ⟨[], []⟩, [])
  | some (t, r) => match cut1 61 t with
    | none => (3, ⟨[], []⟩, [])
    | some (k, v) => (0, ⟨k, v⟩, r)
theorem prFirst_end {s : List UInt8} (h : cut1 0 s = none) : prFirst s = (7, ⟨[], []⟩, []) := by unfold prFirst; rw [h]
theorem prFirst_form {s t r : List UInt8} (h : cut1 0 s = some (t, r)) (h2 : cut1 61 t = none) : prFirst s = (3, ⟨[], []⟩, []) := by unfold prFirst; rw [h]; simp only; rw [h2]
theorem prFirst_good {s t r k v : List UInt8} (h : cut1 0 s = some (t, r)) (h2 : cut1 61 t = some (k, v)) : prFirst s = (0, ⟨k, v⟩, r) := by unfold prFirst; rw [h]; simp only; rw [h2]
theorem prFirst_n (s : List UInt8) : (prFirst s).1 = 0 ∨ (prFirst s).1 = 3 ∨ (prFirst s).1 = 7 := by
  cases h : cut1 0 s with
  | none => rw [prFirst_end h]; exact .inr (.inr rfl)
  | some q =>
    obtain ⟨t, r⟩ := q
    cases h2 : cut1 61 t with
    | none => rw [prFirst_form h h2]; exact .inr (.inl rfl)
    | some q =>
      obtain ⟨k, v⟩ := q
      rw [prFirst_good h h2]; exact .inl rfl
theorem prFirst_wr {s : List UInt8} (h : (prFirst s).1 = 0) : s = wrP (prFirst s).2.1 ++ (prFirst s).2.2 := by
  cases h1 : cut1 0 s with
  | none => rw [prFirst_end h1] at h; exact absurd h (by decide)
  | some q =>
    obtain ⟨t, r⟩ := q
    cases h2 : cut1 61 t with
    | none => rw [prFirst_form h1 h2] at h; exact absurd h (by decide)
    | some q =>
      obtain ⟨k, v⟩ := q
      rw [prFirst_good h1 h2]
      obtain ⟨e1, _⟩ := cut1_some h1
      obtain ⟨e2, _⟩ := cut1_some h2
      simp only [wrP]
      rw [e1, e2]
      simp
theorem mayB_not {c : UInt8} (h : mayB c = true) : c ≠ 0 ∧ c ≠ 61 := by
  refine ⟨fun e => ?_, fun e => ?_⟩ <;> (subst e; revert h; decide)
theorem signB_not {c : UInt8} (h : signB c = true) : c ≠ 0 := by
  intro e; subst e; revert h; decide
theorem isKey_not {s : List UInt8} (h : isKey s = true) : (0 : UInt8) ∉ s ∧ (61 : UInt8) ∉ s := by
  unfold isKey at h
  simp only [Bool.and_eq_true, List.all_eq_true] at h
  exact ⟨fun hc => (mayB_not (h.2 _ hc)).1 rfl, fun hc => (mayB_not (h.2 _ hc)).2 rfl⟩
theorem isVal_not {s : List UInt8} (h : isVal s = true) : (0 : UInt8) ∉ s := by
  unfold isVal at h
  simp only [Bool.and_eq_true, List.all_eq_true] at h
  exact fun hc => signB_not (h.2 _ hc) rfl
theorem prFirst_of (p : Pr) (t : List UInt8) (h : wrongP p = 0) : prFirst (wrP p ++ t) = (0, p, t) := by
  obtain ⟨k, v⟩ := p
  obtain ⟨h1, h2⟩ := wrongP_ok h
  simp only at h1 h2
  obtain ⟨k0, k1⟩ := isKey_not h1
  have v0 := isVal_not h2
  refine prFirst_good (t := k ++ 61 :: v) (r := t) ?_ (cut1_of v k1)
  have e : wrP ⟨k, v⟩ ++ t = (k ++ 61 :: v) ++ 0 :: t := by simp [wrP]
  rw [e]
  exact cut1_of t (by simp [k0, v0])
/-- the pairs that a text is, behind those that are read -/
def prReadF : Nat → List UInt8 → List Pr → List Pr × Int × Int
  | 0, _, acc => (acc, 0, -1)
  | f + 1, s, acc => if s = [] then (acc, 0, -1) else
    if (prFirst s).1 ≠ 0 then ([], (prFirst s).1, (acc.length : Int)) else
    if acc.length = 60 then ([], 4, -1) else
    if wrongP (prFirst s).2.1 ≠ 0 then ([], wrongP (prFirst s).2.1, (acc.length : Int)) else
    prReadF f (prFirst s).2.2 (acc ++ [(prFirst s).2.1])
theorem prReadF_succ (f : Nat) (s : List UInt8) (acc : List Pr) : prReadF (f + 1) s acc = if s = [] then (acc, 0, -1) else
    if (prFirst s).1 ≠ 0 then ([], (prFirst s).1, (acc.length : Int)) else
    if acc.length = 60 then ([], 4, -1) else
    if wrongP (prFirst s).2.1 ≠ 0 then ([], wrongP (prFirst s).2.1, (acc.length : Int)) else
    prReadF f (prFirst s).2.2 (acc ++ [(prFirst s).2.1]) := rfl
theorem prReadF_nil (f : Nat) (acc : List Pr) : prReadF f [] acc = (acc, 0, -1) := by
  cases f with
  | zero => rfl
  | succ f => rw [prReadF_succ, if_pos rfl]
def prParse (s : List UInt8) : List Pr × Int × Int := prReadF s.length s []
theorem wrP_ne (p : Pr) (t : List UInt8) : wrP p ++ t ≠ [] := by simp [wrP]
/-- pairs that are written ahead are read -/
theorem prReadF_app : ∀ (l : List Pr) (f : Nat) (t : List UInt8) (acc : List Pr), okPs l → acc.length + l.length ≤ 60 → (prBytes l).length + t.length ≤ f →
    ∃ f', t.length ≤ f' ∧ prReadF f (prBytes l ++ t) acc = prReadF f' t (acc ++ l)
  | [], f, t, acc, _, _, hf => ⟨f, by simpa [prBytes_nil] using hf, by simp [prBytes_nil]⟩
  | p :: l, f, t, acc, hk, hn, hf => by
    have hp := hk p (List.mem_cons_self ..)
    rw [prBytes_cons, List.length_append, wrP_len] at hf
    rw [List.length_cons] at hn
    obtain ⟨f1, rfl⟩ : ∃ f1, f = f1 + 1 := ⟨f - 1, by omega⟩
    obtain ⟨f', h1, h2⟩ := prReadF_app l f1 t (acc ++ [p]) (fun q hq => hk q (List.mem_cons_of_mem _ hq)) (by simp; omega) (by omega)
    refine ⟨f', h1, ?_⟩
    rw [prBytes_cons, List.append_assoc, prReadF_succ, if_neg (wrP_ne p _), prFirst_of p _ hp]
    simp only
    rw [if_neg (by simp), if_neg (by omega), if_neg (by simp [hp]), h2]
    simp
/-- one more than may be -/
theorem prReadF_much : ∀ (l : List Pr) (f : Nat) (t : List UInt8) (acc : List Pr), okPs l → acc.length ≤ 60 → 60 < acc.length + l.length → (prBytes l).length + t.length ≤ f →
    prReadF f (prBytes l ++ t) acc = ([], 4, -1)
  | [], f, t, acc, _, h1, h2, _ => by simp at h2; omega
  | p :: l, f, t, acc, hk, h1, h2, hf => by
    have hp := hk p (List.mem_cons_self ..)
    rw [prBytes_cons, List.length_append, wrP_len] at hf
    rw [List.length_cons] at h2
    obtain ⟨f1, rfl⟩ : ∃ f1, f = f1 + 1 := ⟨f - 1, by omega⟩
    rw [prBytes_cons, List.append_assoc, prReadF_succ, if_neg (wrP_ne p _), prFirst_of p _ hp]
    simp only
    rw [if_neg (by simp)]
    by_cases h60 : acc.length = 60
    · rw [if_pos h60]
    · rw [if_neg h60, if_neg (by simp [hp])]
      exact prReadF_much l f1 t (acc ++ [p]) (fun q hq => hk q (List.mem_cons_of_mem _ hq)) (by simp; omega) (by simp; omega) (by omega)
theorem parse_bytes {l : List Pr} (h : okPs l) (hl : l.length ≤ 60) : prParse (prBytes l) = (l, 0, -1) := by
  unfold prParse
  obtain ⟨f', _, e⟩ := prReadF_app l (prBytes l).length [] [] h (by simpa using hl) (by simp)
  rw [List.append_nil] at e
  rw [e, prReadF_nil]
  simp
theorem parse_much {l : List Pr} (h : okPs l) (hl : 60 < l.length) : prParse (prBytes l) = ([], 4, -1) := by
  unfold prParse
  have e := prReadF_much l (prBytes l).length [] [] h (by simp) (by simpa using hl) (by simp)
  rwa [List.append_nil] at e
/-- what is read is right, and is written so -/
theorem prReadF_is : ∀ (f : Nat) (s : List UInt8) (acc : List Pr), s.length ≤ f → acc.length ≤ 60 → (prReadF f s acc).2.1 = 0 →
    ∃ l, prReadF f s acc = (acc ++ l, 0, -1) ∧ s = prBytes l ∧ okPs l ∧ acc.length + l.length ≤ 60
  | 0, s, acc, hs, ha, _ => by
    obtain rfl : s = [] := List.eq_nil_of_length_eq_zero (by omega)
    exact ⟨[], by simp [prReadF], rfl, fun _ h => absurd h List.not_mem_nil, by simpa using ha⟩
  | f + 1, s, acc, hs, ha, h => by
    rw [prReadF_succ] at h ⊢
    by_cases h0 : s = []
    · subst h0
      rw [if_pos rfl]
      exact ⟨[], by simp, rfl, fun _ h => absurd h List.not_mem_nil, by simpa using ha⟩
    · rw [if_neg h0] at h ⊢
      by_cases h1 : (prFirst s).1 ≠ 0
      · rw [if_pos h1] at h; exact absurd h h1
      · rw [if_neg h1] at h ⊢
        have h1' : (prFirst s).1 = 0 := by simpa using h1
        by_cases h2 : acc.length = 60
        · rw [if_pos h2] at h; exact absurd h (by decide)
        · rw [if_neg h2] at h ⊢
          by_cases h3 : wrongP (prFirst s).2.1 ≠ 0
          · rw [if_pos h3] at h; exact absurd h h3
          · rw [if_neg h3] at h ⊢
            have h3' : wrongP (prFirst s).2.1 = 0 := by simpa using h3
            have hw := prFirst_wr h1'
            have hl := congrArg List.length hw
            rw [List.length_append, wrP_len] at hl
            obtain ⟨l, e1, e2, e3, e4⟩ := prReadF_is f (prFirst s).2.2 (acc ++ [(prFirst s).2.1]) (by omega) (by simp; omega) h
            refine ⟨(prFirst s).2.1 :: l, by rw [e1]; simp, ?_, ?_, by simp at e4 ⊢; omega⟩
            · rw [prBytes_cons, ← e2]; exact hw
            · intro q hq
              rcases List.mem_cons.1 hq with rfl | hq
              · exact h3'
              · exact e3 q hq
theorem parse_is {s : List UInt8} (h : (prParse s).2.1 = 0) : ∃ l, prParse s = (l, 0, -1) ∧ s = prBytes l ∧ okPs l ∧ l.length ≤ 60 := by
  obtain ⟨l, h1, h2, h3, h4⟩ := prReadF_is s.length s [] (Nat.le_refl _) (by simp) h
  exact ⟨l, by simpa [prParse] using h1, h2, h3, by simpa using h4⟩
theorem prReadF_bad : ∀ (f : Nat) (s : List UInt8) (acc : List Pr), (prReadF f s acc).2.1 ≠ 0 → (prReadF f s acc).1 = []
  | 0, s, acc, h => absurd rfl h
  | f + 1, s, acc, h => by
    rw [prReadF_succ] at h ⊢
    split at h
    · exact absurd rfl h
    rename_i h0
    rw [if_neg h0]
    split at h
    · rename_i h1; rw [if_pos h1]
    rename_i h1
    rw [if_neg h1]
    split at h
    · rename_i h2; rw [if_pos h2]
    rename_i h2
    rw [if_neg h2]
    split at h
    · rename_i h3; rw [if_pos h3]
    rename_i h3
    rw [if_neg h3]
    exact prReadF_bad _ _ _ h
theorem parse_bad {s : List UInt8} (h : (prParse s).2.1 ≠ 0) : (prParse s).1 = [] := prReadF_bad _ _ _ h
theorem prReadF_len : ∀ (f : Nat) (s : List UInt8) (acc : List Pr), s.length ≤ f → acc.length ≤ 60 → (prReadF f s acc).1.length ≤ 60
  | f, s, acc, hs, ha => by
    by_cases h : (prReadF f s acc).2.1 = 0
    · obtain ⟨l, e, _, _, h4⟩ := prReadF_is f s acc hs ha h
      rw [e]; simpa using h4
    · rw [prReadF_bad f s acc h]; simp
theorem parse_len (s : List UInt8) : (prParse s).1.length ≤ 60 := prReadF_len _ _ _ (Nat.le_refl _) (by simp)
/-- the first pair of a key -/
def prFind (l : List Pr) (key : List UInt8) : Option (List UInt8) := match l with
  | [] => none
  | p :: l => if p.k = key then some p.v else prFind l key
theorem prFind_app (l : List Pr) (p : Pr) (key : List UInt8) : prFind (l ++ [p]) key = match prFind l key with
    | some v => some v
    | none => if p.k = key then some p.v else none := by
  induction l with
  | nil => rfl
  | cons q l ih =>
    rw [List.cons_append]
    unfold prFind
    by_cases h : q.k = key
    · rw [if_pos h, if_pos h]
    · rw [if_neg h, if_neg h]; exact ih
theorem prFind_some {key v : List UInt8} : ∀ {l : List Pr}, prFind l key = some v → ∃ j, ∃ h : j < l.length, l[j] = ⟨key, v⟩
  | [], h => by cases h
  | p :: l, h => by
    unfold prFind at h
    by_cases hk : p.k = key
    · rw [if_pos hk] at h
      cases h
      exact ⟨0, by simp, by cases p; simp at hk; simp [hk]⟩
    · rw [if_neg hk] at h
      obtain ⟨j, hj, e⟩ := prFind_some h
      exact ⟨j + 1, by simpa using hj, by simpa using e⟩
theorem prFind_none {key : List UInt8} : ∀ {l : List Pr}, prFind l key = none → ∀ p ∈ l, p.k ≠ key
  | [], _, p, hp => absurd hp List.not_mem_nil
  | q :: l, h, p, hp => by
    unfold prFind at h
    by_cases hk : q.k = key
    · rw [if_pos hk] at h; cases h
    · rw [if_neg hk] at h
      rcases List.mem_cons.1 hp with rfl | hp
      · exact hk
      · exact prFind_none h p hp
/-- a key with a letter more -/
theorem isKey_snoc {s : List UInt8} (c : UInt8) (h : isKey s = true) : isKey (s ++ [c]) = (mayB c && decide (s.length < 63)) := by
  unfold isKey at h ⊢
  simp only [Bool.and_eq_true, decide_eq_true_eq] at h
  obtain ⟨⟨⟨h1, h2⟩, h3⟩, h4⟩ := h
  have e : (s ++ [c]).getD 0 0 = s.getD 0 0 := by
    simp only [List.getD_eq_getElem?_getD]
    rw [List.getElem?_append_left (by omega)]
  rw [e, h3, List.all_append, h4]
  simp
  rw [Bool.and_comm]
  congr 1
  rw [Bool.eq_iff_iff]
  simp
  omega
theorem isKey_head {s : List UInt8} (h : isKey s = true) : 0 < s.length ∧ s.length ≤ 63 ∧ greatB (s.getD 0 0) = true := by
  unfold isKey at h
  simp only [Bool.and_eq_true, decide_eq_true_eq] at h
  exact ⟨by omega, by omega, h.1.2⟩
theorem thick_okP {p : Pr} (h : wrongP p = 0) : p.k.length ≤ 63 ∧ p.v.length ≤ 255 := by
  obtain ⟨h1, h2⟩ := wrongP_ok h
  refine ⟨(isKey_head h1).2.1, ?_⟩
  unfold isVal at h2
  simp only [Bool.and_eq_true, decide_eq_true_eq] at h2
  exact h2.1
/-- the last byte is missing -/
theorem parse_cut {l : List Pr} (h : okPs l) (hl : l.length ≤ 60) (h0 : 0 < l.length) : prParse ((prBytes l).take ((prBytes l).length - 1)) = ([], 7, ((l.length - 1 : Nat) : Int)) := by
  rcases List.eq_nil_or_concat l with rfl | ⟨m, q, rfl⟩
  · simp at h0
  · rw [List.concat_eq_append] at *
    have hq := h q (by simp)
    have hm : okPs m := fun p hp => h p (by simp [hp])
    obtain ⟨h1, h2⟩ := wrongP_ok hq
    obtain ⟨k0, k1⟩ := isKey_not h1
    have v0 := isVal_not h2
    have e : (prBytes (m ++ [q])).take ((prBytes (m ++ [q])).length - 1) = prBytes m ++ (q.k ++ 61 :: q.v) := by
      have e1 : prBytes (m ++ [q]) = (prBytes m ++ (q.k ++ 61 :: q.v)) ++ [0] := by rw [prBytes_app, prBytes_one]; simp [wrP]
      rw [e1]
      have e2 : ((prBytes m ++ (q.k ++ 61 :: q.v)) ++ [(0 : UInt8)]).length - 1 = (prBytes m ++ (q.k ++ 61 :: q.v)).length := by rw [List.length_append]; rfl
      rw [e2, List.take_left]
    rw [e]
    unfold prParse
    obtain ⟨f', h3, e3⟩ := prReadF_app m (prBytes m ++ (q.k ++ 61 :: q.v)).length (q.k ++ 61 :: q.v) [] hm (by simp at hl ⊢; omega) (by simp)
    rw [e3]
    obtain ⟨f1, rfl⟩ : ∃ f1, f' = f1 + 1 := ⟨f' - 1, by simp at h3; omega⟩
    rw [prReadF_succ, if_neg (by simp), prFirst_end (cut1_not (by simp [k0, v0]))]
    simp
/-- pairs of two texts -/
theorem parse_join {a b : List UInt8} {x y : List Pr} (ha : prParse a = (x, 0, -1)) (hb : prParse b = (y, 0, -1)) : prParse (a ++ b) = if 60 < x.length + y.length then ([], 4, -1) else (x ++ y, 0, -1) := by
  obtain ⟨l, e1, rfl, h1, _⟩ := parse_is (s := a) (by rw [ha])
  obtain ⟨m, e2, rfl, h2, _⟩ := parse_is (s := b) (by rw [hb])
  obtain rfl : x = l := by rw [ha] at e1; cases e1; rfl
  obtain rfl : y = m := by rw [hb] at e2; cases e2; rfl
  rw [← prBytes_app]
  have h3 : okPs (x ++ y) := fun p hp => by rcases List.mem_append.1 hp with hp | hp <;> first | exact h1 p hp | exact h2 p hp
  by_cases h : 60 < x.length + y.length
  · rw [if_pos h]; exact parse_much h3 (by simpa using h)
  · rw [if_neg h]; exact parse_bytes h3 (by simp; omega)
end Go.Proofs.YtikcgnalcchlpaaGreatDoor
