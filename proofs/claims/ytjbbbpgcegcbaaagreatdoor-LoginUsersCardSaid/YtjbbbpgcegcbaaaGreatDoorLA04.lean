/- LA04: several texts in one. -/
import Derived.Lib.IndexMore
import Derived.Lib.ItoaMem
import Derived.Lib.Split
import Derived.Test.YtjbbbpgcegcbaaaGreatDoorLA01
namespace Go.Proofs.YtjbbbpgcegcbaaaGreatDoor
open Go.RowKit
structure Ke where
 nm : List UInt8
 kd : Nat
 lo : Nat
 hi : Nat
 df : List UInt8
 no : Bool
 lg : Bool
def ke0 : Ke := ⟨[72, 101, 97, 100, 101, 114, 68, 105, 103, 101, 115, 116], 5, 0, 0, [78, 111, 110, 101], false, true⟩
def ke1 : Ke := ⟨[68, 97, 116, 97, 68, 105, 103, 101, 115, 116], 5, 0, 0, [78, 111, 110, 101], false, true⟩
def ke2 : Ke := ⟨[77, 97, 120, 67, 111, 110, 110, 101, 99, 116, 105, 111, 110, 115], 3, 1, 65535, [49], true, true⟩
def ke3 : Ke := ⟨[69, 114, 114, 111, 114, 82, 101, 99, 111, 118, 101, 114, 121, 76, 101, 118, 101, 108], 3, 0, 2, [48], false, true⟩
def ke4 : Ke := ⟨[73, 110, 105, 116, 105, 97, 108, 82, 50, 84], 2, 0, 0, [89, 101, 115], true, true⟩
def ke5 : Ke := ⟨[73, 109, 109, 101, 100, 105, 97, 116, 101, 68, 97, 116, 97], 1, 0, 0, [89, 101, 115], true, true⟩
def ke6 : Ke := ⟨[77, 97, 120, 82, 101, 99, 118, 68, 97, 116, 97, 83, 101, 103, 109, 101, 110, 116, 76, 101, 110, 103, 116, 104], 7, 512, 16777215, [56, 49, 57, 50], false, false⟩
def ke7 : Ke := ⟨[77, 97, 120, 66, 117, 114, 115, 116, 76, 101, 110, 103, 116, 104], 3, 512, 16777215, [50, 54, 50, 49, 52, 52], true, true⟩
def ke8 : Ke := ⟨[70, 105, 114, 115, 116, 66, 117, 114, 115, 116, 76, 101, 110, 103, 116, 104], 3, 512, 16777215, [54, 53, 53, 51, 54], true, true⟩
def ke9 : Ke := ⟨[68, 101, 102, 97, 117, 108, 116, 84, 105, 109, 101, 50, 87, 97, 105, 116], 4, 0, 3600, [50], false, true⟩
def ke10 : Ke := ⟨[68, 101, 102, 97, 117, 108, 116, 84, 105, 109, 101, 50, 82, 101, 116, 97, 105, 110], 3, 0, 3600, [50, 48], false, true⟩
def ke11 : Ke := ⟨[77, 97, 120, 79, 117, 116, 115, 116, 97, 110, 100, 105, 110, 103, 82, 50, 84], 3, 1, 65535, [49], true, true⟩
def ke12 : Ke := ⟨[68, 97, 116, 97, 80, 68, 85, 73, 110, 79, 114, 100, 101, 114], 2, 0, 0, [89, 101, 115], true, true⟩
def ke13 : Ke := ⟨[68, 97, 116, 97, 83, 101, 113, 117, 101, 110, 99, 101, 73, 110, 79, 114, 100, 101, 114], 2, 0, 0, [89, 101, 115], true, true⟩
def ke14 : Ke := ⟨[73, 110, 105, 116, 105, 97, 116, 111, 114, 78, 97, 109, 101], 6, 0, 0, [], false, true⟩
def ke15 : Ke := ⟨[73, 110, 105, 116, 105, 97, 116, 111, 114, 65, 108, 105, 97, 115], 6, 0, 0, [], false, false⟩
def ke16 : Ke := ⟨[84, 97, 114, 103, 101, 116, 78, 97, 109, 101], 6, 0, 0, [], false, true⟩
def ke17 : Ke := ⟨[83, 101, 115, 115, 105, 111, 110, 84, 121, 112, 101], 6, 0, 0, [78, 111, 114, 109, 97, 108], false, true⟩
def keRows : List Ke := [ke0, ke1, ke2, ke3, ke4, ke5, ke6, ke7, ke8, ke9, ke10, ke11, ke12, ke13, ke14, ke15, ke16, ke17]
def keAt (k : Nat) : Ke := keRows.getD k ke0
def keNames : List (List UInt8) := keRows.map (·.nm)
def keC (k : Ke) : List Value := [.string (S k.nm), .int .i64 (k.kd : Int), .int .i64 (k.lo : Int), .int .i64 (k.hi : Int), .string (S k.df), .bool k.no, .bool k.lg]
def keV (k : Ke) : Value := .agg (keC k).toArray
def keRowsC : Array Value := (keRows.flatMap keC).toArray
def rowOf (s : List UInt8) : Option Ke := keRows.find? (fun k => decide (k.nm = s))
theorem ke_take (k : Nat) (h : k < 18) : keRows.take k ++ [keAt k] = keRows.take (k + 1) := by
 rw [List.take_succ_eq_append_getElem (show k < keRows.length from h)]
 congr 2
 unfold keAt
 rw [List.getD_eq_getElem?_getD, List.getElem?_eq_getElem (show k < keRows.length from h)]
 rfl
theorem ke_take_len (k : Nat) (h : k ≤ 18) : (keRows.take k).length = k := by rw [List.length_take]; exact Nat.min_eq_left h
theorem rowOf_prefix {s : List UInt8} {q : List Ke} {k : Ke} (hp : q ++ [k] <+: keRows) (hq : ∀ k ∈ q, k.nm ≠ s) (hk : k.nm = s) : rowOf s = some k := by
 obtain ⟨r, hr⟩ := hp
 unfold rowOf
 rw [← hr, List.append_assoc, List.find?_append, List.find?_eq_none.2 (fun x hx => by simpa using hq x hx)]
 simp [hk]
theorem rowOf_none {s : List UInt8} (hq : ∀ k ∈ keRows, k.nm ≠ s) : rowOf s = none := by
 unfold rowOf
 exact List.find?_eq_none.2 (fun x hx => by simpa using hq x hx)
theorem rowOf_mem {s : List UInt8} {k : Ke} (h : rowOf s = some k) : k ∈ keRows ∧ k.nm = s := by
 unfold rowOf at h
 exact ⟨List.mem_of_find?_eq_some h, by simpa using List.find?_some h⟩
def keOk (k : Ke) : Bool := decide (k.lo ≤ k.hi ∧ k.hi ≤ 16777215 ∧ 1 ≤ k.kd ∧ k.kd ≤ 7 ∧ k.nm.length ≤ 63 ∧ k.df.length ≤ 63 ∧ k.nm ≠ [])
theorem ke_ok : ∀ k ∈ keRows, keOk k = true := by decide +kernel
theorem rowOf_ok {s : List UInt8} {k : Ke} (h : rowOf s = some k) : k.lo ≤ k.hi ∧ k.hi ≤ 16777215 ∧ 1 ≤ k.kd ∧ k.kd ≤ 7 ∧ k.nm.length ≤ 63 ∧ k.df.length ≤ 63 ∧ k.nm ≠ [] := by
 have := ke_ok k (rowOf_mem h).1
 unfold keOk at this
 exact of_decide_eq_true this
structure Pr where
 k : List UInt8
 v : List UInt8
def greatB (c : UInt8) : Bool := decide (65 ≤ c.toNat ∧ c.toNat ≤ 90)
def mayB (c : UInt8) : Bool := greatB c || decide (97 ≤ c.toNat ∧ c.toNat ≤ 122) || decide (48 ≤ c.toNat ∧ c.toNat ≤ 57) || [46, 45, 43, 64, 95].contains c
def signB (c : UInt8) : Bool := decide (32 ≤ c.toNat ∧ c.toNat ≤ 126)
def isKey (s : List UInt8) : Bool := decide (1 ≤ s.length ∧ s.length ≤ 63) && greatB (s.getD 0 0) && s.all mayB
def isVal (s : List UInt8) : Bool := decide (s.length ≤ 255) && s.all signB
def wrongP (p : Pr) : Int := if isKey p.k = true then if isVal p.v = true then 0 else 3 else 5
theorem wrongP_ok {p : Pr} (h : wrongP p = 0) : isKey p.k = true ∧ isVal p.v = true := by
 unfold wrongP at h
 by_cases h1 : isKey p.k = true
 ·rw [if_pos h1] at h
  by_cases h2 : isVal p.v = true
  ·exact ⟨h1, h2⟩
  ·rw [if_neg h2] at h; exact absurd h (by decide)
 ·rw [if_neg h1] at h; exact absurd h (by decide)
def okPs (l : List Pr) : Prop := ∀ p ∈ l, wrongP p = 0
def prRightF : Nat → List Pr → Int × Int
 | _, [] => (0, -1)
 | i, p :: l => if wrongP p = 0 then prRightF (i + 1) l else (wrongP p, (i : Int))
theorem prRightF_cons (i : Nat) (p : Pr) (l : List Pr) : prRightF i (p :: l) = if wrongP p = 0 then prRightF (i + 1) l else (wrongP p, (i : Int)) := rfl
def prRight (l : List Pr) : Int × Int := if 60 < l.length then (4, -1) else prRightF 0 l
theorem prRightF_ok : ∀ (l : List Pr) (i : Nat), okPs l → prRightF i l = (0, -1)
 | [], _, _ => rfl
 | p :: l, i, h => by
  rw [prRightF_cons, if_pos (h p (List.mem_cons_self ..))]
  exact prRightF_ok l _ (fun q hq => h q (List.mem_cons_of_mem _ hq))
theorem prRightF_is : ∀ (l : List Pr) (i : Nat), (prRightF i l).1 = 0 → okPs l
 | [], _, _ => fun _ h => absurd h List.not_mem_nil
 | p :: l, i, h => by
  rw [prRightF_cons] at h
  by_cases h1 : wrongP p = 0
  ·rw [if_pos h1] at h
   exact fun q hq => by
    rcases List.mem_cons.1 hq with rfl | hq
    ·exact h1
    ·exact prRightF_is l _ h q hq
  ·rw [if_neg h1] at h; exact absurd h h1
theorem prRight_is {l : List Pr} (h : (prRight l).1 = 0) : okPs l ∧ l.length ≤ 60 ∧ prRight l = (0, -1) := by
 unfold prRight at h ⊢
 by_cases h1 : 60 < l.length
 ·rw [if_pos h1] at h; exact absurd h (by decide)
 ·rw [if_neg h1] at h ⊢
  have := prRightF_is l 0 h
  exact ⟨this, by omega, prRightF_ok l 0 this⟩
theorem prRight_ok {l : List Pr} (h : okPs l) (hl : l.length ≤ 60) : prRight l = (0, -1) := by
 unfold prRight
 rw [if_neg (by omega)]
 exact prRightF_ok l 0 h
def wrP (p : Pr) : List UInt8 := p.k ++ 61 :: (p.v ++ [0])
def prBytes (l : List Pr) : List UInt8 := l.flatMap wrP
theorem wrP_len (p : Pr) : (wrP p).length = p.k.length + p.v.length + 2 := by simp [wrP]; omega
theorem prBytes_nil : prBytes [] = [] := rfl
theorem prBytes_cons (p : Pr) (l : List Pr) : prBytes (p :: l) = wrP p ++ prBytes l := rfl
theorem prBytes_app (l m : List Pr) : prBytes (l ++ m) = prBytes l ++ prBytes m := by simp [prBytes]
theorem prBytes_one (p : Pr) : prBytes [p] = wrP p := by simp [prBytes]
def prPrint (l : List Pr) : List UInt8 × Int × Int := if (prRight l).1 = 0 then (prBytes l, 0, -1) else ([], prRight l)
def cut1 (c : UInt8) : List UInt8 → Option (List UInt8 × List UInt8)
 | [] => none
 | x :: l => if x = c then some ([], l) else match cut1 c l with
  | none => none
  | some (a, b) => some (x :: a, b)
theorem cut1_cons (c x : UInt8) (l : List UInt8) (h : x ≠ c) : cut1 c (x :: l) = match cut1 c l with
  | none => none
  | some (a, b) => some (x :: a, b) := by
 show (if x = c then _ else _) = _
 rw [if_neg h]
theorem cut1_none {c : UInt8} : ∀ {s : List UInt8}, cut1 c s = none → c ∉ s
 | [], _ => by simp
 | x :: l, h => by
  by_cases hx : x = c
  ·subst hx
   unfold cut1 at h
   rw [if_pos rfl] at h; cases h
  ·rw [cut1_cons c x l hx] at h
   cases e : cut1 c l with
   | none =>
    have := cut1_none e
    simp [this]
    exact fun h => hx h.symm
   | some q => rw [e] at h; cases h
theorem cut1_some {c : UInt8} : ∀ {s a b : List UInt8}, cut1 c s = some (a, b) → s = a ++ c :: b ∧ c ∉ a
 | [], _, _, h => by cases h
 | x :: l, a, b, h => by
  by_cases hx : x = c
  ·subst hx
   unfold cut1 at h
   rw [if_pos rfl] at h
   cases h
   exact ⟨rfl, by simp⟩
  ·rw [cut1_cons c x l hx] at h
   cases e : cut1 c l with
   | none => rw [e] at h; cases h
   | some q =>
    obtain ⟨a', b'⟩ := q
    rw [e] at h
    cases h
    obtain ⟨h1, h2⟩ := cut1_some e
    refine ⟨by rw [h1]; rfl, ?_⟩
    simp [h2]
    exact fun h => hx h.symm
theorem cut1_of {c : UInt8} : ∀ {a : List UInt8} (b : List UInt8), c ∉ a → cut1 c (a ++ c :: b) = some (a, b)
 | [], b, _ => by
  show (if c = c then _ else _) = _
  rw [if_pos rfl]
 | x :: a, b, h => by
  have hx : x ≠ c := fun e => h (by rw [e]; exact List.mem_cons_self ..)
  rw [List.cons_append, cut1_cons c x _ hx, cut1_of b (fun hc => h (List.mem_cons_of_mem _ hc))]
theorem cut1_not {c : UInt8} : ∀ {s : List UInt8}, c ∉ s → cut1 c s = none := by
 intro s h
 cases e : cut1 c s with
 | none => rfl
 | some q =>
  obtain ⟨a, b⟩ := q
  have := (cut1_some e).1
  rw [this] at h
  exact absurd (by simp) h
theorem index_one (c : UInt8) : ∀ (s : List UInt8), Lib.index s [c] = match cut1 c s with
  | none => -1
  | some (a, _) => (a.length : Int)
 | [] => rfl
 | x :: l => by
  have ih := index_one c l
  unfold Lib.index
  by_cases hx : x = c
  ·subst hx
   have : cut1 x (x :: l) = some ([], l) := by unfold cut1; rw [if_pos rfl]
   rw [this]
   simp
  ·rw [cut1_cons c x l hx]
   have hp : List.isPrefixOf [c] (x :: l) = false := by simp [List.isPrefixOf]; exact fun h => hx h.symm
   rw [hp, ih]
   cases e : cut1 c l with
   | none => simp
   | some q =>
    obtain ⟨a, b⟩ := q
    have h0 : ((a.length : Int) == -1) = false := by simp
    simp only [h0]
    simp
theorem cut_one (c : UInt8) (s : List UInt8) : Lib.cut s [c] = match cut1 c s with
  | none => (s, [], false)
  | some (a, b) => (a, b, true) := by
 unfold Lib.cut
 rw [index_one]
 cases e : cut1 c s with
 | none => simp
 | some q =>
  obtain ⟨a, b⟩ := q
  obtain ⟨h1, _⟩ := cut1_some e
  simp only
  rw [if_pos (by omega)]
  have : (a.length : Int).toNat = a.length := by omega
  rw [this, h1, List.take_left]
  have h2 : List.drop (a.length + [c].length) (a ++ c :: b) = b := by
   rw [List.drop_append]
   simp
  rw [h2]
def prFirst (s : List UInt8) : Int × Pr × List UInt8 := match cut1 0 s with
 | none => (7, ⟨[], []⟩, [])
 | some (t, r) => match cut1 61 t with
  | none => (3, ⟨[], []⟩, [])
  | some (k, v) => (0, ⟨k, v⟩, r)
theorem prFirst_end {s : List UInt8} (h : cut1 0 s = none) : prFirst s = (7, ⟨[], []⟩, []) := by unfold prFirst; rw [h]
theorem prFirst_form {s t r : List UInt8} (h : cut1 0 s = some (t, r)) (h2 : cut1 61 t = none) : prFirst s = (3, ⟨[], []⟩, []) := by unfold prFirst; rw [h]; simp only; rw [h2]
theorem prFirst_good {s t r k v : List UInt8} (h : cut1 0 s = some (t, r)) (h2 : cut1 61 t = some (k, v)) : prFirst s = (0, ⟨k, v⟩, r) := by unfold prFirst; rw [h]; simp only; rw [h2]
theorem prFirst_wr {s : List UInt8} (h : (prFirst s).1 = 0) : s = wrP (prFirst s).2.1 ++ (prFirst s).2.2 := by
 cases h1 : cut1 0 s with
 | none => rw [prFirst_end h1] at h; exact absurd h (by decide)
 | some q =>
  obtain ⟨t, r⟩ := q
  cases h2 : cut1 61 t with
  | none => rw [prFirst_form h1 h2] at h; exact absurd h (by decide)
  | some q =>
   obtain ⟨k, v⟩ := q
   rw [prFirst_good h1 h2]
   obtain ⟨e1, _⟩ := cut1_some h1
   obtain ⟨e2, _⟩ := cut1_some h2
   simp only [wrP]
   rw [e1, e2]
   simp
theorem mayB_not {c : UInt8} (h : mayB c = true) : c ≠ 0 ∧ c ≠ 61 := by
 refine ⟨fun e => ?_, fun e => ?_⟩ <;> (subst e; revert h; decide)
theorem signB_not {c : UInt8} (h : signB c = true) : c ≠ 0 := by
 intro e; subst e; revert h; decide
theorem isKey_not {s : List UInt8} (h : isKey s = true) : (0 : UInt8) ∉ s ∧ (61 : UInt8) ∉ s := by
 unfold isKey at h
 simp only [Bool.and_eq_true, List.all_eq_true] at h
 exact ⟨fun hc => (mayB_not (h.2 _ hc)).1 rfl, fun hc => (mayB_not (h.2 _ hc)).2 rfl⟩
theorem isVal_not {s : List UInt8} (h : isVal s = true) : (0 : UInt8) ∉ s := by
 unfold isVal at h
 simp only [Bool.and_eq_true, List.all_eq_true] at h
 exact fun hc => signB_not (h.2 _ hc) rfl
theorem prFirst_of (p : Pr) (t : List UInt8) (h : wrongP p = 0) : prFirst (wrP p ++ t) = (0, p, t) := by
 obtain ⟨k, v⟩ := p
 obtain ⟨h1, h2⟩ := wrongP_ok h
 simp only at h1 h2
 obtain ⟨k0, k1⟩ := isKey_not h1
 have v0 := isVal_not h2
 refine prFirst_good (t := k ++ 61 :: v) (r := t) ?_ (cut1_of v k1)
 have e : wrP ⟨k, v⟩ ++ t = (k ++ 61 :: v) ++ 0 :: t := by simp [wrP]
 rw [e]
 exact cut1_of t (by simp [k0, v0])
def prReadF : Nat → List UInt8 → List Pr → List Pr × Int × Int
 | 0, _, acc => (acc, 0, -1)
 | f + 1, s, acc => if s = [] then (acc, 0, -1) else
  if (prFirst s).1 ≠ 0 then ([], (prFirst s).1, (acc.length : Int)) else
  if acc.length = 60 then ([], 4, -1) else
  if wrongP (prFirst s).2.1 ≠ 0 then ([], wrongP (prFirst s).2.1, (acc.length : Int)) else
  prReadF f (prFirst s).2.2 (acc ++ [(prFirst s).2.1])
theorem prReadF_succ (f : Nat) (s : List UInt8) (acc : List Pr) : prReadF (f + 1) s acc = if s = [] then (acc, 0, -1) else
  if (prFirst s).1 ≠ 0 then ([], (prFirst s).1, (acc.length : Int)) else
  if acc.length = 60 then ([], 4, -1) else
  if wrongP (prFirst s).2.1 ≠ 0 then ([], wrongP (prFirst s).2.1, (acc.length : Int)) else
  prReadF f (prFirst s).2.2 (acc ++ [(prFirst s).2.1]) := rfl
theorem prReadF_nil (f : Nat) (acc : List Pr) : prReadF f [] acc = (acc, 0, -1) := by
 cases f with
 | zero => rfl
 | succ f => rw [prReadF_succ, if_pos rfl]
def prParse (s : List UInt8) : List Pr × Int × Int := prReadF s.length s []
theorem wrP_ne (p : Pr) (t : List UInt8) : wrP p ++ t ≠ [] := by simp [wrP]
theorem prReadF_app : ∀ (l : List Pr) (f : Nat) (t : List UInt8) (acc : List Pr), okPs l → acc.length + l.length ≤ 60 → (prBytes l).length + t.length ≤ f →
  ∃ f', t.length ≤ f' ∧ prReadF f (prBytes l ++ t) acc = prReadF f' t (acc ++ l)
 | [], f, t, acc, _, _, hf => ⟨f, by simpa [prBytes_nil] using hf, by simp [prBytes_nil]⟩
 | p :: l, f, t, acc, hk, hn, hf => by
  have hp := hk p (List.mem_cons_self ..)
  rw [prBytes_cons, List.length_append, wrP_len] at hf
  rw [List.length_cons] at hn
  obtain ⟨f1, rfl⟩ : ∃ f1, f = f1 + 1 := ⟨f - 1, by omega⟩
  obtain ⟨f', h1, h2⟩ := prReadF_app l f1 t (acc ++ [p]) (fun q hq => hk q (List.mem_cons_of_mem _ hq)) (by simp; omega) (by omega)
  refine ⟨f', h1, ?_⟩
  rw [prBytes_cons, List.append_assoc, prReadF_succ, if_neg (wrP_ne p _), prFirst_of p _ hp]
  simp only
  rw [if_neg (by simp), if_neg (by omega), if_neg (by simp [hp]), h2]
  simp
theorem parse_bytes {l : List Pr} (h : okPs l) (hl : l.length ≤ 60) : prParse (prBytes l) = (l, 0, -1) := by
 unfold prParse
 obtain ⟨f', _, e⟩ := prReadF_app l (prBytes l).length [] [] h (by simpa using hl) (by simp)
 rw [List.append_nil] at e
 rw [e, prReadF_nil]
 simp
theorem prReadF_is : ∀ (f : Nat) (s : List UInt8) (acc : List Pr), s.length ≤ f → acc.length ≤ 60 → (prReadF f s acc).2.1 = 0 →
  ∃ l, prReadF f s acc = (acc ++ l, 0, -1) ∧ s = prBytes l ∧ okPs l ∧ acc.length + l.length ≤ 60
 | 0, s, acc, hs, ha, _ => by
  obtain rfl : s = [] := List.eq_nil_of_length_eq_zero (by omega)
  exact ⟨[], by simp [prReadF], rfl, fun _ h => absurd h List.not_mem_nil, by simpa using ha⟩
 | f + 1, s, acc, hs, ha, h => by
  rw [prReadF_succ] at h ⊢
  by_cases h0 : s = []
  ·subst h0
   rw [if_pos rfl]
   exact ⟨[], by simp, rfl, fun _ h => absurd h List.not_mem_nil, by simpa using ha⟩
  ·rw [if_neg h0] at h ⊢
   by_cases h1 : (prFirst s).1 ≠ 0
   ·rw [if_pos h1] at h; exact absurd h h1
   ·rw [if_neg h1] at h ⊢
    have h1' : (prFirst s).1 = 0 := by simpa using h1
    by_cases h2 : acc.length = 60
    ·rw [if_pos h2] at h; exact absurd h (by decide)
    ·rw [if_neg h2] at h ⊢
     by_cases h3 : wrongP (prFirst s).2.1 ≠ 0
     ·rw [if_pos h3] at h; exact absurd h h3
     ·rw [if_neg h3] at h ⊢
      have h3' : wrongP (prFirst s).2.1 = 0 := by simpa using h3
      have hw := prFirst_wr h1'
      have hl := congrArg List.length hw
      rw [List.length_append, wrP_len] at hl
      obtain ⟨l, e1, e2, e3, e4⟩ := prReadF_is f (prFirst s).2.2 (acc ++ [(prFirst s).2.1]) (by omega) (by simp; omega) h
      refine ⟨(prFirst s).2.1 :: l, by rw [e1]; simp, ?_, ?_, by simp at e4 ⊢; omega⟩
      ·rw [prBytes_cons, ← e2]; exact hw
      ·intro q hq
       rcases List.mem_cons.1 hq with rfl | hq
       ·exact h3'
       ·exact e3 q hq
theorem parse_is {s : List UInt8} (h : (prParse s).2.1 = 0) : ∃ l, prParse s = (l, 0, -1) ∧ s = prBytes l ∧ okPs l ∧ l.length ≤ 60 := by
 obtain ⟨l, h1, h2, h3, h4⟩ := prReadF_is s.length s [] (Nat.le_refl _) (by simp) h
 exact ⟨l, by simpa [prParse] using h1, h2, h3, by simpa using h4⟩
def prFind (l : List Pr) (key : List UInt8) : Option (List UInt8) := match l with
 | [] => none
 | p :: l => if p.k = key then some p.v else prFind l key
theorem prFind_app (l : List Pr) (p : Pr) (key : List UInt8) : prFind (l ++ [p]) key = match prFind l key with
  | some v => some v
  | none => if p.k = key then some p.v else none := by
 induction l with
 | nil => rfl
 | cons q l ih =>
  rw [List.cons_append]
  unfold prFind
  by_cases h : q.k = key
  ·rw [if_pos h, if_pos h]
  ·rw [if_neg h, if_neg h]; exact ih
theorem prFind_some {key v : List UInt8} : ∀ {l : List Pr}, prFind l key = some v → ∃ j, ∃ h : j < l.length, l[j] = ⟨key, v⟩
 | [], h => by cases h
 | p :: l, h => by
  unfold prFind at h
  by_cases hk : p.k = key
  ·rw [if_pos hk] at h
   cases h
   exact ⟨0, by simp, by cases p; simp at hk; simp [hk]⟩
  ·rw [if_neg hk] at h
   obtain ⟨j, hj, e⟩ := prFind_some h
   exact ⟨j + 1, by simpa using hj, by simpa using e⟩
theorem prFind_none {key : List UInt8} : ∀ {l : List Pr}, prFind l key = none → ∀ p ∈ l, p.k ≠ key
 | [], _, p, hp => absurd hp List.not_mem_nil
 | q :: l, h, p, hp => by
  unfold prFind at h
  by_cases hk : q.k = key
  ·rw [if_pos hk] at h; cases h
  ·rw [if_neg hk] at h
   rcases List.mem_cons.1 hp with rfl | hp
   ·exact hk
   ·exact prFind_none h p hp
theorem isKey_head {s : List UInt8} (h : isKey s = true) : 0 < s.length ∧ s.length ≤ 63 ∧ greatB (s.getD 0 0) = true := by
 unfold isKey at h
 simp only [Bool.and_eq_true, decide_eq_true_eq] at h
 exact ⟨by omega, by omega, h.1.2⟩
theorem thick_okP {p : Pr} (h : wrongP p = 0) : p.k.length ≤ 63 ∧ p.v.length ≤ 255 := by
 obtain ⟨h1, h2⟩ := wrongP_ok h
 refine ⟨(isKey_head h1).2.1, ?_⟩
 unfold isVal at h2
 simp only [Bool.and_eq_true, decide_eq_true_eq] at h2
 exact h2.1
def split1 (c : UInt8) : List UInt8 → List (List UInt8)
 | [] => [[]]
 | x :: l => if x = c then [] :: split1 c l else match split1 c l with
  | [] => [[x]]
  | a :: r => (x :: a) :: r
theorem split1_none {c : UInt8} : ∀ {s : List UInt8}, cut1 c s = none → split1 c s = [s]
 | [], _ => rfl
 | x :: l, h => by
  by_cases hx : x = c
  ·subst hx
   unfold cut1 at h
   rw [if_pos rfl] at h; cases h
  ·rw [cut1_cons c x l hx] at h
   cases e : cut1 c l with
   | none =>
    unfold split1
    rw [if_neg hx, split1_none e]
   | some q => rw [e] at h; cases h
theorem split1_some {c : UInt8} : ∀ {s a b : List UInt8}, cut1 c s = some (a, b) → split1 c s = a :: split1 c b
 | [], _, _, h => by cases h
 | x :: l, a, b, h => by
  by_cases hx : x = c
  ·subst hx
   unfold cut1 at h
   rw [if_pos rfl] at h
   cases h
   show (if x = x then _ else _) = _
   rw [if_pos rfl]
  ·rw [cut1_cons c x l hx] at h
   cases e : cut1 c l with
   | none => rw [e] at h; cases h
   | some q =>
    obtain ⟨a', b'⟩ := q
    rw [e] at h
    cases h
    show (if x = c then _ else _) = _
    rw [if_neg hx, split1_some e]
theorem split1_sum (c : UInt8) : ∀ (n : Nat) (s : List UInt8), s.length ≤ n → (∀ x ∈ split1 c s, x.length ≤ s.length) ∧ (split1 c s).length ≤ s.length + 1
 | n, s, hn => by
  cases h : cut1 c s with
  | none =>
   rw [split1_none h]
   refine ⟨fun x hx => ?_, by simp⟩
   rw [List.mem_singleton.1 hx]
   exact Nat.le_refl _
  | some q =>
   obtain ⟨a, b⟩ := q
   obtain ⟨h1, _⟩ := cut1_some h
   have hl := congrArg List.length h1
   simp at hl
   obtain ⟨n1, rfl⟩ : ∃ n1, n = n1 + 1 := ⟨n - 1, by omega⟩
   obtain ⟨i1, i2⟩ := split1_sum c n1 b (by omega)
   rw [split1_some h]
   refine ⟨fun x hx => ?_, by simp; omega⟩
   rcases List.mem_cons.1 hx with rfl | hx
   ·omega
   ·have := i1 x hx; omega
structure Ga where
 most : Nat
 came : List UInt8
def addG (G : Ga) (s : List UInt8) (more : Bool) : (List Pr × Int × Int) × Ga :=
 if G.most < G.came.length + s.length then (([], 12, -1), ⟨G.most, []⟩) else
 if more = true then (([], 0, -1), ⟨G.most, G.came ++ s⟩) else (prParse (G.came ++ s), ⟨G.most, []⟩)
theorem addG_full {G : Ga} {s : List UInt8} (more : Bool) (h : G.most < G.came.length + s.length) : addG G s more = (([], 12, -1), ⟨G.most, []⟩) := by unfold addG; rw [if_pos h]
theorem addG_more {G : Ga} {s : List UInt8} (h : G.came.length + s.length ≤ G.most) : addG G s true = (([], 0, -1), ⟨G.most, G.came ++ s⟩) := by unfold addG; rw [if_neg (by omega), if_pos rfl]
theorem addG_end {G : Ga} {s : List UInt8} (h : G.came.length + s.length ≤ G.most) : addG G s false = (prParse (G.came ++ s), ⟨G.most, []⟩) := by unfold addG; rw [if_neg (by omega)]; rfl
theorem addG_fits (G : Ga) (s : List UInt8) (more : Bool) (_ : G.came.length ≤ G.most) : (addG G s more).2.came.length ≤ (addG G s more).2.most ∧ (addG G s more).2.most = G.most := by
 by_cases h1 : G.most < G.came.length + s.length
 ·rw [addG_full more h1]; simp
 ·cases more with
  | true => rw [addG_more (by omega)]; simp; omega
  | false => rw [addG_end (by omega)]; simp
end Go.Proofs.YtjbbbpgcegcbaaaGreatDoor
namespace Go.Proofs.YtjbbbpgcegcbaaaGreatDoor
def lowB (c : UInt8) : Nat := (c ||| 32).toNat
def digV (c : UInt8) : Nat := if 48 ≤ c.toNat ∧ c.toNat ≤ 57 then c.toNat - 48 else lowB c - 87
def isDig (b : Nat) (c : UInt8) : Bool := ((decide (48 ≤ c.toNat) && decide (c.toNat ≤ 57)) || (decide (97 ≤ lowB c) && decide (lowB c ≤ 122))) && decide (digV c < b)
theorem lowB_or (c : UInt8) : bits .or .u8 (c.toNat : Int) 32 = ((lowB c : Nat) : Int) := by
 have h : ∀ n : Fin 256, bits .or .u8 (((UInt8.ofNat n.1).toNat : Nat) : Int) 32 = ((lowB (UInt8.ofNat n.1) : Nat) : Int) := by decide +kernel
 have := h ⟨c.toNat, c.toNat_lt⟩
 rwa [show UInt8.ofNat c.toNat = c from by simp] at this
theorem lowB_lt (c : UInt8) : lowB c < 256 := (c ||| 32).toNat_lt
end Go.Proofs.YtjbbbpgcegcbaaaGreatDoor
namespace Go.Proofs.YtjbbbpgcegcbaaaGreatDoor
open Go.RowKit
def yesL : List UInt8 := [89, 101, 115]
def noL : List UInt8 := [78, 111]
def numF (b : Nat) : Nat → List UInt8 → Option Nat
 | n, [] => some n
 | n, c :: l => if isDig b c = true then (if n * b + digV c < 1099511627776 then numF b (n * b + digV c) l else none) else none
def numU (b : Nat) (l : List UInt8) : Option Nat := if l = [] then none else numF b 0 l
def numR (s : List UInt8) : Option Nat := if s.take 2 = [48, 120] then numU 16 (s.drop 2) else if 1 < s.length ∧ s.getD 0 0 = 48 then none else numU 10 s
theorem numF_nil (b n : Nat) : numF b n [] = some n := rfl
theorem numF_go {b n : Nat} {c : UInt8} {l : List UInt8} (h : isDig b c = true) (h2 : n * b + digV c < 1099511627776) : numF b n (c :: l) = numF b (n * b + digV c) l := by
 rw [numF]; rw [if_pos h, if_pos h2]
theorem numF_lt : ∀ (b : Nat) (l : List UInt8) (n m : Nat), n < 1099511627776 → numF b n l = some m → m < 1099511627776
 | b, [], n, m, hn, h => by rw [numF_nil] at h; cases h; exact hn
 | b, c :: l, n, m, hn, h => by
  unfold numF at h
  split at h
  ·split at h
   ·exact numF_lt b l _ m (by assumption) h
   ·cases h
  ·cases h
theorem numU_lt {b : Nat} {l : List UInt8} {m : Nat} (h : numU b l = some m) : m < 1099511627776 := by
 unfold numU at h
 split at h
 ·cases h
 ·exact numF_lt b l 0 m (by decide) h
theorem numR_lt {s : List UInt8} {m : Nat} (h : numR s = some m) : m < 1099511627776 := by
 unfold numR at h
 split at h
 ·exact numU_lt h
 ·split at h
  ·cases h
  ·exact numU_lt h
def OkL (l : List (List UInt8)) : Prop := (∀ x ∈ l, x ≠ []) ∧ l.Nodup
instance (l : List (List UInt8)) : Decidable (OkL l) := by unfold OkL; infer_instance
def listR (s : List UInt8) : Option (List (List UInt8)) := if OkL (split1 44 s) then some (split1 44 s) else none
theorem okL_snoc {l : List (List UInt8)} {x : List UInt8} (h : OkL l) : OkL (l ++ [x]) ↔ x ≠ [] ∧ x ∉ l := by
 unfold OkL at h ⊢
 rw [List.nodup_append]
 constructor
 ·rintro ⟨h1, _, _, h4⟩
  exact ⟨h1 x (by simp), fun hx => h4 x hx x (by simp) rfl⟩
 ·rintro ⟨h1, h2⟩
  refine ⟨fun y hy => ?_, h.2, by simp, fun y hy z hz => ?_⟩
  ·rcases List.mem_append.1 hy with hy | hy
   ·exact h.1 y hy
   ·rw [List.mem_singleton.1 hy]; exact h1
  ·rw [List.mem_singleton.1 hz]; intro e; subst e; exact h2 hy
theorem okL_prefix {l m : List (List UInt8)} (h : OkL l) (hp : m <+: l) : OkL m := by
 obtain ⟨r, rfl⟩ := hp
 exact ⟨fun x hx => h.1 x (List.mem_append_left _ hx), (List.nodup_append.1 h.2).1⟩
theorem okL_nil : OkL [] := ⟨(fun _ h => by cases h), List.nodup_nil⟩
def fitK (k : Ke) (v : List UInt8) : Nat :=
 if k.kd ≤ 2 then (if v = yesL ∨ v = noL then 0 else 3)
 else if k.kd = 5 then (match listR v with | some _ => 0 | none => 3)
 else if k.kd = 6 then (if v = [] then 3 else 0)
 else match numR v with | none => 3 | some n => if n < k.lo ∨ k.hi < n then 2 else 0
def keyFits (nm v : List UInt8) : Nat := match rowOf nm with | none => 5 | some k => fitK k v
def numD (s : List UInt8) : Nat := (numR s).getD 0
def yesNo (b : Bool) : List UInt8 := if b = true then yesL else noL
def firstR (a b : List UInt8) : Option (List UInt8) := (split1 44 a).find? (fun x => decide (x ∈ split1 44 b))
def resOk (k : Ke) (a b : List UInt8) : List UInt8 × Nat :=
 if k.kd = 1 then (yesNo (decide (a = yesL) && decide (b = yesL)), 0)
 else if k.kd = 2 then (yesNo (decide (a = yesL) || decide (b = yesL)), 0)
 else if k.kd = 3 then (Lib.decDigits (min (numD a) (numD b)), 0)
 else if k.kd = 4 then (Lib.decDigits (max (numD a) (numD b)), 0)
 else if k.kd = 5 then (match firstR a b with | some x => (x, 0) | none => ([], 8))
 else (a, 0)
def resK (k : Ke) (a b : List UInt8) : List UInt8 × Nat := if fitK k a ≠ 0 then ([], fitK k a) else if fitK k b ≠ 0 then ([], fitK k b) else resOk k a b
def keyRes (nm a b : List UInt8) : List UInt8 × Nat := match rowOf nm with | none => ([], 5) | some k => resK k a b
theorem fitK_num {k : Ke} {v : List UInt8} (hk : k.kd = 3 ∨ k.kd = 4 ∨ k.kd = 7) : fitK k v = match numR v with | none => 3 | some n => if n < k.lo ∨ k.hi < n then 2 else 0 := by
 unfold fitK
 rw [if_neg (by omega), if_neg (by omega), if_neg (by omega)]
theorem fitK_num0 {k : Ke} {v : List UInt8} (hk : k.kd = 3 ∨ k.kd = 4 ∨ k.kd = 7) (h : fitK k v = 0) : ∃ n, numR v = some n ∧ k.lo ≤ n ∧ n ≤ k.hi := by
 rw [fitK_num hk] at h
 cases hn : numR v with
 | none => rw [hn] at h; cases h
 | some n =>
  rw [hn] at h
  simp only at h
  split at h
  ·cases h
  ·exact ⟨n, rfl, by omega, by omega⟩
theorem fitK_list {k : Ke} {v : List UInt8} (hk : k.kd = 5) : fitK k v = match listR v with | some _ => 0 | none => 3 := by
 unfold fitK
 rw [if_neg (by omega), if_pos hk]
theorem fitK_list0 {k : Ke} {v : List UInt8} (hk : k.kd = 5) (h : fitK k v = 0) : OkL (split1 44 v) ∧ listR v = some (split1 44 v) := by
 rw [fitK_list hk] at h
 unfold listR at h ⊢
 split at h
 ·rename_i h1
  split at h1
  ·rename_i h2; exact ⟨h2, by rw [if_pos h2]⟩
  ·cases h1
 ·cases h
theorem fitK_yes {k : Ke} {v : List UInt8} (hk : k.kd = 1 ∨ k.kd = 2) : fitK k v = if v = yesL ∨ v = noL then 0 else 3 := by
 unfold fitK
 rw [if_pos (by omega)]
theorem fitK_yes0 {k : Ke} {v : List UInt8} (hk : k.kd = 1 ∨ k.kd = 2) (h : fitK k v = 0) : v = yesL ∨ v = noL := by
 rw [fitK_yes hk] at h
 split at h
 ·assumption
 ·cases h
theorem fitK_told {k : Ke} {v : List UInt8} (hk : k.kd = 6) : fitK k v = if v = [] then 3 else 0 := by
 unfold fitK
 rw [if_neg (by omega), if_neg (by omega), if_pos hk]
theorem dig_dec : ∀ i : Fin 10, isDig 10 (UInt8.ofNat (48 + i.1)) = true ∧ digV (UInt8.ofNat (48 + i.1)) = i.1 := by decide +kernel
theorem numF_app (b : Nat) : ∀ (l m : List UInt8) (n : Nat), numF b n (l ++ m) = (numF b n l).bind (fun k => numF b k m)
 | [], m, n => rfl
 | c :: l, m, n => by
  rw [List.cons_append, numF, numF]
  split
  ·split
   ·exact numF_app b l m _
   ·rfl
  ·rfl
theorem dec_step {n : Nat} (h : ¬ n < 10) : Lib.decDigits n = Lib.decDigits (n / 10) ++ [UInt8.ofNat (48 + n % 10)] := by rw [Lib.decDigits, dif_neg h]
theorem numF_dec : ∀ (f n : Nat), n ≤ f → n < 1099511627776 → numF 10 0 (Lib.decDigits n) = some n := by
 intro f
 induction f with
 | zero =>
  intro n hf hn
  obtain rfl : n = 0 := by omega
  rw [Lib.decDigits_one (by decide)]
  decide
 | succ f ih =>
  intro n hf hn
  by_cases h : n < 10
  ·rw [Lib.decDigits_one h]
   obtain ⟨h1, h2⟩ := dig_dec ⟨n, h⟩
   simp only at h1 h2
   rw [numF_go h1 (by rw [h2]; omega), h2, numF_nil]
   simp
  ·rw [dec_step h, numF_app, ih (n / 10) (by omega) (by omega)]
   obtain ⟨h1, h2⟩ := dig_dec ⟨n % 10, by omega⟩
   simp only at h1 h2
   show numF 10 (n / 10) [UInt8.ofNat (48 + n % 10)] = some n
   rw [numF_go h1 (by rw [h2]; omega), h2, numF_nil]
   congr 1
   omega
theorem dec_ne (n : Nat) : Lib.decDigits n ≠ [] := by
 rw [Lib.decDigits]
 split <;> simp
theorem dec_head : ∀ (f n : Nat), n ≤ f → 1 ≤ n → (Lib.decDigits n).getD 0 0 ≠ 48 := by
 intro f
 induction f with
 | zero => intro n h1 h2; omega
 | succ f ih =>
  intro n hf hn
  by_cases h : n < 10
  ·rw [Lib.decDigits_one h]
   have : ∀ i : Fin 10, 1 ≤ i.1 → ([UInt8.ofNat (48 + i.1)] : List UInt8).getD 0 0 ≠ 48 := by decide +kernel
   exact this ⟨n, h⟩ hn
  ·rw [dec_step h]
   have h1 := ih (n / 10) (by omega) (by omega)
   cases hd : Lib.decDigits (n / 10) with
   | nil => exact absurd hd (dec_ne _)
   | cons c l => rw [hd] at h1; exact h1
theorem dec_dig : ∀ (f n : Nat), n ≤ f → ∀ c ∈ Lib.decDigits n, 48 ≤ c.toNat ∧ c.toNat ≤ 57 := by
 intro f
 induction f with
 | zero =>
  intro n h1 c hc
  obtain rfl : n = 0 := by omega
  rw [Lib.decDigits_one (by decide)] at hc
  rw [List.mem_singleton.1 hc]; decide
 | succ f ih =>
  intro n hf c hc
  have hd : ∀ i : Fin 10, 48 ≤ (UInt8.ofNat (48 + i.1)).toNat ∧ (UInt8.ofNat (48 + i.1)).toNat ≤ 57 := by decide +kernel
  by_cases h : n < 10
  ·rw [Lib.decDigits_one h] at hc
   rw [List.mem_singleton.1 hc]; exact hd ⟨n, h⟩
  ·rw [dec_step h] at hc
   rcases List.mem_append.1 hc with hc | hc
   ·exact ih (n / 10) (by omega) c hc
   ·rw [List.mem_singleton.1 hc]; exact hd ⟨n % 10, by omega⟩
theorem take2_of {s : List UInt8} {c d : UInt8} (h : s.take 2 = [c, d]) : ∃ r, s = c :: d :: r := by
 match s, h with
 | a :: b :: r, h => exact ⟨r, by simp at h; rw [h.1, h.2]⟩
 | [a], h => simp at h
 | [], h => simp at h
theorem numR_dec {n : Nat} (hn : n < 1099511627776) : numR (Lib.decDigits n) = some n := by
 unfold numR
 have h1 : ¬ (Lib.decDigits n).take 2 = [48, 120] := fun e => by
  obtain ⟨r, hr⟩ := take2_of e
  have := dec_dig n n (Nat.le_refl _) 120 (by rw [hr]; simp)
  revert this; decide
 have h2 : ¬ (1 < (Lib.decDigits n).length ∧ (Lib.decDigits n).getD 0 0 = 48) := fun ⟨e1, e2⟩ => by
  rcases Nat.eq_zero_or_pos n with h0 | h0
  ·subst h0
   rw [Lib.decDigits_one (by decide)] at e1
   revert e1; decide
  ·exact dec_head n n (Nat.le_refl _) h0 e2
 rw [if_neg h1, if_neg h2]
 unfold numU
 rw [if_neg (dec_ne n)]
 exact numF_dec n n (Nat.le_refl _) hn
theorem numD_dec {n : Nat} (hn : n < 1099511627776) : numD (Lib.decDigits n) = n := by unfold numD; rw [numR_dec hn]; rfl
theorem mem_split (c : UInt8) : ∀ (n : Nat) (s x : List UInt8), s.length ≤ n → x ∈ split1 c s → c ∉ x := by
 intro n
 induction n with
 | zero =>
  intro s x hn hx
  obtain rfl : s = [] := List.eq_nil_of_length_eq_zero (by omega)
  simp [split1] at hx
  rw [hx]; simp
 | succ n ih =>
  intro s x hn hx
  cases h : cut1 c s with
  | none =>
   rw [split1_none h] at hx
   rw [List.mem_singleton.1 hx]
   exact cut1_none h
  | some q =>
   obtain ⟨a, b⟩ := q
   rw [split1_some h] at hx
   obtain ⟨hs, ha⟩ := cut1_some h
   rcases List.mem_cons.1 hx with rfl | hx
   ·exact ha
   ·exact ih b x (by have := congrArg List.length hs; simp at this; omega) hx
theorem split_alone {c : UInt8} {s : List UInt8} (h : c ∉ s) : split1 c s = [s] := split1_none (cut1_not h)
end Go.Proofs.YtjbbbpgcegcbaaaGreatDoor
