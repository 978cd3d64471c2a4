/- LB05: several texts in one. -/
import Derived.Lib.ItoaLen
import Derived.Test.YtmkebjdmkkjloaaGreatDoorLB01
import Derived.Test.YtmkebjdmkkjloaaGreatDoorLB04
namespace Go.Proofs.YtmkebjdmkkjloaaGreatDoor
open Go.RowKit
set_option linter.unusedVariables false
def notL : List UInt8 := [78, 111, 116, 85, 110, 100, 101, 114, 115, 116, 111, 111, 100]
def rejL : List UInt8 := [82, 101, 106, 101, 99, 116]
def irrL : List UInt8 := [73, 114, 114, 101, 108, 101, 118, 97, 110, 116]
def ownV (mine : List Pr) (k : Ke) : List UInt8 := (prFind mine k.nm).getD k.df
def oneK (mine : List Pr) (k : Ke) (v : List UInt8) (lg dc : Bool) : Option (List UInt8) × Option (List UInt8) :=
 if k.lg = true ∧ lg = false then (some rejL, none)
 else if k.no = true ∧ dc = true then (some irrL, none)
 else if fitK k v ≠ 0 then (some rejL, none)
 else if k.kd = 6 ∨ k.kd = 7 then (none, some v)
 else if (resK k v (ownV mine k)).2 ≠ 0 then (some rejL, none)
 else (some (resK k v (ownV mine k)).1, some (resK k v (ownV mine k)).1)
def oneN (mine : List Pr) (lg dc : Bool) (p : Pr) : Option (List UInt8) × Option (List UInt8) := match rowOf p.k with
 | none => (some notL, none)
 | some k => oneK mine k p.v lg dc
def asP (k : List UInt8) : Option (List UInt8) → List Pr
 | none => []
 | some v => [⟨k, v⟩]
def recN (rec : List Pr) (k : List UInt8) : Option (List UInt8) → List Pr
 | none => rec
 | some v => rec.filter (fun q => decide (q.k ≠ k)) ++ [⟨k, v⟩]
def goN (f : Pr → Option (List UInt8) × Option (List UInt8)) : List Pr → List Pr → List Pr × List Pr
 | [], rec => ([], rec)
 | p :: l, rec => (asP p.k (f p).1 ++ (goN f l (recN rec p.k (f p).2)).1, (goN f l (recN rec p.k (f p).2)).2)
def twiceF : Nat → List (List UInt8) → List Pr → Option Nat
 | _, _, [] => none
 | i, seen, p :: l => if p.k ∈ seen then some i else twiceF (i + 1) (p.k :: seen) l
def keysP (l : List Pr) : List (List UInt8) := l.map (·.k)
def ansN (mine rec l : List Pr) (lg dc : Bool) : (List Pr × Int × Int) × List Pr :=
 if (prRight l).1 ≠ 0 then (([], prRight l), rec)
 else match twiceF 0 (if lg = true then keysP rec else []) l with
  | some i => (([], 9, (i : Int)), rec)
  | none => (((goN (oneN mine lg dc) l rec).1, 0, -1), (goN (oneN mine lg dc) l rec).2)
def newF : Nat → List (List UInt8) → List Pr → Int × Int
 | _, _, [] => (0, -1)
 | i, seen, p :: l => if p.k ∈ seen then (9, (i : Int)) else if keyFits p.k p.v ≠ 0 then ((keyFits p.k p.v : Int), (i : Int)) else newF (i + 1) (p.k :: seen) l
def newN (l : List Pr) : Int × Int := if (prRight l).1 ≠ 0 then prRight l else newF 0 [] l
def valN (l : List Pr) (key : List UInt8) : List UInt8 × Int := match rowOf key with
 | none => ([], 5)
 | some k => ((prFind l key).getD k.df, 0)
theorem newF_cons (i : Nat) (seen : List (List UInt8)) (p : Pr) (l : List Pr) : newF i seen (p :: l) = if p.k ∈ seen then (9, (i : Int)) else if keyFits p.k p.v ≠ 0 then ((keyFits p.k p.v : Int), (i : Int)) else newF (i + 1) (p.k :: seen) l := rfl
theorem newF_is : ∀ (l : List Pr) (i : Nat) (seen : List (List UInt8)), (newF i seen l).1 = 0 → (keysP l).Nodup ∧ (∀ p ∈ l, p.k ∉ seen ∧ keyFits p.k p.v = 0) ∧ newF i seen l = (0, -1)
 | [], _, _, _ => ⟨List.nodup_nil, (fun _ h => absurd h List.not_mem_nil), rfl⟩
 | p :: l, i, seen, h => by
  rw [newF_cons] at h ⊢
  by_cases h1 : p.k ∈ seen
  ·rw [if_pos h1] at h; exact absurd h (show ¬ (9 : Int) = 0 by decide)
  ·rw [if_neg h1] at h ⊢
   by_cases h2 : keyFits p.k p.v ≠ 0
   ·rw [if_pos h2] at h
    simp only at h
    exact absurd h (by omega)
   ·rw [if_neg h2] at h ⊢
    obtain ⟨i1, i2, i3⟩ := newF_is l (i + 1) (p.k :: seen) h
    refine ⟨?_, ?_, i3⟩
    ·unfold keysP at i1 ⊢
     rw [List.map_cons, List.nodup_cons]
     refine ⟨fun hm => ?_, i1⟩
     obtain ⟨q, hq, e⟩ := List.mem_map.1 hm
     exact (i2 q hq).1 (by rw [← e]; exact List.mem_cons_self ..)
    ·intro q hq
     rcases List.mem_cons.1 hq with rfl | hq
     ·exact ⟨h1, by simpa using h2⟩
     ·exact ⟨fun hm => (i2 q hq).1 (List.mem_cons_of_mem _ hm), (i2 q hq).2⟩
structure MineOk (l : List Pr) : Prop where
 ok : okPs l
 few : l.length ≤ 60
 one : (keysP l).Nodup
 fit : ∀ p ∈ l, keyFits p.k p.v = 0
theorem newN_is {l : List Pr} (h : (newN l).1 = 0) : MineOk l ∧ newN l = (0, -1) := by
 unfold newN at h ⊢
 by_cases h1 : (prRight l).1 ≠ 0
 ·rw [if_pos h1] at h; exact absurd h h1
 ·rw [if_neg h1] at h ⊢
  obtain ⟨a, b, _⟩ := prRight_is (by simpa using h1)
  obtain ⟨i1, i2, i3⟩ := newF_is l 0 [] h
  exact ⟨⟨a, b, i1, fun p hp => (i2 p hp).2⟩, i3⟩
theorem twiceF_cons (i : Nat) (seen : List (List UInt8)) (p : Pr) (l : List Pr) : twiceF i seen (p :: l) = if p.k ∈ seen then some i else twiceF (i + 1) (p.k :: seen) l := rfl
theorem twiceF_none : ∀ (l : List Pr) (i : Nat) (seen : List (List UInt8)), twiceF i seen l = none ↔ (keysP l).Nodup ∧ ∀ p ∈ l, p.k ∉ seen
 | [], i, seen => ⟨fun _ => ⟨List.nodup_nil, fun _ h => absurd h List.not_mem_nil⟩, fun _ => rfl⟩
 | p :: l, i, seen => by
  rw [twiceF_cons]
  by_cases h1 : p.k ∈ seen
  ·rw [if_pos h1]
   exact ⟨fun h => (by cases h), fun h => absurd h1 (h.2 p (List.mem_cons_self ..))⟩
  ·rw [if_neg h1, twiceF_none l (i + 1) (p.k :: seen)]
   unfold keysP
   rw [List.map_cons, List.nodup_cons]
   constructor
   ·rintro ⟨a, b⟩
    refine ⟨⟨fun hm => ?_, a⟩, fun q hq => ?_⟩
    ·obtain ⟨q, hq, e⟩ := List.mem_map.1 hm
     exact b q hq (by rw [← e]; exact List.mem_cons_self ..)
    ·rcases List.mem_cons.1 hq with rfl | hq
     ·exact h1
     ·exact fun hm => b q hq (List.mem_cons_of_mem _ hm)
   ·rintro ⟨⟨a, b⟩, c⟩
    refine ⟨b, fun q hq hm => ?_⟩
    rcases List.mem_cons.1 hm with e | hm
    ·exact a (by rw [← e]; exact List.mem_map.2 ⟨q, hq, rfl⟩)
    ·exact c q (List.mem_cons_of_mem _ hq) hm
theorem twiceF_seen : ∀ (l : List Pr) (i : Nat) (s t : List (List UInt8)), (∀ x, x ∈ s ↔ x ∈ t) → twiceF i s l = twiceF i t l
 | [], _, _, _, _ => rfl
 | p :: l, i, s, t, h => by
  rw [twiceF_cons, twiceF_cons, twiceF_seen l (i + 1) (p.k :: s) (p.k :: t) (fun x => by simp [h x])]
  by_cases hp : p.k ∈ s
  ·rw [if_pos hp, if_pos ((h _).1 hp)]
  ·rw [if_neg hp, if_neg (fun hh => hp ((h _).2 hh))]
theorem newF_seen : ∀ (l : List Pr) (i : Nat) (s t : List (List UInt8)), (∀ x, x ∈ s ↔ x ∈ t) → newF i s l = newF i t l
 | [], _, _, _, _ => rfl
 | p :: l, i, s, t, h => by
  rw [newF_cons, newF_cons, newF_seen l (i + 1) (p.k :: s) (p.k :: t) (fun x => by simp [h x])]
  by_cases hp : p.k ∈ s
  ·rw [if_pos hp, if_pos ((h _).1 hp)]
  ·rw [if_neg hp, if_neg (fun hh => hp ((h _).2 hh))]
theorem keys_take {l : List Pr} {j : Nat} (hj : j < l.length) : keysP (l.take (j + 1)) = keysP (l.take j) ++ [l[j].k] := by
 unfold keysP
 rw [← List.take_append_getElem hj, List.map_append]
 rfl
theorem newF_step {l : List Pr} {j : Nat} (hj : j < l.length) : newF j (keysP (l.take j)) (l.drop j) = if l[j].k ∈ keysP (l.take j) then (9, (j : Int)) else if keyFits l[j].k l[j].v ≠ 0 then ((keyFits l[j].k l[j].v : Int), (j : Int)) else newF (j + 1) (keysP (l.take (j + 1))) (l.drop (j + 1)) := by
 rw [List.drop_eq_getElem_cons hj, newF_cons, newF_seen _ _ (l[j].k :: keysP (l.take j)) (keysP (l.take (j + 1))) (fun x => by rw [keys_take hj]; simp [or_comm])]
theorem twiceF_step {l : List Pr} {s : List (List UInt8)} {j : Nat} (hj : j < l.length) : twiceF j (s ++ keysP (l.take j)) (l.drop j) = if l[j].k ∈ s ++ keysP (l.take j) then some j else twiceF (j + 1) (s ++ keysP (l.take (j + 1))) (l.drop (j + 1)) := by
 rw [List.drop_eq_getElem_cons hj, twiceF_cons, twiceF_seen _ _ (l[j].k :: (s ++ keysP (l.take j))) (s ++ keysP (l.take (j + 1))) (fun x => by rw [keys_take hj]; simp only [List.mem_cons, List.mem_append, List.mem_nil_iff, or_false]; constructor <;> (rintro (h | h | h) <;> simp [h]))]
theorem nodup_rec {rec : List Pr} (k : List UInt8) (v : Option (List UInt8)) (h : (keysP rec).Nodup) : (keysP (recN rec k v)).Nodup := by
 cases v with
 | none => exact h
 | some y =>
  unfold recN keysP
  rw [List.map_append, List.nodup_append]
  refine ⟨?_, by simp, ?_⟩
  ·exact List.Nodup.sublist (List.Sublist.map _ (List.filter_sublist)) h
  ·intro a ha b hb
   obtain ⟨q, hq, e⟩ := List.mem_map.1 ha
   have := (List.mem_filter.1 hq).2
   simp only [List.map_cons, List.map_nil, List.mem_singleton] at hb
   subst hb e
   simpa using this
theorem goN_cons (f : Pr → Option (List UInt8) × Option (List UInt8)) (p : Pr) (l rec : List Pr) : goN f (p :: l) rec = (asP p.k (f p).1 ++ (goN f l (recN rec p.k (f p).2)).1, (goN f l (recN rec p.k (f p).2)).2) := rfl
theorem goN_nodup (f : Pr → Option (List UInt8) × Option (List UInt8)) : ∀ (l rec : List Pr), (keysP rec).Nodup → (keysP (goN f l rec).2).Nodup
 | [], rec, h => h
 | p :: l, rec, h => goN_nodup f l _ (nodup_rec _ _ h)
theorem goN_from (f : Pr → Option (List UInt8) × Option (List UInt8)) (J : Pr → Prop) : ∀ (l rec : List Pr), (∀ q ∈ rec, J q) → (∀ p ∈ l, ∀ v, (f p).2 = some v → J ⟨p.k, v⟩) → ∀ q ∈ (goN f l rec).2, J q
 | [], rec, h, _ => h
 | p :: l, rec, h, hf => by
  refine goN_from f J l _ (fun q hq => ?_) (fun q hq => hf q (List.mem_cons_of_mem _ hq))
  cases hv : (f p).2 with
  | none => rw [hv] at hq; exact h q hq
  | some v =>
   rw [hv] at hq
   unfold recN at hq
   rcases List.mem_append.1 hq with hq | hq
   ·exact h q (List.mem_filter.1 hq).1
   ·rw [List.mem_singleton.1 hq]; exact hf p (List.mem_cons_self ..) v hv
structure Po where
 ad : List UInt8
 gr : Int
structure Cf where
 ts : List (List UInt8)
 ps : List Po
 us : List Us
 sn : List UInt8
 ss : List UInt8
 lim : Int
 own : List Pr
def nameOk (s : List UInt8) : Bool := decide (1 ≤ s.length ∧ s.length ≤ 100) && isVal s
theorem nameOk_is {s : List UInt8} (h : nameOk s = true) : 1 ≤ s.length ∧ s.length ≤ 100 ∧ isVal s = true := by
 unfold nameOk at h
 simp only [Bool.and_eq_true, decide_eq_true_eq] at h
 exact ⟨h.1.1, h.1.2, h.2⟩
def tsBad : Nat → List (List UInt8) → List (List UInt8) → Int × Int
 | _, _, [] => (0, -1)
 | i, seen, t :: l => if nameOk t = false ∨ t ∈ seen then (5, (i : Int)) else tsBad (i + 1) (seen ++ [t]) l
def poBad : Nat → List Po → Int × Int
 | _, [] => (0, -1)
 | i, p :: l => if nameOk p.ad = false then (5, (i : Int)) else if p.gr < 0 ∨ 65535 < p.gr then (2, (i : Int)) else poBad (i + 1) l
def usBad : Nat → List (List UInt8) → List Us → Int × Int
 | _, _, [] => (0, -1)
 | i, seen, u :: l => if u.nm ∈ seen ∨ nameOk u.nm = false ∨ nameOk u.sc = false then (5, (i : Int)) else usBad (i + 1) (seen ++ [u.nm]) l
def selfBad (a b : List UInt8) : Prop := ¬ (a = [] ∧ b = []) ∧ ¬ (nameOk a = true ∧ nameOk b = true)
instance (a b : List UInt8) : Decidable (selfBad a b) := by unfold selfBad; exact inferInstance
def restR (c : Cf) : Int × Int := if selfBad c.sn c.ss then (3, -1) else if c.lim < 512 ∨ 100000 < c.lim then (2, -1) else newN c.own
def tgtR (c : Cf) : Int × Int :=
 if 8 < c.ts.length ∨ 4 < c.ps.length ∨ 8 < c.us.length then (4, -1)
 else if (tsBad 0 [] c.ts).1 ≠ 0 then tsBad 0 [] c.ts
 else if (poBad 0 c.ps).1 ≠ 0 then poBad 0 c.ps
 else if (usBad 0 [] c.us).1 ≠ 0 then usBad 0 [] c.us
 else restR c
theorem tsBad_cons (i : Nat) (seen : List (List UInt8)) (t : List UInt8) (l : List (List UInt8)) : tsBad i seen (t :: l) = if nameOk t = false ∨ t ∈ seen then (5, (i : Int)) else tsBad (i + 1) (seen ++ [t]) l := rfl
theorem poBad_cons (i : Nat) (p : Po) (l : List Po) : poBad i (p :: l) = if nameOk p.ad = false then (5, (i : Int)) else if p.gr < 0 ∨ 65535 < p.gr then (2, (i : Int)) else poBad (i + 1) l := rfl
theorem usBad_cons (i : Nat) (seen : List (List UInt8)) (u : Us) (l : List Us) : usBad i seen (u :: l) = if u.nm ∈ seen ∨ nameOk u.nm = false ∨ nameOk u.sc = false then (5, (i : Int)) else usBad (i + 1) (seen ++ [u.nm]) l := rfl
def tgtR3 (c : Cf) : Int × Int := if (usBad 0 [] c.us).1 ≠ 0 then usBad 0 [] c.us else restR c
def tgtR2 (c : Cf) : Int × Int := if (poBad 0 c.ps).1 ≠ 0 then poBad 0 c.ps else tgtR3 c
theorem tgtR_much {c : Cf} (h : 8 < c.ts.length ∨ 4 < c.ps.length ∨ 8 < c.us.length) : tgtR c = (4, -1) := by unfold tgtR; rw [if_pos h]
theorem tgtR_few {c : Cf} (h : ¬ (8 < c.ts.length ∨ 4 < c.ps.length ∨ 8 < c.us.length)) : tgtR c = if (tsBad 0 [] c.ts).1 ≠ 0 then tsBad 0 [] c.ts else tgtR2 c := by unfold tgtR; rw [if_neg h]; rfl
theorem tsBad_ways : ∀ (l : List (List UInt8)) (i : Nat) (seen : List (List UInt8)), ((tsBad i seen l).1 = 0 ∧ tsBad i seen l = (0, -1) ∧ (∀ t ∈ l, nameOk t = true ∧ t ∉ seen) ∧ l.Nodup) ∨ ((tsBad i seen l).1 = 5 ∧ ¬ ((∀ t ∈ l, nameOk t = true ∧ t ∉ seen) ∧ l.Nodup))
 | [], i, seen => .inl ⟨rfl, rfl, fun t h => absurd h List.not_mem_nil, List.nodup_nil⟩
 | t :: l, i, seen => by
  unfold tsBad
  by_cases h : nameOk t = false ∨ t ∈ seen
  ·rw [if_pos h]
   refine .inr ⟨rfl, fun h2 => ?_⟩
   obtain ⟨h3, h4⟩ := h2.1 t List.mem_cons_self
   rcases h with h | h
   ·rw [h3] at h; cases h
   ·exact h4 h
  ·rw [if_neg h]
   have hn : nameOk t = true := by cases hh : nameOk t with
    | true => rfl
    | false => exact absurd (.inl hh) h
   have hs : t ∉ seen := fun hh => h (.inr hh)
   rcases tsBad_ways l (i + 1) (seen ++ [t]) with ⟨h1, h2, h3, h4⟩ | ⟨h1, h2⟩
   ·refine .inl ⟨h1, h2, fun x hx => ?_, ?_⟩
    ·rcases List.mem_cons.1 hx with rfl | hx
     ·exact ⟨hn, hs⟩
     ·exact ⟨(h3 x hx).1, fun hh => (h3 x hx).2 (List.mem_append_left _ hh)⟩
    ·exact List.nodup_cons.2 ⟨fun hh => (h3 t hh).2 (List.mem_append_right _ List.mem_cons_self), h4⟩
   ·refine .inr ⟨h1, fun hh => h2 ⟨fun x hx => ⟨(hh.1 x (List.mem_cons_of_mem _ hx)).1, fun hm => ?_⟩, (List.nodup_cons.1 hh.2).2⟩⟩
    rcases List.mem_append.1 hm with hm | hm
    ·exact (hh.1 x (List.mem_cons_of_mem _ hx)).2 hm
    ·rw [List.mem_singleton.1 hm] at hx
     exact (List.nodup_cons.1 hh.2).1 hx
theorem tsBad_ok {l : List (List UInt8)} : (tsBad 0 [] l).1 = 0 ↔ (∀ t ∈ l, nameOk t = true) ∧ l.Nodup := by
 rcases tsBad_ways l 0 [] with ⟨h1, _, h3, h4⟩ | ⟨h1, h2⟩
 ·exact ⟨fun _ => ⟨fun t h => (h3 t h).1, h4⟩, fun _ => h1⟩
 ·exact ⟨fun h => (by rw [h1] at h; cases h), fun h => absurd ⟨fun t ht => ⟨h.1 t ht, List.not_mem_nil⟩, h.2⟩ h2⟩
theorem poBad_ways : ∀ (l : List Po) (i : Nat), ((poBad i l).1 = 0 ∧ poBad i l = (0, -1) ∧ (∀ p ∈ l, nameOk p.ad = true ∧ 0 ≤ p.gr ∧ p.gr ≤ 65535)) ∨ ((poBad i l).1 ≠ 0 ∧ ¬ (∀ p ∈ l, nameOk p.ad = true ∧ 0 ≤ p.gr ∧ p.gr ≤ 65535))
 | [], i => .inl ⟨rfl, rfl, fun t h => absurd h List.not_mem_nil⟩
 | p :: l, i => by
  unfold poBad
  by_cases h : nameOk p.ad = false
  ·rw [if_pos h]
   exact .inr ⟨by simp, fun h2 => by rw [(h2 p List.mem_cons_self).1] at h; cases h⟩
  ·rw [if_neg h]
   have hn : nameOk p.ad = true := by cases hh : nameOk p.ad with
    | true => rfl
    | false => exact absurd hh h
   by_cases hg : p.gr < 0 ∨ 65535 < p.gr
   ·rw [if_pos hg]
    exact .inr ⟨by simp, fun h2 => by have := (h2 p List.mem_cons_self).2; omega⟩
   ·rw [if_neg hg]
    rcases poBad_ways l (i + 1) with ⟨h1, h2, h3⟩ | ⟨h1, h2⟩
    ·refine .inl ⟨h1, h2, fun x hx => ?_⟩
     rcases List.mem_cons.1 hx with rfl | hx
     ·exact ⟨hn, by omega, by omega⟩
     ·exact h3 x hx
    ·exact .inr ⟨h1, fun hh => h2 fun x hx => hh x (List.mem_cons_of_mem _ hx)⟩
theorem poBad_ok {l : List Po} : (poBad 0 l).1 = 0 ↔ ∀ p ∈ l, nameOk p.ad = true ∧ 0 ≤ p.gr ∧ p.gr ≤ 65535 := by
 rcases poBad_ways l 0 with ⟨h1, _, h3⟩ | ⟨h1, h2⟩
 ·exact ⟨fun _ => h3, fun _ => h1⟩
 ·exact ⟨fun h => absurd h h1, fun h => absurd h h2⟩
theorem usBad_ways : ∀ (l : List Us) (i : Nat) (seen : List (List UInt8)), ((usBad i seen l).1 = 0 ∧ usBad i seen l = (0, -1) ∧ (∀ u ∈ l, nameOk u.nm = true ∧ nameOk u.sc = true ∧ u.nm ∉ seen) ∧ (l.map (·.nm)).Nodup) ∨ ((usBad i seen l).1 = 5 ∧ ¬ ((∀ u ∈ l, nameOk u.nm = true ∧ nameOk u.sc = true ∧ u.nm ∉ seen) ∧ (l.map (·.nm)).Nodup))
 | [], i, seen => .inl ⟨rfl, rfl, fun t h => absurd h List.not_mem_nil, List.nodup_nil⟩
 | u :: l, i, seen => by
  unfold usBad
  by_cases h : u.nm ∈ seen ∨ nameOk u.nm = false ∨ nameOk u.sc = false
  ·rw [if_pos h]
   refine .inr ⟨rfl, fun h2 => ?_⟩
   obtain ⟨h3, h4, h5⟩ := h2.1 u List.mem_cons_self
   rcases h with h | h | h
   ·exact h5 h
   ·rw [h3] at h; cases h
   ·rw [h4] at h; cases h
  ·rw [if_neg h]
   have hs : u.nm ∉ seen := fun hh => h (.inl hh)
   have hn : nameOk u.nm = true := by cases hh : nameOk u.nm with
    | true => rfl
    | false => exact absurd (.inr (.inl hh)) h
   have hn2 : nameOk u.sc = true := by cases hh : nameOk u.sc with
    | true => rfl
    | false => exact absurd (.inr (.inr hh)) h
   rcases usBad_ways l (i + 1) (seen ++ [u.nm]) with ⟨h1, h2, h3, h4⟩ | ⟨h1, h2⟩
   ·refine .inl ⟨h1, h2, fun x hx => ?_, ?_⟩
    ·rcases List.mem_cons.1 hx with rfl | hx
     ·exact ⟨hn, hn2, hs⟩
     ·exact ⟨(h3 x hx).1, (h3 x hx).2.1, fun hh => (h3 x hx).2.2 (List.mem_append_left _ hh)⟩
    ·rw [List.map_cons]
     refine List.nodup_cons.2 ⟨fun hh => ?_, h4⟩
     obtain ⟨x, hx, he⟩ := List.mem_map.1 hh
     exact (h3 x hx).2.2 (List.mem_append_right _ (by rw [he]; exact List.mem_cons_self))
   ·refine .inr ⟨h1, fun hh => h2 ⟨fun x hx => ⟨(hh.1 x (List.mem_cons_of_mem _ hx)).1, (hh.1 x (List.mem_cons_of_mem _ hx)).2.1, fun hm => ?_⟩, ?_⟩⟩
    ·rcases List.mem_append.1 hm with hm | hm
     ·exact (hh.1 x (List.mem_cons_of_mem _ hx)).2.2 hm
     ·have := hh.2
      rw [List.map_cons] at this
      exact (List.nodup_cons.1 this).1 (List.mem_map.2 ⟨x, hx, List.mem_singleton.1 hm⟩)
    ·have := hh.2
     rw [List.map_cons] at this
     exact (List.nodup_cons.1 this).2
theorem usBad_ok {l : List Us} : (usBad 0 [] l).1 = 0 ↔ (∀ u ∈ l, nameOk u.nm = true ∧ nameOk u.sc = true) ∧ (l.map (·.nm)).Nodup := by
 rcases usBad_ways l 0 [] with ⟨h1, _, h3, h4⟩ | ⟨h1, h2⟩
 ·exact ⟨fun _ => ⟨fun t h => ⟨(h3 t h).1, (h3 t h).2.1⟩, h4⟩, fun _ => h1⟩
 ·exact ⟨fun h => (by rw [h1] at h; cases h), fun h => absurd ⟨fun t ht => ⟨(h.1 t ht).1, (h.1 t ht).2, List.not_mem_nil⟩, h.2⟩ h2⟩
structure CfOk (c : Cf) : Prop where
 nt : c.ts.length ≤ 8
 np : c.ps.length ≤ 4
 nu : c.us.length ≤ 8
 ts : (∀ t ∈ c.ts, nameOk t = true) ∧ c.ts.Nodup
 ps : ∀ p ∈ c.ps, nameOk p.ad = true ∧ 0 ≤ p.gr ∧ p.gr ≤ 65535
 us : (∀ u ∈ c.us, nameOk u.nm = true ∧ nameOk u.sc = true) ∧ (c.us.map (·.nm)).Nodup
 rest : (restR c).1 = 0
theorem tgtR_ok {c : Cf} : (tgtR c).1 = 0 ↔ CfOk c := by
 unfold tgtR
 by_cases h1 : 8 < c.ts.length ∨ 4 < c.ps.length ∨ 8 < c.us.length
 ·rw [if_pos h1]
  exact ⟨fun h => (by cases h), fun h => by have := h.nt; have := h.np; have := h.nu; omega⟩
 ·rw [if_neg h1]
  by_cases h2 : (tsBad 0 [] c.ts).1 ≠ 0
  ·rw [if_pos h2]
   exact ⟨fun h => absurd h h2, fun h => absurd (tsBad_ok.2 h.ts) h2⟩
  ·rw [if_neg h2]
   by_cases h3 : (poBad 0 c.ps).1 ≠ 0
   ·rw [if_pos h3]
    exact ⟨fun h => absurd h h3, fun h => absurd (poBad_ok.2 h.ps) h3⟩
   ·rw [if_neg h3]
    by_cases h4 : (usBad 0 [] c.us).1 ≠ 0
    ·rw [if_pos h4]
     exact ⟨fun h => absurd h h4, fun h => absurd (usBad_ok.2 h.us) h4⟩
    ·rw [if_neg h4]
     exact ⟨fun h => ⟨by omega, by omega, by omega, tsBad_ok.1 (by simpa using h2), poBad_ok.1 (by simpa using h3), usBad_ok.1 (by simpa using h4), h⟩, fun h => h.rest⟩
def nmK : List UInt8 := [84, 97, 114, 103, 101, 116, 78, 97, 109, 101]
def hasT (ts : List (List UInt8)) (name : List UInt8) : Bool := decide (name ∈ ts)
theorem rowOf_isKey {s : List UInt8} {k : Ke} (h : rowOf s = some k) : isKey s = true ∧ k.nm = s := by
 obtain ⟨h1, h2⟩ := rowOf_mem h
 have : ∀ k ∈ keRows, isKey k.nm = true := by decide +kernel
 exact ⟨by rw [← h2]; exact this k h1, h2⟩
theorem dec_lenN : ∀ (k n : Nat), n < 10 ^ (k + 1) → (Lib.decDigits n).length ≤ k + 1 := by
 intro k
 induction k with
 | zero => intro n hn; rw [Lib.decDigits_one (by simpa using hn)]; simp
 | succ k ih =>
  intro n hn
  by_cases h : n < 10
  ·rw [Lib.decDigits_one h]; simp
  ·rw [dec_step h, List.length_append, List.length_singleton]
   have := ih (n / 10) (by
    rw [Nat.pow_succ] at hn
    omega)
   omega
theorem isVal_mk {s : List UInt8} (h1 : s.length ≤ 255) (h2 : ∀ c ∈ s, 32 ≤ c.toNat ∧ c.toNat ≤ 126) : isVal s = true := by
 unfold isVal
 rw [Bool.and_eq_true, decide_eq_true_eq, List.all_eq_true]
 exact ⟨h1, fun c hc => by unfold signB; exact decide_eq_true (h2 c hc)⟩
theorem isVal_is {s : List UInt8} (h : isVal s = true) : s.length ≤ 255 ∧ ∀ c ∈ s, 32 ≤ c.toNat ∧ c.toNat ≤ 126 := by
 unfold isVal at h
 rw [Bool.and_eq_true, decide_eq_true_eq, List.all_eq_true] at h
 exact ⟨h.1, fun c hc => by have := h.2 c hc; unfold signB at this; exact of_decide_eq_true this⟩
theorem isVal_dec {n : Nat} (h : n < 1099511627776) : isVal (Lib.decDigits n) = true := by
 refine isVal_mk ?_ (fun c hc => ?_)
 ·have := dec_lenN 12 n (Nat.lt_of_lt_of_le h (by decide))
  omega
 ·have := dec_dig n n (Nat.le_refl _) c hc
  omega
theorem isVal_yes (b : Bool) : isVal (yesNo b) = true ∧ yesNo b ≠ [] := by cases b <;> exact ⟨by decide +kernel, by decide⟩
theorem split_sub (c : UInt8) : ∀ (n : Nat) (s x : List UInt8), s.length ≤ n → x ∈ split1 c s → ∀ b ∈ x, b ∈ s := by
 intro n
 induction n with
 | zero =>
  intro s x hn hx
  obtain rfl : s = [] := List.eq_nil_of_length_eq_zero (by omega)
  simp [split1] at hx
  rw [hx]; exact fun _ h => h
 | succ n ih =>
  intro s x hn hx b hb
  cases h : cut1 c s with
  | none =>
   rw [split1_none h] at hx
   rw [List.mem_singleton.1 hx] at hb
   exact hb
  | some q =>
   obtain ⟨a, r⟩ := q
   rw [split1_some h] at hx
   obtain ⟨hs, _⟩ := cut1_some h
   rw [hs]
   rcases List.mem_cons.1 hx with rfl | hx
   ·exact List.mem_append_left _ hb
   ·exact List.mem_append_right _ (List.mem_cons_of_mem _ (ih r x (by have := congrArg List.length hs; simp at this; omega) hx b hb))
theorem isVal_word {s x : List UInt8} (h : isVal s = true) (hx : x ∈ split1 44 s) : isVal x = true := by
 obtain ⟨h1, h2⟩ := isVal_is h
 have := (split1_sum 44 s.length s (Nat.le_refl _)).1 x hx
 exact isVal_mk (by omega) (fun c hc => h2 c (split_sub 44 s.length s x (Nat.le_refl _) hx c hc))
theorem numR_ne {s : List UInt8} {n : Nat} (h : numR s = some n) : s ≠ [] := by
 rintro rfl
 rw [show numR [] = none by decide +kernel] at h
 cases h
theorem fit_ne {k : Ke} {v : List UInt8} (hk : 1 ≤ k.kd ∧ k.kd ≤ 7) (h : fitK k v = 0) : v ≠ [] := by
 have hc : (k.kd = 1 ∨ k.kd = 2) ∨ (k.kd = 3 ∨ k.kd = 4 ∨ k.kd = 7) ∨ k.kd = 5 ∨ k.kd = 6 := by omega
 rcases hc with hc | hc | hc | hc
 ·rcases fitK_yes0 hc h with rfl | rfl <;> decide
 ·obtain ⟨n, hn, _⟩ := fitK_num0 hc h
  exact numR_ne hn
 ·have := (fitK_list0 hc h).1
  rintro rfl
  exact this.1 [] (by simp [split1]) rfl
 ·rw [fitK_told hc] at h
  rintro rfl
  simp at h
theorem resOk_val {k : Ke} {a b : List UInt8} (hk : 1 ≤ k.kd ∧ k.kd ≤ 7) (hh : k.hi ≤ 16777215) (ha : isVal a = true) (f1 : fitK k a = 0) (f2 : fitK k b = 0) (h : (resOk k a b).2 = 0) : isVal (resOk k a b).1 = true ∧ (resOk k a b).1 ≠ [] := by
 have hc : k.kd = 1 ∨ k.kd = 2 ∨ k.kd = 3 ∨ k.kd = 4 ∨ k.kd = 5 ∨ (k.kd = 6 ∨ k.kd = 7) := by omega
 rcases hc with hc | hc | hc | hc | hc | hc
 ·rw [resOk_and a b hc]; exact isVal_yes _
 ·rw [resOk_or a b hc]; exact isVal_yes _
 ·obtain ⟨n, hn, n1, n2⟩ := fitK_num0 (.inl hc) f1
  obtain ⟨m, hm, m1, m2⟩ := fitK_num0 (.inl hc) f2
  rw [resOk_least a b hc, numD_of hn, numD_of hm]
  exact ⟨isVal_dec (by omega), dec_ne _⟩
 ·obtain ⟨n, hn, n1, n2⟩ := fitK_num0 (.inr (.inl hc)) f1
  obtain ⟨m, hm, m1, m2⟩ := fitK_num0 (.inr (.inl hc)) f2
  rw [resOk_most a b hc, numD_of hn, numD_of hm]
  exact ⟨isVal_dec (by omega), dec_ne _⟩
 ·rw [resOk_first a b hc] at h ⊢
  cases hx : firstR a b with
  | none => rw [hx] at h; cases h
  | some x =>
   simp only
   obtain ⟨x1, _⟩ := firstR_some hx
   exact ⟨isVal_word ha x1, (fitK_list0 hc f1).1.1 x x1⟩
 ·rw [resOk_told a b hc]
  exact ⟨ha, fit_ne hk f1⟩
theorem resK_fits {k : Ke} {a b : List UInt8} (h : (resK k a b).2 = 0) : fitK k a = 0 ∧ fitK k b = 0 := by
 have ha : fitK k a = 0 := by
  rcases Nat.eq_zero_or_pos (fitK k a) with h0 | h0
  ·exact h0
  ·rw [resK_off (by omega)] at h; exact absurd h (by simp only; omega)
 refine ⟨ha, ?_⟩
 rcases Nat.eq_zero_or_pos (fitK k b) with h0 | h0
 ·exact h0
 ·rw [resK_own ha (by omega)] at h; exact absurd h (by simp only; omega)
theorem resK_val {k : Ke} {a b : List UInt8} (hk : 1 ≤ k.kd ∧ k.kd ≤ 7) (hh : k.hi ≤ 16777215) (ha : isVal a = true) (h : (resK k a b).2 = 0) : isVal (resK k a b).1 = true ∧ (resK k a b).1 ≠ [] := by
 obtain ⟨f1, f2⟩ := resK_fits h
 rw [resK_ok f1 f2] at h ⊢
 exact resOk_val hk hh ha f1 f2 h
theorem oneK_rej {mine : List Pr} {k : Ke} {v : List UInt8} {lg dc : Bool} (h : ¬ (k.lg = true ∧ lg = false)) (h2 : ¬ (k.no = true ∧ dc = true)) (h3 : fitK k v ≠ 0) : oneK mine k v lg dc = (some rejL, none) := by unfold oneK; rw [if_neg h, if_neg h2, if_pos h3]
theorem oneK_told {mine : List Pr} {k : Ke} {v : List UInt8} {lg dc : Bool} (h : ¬ (k.lg = true ∧ lg = false)) (h2 : ¬ (k.no = true ∧ dc = true)) (h3 : fitK k v = 0) (h4 : k.kd = 6 ∨ k.kd = 7) : oneK mine k v lg dc = (none, some v) := by unfold oneK; rw [if_neg h, if_neg h2, if_neg (by simpa using h3), if_pos h4]
theorem oneK_none {mine : List Pr} {k : Ke} {v : List UInt8} {lg dc : Bool} (h : ¬ (k.lg = true ∧ lg = false)) (h2 : ¬ (k.no = true ∧ dc = true)) (h3 : fitK k v = 0) (h4 : ¬ (k.kd = 6 ∨ k.kd = 7)) (h5 : (resK k v (ownV mine k)).2 ≠ 0) : oneK mine k v lg dc = (some rejL, none) := by unfold oneK; rw [if_neg h, if_neg h2, if_neg (by simpa using h3), if_neg h4, if_pos h5]
theorem oneK_res {mine : List Pr} {k : Ke} {v : List UInt8} {lg dc : Bool} (h : ¬ (k.lg = true ∧ lg = false)) (h2 : ¬ (k.no = true ∧ dc = true)) (h3 : fitK k v = 0) (h4 : ¬ (k.kd = 6 ∨ k.kd = 7)) (h5 : (resK k v (ownV mine k)).2 = 0) : oneK mine k v lg dc = (some (resK k v (ownV mine k)).1, some (resK k v (ownV mine k)).1) := by unfold oneK; rw [if_neg h, if_neg h2, if_neg (by simpa using h3), if_neg h4, if_neg (by simpa using h5)]
theorem oneK_ways (mine : List Pr) (k : Ke) (v : List UInt8) (lg dc : Bool) :
  ((k.lg = true ∧ lg = false) ∧ oneK mine k v lg dc = (some rejL, none)) ∨
  (¬ (k.lg = true ∧ lg = false) ∧ (k.no = true ∧ dc = true) ∧ oneK mine k v lg dc = (some irrL, none)) ∨
  (¬ (k.lg = true ∧ lg = false) ∧ ¬ (k.no = true ∧ dc = true) ∧ fitK k v ≠ 0 ∧ oneK mine k v lg dc = (some rejL, none)) ∨
  (¬ (k.lg = true ∧ lg = false) ∧ ¬ (k.no = true ∧ dc = true) ∧ fitK k v = 0 ∧ (k.kd = 6 ∨ k.kd = 7) ∧ oneK mine k v lg dc = (none, some v)) ∨
  (¬ (k.lg = true ∧ lg = false) ∧ ¬ (k.no = true ∧ dc = true) ∧ fitK k v = 0 ∧ ¬ (k.kd = 6 ∨ k.kd = 7) ∧ (resK k v (ownV mine k)).2 ≠ 0 ∧ oneK mine k v lg dc = (some rejL, none)) ∨
  (¬ (k.lg = true ∧ lg = false) ∧ ¬ (k.no = true ∧ dc = true) ∧ fitK k v = 0 ∧ ¬ (k.kd = 6 ∨ k.kd = 7) ∧ (resK k v (ownV mine k)).2 = 0 ∧ oneK mine k v lg dc = (some (resK k v (ownV mine k)).1, some (resK k v (ownV mine k)).1)) := by
 by_cases h1 : k.lg = true ∧ lg = false
 ·refine .inl ⟨h1, ?_⟩
  unfold oneK; rw [if_pos h1]
 ·by_cases h2 : k.no = true ∧ dc = true
  ·refine .inr (.inl ⟨h1, h2, ?_⟩)
   unfold oneK; rw [if_neg h1, if_pos h2]
  ·by_cases h3 : fitK k v = 0
   ·by_cases h4 : k.kd = 6 ∨ k.kd = 7
    ·exact .inr (.inr (.inr (.inl ⟨h1, h2, h3, h4, oneK_told h1 h2 h3 h4⟩)))
    ·by_cases h5 : (resK k v (ownV mine k)).2 = 0
     ·exact .inr (.inr (.inr (.inr (.inr ⟨h1, h2, h3, h4, h5, oneK_res h1 h2 h3 h4 h5⟩))))
     ·exact .inr (.inr (.inr (.inr (.inl ⟨h1, h2, h3, h4, h5, oneK_none h1 h2 h3 h4 h5⟩))))
   ·exact .inr (.inr (.inl ⟨h1, h2, h3, oneK_rej h1 h2 h3⟩))
theorem oneK_rec {mine : List Pr} {k : Ke} {v x : List UInt8} {lg dc : Bool} (hk : 1 ≤ k.kd ∧ k.kd ≤ 7) (hh : k.hi ≤ 16777215) (hv : isVal v = true) (h : (oneK mine k v lg dc).2 = some x) : fitK k x = 0 ∧ isVal x = true ∧ x ≠ [] := by
 rcases oneK_ways mine k v lg dc with ⟨_, e⟩ | ⟨_, _, e⟩ | ⟨_, _, _, e⟩ | ⟨_, _, h3, h4, e⟩ | ⟨_, _, _, _, _, e⟩ | ⟨_, _, h3, h4, h5, e⟩
 all_goals rw [e] at h
 all_goals try (cases h; done)
 ·cases h
  exact ⟨h3, hv, fit_ne hk h3⟩
 ·cases h
  exact ⟨(resK_again hk hh h5).1, resK_val hk hh hv h5⟩
theorem oneK_said {mine : List Pr} {k : Ke} {v x : List UInt8} {lg dc : Bool} (hk : 1 ≤ k.kd ∧ k.kd ≤ 7) (hh : k.hi ≤ 16777215) (hv : isVal v = true) (h : (oneK mine k v lg dc).1 = some x) : x ≠ [] := by
 rcases oneK_ways mine k v lg dc with ⟨_, e⟩ | ⟨_, _, e⟩ | ⟨_, _, _, e⟩ | ⟨_, _, h3, h4, e⟩ | ⟨_, _, _, _, _, e⟩ | ⟨_, _, h3, h4, h5, e⟩
 all_goals rw [e] at h
 all_goals try (cases h; done)
 ·cases h; decide
 ·cases h; decide
 ·cases h; decide
 ·cases h; decide
 ·cases h
  exact (resK_val hk hh hv h5).2
theorem oneN_row {mine : List Pr} {lg dc : Bool} {p : Pr} {k : Ke} (h : rowOf p.k = some k) : oneN mine lg dc p = oneK mine k p.v lg dc := by unfold oneN; rw [h]
theorem oneN_no {mine : List Pr} {lg dc : Bool} {p : Pr} (h : rowOf p.k = none) : oneN mine lg dc p = (some notL, none) := by unfold oneN; rw [h]
def RecP (p : Pr) : Prop := ∃ k, rowOf p.k = some k ∧ fitK k p.v = 0 ∧ wrongP p = 0 ∧ p.v ≠ []
theorem oneN_rec {mine : List Pr} {lg dc : Bool} {p : Pr} {x : List UInt8} (hp : wrongP p = 0) (h : (oneN mine lg dc p).2 = some x) : RecP ⟨p.k, x⟩ := by
 cases hr : rowOf p.k with
 | none => rw [oneN_no hr] at h; cases h
 | some k =>
  rw [oneN_row hr] at h
  have hk := rowOf_ok hr
  obtain ⟨h1, h2, h3⟩ := oneK_rec ⟨hk.2.2.1, hk.2.2.2.1⟩ hk.2.1 (wrongP_ok hp).2 h
  refine ⟨k, hr, h1, ?_, h3⟩
  unfold wrongP
  simp only
  rw [if_pos (wrongP_ok hp).1, if_pos h2]
structure RecOk (rec : List Pr) : Prop where
 one : (keysP rec).Nodup
 each : ∀ p ∈ rec, RecP p
theorem recOk_nil : RecOk [] := ⟨List.nodup_nil, fun _ h => absurd h List.not_mem_nil⟩
theorem goN_ok {mine rec l : List Pr} {lg dc : Bool} (h : RecOk rec) (hl : okPs l) : RecOk (goN (oneN mine lg dc) l rec).2 :=
 ⟨goN_nodup _ l rec h.one, goN_from _ RecP l rec h.each (fun p hp v hv => oneN_rec (hl p hp) hv)⟩
theorem ansN_ok {mine rec l : List Pr} {lg dc : Bool} (h : RecOk rec) : RecOk (ansN mine rec l lg dc).2 := by
 unfold ansN
 by_cases h1 : (prRight l).1 ≠ 0
 ·rw [if_pos h1]; exact h
 ·rw [if_neg h1]
  cases twiceF 0 (if lg = true then keysP rec else []) l with
  | some i => exact h
  | none => exact goN_ok h (prRight_is (by simpa using h1)).1
theorem keys_sub : ∀ {l m : List (List UInt8)}, l.Nodup → (∀ x ∈ l, x ∈ m) → l.length ≤ m.length
 | [], m, _, _ => by simp
 | a :: l, m, h, hs => by
  rw [List.nodup_cons] at h
  have ha := hs a (List.mem_cons_self ..)
  have := keys_sub (l := l) (m := m.erase a) h.2 (fun x hx => (List.mem_erase_of_ne (fun e => h.1 (by rw [← e]; exact hx))).2 (hs x (List.mem_cons_of_mem _ hx)))
  rw [List.length_erase_of_mem ha] at this
  have := List.length_pos_of_mem ha
  simp only [List.length_cons]
  omega
theorem RecOk.few {rec : List Pr} (h : RecOk rec) : rec.length ≤ 18 := by
 have h1 := keys_sub (m := keNames) h.one (fun x hx => by
  obtain ⟨p, hp, rfl⟩ := List.mem_map.1 hx
  obtain ⟨k, hr, _⟩ := h.each p hp
  obtain ⟨a, b⟩ := rowOf_mem hr
  rw [← b]
  exact List.mem_map.2 ⟨k, a, rfl⟩)
 unfold keysP at h1
 rw [List.length_map] at h1
 exact h1
theorem ansN_bad {mine rec l : List Pr} {lg dc : Bool} (h : (prRight l).1 ≠ 0) : ansN mine rec l lg dc = (([], prRight l), rec) := by unfold ansN; rw [if_pos h]
theorem ansN_twice {mine rec l : List Pr} {lg dc : Bool} {i : Nat} (h : (prRight l).1 = 0) (h2 : twiceF 0 (if lg = true then keysP rec else []) l = some i) : ansN mine rec l lg dc = (([], 9, (i : Int)), rec) := by unfold ansN; rw [if_neg (by simpa using h), h2]
theorem ansN_go {mine rec l : List Pr} {lg dc : Bool} (h : (prRight l).1 = 0) (h2 : twiceF 0 (if lg = true then keysP rec else []) l = none) : ansN mine rec l lg dc = (((goN (oneN mine lg dc) l rec).1, 0, -1), (goN (oneN mine lg dc) l rec).2) := by unfold ansN; rw [if_neg (by simpa using h), h2]
theorem ansN_err {mine rec l : List Pr} {lg dc : Bool} (h : (ansN mine rec l lg dc).1.2.1 ≠ 0) : (ansN mine rec l lg dc).1.1 = [] ∧ (ansN mine rec l lg dc).2 = rec := by
 by_cases h1 : (prRight l).1 = 0
 ·cases ht : twiceF 0 (if lg = true then keysP rec else []) l with
  | some i => rw [ansN_twice h1 ht]; exact ⟨rfl, rfl⟩
  | none => rw [ansN_go h1 ht] at h; exact absurd rfl h
 ·rw [ansN_bad h1]; exact ⟨rfl, rfl⟩
theorem ansN_good {mine rec l : List Pr} {lg dc : Bool} (h : (ansN mine rec l lg dc).1.2.1 = 0) : okPs l ∧ l.length ≤ 60 ∧ (keysP l).Nodup ∧ (lg = true → ∀ p ∈ l, p.k ∉ keysP rec) ∧ ansN mine rec l lg dc = (((goN (oneN mine lg dc) l rec).1, 0, -1), (goN (oneN mine lg dc) l rec).2) := by
 by_cases h1 : (prRight l).1 = 0
 ·cases ht : twiceF 0 (if lg = true then keysP rec else []) l with
  | some i => rw [ansN_twice h1 ht] at h; exact absurd h (show ¬ (9 : Int) = 0 by decide)
  | none =>
   obtain ⟨a, b, _⟩ := prRight_is h1
   obtain ⟨c, d⟩ := (twiceF_none l 0 _).1 ht
   exact ⟨a, b, c, fun hl p hp => by have := d p hp; rwa [if_pos hl] at this, ansN_go h1 ht⟩
 ·rw [ansN_bad h1] at h; exact absurd h h1
theorem prFind_iff {l : List Pr} {k : List UInt8} : (prFind l k).isSome = true ↔ k ∈ keysP l := by
 cases hf : prFind l k with
 | none =>
  refine ⟨fun h => (by cases h), fun h => ?_⟩
  obtain ⟨p, hp, e⟩ := List.mem_map.1 h
  exact absurd e (prFind_none hf p hp)
 | some v =>
  obtain ⟨j, hj, e⟩ := prFind_some hf
  exact ⟨fun _ => List.mem_map.2 ⟨l[j], List.getElem_mem hj, by rw [e]⟩, fun _ => rfl⟩
end Go.Proofs.YtmkebjdmkkjloaaGreatDoor
