/- LA05: several texts in one. -/
import Derived.Lib.ItoaLen
import Derived.Test.YtjbbbpgcegcbaaaGreatDoorLA01
import Derived.Test.YtjbbbpgcegcbaaaGreatDoorLA04
namespace Go.Proofs.YtjbbbpgcegcbaaaGreatDoor
open Go.RowKit
theorem resK_ok {k : Ke} {a b : List UInt8} (h1 : fitK k a = 0) (h2 : fitK k b = 0) : resK k a b = resOk k a b := by
 unfold resK; rw [if_neg (by simpa using h1), if_neg (by simpa using h2)]
theorem resK_off {k : Ke} {a b : List UInt8} (h : fitK k a ≠ 0) : resK k a b = ([], fitK k a) := by unfold resK; rw [if_pos h]
theorem resK_own {k : Ke} {a b : List UInt8} (h1 : fitK k a = 0) (h : fitK k b ≠ 0) : resK k a b = ([], fitK k b) := by
 unfold resK; rw [if_neg (by simpa using h1), if_pos h]
theorem resOk_and {k : Ke} (a b : List UInt8) (h : k.kd = 1) : resOk k a b = (yesNo (decide (a = yesL) && decide (b = yesL)), 0) := by unfold resOk; rw [if_pos h]
theorem resOk_or {k : Ke} (a b : List UInt8) (h : k.kd = 2) : resOk k a b = (yesNo (decide (a = yesL) || decide (b = yesL)), 0) := by unfold resOk; rw [if_neg (by omega), if_pos h]
theorem resOk_least {k : Ke} (a b : List UInt8) (h : k.kd = 3) : resOk k a b = (Lib.decDigits (min (numD a) (numD b)), 0) := by unfold resOk; rw [if_neg (by omega), if_neg (by omega), if_pos h]
theorem resOk_most {k : Ke} (a b : List UInt8) (h : k.kd = 4) : resOk k a b = (Lib.decDigits (max (numD a) (numD b)), 0) := by unfold resOk; rw [if_neg (by omega), if_neg (by omega), if_neg (by omega), if_pos h]
theorem resOk_first {k : Ke} (a b : List UInt8) (h : k.kd = 5) : resOk k a b = match firstR a b with | some x => (x, 0) | none => ([], 8) := by unfold resOk; rw [if_neg (by omega), if_neg (by omega), if_neg (by omega), if_neg (by omega), if_pos h]; first | done | (cases firstR a b <;> rfl)
theorem resOk_told {k : Ke} (a b : List UInt8) (h : k.kd = 6 ∨ k.kd = 7) : resOk k a b = (a, 0) := by unfold resOk; rw [if_neg (by omega), if_neg (by omega), if_neg (by omega), if_neg (by omega), if_neg (by omega)]
theorem yesNo_yes (b : Bool) : decide (yesNo b = yesL) = b := by cases b <;> decide
theorem yesNo_or (b : Bool) : yesNo b = yesL ∨ yesNo b = noL := by cases b <;> simp [yesNo]
theorem numD_of {s : List UInt8} {n : Nat} (h : numR s = some n) : numD s = n := by unfold numD; rw [h]; rfl
theorem fit_dec {k : Ke} {n : Nat} (hk : k.kd = 3 ∨ k.kd = 4 ∨ k.kd = 7) (hh : k.hi ≤ 16777215) (h1 : k.lo ≤ n) (h2 : n ≤ k.hi) : fitK k (Lib.decDigits n) = 0 := by
 rw [fitK_num hk, numR_dec (by omega)]
 simp only
 rw [if_neg (by omega)]
theorem word_ok {x : List UInt8} {l : List (List UInt8)} (hl : OkL l) (hx : x ∈ l) (hc : (44 : UInt8) ∉ x) : listR x = some [x] := by
 unfold listR
 rw [split_alone hc, if_pos]
 exact ⟨fun y hy => by rw [List.mem_singleton.1 hy]; exact hl.1 x hx, by simp⟩
theorem firstR_some {a b x : List UInt8} (h : firstR a b = some x) : x ∈ split1 44 a ∧ x ∈ split1 44 b := by
 unfold firstR at h
 exact ⟨List.mem_of_find?_eq_some h, by simpa using List.find?_some h⟩
theorem firstR_self {x b : List UInt8} (hx : (44 : UInt8) ∉ x) (h : x ∈ split1 44 b) : firstR x b = some x := by
 unfold firstR
 rw [split_alone hx]
 simp [h]
theorem resK_again {k : Ke} {a b : List UInt8} (hk : 1 ≤ k.kd ∧ k.kd ≤ 7) (hh : k.hi ≤ 16777215) (h : (resK k a b).2 = 0) :
  fitK k (resK k a b).1 = 0 ∧ resK k (resK k a b).1 (resK k a b).1 = ((resK k a b).1, 0) ∧ resK k (resK k a b).1 b = ((resK k a b).1, 0) := by
 have ha : fitK k a = 0 := by
  rcases Nat.eq_zero_or_pos (fitK k a) with h0 | h0
  ·exact h0
  ·rw [resK_off (by omega)] at h; exact absurd h (by simp only; omega)
 have hb : fitK k b = 0 := by
  rcases Nat.eq_zero_or_pos (fitK k b) with h0 | h0
  ·exact h0
  ·rw [resK_own ha (by omega)] at h; exact absurd h (by simp only; omega)
 rw [resK_ok ha hb] at h ⊢
 have hc : k.kd = 1 ∨ k.kd = 2 ∨ k.kd = 3 ∨ k.kd = 4 ∨ k.kd = 5 ∨ k.kd = 6 ∨ k.kd = 7 := by omega
 rcases hc with hc | hc | hc | hc | hc | hc | hc
 ·rw [resOk_and a b hc]
  simp only
  have hf : ∀ c, fitK k (yesNo c) = 0 := fun c => by rw [fitK_yes (.inl hc), if_pos (yesNo_or c)]
  refine ⟨hf _, ?_, ?_⟩
  ·rw [resK_ok (hf _) (hf _), resOk_and _ _ hc, yesNo_yes]
   cases decide (a = yesL) <;> cases decide (b = yesL) <;> rfl
  ·rw [resK_ok (hf _) hb, resOk_and _ _ hc, yesNo_yes]
   cases decide (a = yesL) <;> cases decide (b = yesL) <;> rfl
 ·rw [resOk_or a b hc]
  simp only
  have hf : ∀ c, fitK k (yesNo c) = 0 := fun c => by rw [fitK_yes (.inr hc), if_pos (yesNo_or c)]
  refine ⟨hf _, ?_, ?_⟩
  ·rw [resK_ok (hf _) (hf _), resOk_or _ _ hc, yesNo_yes]
   cases decide (a = yesL) <;> cases decide (b = yesL) <;> rfl
  ·rw [resK_ok (hf _) hb, resOk_or _ _ hc, yesNo_yes]
   cases decide (a = yesL) <;> cases decide (b = yesL) <;> rfl
 ·obtain ⟨n, hn, n1, n2⟩ := fitK_num0 (.inl hc) ha
  obtain ⟨m, hm, m1, m2⟩ := fitK_num0 (.inl hc) hb
  rw [resOk_least a b hc, numD_of hn, numD_of hm]
  simp only
  have hf := fit_dec (n := min n m) (.inl hc) hh (by omega) (by omega)
  refine ⟨hf, ?_, ?_⟩
  ·rw [resK_ok hf hf, resOk_least _ _ hc, numD_dec (by omega), Nat.min_self]
  ·rw [resK_ok hf hb, resOk_least _ _ hc, numD_dec (by omega), numD_of hm, show min (min n m) m = min n m by omega]
 ·obtain ⟨n, hn, n1, n2⟩ := fitK_num0 (.inr (.inl hc)) ha
  obtain ⟨m, hm, m1, m2⟩ := fitK_num0 (.inr (.inl hc)) hb
  rw [resOk_most a b hc, numD_of hn, numD_of hm]
  simp only
  have hf := fit_dec (n := max n m) (.inr (.inl hc)) hh (by omega) (by omega)
  refine ⟨hf, ?_, ?_⟩
  ·rw [resK_ok hf hf, resOk_most _ _ hc, numD_dec (by omega), Nat.max_self]
  ·rw [resK_ok hf hb, resOk_most _ _ hc, numD_dec (by omega), numD_of hm, show max (max n m) m = max n m by omega]
 ·rw [resOk_first a b hc] at h ⊢
  cases hx : firstR a b with
  | none => rw [hx] at h; cases h
  | some x =>
   simp only
   obtain ⟨x1, x2⟩ := firstR_some hx
   have hxc := mem_split 44 a.length a x (Nat.le_refl _) x1
   have hok := (fitK_list0 hc ha).1
   have hf : fitK k x = 0 := by rw [fitK_list hc, word_ok hok x1 hxc]
   refine ⟨hf, ?_, ?_⟩
   ·rw [resK_ok hf hf, resOk_first _ _ hc, firstR_self hxc (by rw [split_alone hxc]; simp)]
   ·rw [resK_ok hf hb, resOk_first _ _ hc, firstR_self hxc x2]
 ·rw [resOk_told a b (.inl hc)]
  simp only
  exact ⟨ha, by rw [resK_ok ha ha, resOk_told _ _ (.inl hc)], by rw [resK_ok ha hb, resOk_told _ _ (.inl hc)]⟩
 ·rw [resOk_told a b (.inr hc)]
  simp only
  exact ⟨ha, by rw [resK_ok ha ha, resOk_told _ _ (.inr hc)], by rw [resK_ok ha hb, resOk_told _ _ (.inr hc)]⟩
end Go.Proofs.YtjbbbpgcegcbaaaGreatDoor
namespace Go.Proofs.YtjbbbpgcegcbaaaGreatDoor
open Go.RowKit
set_option linter.unusedVariables false
def notL : List UInt8 := [78, 111, 116, 85, 110, 100, 101, 114, 115, 116, 111, 111, 100]
def rejL : List UInt8 := [82, 101, 106, 101, 99, 116]
def irrL : List UInt8 := [73, 114, 114, 101, 108, 101, 118, 97, 110, 116]
def ownV (mine : List Pr) (k : Ke) : List UInt8 := (prFind mine k.nm).getD k.df
def oneK (mine : List Pr) (k : Ke) (v : List UInt8) (lg dc : Bool) : Option (List UInt8) × Option (List UInt8) :=
 if k.lg = true ∧ lg = false then (some rejL, none)
 else if k.no = true ∧ dc = true then (some irrL, none)
 else if fitK k v ≠ 0 then (some rejL, none)
 else if k.kd = 6 ∨ k.kd = 7 then (none, some v)
 else if (resK k v (ownV mine k)).2 ≠ 0 then (some rejL, none)
 else (some (resK k v (ownV mine k)).1, some (resK k v (ownV mine k)).1)
def oneN (mine : List Pr) (lg dc : Bool) (p : Pr) : Option (List UInt8) × Option (List UInt8) := match rowOf p.k with
 | none => (some notL, none)
 | some k => oneK mine k p.v lg dc
def asP (k : List UInt8) : Option (List UInt8) → List Pr
 | none => []
 | some v => [⟨k, v⟩]
def recN (rec : List Pr) (k : List UInt8) : Option (List UInt8) → List Pr
 | none => rec
 | some v => rec.filter (fun q => decide (q.k ≠ k)) ++ [⟨k, v⟩]
def goN (f : Pr → Option (List UInt8) × Option (List UInt8)) : List Pr → List Pr → List Pr × List Pr
 | [], rec => ([], rec)
 | p :: l, rec => (asP p.k (f p).1 ++ (goN f l (recN rec p.k (f p).2)).1, (goN f l (recN rec p.k (f p).2)).2)
def twiceF : Nat → List (List UInt8) → List Pr → Option Nat
 | _, _, [] => none
 | i, seen, p :: l => if p.k ∈ seen then some i else twiceF (i + 1) (p.k :: seen) l
def keysP (l : List Pr) : List (List UInt8) := l.map (·.k)
def ansN (mine rec l : List Pr) (lg dc : Bool) : (List Pr × Int × Int) × List Pr :=
 if (prRight l).1 ≠ 0 then (([], prRight l), rec)
 else match twiceF 0 (if lg = true then keysP rec else []) l with
  | some i => (([], 9, (i : Int)), rec)
  | none => (((goN (oneN mine lg dc) l rec).1, 0, -1), (goN (oneN mine lg dc) l rec).2)
def newF : Nat → List (List UInt8) → List Pr → Int × Int
 | _, _, [] => (0, -1)
 | i, seen, p :: l => if p.k ∈ seen then (9, (i : Int)) else if keyFits p.k p.v ≠ 0 then ((keyFits p.k p.v : Int), (i : Int)) else newF (i + 1) (p.k :: seen) l
def newN (l : List Pr) : Int × Int := if (prRight l).1 ≠ 0 then prRight l else newF 0 [] l
def valN (l : List Pr) (key : List UInt8) : List UInt8 × Int := match rowOf key with
 | none => ([], 5)
 | some k => ((prFind l key).getD k.df, 0)
theorem newF_cons (i : Nat) (seen : List (List UInt8)) (p : Pr) (l : List Pr) : newF i seen (p :: l) = if p.k ∈ seen then (9, (i : Int)) else if keyFits p.k p.v ≠ 0 then ((keyFits p.k p.v : Int), (i : Int)) else newF (i + 1) (p.k :: seen) l := rfl
theorem newF_is : ∀ (l : List Pr) (i : Nat) (seen : List (List UInt8)), (newF i seen l).1 = 0 → (keysP l).Nodup ∧ (∀ p ∈ l, p.k ∉ seen ∧ keyFits p.k p.v = 0) ∧ newF i seen l = (0, -1)
 | [], _, _, _ => ⟨List.nodup_nil, (fun _ h => absurd h List.not_mem_nil), rfl⟩
 | p :: l, i, seen, h => by
  rw [newF_cons] at h ⊢
  by_cases h1 : p.k ∈ seen
  ·rw [if_pos h1] at h; exact absurd h (show ¬ (9 : Int) = 0 by decide)
  ·rw [if_neg h1] at h ⊢
   by_cases h2 : keyFits p.k p.v ≠ 0
   ·rw [if_pos h2] at h
    simp only at h
    exact absurd h (by omega)
   ·rw [if_neg h2] at h ⊢
    obtain ⟨i1, i2, i3⟩ := newF_is l (i + 1) (p.k :: seen) h
    refine ⟨?_, ?_, i3⟩
    ·unfold keysP at i1 ⊢
     rw [List.map_cons, List.nodup_cons]
     refine ⟨fun hm => ?_, i1⟩
     obtain ⟨q, hq, e⟩ := List.mem_map.1 hm
     exact (i2 q hq).1 (by rw [← e]; exact List.mem_cons_self ..)
    ·intro q hq
     rcases List.mem_cons.1 hq with rfl | hq
     ·exact ⟨h1, by simpa using h2⟩
     ·exact ⟨fun hm => (i2 q hq).1 (List.mem_cons_of_mem _ hm), (i2 q hq).2⟩
structure MineOk (l : List Pr) : Prop where
 ok : okPs l
 few : l.length ≤ 60
 one : (keysP l).Nodup
 fit : ∀ p ∈ l, keyFits p.k p.v = 0
theorem newN_is {l : List Pr} (h : (newN l).1 = 0) : MineOk l ∧ newN l = (0, -1) := by
 unfold newN at h ⊢
 by_cases h1 : (prRight l).1 ≠ 0
 ·rw [if_pos h1] at h; exact absurd h h1
 ·rw [if_neg h1] at h ⊢
  obtain ⟨a, b, _⟩ := prRight_is (by simpa using h1)
  obtain ⟨i1, i2, i3⟩ := newF_is l 0 [] h
  exact ⟨⟨a, b, i1, fun p hp => (i2 p hp).2⟩, i3⟩
theorem twiceF_cons (i : Nat) (seen : List (List UInt8)) (p : Pr) (l : List Pr) : twiceF i seen (p :: l) = if p.k ∈ seen then some i else twiceF (i + 1) (p.k :: seen) l := rfl
theorem twiceF_none : ∀ (l : List Pr) (i : Nat) (seen : List (List UInt8)), twiceF i seen l = none ↔ (keysP l).Nodup ∧ ∀ p ∈ l, p.k ∉ seen
 | [], i, seen => ⟨fun _ => ⟨List.nodup_nil, fun _ h => absurd h List.not_mem_nil⟩, fun _ => rfl⟩
 | p :: l, i, seen => by
  rw [twiceF_cons]
  by_cases h1 : p.k ∈ seen
  ·rw [if_pos h1]
   exact ⟨fun h => (by cases h), fun h => absurd h1 (h.2 p (List.mem_cons_self ..))⟩
  ·rw [if_neg h1, twiceF_none l (i + 1) (p.k :: seen)]
   unfold keysP
   rw [List.map_cons, List.nodup_cons]
   constructor
   ·rintro ⟨a, b⟩
    refine ⟨⟨fun hm => ?_, a⟩, fun q hq => ?_⟩
    ·obtain ⟨q, hq, e⟩ := List.mem_map.1 hm
     exact b q hq (by rw [← e]; exact List.mem_cons_self ..)
    ·rcases List.mem_cons.1 hq with rfl | hq
     ·exact h1
     ·exact fun hm => b q hq (List.mem_cons_of_mem _ hm)
   ·rintro ⟨⟨a, b⟩, c⟩
    refine ⟨b, fun q hq hm => ?_⟩
    rcases List.mem_cons.1 hm with e | hm
    ·exact a (by rw [← e]; exact List.mem_map.2 ⟨q, hq, rfl⟩)
    ·exact c q (List.mem_cons_of_mem _ hq) hm
theorem twiceF_seen : ∀ (l : List Pr) (i : Nat) (s t : List (List UInt8)), (∀ x, x ∈ s ↔ x ∈ t) → twiceF i s l = twiceF i t l
 | [], _, _, _, _ => rfl
 | p :: l, i, s, t, h => by
  rw [twiceF_cons, twiceF_cons, twiceF_seen l (i + 1) (p.k :: s) (p.k :: t) (fun x => by simp [h x])]
  by_cases hp : p.k ∈ s
  ·rw [if_pos hp, if_pos ((h _).1 hp)]
  ·rw [if_neg hp, if_neg (fun hh => hp ((h _).2 hh))]
theorem newF_seen : ∀ (l : List Pr) (i : Nat) (s t : List (List UInt8)), (∀ x, x ∈ s ↔ x ∈ t) → newF i s l = newF i t l
 | [], _, _, _, _ => rfl
 | p :: l, i, s, t, h => by
  rw [newF_cons, newF_cons, newF_seen l (i + 1) (p.k :: s) (p.k :: t) (fun x => by simp [h x])]
  by_cases hp : p.k ∈ s
  ·rw [if_pos hp, if_pos ((h _).1 hp)]
  ·rw [if_neg hp, if_neg (fun hh => hp ((h _).2 hh))]
theorem keys_take {l : List Pr} {j : Nat} (hj : j < l.length) : keysP (l.take (j + 1)) = keysP (l.take j) ++ [l[j].k] := by
 unfold keysP
 rw [← List.take_append_getElem hj, List.map_append]
 rfl
theorem newF_step {l : List Pr} {j : Nat} (hj : j < l.length) : newF j (keysP (l.take j)) (l.drop j) = if l[j].k ∈ keysP (l.take j) then (9, (j : Int)) else if keyFits l[j].k l[j].v ≠ 0 then ((keyFits l[j].k l[j].v : Int), (j : Int)) else newF (j + 1) (keysP (l.take (j + 1))) (l.drop (j + 1)) := by
 rw [List.drop_eq_getElem_cons hj, newF_cons, newF_seen _ _ (l[j].k :: keysP (l.take j)) (keysP (l.take (j + 1))) (fun x => by rw [keys_take hj]; simp [or_comm])]
theorem twiceF_step {l : List Pr} {s : List (List UInt8)} {j : Nat} (hj : j < l.length) : twiceF j (s ++ keysP (l.take j)) (l.drop j) = if l[j].k ∈ s ++ keysP (l.take j) then some j else twiceF (j + 1) (s ++ keysP (l.take (j + 1))) (l.drop (j + 1)) := by
 rw [List.drop_eq_getElem_cons hj, twiceF_cons, twiceF_seen _ _ (l[j].k :: (s ++ keysP (l.take j))) (s ++ keysP (l.take (j + 1))) (fun x => by rw [keys_take hj]; simp only [List.mem_cons, List.mem_append, List.mem_nil_iff, or_false]; constructor <;> (rintro (h | h | h) <;> simp [h]))]
theorem nodup_rec {rec : List Pr} (k : List UInt8) (v : Option (List UInt8)) (h : (keysP rec).Nodup) : (keysP (recN rec k v)).Nodup := by
 cases v with
 | none => exact h
 | some y =>
  unfold recN keysP
  rw [List.map_append, List.nodup_append]
  refine ⟨?_, by simp, ?_⟩
  ·exact List.Nodup.sublist (List.Sublist.map _ (List.filter_sublist)) h
  ·intro a ha b hb
   obtain ⟨q, hq, e⟩ := List.mem_map.1 ha
   have := (List.mem_filter.1 hq).2
   simp only [List.map_cons, List.map_nil, List.mem_singleton] at hb
   subst hb e
   simpa using this
theorem goN_cons (f : Pr → Option (List UInt8) × Option (List UInt8)) (p : Pr) (l rec : List Pr) : goN f (p :: l) rec = (asP p.k (f p).1 ++ (goN f l (recN rec p.k (f p).2)).1, (goN f l (recN rec p.k (f p).2)).2) := rfl
theorem goN_nodup (f : Pr → Option (List UInt8) × Option (List UInt8)) : ∀ (l rec : List Pr), (keysP rec).Nodup → (keysP (goN f l rec).2).Nodup
 | [], rec, h => h
 | p :: l, rec, h => goN_nodup f l _ (nodup_rec _ _ h)
theorem goN_from (f : Pr → Option (List UInt8) × Option (List UInt8)) (J : Pr → Prop) : ∀ (l rec : List Pr), (∀ q ∈ rec, J q) → (∀ p ∈ l, ∀ v, (f p).2 = some v → J ⟨p.k, v⟩) → ∀ q ∈ (goN f l rec).2, J q
 | [], rec, h, _ => h
 | p :: l, rec, h, hf => by
  refine goN_from f J l _ (fun q hq => ?_) (fun q hq => hf q (List.mem_cons_of_mem _ hq))
  cases hv : (f p).2 with
  | none => rw [hv] at hq; exact h q hq
  | some v =>
   rw [hv] at hq
   unfold recN at hq
   rcases List.mem_append.1 hq with hq | hq
   ·exact h q (List.mem_filter.1 hq).1
   ·rw [List.mem_singleton.1 hq]; exact hf p (List.mem_cons_self ..) v hv
structure Po where
 ad : List UInt8
 gr : Int
structure Cf where
 ts : List (List UInt8)
 ps : List Po
 us : List Us
 sn : List UInt8
 ss : List UInt8
 lim : Int
 own : List Pr
def nameOk (s : List UInt8) : Bool := decide (1 ≤ s.length ∧ s.length ≤ 100) && isVal s
theorem nameOk_is {s : List UInt8} (h : nameOk s = true) : 1 ≤ s.length ∧ s.length ≤ 100 ∧ isVal s = true := by
 unfold nameOk at h
 simp only [Bool.and_eq_true, decide_eq_true_eq] at h
 exact ⟨h.1.1, h.1.2, h.2⟩
def tsBad : Nat → List (List UInt8) → List (List UInt8) → Int × Int
 | _, _, [] => (0, -1)
 | i, seen, t :: l => if nameOk t = false ∨ t ∈ seen then (5, (i : Int)) else tsBad (i + 1) (seen ++ [t]) l
def poBad : Nat → List Po → Int × Int
 | _, [] => (0, -1)
 | i, p :: l => if nameOk p.ad = false then (5, (i : Int)) else if p.gr < 0 ∨ 65535 < p.gr then (2, (i : Int)) else poBad (i + 1) l
def usBad : Nat → List (List UInt8) → List Us → Int × Int
 | _, _, [] => (0, -1)
 | i, seen, u :: l => if u.nm ∈ seen ∨ nameOk u.nm = false ∨ nameOk u.sc = false then (5, (i : Int)) else usBad (i + 1) (seen ++ [u.nm]) l
def selfBad (a b : List UInt8) : Prop := ¬ (a = [] ∧ b = []) ∧ ¬ (nameOk a = true ∧ nameOk b = true)
instance (a b : List UInt8) : Decidable (selfBad a b) := by unfold selfBad; exact inferInstance
def restR (c : Cf) : Int × Int := if selfBad c.sn c.ss then (3, -1) else if c.lim < 512 ∨ 100000 < c.lim then (2, -1) else newN c.own
def tgtR (c : Cf) : Int × Int :=
 if 8 < c.ts.length ∨ 4 < c.ps.length ∨ 8 < c.us.length then (4, -1)
 else if (tsBad 0 [] c.ts).1 ≠ 0 then tsBad 0 [] c.ts
 else if (poBad 0 c.ps).1 ≠ 0 then poBad 0 c.ps
 else if (usBad 0 [] c.us).1 ≠ 0 then usBad 0 [] c.us
 else restR c
theorem tsBad_cons (i : Nat) (seen : List (List UInt8)) (t : List UInt8) (l : List (List UInt8)) : tsBad i seen (t :: l) = if nameOk t = false ∨ t ∈ seen then (5, (i : Int)) else tsBad (i + 1) (seen ++ [t]) l := rfl
theorem poBad_cons (i : Nat) (p : Po) (l : List Po) : poBad i (p :: l) = if nameOk p.ad = false then (5, (i : Int)) else if p.gr < 0 ∨ 65535 < p.gr then (2, (i : Int)) else poBad (i + 1) l := rfl
theorem usBad_cons (i : Nat) (seen : List (List UInt8)) (u : Us) (l : List Us) : usBad i seen (u :: l) = if u.nm ∈ seen ∨ nameOk u.nm = false ∨ nameOk u.sc = false then (5, (i : Int)) else usBad (i + 1) (seen ++ [u.nm]) l := rfl
def tgtR3 (c : Cf) : Int × Int := if (usBad 0 [] c.us).1 ≠ 0 then usBad 0 [] c.us else restR c
def tgtR2 (c : Cf) : Int × Int := if (poBad 0 c.ps).1 ≠ 0 then poBad 0 c.ps else tgtR3 c
theorem tgtR_much {c : Cf} (h : 8 < c.ts.length ∨ 4 < c.ps.length ∨ 8 < c.us.length) : tgtR c = (4, -1) := by unfold tgtR; rw [if_pos h]
theorem tgtR_few {c : Cf} (h : ¬ (8 < c.ts.length ∨ 4 < c.ps.length ∨ 8 < c.us.length)) : tgtR c = if (tsBad 0 [] c.ts).1 ≠ 0 then tsBad 0 [] c.ts else tgtR2 c := by unfold tgtR; rw [if_neg h]; rfl
theorem tsBad_ways : ∀ (l : List (List UInt8)) (i : Nat) (seen : List (List UInt8)), ((tsBad i seen l).1 = 0 ∧ tsBad i seen l = (0, -1) ∧ (∀ t ∈ l, nameOk t = true ∧ t ∉ seen) ∧ l.Nodup) ∨ ((tsBad i seen l).1 = 5 ∧ ¬ ((∀ t ∈ l, nameOk t = true ∧ t ∉ seen) ∧ l.Nodup))
 | [], i, seen => .inl ⟨rfl, rfl, fun t h => absurd h List.not_mem_nil, List.nodup_nil⟩
 | t :: l, i, seen => by
  unfold tsBad
  by_cases h : nameOk t = false ∨ t ∈ seen
  ·rw [if_pos h]
   refine .inr ⟨rfl, fun h2 => ?_⟩
   obtain ⟨h3, h4⟩ := h2.1 t List.mem_cons_self
   rcases h with h | h
   ·rw [h3] at h; cases h
   ·exact h4 h
  ·rw [if_neg h]
   have hn : nameOk t = true := by cases hh : nameOk t with
    | true => rfl
    | false => exact absurd (.inl hh) h
   have hs : t ∉ seen := fun hh => h (.inr hh)
   rcases tsBad_ways l (i + 1) (seen ++ [t]) with ⟨h1, h2, h3, h4⟩ | ⟨h1, h2⟩
   ·refine .inl ⟨h1, h2, fun x hx => ?_, ?_⟩
    ·rcases List.mem_cons.1 hx with rfl | hx
     ·exact ⟨hn, hs⟩
     ·exact ⟨(h3 x hx).1, fun hh => (h3 x hx).2 (List.mem_append_left _ hh)⟩
    ·exact List.nodup_cons.2 ⟨fun hh => (h3 t hh).2 (List.mem_append_right _ List.mem_cons_self), h4⟩
   ·refine .inr ⟨h1, fun hh => h2 ⟨fun x hx => ⟨(hh.1 x (List.mem_cons_of_mem _ hx)).1, fun hm => ?_⟩, (List.nodup_cons.1 hh.2).2⟩⟩
    rcases List.mem_append.1 hm with hm | hm
    ·exact (hh.1 x (List.mem_cons_of_mem _ hx)).2 hm
    ·rw [List.mem_singleton.1 hm] at hx
     exact (List.nodup_cons.1 hh.2).1 hx
theorem tsBad_ok {l : List (List UInt8)} : (tsBad 0 [] l).1 = 0 ↔ (∀ t ∈ l, nameOk t = true) ∧ l.Nodup := by
 rcases tsBad_ways l 0 [] with ⟨h1, _, h3, h4⟩ | ⟨h1, h2⟩
 ·exact ⟨fun _ => ⟨fun t h => (h3 t h).1, h4⟩, fun _ => h1⟩
 ·exact ⟨fun h => (by rw [h1] at h; cases h), fun h => absurd ⟨fun t ht => ⟨h.1 t ht, List.not_mem_nil⟩, h.2⟩ h2⟩
theorem poBad_ways : ∀ (l : List Po) (i : Nat), ((poBad i l).1 = 0 ∧ poBad i l = (0, -1) ∧ (∀ p ∈ l, nameOk p.ad = true ∧ 0 ≤ p.gr ∧ p.gr ≤ 65535)) ∨ ((poBad i l).1 ≠ 0 ∧ ¬ (∀ p ∈ l, nameOk p.ad = true ∧ 0 ≤ p.gr ∧ p.gr ≤ 65535))
 | [], i => .inl ⟨rfl, rfl, fun t h => absurd h List.not_mem_nil⟩
 | p :: l, i => by
  unfold poBad
  by_cases h : nameOk p.ad = false
  ·rw [if_pos h]
   exact .inr ⟨by simp, fun h2 => by rw [(h2 p List.mem_cons_self).1] at h; cases h⟩
  ·rw [if_neg h]
   have hn : nameOk p.ad = true := by cases hh : nameOk p.ad with
    | true => rfl
    | false => exact absurd hh h
   by_cases hg : p.gr < 0 ∨ 65535 < p.gr
   ·rw [if_pos hg]
    exact .inr ⟨by simp, fun h2 => by have := (h2 p List.mem_cons_self).2; omega⟩
   ·rw [if_neg hg]
    rcases poBad_ways l (i + 1) with ⟨h1, h2, h3⟩ | ⟨h1, h2⟩
    ·refine .inl ⟨h1, h2, fun x hx => ?_⟩
     rcases List.mem_cons.1 hx with rfl | hx
     ·exact ⟨hn, by omega, by omega⟩
     ·exact h3 x hx
    ·exact .inr ⟨h1, fun hh => h2 fun x hx => hh x (List.mem_cons_of_mem _ hx)⟩
theorem poBad_ok {l : List Po} : (poBad 0 l).1 = 0 ↔ ∀ p ∈ l, nameOk p.ad = true ∧ 0 ≤ p.gr ∧ p.gr ≤ 65535 := by
 rcases poBad_ways l 0 with ⟨h1, _, h3⟩ | ⟨h1, h2⟩
 ·exact ⟨fun _ => h3, fun _ => h1⟩
 ·exact ⟨fun h => absurd h h1, fun h => absurd h h2⟩
theorem usBad_ways : ∀ (l : List Us) (i : Nat) (seen : List (List UInt8)), ((usBad i seen l).1 = 0 ∧ usBad i seen l = (0, -1) ∧ (∀ u ∈ l, nameOk u.nm = true ∧ nameOk u.sc = true ∧ u.nm ∉ seen) ∧ (l.map (·.nm)).Nodup) ∨ ((usBad i seen l).1 = 5 ∧ ¬ ((∀ u ∈ l, nameOk u.nm = true ∧ nameOk u.sc = true ∧ u.nm ∉ seen) ∧ (l.map (·.nm)).Nodup))
 | [], i, seen => .inl ⟨rfl, rfl, fun t h => absurd h List.not_mem_nil, List.nodup_nil⟩
 | u :: l, i, seen => by
  unfold usBad
  by_cases h : u.nm ∈ seen ∨ nameOk u.nm = false ∨ nameOk u.sc = false
  ·rw [if_pos h]
   refine .inr ⟨rfl, fun h2 => ?_⟩
   obtain ⟨h3, h4, h5⟩ := h2.1 u List.mem_cons_self
   rcases h with h | h | h
   ·exact h5 h
   ·rw [h3] at h; cases h
   ·rw [h4] at h; cases h
  ·rw [if_neg h]
   have hs : u.nm ∉ seen := fun hh => h (.inl hh)
   have hn : nameOk u.nm = true := by cases hh : nameOk u.nm with
    | true => rfl
    | false => exact absurd (.inr (.inl hh)) h
   have hn2 : nameOk u.sc = true := by cases hh : nameOk u.sc with
    | true => rfl
    | false => exact absurd (.inr (.inr hh)) h
   rcases usBad_ways l (i + 1) (seen ++ [u.nm]) with ⟨h1, h2, h3, h4⟩ | ⟨h1, h2⟩
   ·refine .inl ⟨h1, h2, fun x hx => ?_, ?_⟩
    ·rcases List.mem_cons.1 hx with rfl | hx
     ·exact ⟨hn, hn2, hs⟩
     ·exact ⟨(h3 x hx).1, (h3 x hx).2.1, fun hh => (h3 x hx).2.2 (List.mem_append_left _ hh)⟩
    ·rw [List.map_cons]
     refine List.nodup_cons.2 ⟨fun hh => ?_, h4⟩
     obtain ⟨x, hx, he⟩ := List.mem_map.1 hh
     exact (h3 x hx).2.2 (List.mem_append_right _ (by rw [he]; exact List.mem_cons_self))
   ·refine .inr ⟨h1, fun hh => h2 ⟨fun x hx => ⟨(hh.1 x (List.mem_cons_of_mem _ hx)).1, (hh.1 x (List.mem_cons_of_mem _ hx)).2.1, fun hm => ?_⟩, ?_⟩⟩
    ·rcases List.mem_append.1 hm with hm | hm
     ·exact (hh.1 x (List.mem_cons_of_mem _ hx)).2.2 hm
     ·have := hh.2
      rw [List.map_cons] at this
      exact (List.nodup_cons.1 this).1 (List.mem_map.2 ⟨x, hx, List.mem_singleton.1 hm⟩)
    ·have := hh.2
     rw [List.map_cons] at this
     exact (List.nodup_cons.1 this).2
theorem usBad_ok {l : List Us} : (usBad 0 [] l).1 = 0 ↔ (∀ u ∈ l, nameOk u.nm = true ∧ nameOk u.sc = true) ∧ (l.map (·.nm)).Nodup := by
 rcases usBad_ways l 0 [] with ⟨h1, _, h3, h4⟩ | ⟨h1, h2⟩
 ·exact ⟨fun _ => ⟨fun t h => ⟨(h3 t h).1, (h3 t h).2.1⟩, h4⟩, fun _ => h1⟩
 ·exact ⟨fun h => (by rw [h1] at h; cases h), fun h => absurd ⟨fun t ht => ⟨(h.1 t ht).1, (h.1 t ht).2, List.not_mem_nil⟩, h.2⟩ h2⟩
structure CfOk (c : Cf) : Prop where
 nt : c.ts.length ≤ 8
 np : c.ps.length ≤ 4
 nu : c.us.length ≤ 8
 ts : (∀ t ∈ c.ts, nameOk t = true) ∧ c.ts.Nodup
 ps : ∀ p ∈ c.ps, nameOk p.ad = true ∧ 0 ≤ p.gr ∧ p.gr ≤ 65535
 us : (∀ u ∈ c.us, nameOk u.nm = true ∧ nameOk u.sc = true) ∧ (c.us.map (·.nm)).Nodup
 rest : (restR c).1 = 0
theorem tgtR_ok {c : Cf} : (tgtR c).1 = 0 ↔ CfOk c := by
 unfold tgtR
 by_cases h1 : 8 < c.ts.length ∨ 4 < c.ps.length ∨ 8 < c.us.length
 ·rw [if_pos h1]
  exact ⟨fun h => (by cases h), fun h => by have := h.nt; have := h.np; have := h.nu; omega⟩
 ·rw [if_neg h1]
  by_cases h2 : (tsBad 0 [] c.ts).1 ≠ 0
  ·rw [if_pos h2]
   exact ⟨fun h => absurd h h2, fun h => absurd (tsBad_ok.2 h.ts) h2⟩
  ·rw [if_neg h2]
   by_cases h3 : (poBad 0 c.ps).1 ≠ 0
   ·rw [if_pos h3]
    exact ⟨fun h => absurd h h3, fun h => absurd (poBad_ok.2 h.ps) h3⟩
   ·rw [if_neg h3]
    by_cases h4 : (usBad 0 [] c.us).1 ≠ 0
    ·rw [if_pos h4]
     exact ⟨fun h => absurd h h4, fun h => absurd (usBad_ok.2 h.us) h4⟩
    ·rw [if_neg h4]
     exact ⟨fun h => ⟨by omega, by omega, by omega, tsBad_ok.1 (by simpa using h2), poBad_ok.1 (by simpa using h3), usBad_ok.1 (by simpa using h4), h⟩, fun h => h.rest⟩
def nmK : List UInt8 := [84, 97, 114, 103, 101, 116, 78, 97, 109, 101]
def hasT (ts : List (List UInt8)) (name : List UInt8) : Bool := decide (name ∈ ts)
theorem decDigits_sign (u : Nat) : (Lib.decDigits u).all signB = true := by
 induction u using Nat.strongRecOn with
 | ind u ih =>
  have hd : ∀ d, d < 10 → signB (UInt8.ofNat (48 + d)) = true := by decide
  unfold Lib.decDigits
  by_cases h : u < 10
  ·rw [dif_pos h, List.all_cons, hd u h]; rfl
  ·rw [dif_neg h, List.all_append, ih (u / 10) (by omega), List.all_cons, hd (u % 10) (by omega)]; rfl
theorem decDigits_few : ∀ (k u : Nat), u < 10 ^ (k + 1) → (Lib.decDigits u).length ≤ k + 1
 | 0, u, h => by
  unfold Lib.decDigits
  rw [dif_pos (by omega)]; simp
 | k + 1, u, h => by
  unfold Lib.decDigits
  by_cases h1 : u < 10
  ·rw [dif_pos h1]; simp
  ·rw [dif_neg h1, List.length_append]
   have := decDigits_few k (u / 10) (by rw [Nat.pow_succ] at h; omega)
   simp only [List.length_singleton]; omega
end Go.Proofs.YtjbbbpgcegcbaaaGreatDoor
