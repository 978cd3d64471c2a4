/- LA06: several texts in one. -/
import Derived.Test.YtjbbbpgcegcbaaaGreatDoorLA01
import Derived.Test.YtjbbbpgcegcbaaaGreatDoorLA05
namespace Go.Proofs.YtjbbbpgcegcbaaaGreatDoor
open Go.RowKit
set_option linter.unusedVariables false
theorem rowOf_isKey {s : List UInt8} {k : Ke} (h : rowOf s = some k) : isKey s = true ∧ k.nm = s := by
 obtain ⟨h1, h2⟩ := rowOf_mem h
 have : ∀ k ∈ keRows, isKey k.nm = true := by decide +kernel
 exact ⟨by rw [← h2]; exact this k h1, h2⟩
theorem dec_lenN : ∀ (k n : Nat), n < 10 ^ (k + 1) → (Lib.decDigits n).length ≤ k + 1 := by
 intro k
 induction k with
 | zero => intro n hn; rw [Lib.decDigits_one (by simpa using hn)]; simp
 | succ k ih =>
  intro n hn
  by_cases h : n < 10
  ·rw [Lib.decDigits_one h]; simp
  ·rw [dec_step h, List.length_append, List.length_singleton]
   have := ih (n / 10) (by
    rw [Nat.pow_succ] at hn
    omega)
   omega
theorem isVal_mk {s : List UInt8} (h1 : s.length ≤ 255) (h2 : ∀ c ∈ s, 32 ≤ c.toNat ∧ c.toNat ≤ 126) : isVal s = true := by
 unfold isVal
 rw [Bool.and_eq_true, decide_eq_true_eq, List.all_eq_true]
 exact ⟨h1, fun c hc => by unfold signB; exact decide_eq_true (h2 c hc)⟩
theorem isVal_is {s : List UInt8} (h : isVal s = true) : s.length ≤ 255 ∧ ∀ c ∈ s, 32 ≤ c.toNat ∧ c.toNat ≤ 126 := by
 unfold isVal at h
 rw [Bool.and_eq_true, decide_eq_true_eq, List.all_eq_true] at h
 exact ⟨h.1, fun c hc => by have := h.2 c hc; unfold signB at this; exact of_decide_eq_true this⟩
theorem isVal_dec {n : Nat} (h : n < 1099511627776) : isVal (Lib.decDigits n) = true := by
 refine isVal_mk ?_ (fun c hc => ?_)
 ·have := dec_lenN 12 n (Nat.lt_of_lt_of_le h (by decide))
  omega
 ·have := dec_dig n n (Nat.le_refl _) c hc
  omega
theorem isVal_yes (b : Bool) : isVal (yesNo b) = true ∧ yesNo b ≠ [] := by cases b <;> exact ⟨by decide +kernel, by decide⟩
theorem split_sub (c : UInt8) : ∀ (n : Nat) (s x : List UInt8), s.length ≤ n → x ∈ split1 c s → ∀ b ∈ x, b ∈ s := by
 intro n
 induction n with
 | zero =>
  intro s x hn hx
  obtain rfl : s = [] := List.eq_nil_of_length_eq_zero (by omega)
  simp [split1] at hx
  rw [hx]; exact fun _ h => h
 | succ n ih =>
  intro s x hn hx b hb
  cases h : cut1 c s with
  | none =>
   rw [split1_none h] at hx
   rw [List.mem_singleton.1 hx] at hb
   exact hb
  | some q =>
   obtain ⟨a, r⟩ := q
   rw [split1_some h] at hx
   obtain ⟨hs, _⟩ := cut1_some h
   rw [hs]
   rcases List.mem_cons.1 hx with rfl | hx
   ·exact List.mem_append_left _ hb
   ·exact List.mem_append_right _ (List.mem_cons_of_mem _ (ih r x (by have := congrArg List.length hs; simp at this; omega) hx b hb))
theorem isVal_word {s x : List UInt8} (h : isVal s = true) (hx : x ∈ split1 44 s) : isVal x = true := by
 obtain ⟨h1, h2⟩ := isVal_is h
 have := (split1_sum 44 s.length s (Nat.le_refl _)).1 x hx
 exact isVal_mk (by omega) (fun c hc => h2 c (split_sub 44 s.length s x (Nat.le_refl _) hx c hc))
theorem numR_ne {s : List UInt8} {n : Nat} (h : numR s = some n) : s ≠ [] := by
 rintro rfl
 rw [show numR [] = none by decide +kernel] at h
 cases h
theorem fit_ne {k : Ke} {v : List UInt8} (hk : 1 ≤ k.kd ∧ k.kd ≤ 7) (h : fitK k v = 0) : v ≠ [] := by
 have hc : (k.kd = 1 ∨ k.kd = 2) ∨ (k.kd = 3 ∨ k.kd = 4 ∨ k.kd = 7) ∨ k.kd = 5 ∨ k.kd = 6 := by omega
 rcases hc with hc | hc | hc | hc
 ·rcases fitK_yes0 hc h with rfl | rfl <;> decide
 ·obtain ⟨n, hn, _⟩ := fitK_num0 hc h
  exact numR_ne hn
 ·have := (fitK_list0 hc h).1
  rintro rfl
  exact this.1 [] (by simp [split1]) rfl
 ·rw [fitK_told hc] at h
  rintro rfl
  simp at h
theorem resOk_val {k : Ke} {a b : List UInt8} (hk : 1 ≤ k.kd ∧ k.kd ≤ 7) (hh : k.hi ≤ 16777215) (ha : isVal a = true) (f1 : fitK k a = 0) (f2 : fitK k b = 0) (h : (resOk k a b).2 = 0) : isVal (resOk k a b).1 = true ∧ (resOk k a b).1 ≠ [] := by
 have hc : k.kd = 1 ∨ k.kd = 2 ∨ k.kd = 3 ∨ k.kd = 4 ∨ k.kd = 5 ∨ (k.kd = 6 ∨ k.kd = 7) := by omega
 rcases hc with hc | hc | hc | hc | hc | hc
 ·rw [resOk_and a b hc]; exact isVal_yes _
 ·rw [resOk_or a b hc]; exact isVal_yes _
 ·obtain ⟨n, hn, n1, n2⟩ := fitK_num0 (.inl hc) f1
  obtain ⟨m, hm, m1, m2⟩ := fitK_num0 (.inl hc) f2
  rw [resOk_least a b hc, numD_of hn, numD_of hm]
  exact ⟨isVal_dec (by omega), dec_ne _⟩
 ·obtain ⟨n, hn, n1, n2⟩ := fitK_num0 (.inr (.inl hc)) f1
  obtain ⟨m, hm, m1, m2⟩ := fitK_num0 (.inr (.inl hc)) f2
  rw [resOk_most a b hc, numD_of hn, numD_of hm]
  exact ⟨isVal_dec (by omega), dec_ne _⟩
 ·rw [resOk_first a b hc] at h ⊢
  cases hx : firstR a b with
  | none => rw [hx] at h; cases h
  | some x =>
   simp only
   obtain ⟨x1, _⟩ := firstR_some hx
   exact ⟨isVal_word ha x1, (fitK_list0 hc f1).1.1 x x1⟩
 ·rw [resOk_told a b hc]
  exact ⟨ha, fit_ne hk f1⟩
theorem resK_fits {k : Ke} {a b : List UInt8} (h : (resK k a b).2 = 0) : fitK k a = 0 ∧ fitK k b = 0 := by
 have ha : fitK k a = 0 := by
  rcases Nat.eq_zero_or_pos (fitK k a) with h0 | h0
  ·exact h0
  ·rw [resK_off (by omega)] at h; exact absurd h (by simp only; omega)
 refine ⟨ha, ?_⟩
 rcases Nat.eq_zero_or_pos (fitK k b) with h0 | h0
 ·exact h0
 ·rw [resK_own ha (by omega)] at h; exact absurd h (by simp only; omega)
theorem resK_val {k : Ke} {a b : List UInt8} (hk : 1 ≤ k.kd ∧ k.kd ≤ 7) (hh : k.hi ≤ 16777215) (ha : isVal a = true) (h : (resK k a b).2 = 0) : isVal (resK k a b).1 = true ∧ (resK k a b).1 ≠ [] := by
 obtain ⟨f1, f2⟩ := resK_fits h
 rw [resK_ok f1 f2] at h ⊢
 exact resOk_val hk hh ha f1 f2 h
theorem oneK_rej {mine : List Pr} {k : Ke} {v : List UInt8} {lg dc : Bool} (h : ¬ (k.lg = true ∧ lg = false)) (h2 : ¬ (k.no = true ∧ dc = true)) (h3 : fitK k v ≠ 0) : oneK mine k v lg dc = (some rejL, none) := by unfold oneK; rw [if_neg h, if_neg h2, if_pos h3]
theorem oneK_told {mine : List Pr} {k : Ke} {v : List UInt8} {lg dc : Bool} (h : ¬ (k.lg = true ∧ lg = false)) (h2 : ¬ (k.no = true ∧ dc = true)) (h3 : fitK k v = 0) (h4 : k.kd = 6 ∨ k.kd = 7) : oneK mine k v lg dc = (none, some v) := by unfold oneK; rw [if_neg h, if_neg h2, if_neg (by simpa using h3), if_pos h4]
theorem oneK_none {mine : List Pr} {k : Ke} {v : List UInt8} {lg dc : Bool} (h : ¬ (k.lg = true ∧ lg = false)) (h2 : ¬ (k.no = true ∧ dc = true)) (h3 : fitK k v = 0) (h4 : ¬ (k.kd = 6 ∨ k.kd = 7)) (h5 : (resK k v (ownV mine k)).2 ≠ 0) : oneK mine k v lg dc = (some rejL, none) := by unfold oneK; rw [if_neg h, if_neg h2, if_neg (by simpa using h3), if_neg h4, if_pos h5]
theorem oneK_res {mine : List Pr} {k : Ke} {v : List UInt8} {lg dc : Bool} (h : ¬ (k.lg = true ∧ lg = false)) (h2 : ¬ (k.no = true ∧ dc = true)) (h3 : fitK k v = 0) (h4 : ¬ (k.kd = 6 ∨ k.kd = 7)) (h5 : (resK k v (ownV mine k)).2 = 0) : oneK mine k v lg dc = (some (resK k v (ownV mine k)).1, some (resK k v (ownV mine k)).1) := by unfold oneK; rw [if_neg h, if_neg h2, if_neg (by simpa using h3), if_neg h4, if_neg (by simpa using h5)]
theorem oneK_ways (mine : List Pr) (k : Ke) (v : List UInt8) (lg dc : Bool) :
  ((k.lg = true ∧ lg = false) ∧ oneK mine k v lg dc = (some rejL, none)) ∨
  (¬ (k.lg = true ∧ lg = false) ∧ (k.no = true ∧ dc = true) ∧ oneK mine k v lg dc = (some irrL, none)) ∨
  (¬ (k.lg = true ∧ lg = false) ∧ ¬ (k.no = true ∧ dc = true) ∧ fitK k v ≠ 0 ∧ oneK mine k v lg dc = (some rejL, none)) ∨
  (¬ (k.lg = true ∧ lg = false) ∧ ¬ (k.no = true ∧ dc = true) ∧ fitK k v = 0 ∧ (k.kd = 6 ∨ k.kd = 7) ∧ oneK mine k v lg dc = (none, some v)) ∨
  (¬ (k.lg = true ∧ lg = false) ∧ ¬ (k.no = true ∧ dc = true) ∧ fitK k v = 0 ∧ ¬ (k.kd = 6 ∨ k.kd = 7) ∧ (resK k v (ownV mine k)).2 ≠ 0 ∧ oneK mine k v lg dc = (some rejL, none)) ∨
  (¬ (k.lg = true ∧ lg = false) ∧ ¬ (k.no = true ∧ dc = true) ∧ fitK k v = 0 ∧ ¬ (k.kd = 6 ∨ k.kd = 7) ∧ (resK k v (ownV mine k)).2 = 0 ∧ oneK mine k v lg dc = (some (resK k v (ownV mine k)).1, some (resK k v (ownV mine k)).1)) := by
 by_cases h1 : k.lg = true ∧ lg = false
 ·refine .inl ⟨h1, ?_⟩
  unfold oneK; rw [if_pos h1]
 ·by_cases h2 : k.no = true ∧ dc = true
  ·refine .inr (.inl ⟨h1, h2, ?_⟩)
   unfold oneK; rw [if_neg h1, if_pos h2]
  ·by_cases h3 : fitK k v = 0
   ·by_cases h4 : k.kd = 6 ∨ k.kd = 7
    ·exact .inr (.inr (.inr (.inl ⟨h1, h2, h3, h4, oneK_told h1 h2 h3 h4⟩)))
    ·by_cases h5 : (resK k v (ownV mine k)).2 = 0
     ·exact .inr (.inr (.inr (.inr (.inr ⟨h1, h2, h3, h4, h5, oneK_res h1 h2 h3 h4 h5⟩))))
     ·exact .inr (.inr (.inr (.inr (.inl ⟨h1, h2, h3, h4, h5, oneK_none h1 h2 h3 h4 h5⟩))))
   ·exact .inr (.inr (.inl ⟨h1, h2, h3, oneK_rej h1 h2 h3⟩))
theorem oneK_rec {mine : List Pr} {k : Ke} {v x : List UInt8} {lg dc : Bool} (hk : 1 ≤ k.kd ∧ k.kd ≤ 7) (hh : k.hi ≤ 16777215) (hv : isVal v = true) (h : (oneK mine k v lg dc).2 = some x) : fitK k x = 0 ∧ isVal x = true ∧ x ≠ [] := by
 rcases oneK_ways mine k v lg dc with ⟨_, e⟩ | ⟨_, _, e⟩ | ⟨_, _, _, e⟩ | ⟨_, _, h3, h4, e⟩ | ⟨_, _, _, _, _, e⟩ | ⟨_, _, h3, h4, h5, e⟩
 all_goals rw [e] at h
 all_goals try (cases h; done)
 ·cases h
  exact ⟨h3, hv, fit_ne hk h3⟩
 ·cases h
  exact ⟨(resK_again hk hh h5).1, resK_val hk hh hv h5⟩
theorem oneK_said {mine : List Pr} {k : Ke} {v x : List UInt8} {lg dc : Bool} (hk : 1 ≤ k.kd ∧ k.kd ≤ 7) (hh : k.hi ≤ 16777215) (hv : isVal v = true) (h : (oneK mine k v lg dc).1 = some x) : x ≠ [] := by
 rcases oneK_ways mine k v lg dc with ⟨_, e⟩ | ⟨_, _, e⟩ | ⟨_, _, _, e⟩ | ⟨_, _, h3, h4, e⟩ | ⟨_, _, _, _, _, e⟩ | ⟨_, _, h3, h4, h5, e⟩
 all_goals rw [e] at h
 all_goals try (cases h; done)
 ·cases h; decide
 ·cases h; decide
 ·cases h; decide
 ·cases h; decide
 ·cases h
  exact (resK_val hk hh hv h5).2
theorem oneN_row {mine : List Pr} {lg dc : Bool} {p : Pr} {k : Ke} (h : rowOf p.k = some k) : oneN mine lg dc p = oneK mine k p.v lg dc := by unfold oneN; rw [h]
theorem oneN_no {mine : List Pr} {lg dc : Bool} {p : Pr} (h : rowOf p.k = none) : oneN mine lg dc p = (some notL, none) := by unfold oneN; rw [h]
def RecP (p : Pr) : Prop := ∃ k, rowOf p.k = some k ∧ fitK k p.v = 0 ∧ wrongP p = 0 ∧ p.v ≠ []
theorem oneN_rec {mine : List Pr} {lg dc : Bool} {p : Pr} {x : List UInt8} (hp : wrongP p = 0) (h : (oneN mine lg dc p).2 = some x) : RecP ⟨p.k, x⟩ := by
 cases hr : rowOf p.k with
 | none => rw [oneN_no hr] at h; cases h
 | some k =>
  rw [oneN_row hr] at h
  have hk := rowOf_ok hr
  obtain ⟨h1, h2, h3⟩ := oneK_rec ⟨hk.2.2.1, hk.2.2.2.1⟩ hk.2.1 (wrongP_ok hp).2 h
  refine ⟨k, hr, h1, ?_, h3⟩
  unfold wrongP
  simp only
  rw [if_pos (wrongP_ok hp).1, if_pos h2]
structure RecOk (rec : List Pr) : Prop where
 one : (keysP rec).Nodup
 each : ∀ p ∈ rec, RecP p
theorem recOk_nil : RecOk [] := ⟨List.nodup_nil, fun _ h => absurd h List.not_mem_nil⟩
theorem goN_ok {mine rec l : List Pr} {lg dc : Bool} (h : RecOk rec) (hl : okPs l) : RecOk (goN (oneN mine lg dc) l rec).2 :=
 ⟨goN_nodup _ l rec h.one, goN_from _ RecP l rec h.each (fun p hp v hv => oneN_rec (hl p hp) hv)⟩
theorem ansN_ok {mine rec l : List Pr} {lg dc : Bool} (h : RecOk rec) : RecOk (ansN mine rec l lg dc).2 := by
 unfold ansN
 by_cases h1 : (prRight l).1 ≠ 0
 ·rw [if_pos h1]; exact h
 ·rw [if_neg h1]
  cases twiceF 0 (if lg = true then keysP rec else []) l with
  | some i => exact h
  | none => exact goN_ok h (prRight_is (by simpa using h1)).1
theorem keys_sub : ∀ {l m : List (List UInt8)}, l.Nodup → (∀ x ∈ l, x ∈ m) → l.length ≤ m.length
 | [], m, _, _ => by simp
 | a :: l, m, h, hs => by
  rw [List.nodup_cons] at h
  have ha := hs a (List.mem_cons_self ..)
  have := keys_sub (l := l) (m := m.erase a) h.2 (fun x hx => (List.mem_erase_of_ne (fun e => h.1 (by rw [← e]; exact hx))).2 (hs x (List.mem_cons_of_mem _ hx)))
  rw [List.length_erase_of_mem ha] at this
  have := List.length_pos_of_mem ha
  simp only [List.length_cons]
  omega
theorem RecOk.few {rec : List Pr} (h : RecOk rec) : rec.length ≤ 18 := by
 have h1 := keys_sub (m := keNames) h.one (fun x hx => by
  obtain ⟨p, hp, rfl⟩ := List.mem_map.1 hx
  obtain ⟨k, hr, _⟩ := h.each p hp
  obtain ⟨a, b⟩ := rowOf_mem hr
  rw [← b]
  exact List.mem_map.2 ⟨k, a, rfl⟩)
 unfold keysP at h1
 rw [List.length_map] at h1
 exact h1
theorem ansN_bad {mine rec l : List Pr} {lg dc : Bool} (h : (prRight l).1 ≠ 0) : ansN mine rec l lg dc = (([], prRight l), rec) := by unfold ansN; rw [if_pos h]
theorem ansN_twice {mine rec l : List Pr} {lg dc : Bool} {i : Nat} (h : (prRight l).1 = 0) (h2 : twiceF 0 (if lg = true then keysP rec else []) l = some i) : ansN mine rec l lg dc = (([], 9, (i : Int)), rec) := by unfold ansN; rw [if_neg (by simpa using h), h2]
theorem ansN_go {mine rec l : List Pr} {lg dc : Bool} (h : (prRight l).1 = 0) (h2 : twiceF 0 (if lg = true then keysP rec else []) l = none) : ansN mine rec l lg dc = (((goN (oneN mine lg dc) l rec).1, 0, -1), (goN (oneN mine lg dc) l rec).2) := by unfold ansN; rw [if_neg (by simpa using h), h2]
theorem ansN_err {mine rec l : List Pr} {lg dc : Bool} (h : (ansN mine rec l lg dc).1.2.1 ≠ 0) : (ansN mine rec l lg dc).1.1 = [] ∧ (ansN mine rec l lg dc).2 = rec := by
 by_cases h1 : (prRight l).1 = 0
 ·cases ht : twiceF 0 (if lg = true then keysP rec else []) l with
  | some i => rw [ansN_twice h1 ht]; exact ⟨rfl, rfl⟩
  | none => rw [ansN_go h1 ht] at h; exact absurd rfl h
 ·rw [ansN_bad h1]; exact ⟨rfl, rfl⟩
theorem ansN_good {mine rec l : List Pr} {lg dc : Bool} (h : (ansN mine rec l lg dc).1.2.1 = 0) : okPs l ∧ l.length ≤ 60 ∧ (keysP l).Nodup ∧ (lg = true → ∀ p ∈ l, p.k ∉ keysP rec) ∧ ansN mine rec l lg dc = (((goN (oneN mine lg dc) l rec).1, 0, -1), (goN (oneN mine lg dc) l rec).2) := by
 by_cases h1 : (prRight l).1 = 0
 ·cases ht : twiceF 0 (if lg = true then keysP rec else []) l with
  | some i => rw [ansN_twice h1 ht] at h; exact absurd h (show ¬ (9 : Int) = 0 by decide)
  | none =>
   obtain ⟨a, b, _⟩ := prRight_is h1
   obtain ⟨c, d⟩ := (twiceF_none l 0 _).1 ht
   exact ⟨a, b, c, fun hl p hp => by have := d p hp; rwa [if_pos hl] at this, ansN_go h1 ht⟩
 ·rw [ansN_bad h1] at h; exact absurd h h1
theorem prFind_iff {l : List Pr} {k : List UInt8} : (prFind l k).isSome = true ↔ k ∈ keysP l := by
 cases hf : prFind l k with
 | none =>
  refine ⟨fun h => (by cases h), fun h => ?_⟩
  obtain ⟨p, hp, e⟩ := List.mem_map.1 h
  exact absurd e (prFind_none hf p hp)
 | some v =>
  obtain ⟨j, hj, e⟩ := prFind_some hf
  exact ⟨fun _ => List.mem_map.2 ⟨l[j], List.getElem_mem hj, by rw [e]⟩, fun _ => rfl⟩
end Go.Proofs.YtjbbbpgcegcbaaaGreatDoor
namespace Go.Proofs.YtjbbbpgcegcbaaaGreatDoor
structure Fd where
 nm : List UInt8
 pos : Nat
 sz : Nat
 deriving DecidableEq
structure Kd where
 op : Nat
 nm : List UInt8
 fl : Nat
 fs : List Fd
 tx : List UInt8
def kd0 : Kd := ⟨0, [78, 111, 112, 79, 117, 116], 128,
 [⟨[76, 85, 78], 8, 8⟩, ⟨[73, 84, 84], 16, 4⟩, ⟨[84, 84, 84], 20, 4⟩, ⟨[67, 109, 100, 83, 78], 24, 4⟩, ⟨[69, 120, 112, 83, 116, 97, 116, 83, 78], 28, 4⟩],
 [76, 85, 78, 32, 56, 32, 56, 44, 32, 73, 84, 84, 32, 49, 54, 32, 52, 44, 32, 84, 84, 84, 32, 50, 48, 32, 52, 44, 32, 67, 109, 100, 83, 78, 32, 50, 52, 32, 52, 44, 32, 69, 120, 112, 83, 116, 97, 116, 83, 78, 32, 50, 56, 32, 52]⟩
def kd1 : Kd := ⟨1, [83, 99, 115, 105, 67, 111, 109, 109, 97, 110, 100], 231,
 [⟨[76, 85, 78], 8, 8⟩, ⟨[73, 84, 84], 16, 4⟩, ⟨[76, 101, 110, 103, 116, 104], 20, 4⟩, ⟨[67, 109, 100, 83, 78], 24, 4⟩, ⟨[69, 120, 112, 83, 116, 97, 116, 83, 78], 28, 4⟩, ⟨[67, 100, 98, 65], 32, 8⟩, ⟨[67, 100, 98, 66], 40, 8⟩],
 [76, 85, 78, 32, 56, 32, 56, 44, 32, 73, 84, 84, 32, 49, 54, 32, 52, 44, 32, 76, 101, 110, 103, 116, 104, 32, 50, 48, 32, 52, 44, 32, 67, 109, 100, 83, 78, 32, 50, 52, 32, 52, 44, 32, 69, 120, 112, 83, 116, 97, 116, 83, 78, 32, 50, 56, 32, 52, 44, 32, 67, 100, 98, 65, 32, 51, 50, 32, 56, 44, 32, 67, 100, 98, 66, 32, 52, 48, 32, 56]⟩
def kd2 : Kd := ⟨2, [84, 97, 115, 107, 82, 101, 113, 117, 101, 115, 116], 255,
 [⟨[76, 85, 78], 8, 8⟩, ⟨[73, 84, 84], 16, 4⟩, ⟨[82, 101, 102, 84, 97, 103], 20, 4⟩, ⟨[67, 109, 100, 83, 78], 24, 4⟩, ⟨[69, 120, 112, 83, 116, 97, 116, 83, 78], 28, 4⟩, ⟨[82, 101, 102, 67, 109, 100, 83, 78], 32, 4⟩, ⟨[69, 120, 112, 68, 97, 116, 97, 83, 78], 36, 4⟩],
 [76, 85, 78, 32, 56, 32, 56, 44, 32, 73, 84, 84, 32, 49, 54, 32, 52, 44, 32, 82, 101, 102, 84, 97, 103, 32, 50, 48, 32, 52, 44, 32, 67, 109, 100, 83, 78, 32, 50, 52, 32, 52, 44, 32, 69, 120, 112, 83, 116, 97, 116, 83, 78, 32, 50, 56, 32, 52, 44, 32, 82, 101, 102, 67, 109, 100, 83, 78, 32, 51, 50, 32, 52, 44, 32, 69, 120, 112, 68, 97, 116, 97, 83, 78, 32, 51, 54, 32, 52]⟩
def kd3 : Kd := ⟨3, [76, 111, 103, 105, 110, 82, 101, 113, 117, 101, 115, 116], 207,
 [⟨[86, 101, 114, 115, 105, 111, 110, 77, 97, 120], 2, 1⟩, ⟨[86, 101, 114, 115, 105, 111, 110, 77, 105, 110], 3, 1⟩, ⟨[73, 83, 73, 68], 8, 6⟩, ⟨[84, 83, 73, 72], 14, 2⟩, ⟨[73, 84, 84], 16, 4⟩, ⟨[67, 73, 68], 20, 2⟩, ⟨[67, 109, 100, 83, 78], 24, 4⟩, ⟨[69, 120, 112, 83, 116, 97, 116, 83, 78], 28, 4⟩],
 [86, 101, 114, 115, 105, 111, 110, 77, 97, 120, 32, 50, 32, 49, 44, 32, 86, 101, 114, 115, 105, 111, 110, 77, 105, 110, 32, 51, 32, 49, 44, 32, 73, 83, 73, 68, 32, 56, 32, 54, 44, 32, 84, 83, 73, 72, 32, 49, 52, 32, 50, 44, 32, 73, 84, 84, 32, 49, 54, 32, 52, 44, 32, 67, 73, 68, 32, 50, 48, 32, 50, 44, 32, 67, 109, 100, 83, 78, 32, 50, 52, 32, 52, 44, 32, 69, 120, 112, 83, 116, 97, 116, 83, 78, 32, 50, 56, 32, 52]⟩
def kd4 : Kd := ⟨4, [84, 101, 120, 116, 82, 101, 113, 117, 101, 115, 116], 192,
 [⟨[76, 85, 78], 8, 8⟩, ⟨[73, 84, 84], 16, 4⟩, ⟨[84, 84, 84], 20, 4⟩, ⟨[67, 109, 100, 83, 78], 24, 4⟩, ⟨[69, 120, 112, 83, 116, 97, 116, 83, 78], 28, 4⟩],
 [76, 85, 78, 32, 56, 32, 56, 44, 32, 73, 84, 84, 32, 49, 54, 32, 52, 44, 32, 84, 84, 84, 32, 50, 48, 32, 52, 44, 32, 67, 109, 100, 83, 78, 32, 50, 52, 32, 52, 44, 32, 69, 120, 112, 83, 116, 97, 116, 83, 78, 32, 50, 56, 32, 52]⟩
def kd5 : Kd := ⟨5, [68, 97, 116, 97, 79, 117, 116], 128,
 [⟨[76, 85, 78], 8, 8⟩, ⟨[73, 84, 84], 16, 4⟩, ⟨[84, 84, 84], 20, 4⟩, ⟨[69, 120, 112, 83, 116, 97, 116, 83, 78], 28, 4⟩, ⟨[68, 97, 116, 97, 83, 78], 36, 4⟩, ⟨[79, 102, 102, 115, 101, 116], 40, 4⟩],
 [76, 85, 78, 32, 56, 32, 56, 44, 32, 73, 84, 84, 32, 49, 54, 32, 52, 44, 32, 84, 84, 84, 32, 50, 48, 32, 52, 44, 32, 69, 120, 112, 83, 116, 97, 116, 83, 78, 32, 50, 56, 32, 52, 44, 32, 68, 97, 116, 97, 83, 78, 32, 51, 54, 32, 52, 44, 32, 79, 102, 102, 115, 101, 116, 32, 52, 48, 32, 52]⟩
def kd6 : Kd := ⟨6, [76, 111, 103, 111, 117, 116, 82, 101, 113, 117, 101, 115, 116], 255,
 [⟨[73, 84, 84], 16, 4⟩, ⟨[67, 73, 68], 20, 2⟩, ⟨[67, 109, 100, 83, 78], 24, 4⟩, ⟨[69, 120, 112, 83, 116, 97, 116, 83, 78], 28, 4⟩],
 [73, 84, 84, 32, 49, 54, 32, 52, 44, 32, 67, 73, 68, 32, 50, 48, 32, 50, 44, 32, 67, 109, 100, 83, 78, 32, 50, 52, 32, 52, 44, 32, 69, 120, 112, 83, 116, 97, 116, 83, 78, 32, 50, 56, 32, 52]⟩
def kd7 : Kd := ⟨16, [83, 110, 97, 99, 107], 143,
 [⟨[76, 85, 78], 8, 8⟩, ⟨[73, 84, 84], 16, 4⟩, ⟨[84, 84, 84], 20, 4⟩, ⟨[69, 120, 112, 83, 116, 97, 116, 83, 78], 28, 4⟩, ⟨[66, 101, 103, 82, 117, 110], 40, 4⟩, ⟨[82, 117, 110, 76, 101, 110, 103, 116, 104], 44, 4⟩],
 [76, 85, 78, 32, 56, 32, 56, 44, 32, 73, 84, 84, 32, 49, 54, 32, 52, 44, 32, 84, 84, 84, 32, 50, 48, 32, 52, 44, 32, 69, 120, 112, 83, 116, 97, 116, 83, 78, 32, 50, 56, 32, 52, 44, 32, 66, 101, 103, 82, 117, 110, 32, 52, 48, 32, 52, 44, 32, 82, 117, 110, 76, 101, 110, 103, 116, 104, 32, 52, 52, 32, 52]⟩
def kd8 : Kd := ⟨32, [78, 111, 112, 73, 110], 128,
 [⟨[76, 85, 78], 8, 8⟩, ⟨[73, 84, 84], 16, 4⟩, ⟨[84, 84, 84], 20, 4⟩, ⟨[83, 116, 97, 116, 83, 78], 24, 4⟩, ⟨[69, 120, 112, 67, 109, 100, 83, 78], 28, 4⟩, ⟨[77, 97, 120, 67, 109, 100, 83, 78], 32, 4⟩],
 [76, 85, 78, 32, 56, 32, 56, 44, 32, 73, 84, 84, 32, 49, 54, 32, 52, 44, 32, 84, 84, 84, 32, 50, 48, 32, 52, 44, 32, 83, 116, 97, 116, 83, 78, 32, 50, 52, 32, 52, 44, 32, 69, 120, 112, 67, 109, 100, 83, 78, 32, 50, 56, 32, 52, 44, 32, 77, 97, 120, 67, 109, 100, 83, 78, 32, 51, 50, 32, 52]⟩
def kd9 : Kd := ⟨33, [83, 99, 115, 105, 82, 101, 115, 112, 111, 110, 115, 101], 158,
 [⟨[82, 101, 115, 112, 111, 110, 115, 101], 2, 1⟩, ⟨[83, 116, 97, 116, 117, 115], 3, 1⟩, ⟨[73, 84, 84], 16, 4⟩, ⟨[83, 110, 97, 99, 107, 84, 97, 103], 20, 4⟩, ⟨[83, 116, 97, 116, 83, 78], 24, 4⟩, ⟨[69, 120, 112, 67, 109, 100, 83, 78], 28, 4⟩, ⟨[77, 97, 120, 67, 109, 100, 83, 78], 32, 4⟩, ⟨[69, 120, 112, 68, 97, 116, 97, 83, 78], 36, 4⟩, ⟨[66, 105, 100, 105, 82, 101, 115, 105, 100, 117, 97, 108], 40, 4⟩, ⟨[82, 101, 115, 105, 100, 117, 97, 108], 44, 4⟩],
 [82, 101, 115, 112, 111, 110, 115, 101, 32, 50, 32, 49, 44, 32, 83, 116, 97, 116, 117, 115, 32, 51, 32, 49, 44, 32, 73, 84, 84, 32, 49, 54, 32, 52, 44, 32, 83, 110, 97, 99, 107, 84, 97, 103, 32, 50, 48, 32, 52, 44, 32, 83, 116, 97, 116, 83, 78, 32, 50, 52, 32, 52, 44, 32, 69, 120, 112, 67, 109, 100, 83, 78, 32, 50, 56, 32, 52, 44, 32, 77, 97, 120, 67, 109, 100, 83, 78, 32, 51, 50, 32, 52, 44, 32, 69, 120, 112, 68, 97, 116, 97, 83, 78, 32, 51, 54, 32, 52, 44, 32, 66, 105, 100, 105, 82, 101, 115, 105, 100, 117, 97, 108, 32, 52, 48, 32, 52, 44, 32, 82, 101, 115, 105, 100, 117, 97, 108, 32, 52, 52, 32, 52]⟩
def kd10 : Kd := ⟨34, [84, 97, 115, 107, 82, 101, 115, 112, 111, 110, 115, 101], 128,
 [⟨[82, 101, 115, 112, 111, 110, 115, 101], 2, 1⟩, ⟨[73, 84, 84], 16, 4⟩, ⟨[83, 116, 97, 116, 83, 78], 24, 4⟩, ⟨[69, 120, 112, 67, 109, 100, 83, 78], 28, 4⟩, ⟨[77, 97, 120, 67, 109, 100, 83, 78], 32, 4⟩],
 [82, 101, 115, 112, 111, 110, 115, 101, 32, 50, 32, 49, 44, 32, 73, 84, 84, 32, 49, 54, 32, 52, 44, 32, 83, 116, 97, 116, 83, 78, 32, 50, 52, 32, 52, 44, 32, 69, 120, 112, 67, 109, 100, 83, 78, 32, 50, 56, 32, 52, 44, 32, 77, 97, 120, 67, 109, 100, 83, 78, 32, 51, 50, 32, 52]⟩
def kd11 : Kd := ⟨35, [76, 111, 103, 105, 110, 82, 101, 115, 112, 111, 110, 115, 101], 207,
 [⟨[86, 101, 114, 115, 105, 111, 110, 77, 97, 120], 2, 1⟩, ⟨[86, 101, 114, 115, 105, 111, 110, 65, 99, 116, 105, 118, 101], 3, 1⟩, ⟨[73, 83, 73, 68], 8, 6⟩, ⟨[84, 83, 73, 72], 14, 2⟩, ⟨[73, 84, 84], 16, 4⟩, ⟨[83, 116, 97, 116, 83, 78], 24, 4⟩, ⟨[69, 120, 112, 67, 109, 100, 83, 78], 28, 4⟩, ⟨[77, 97, 120, 67, 109, 100, 83, 78], 32, 4⟩, ⟨[83, 116, 97, 116, 117, 115, 67, 108, 97, 115, 115], 36, 1⟩, ⟨[83, 116, 97, 116, 117, 115, 68, 101, 116, 97, 105, 108], 37, 1⟩],
 [86, 101, 114, 115, 105, 111, 110, 77, 97, 120, 32, 50, 32, 49, 44, 32, 86, 101, 114, 115, 105, 111, 110, 65, 99, 116, 105, 118, 101, 32, 51, 32, 49, 44, 32, 73, 83, 73, 68, 32, 56, 32, 54, 44, 32, 84, 83, 73, 72, 32, 49, 52, 32, 50, 44, 32, 73, 84, 84, 32, 49, 54, 32, 52, 44, 32, 83, 116, 97, 116, 83, 78, 32, 50, 52, 32, 52, 44, 32, 69, 120, 112, 67, 109, 100, 83, 78, 32, 50, 56, 32, 52, 44, 32, 77, 97, 120, 67, 109, 100, 83, 78, 32, 51, 50, 32, 52, 44, 32, 83, 116, 97, 116, 117, 115, 67, 108, 97, 115, 115, 32, 51, 54, 32, 49, 44, 32, 83, 116, 97, 116, 117, 115, 68, 101, 116, 97, 105, 108, 32, 51, 55, 32, 49]⟩
def kd12 : Kd := ⟨36, [84, 101, 120, 116, 82, 101, 115, 112, 111, 110, 115, 101], 192,
 [⟨[76, 85, 78], 8, 8⟩, ⟨[73, 84, 84], 16, 4⟩, ⟨[84, 84, 84], 20, 4⟩, ⟨[83, 116, 97, 116, 83, 78], 24, 4⟩, ⟨[69, 120, 112, 67, 109, 100, 83, 78], 28, 4⟩, ⟨[77, 97, 120, 67, 109, 100, 83, 78], 32, 4⟩],
 [76, 85, 78, 32, 56, 32, 56, 44, 32, 73, 84, 84, 32, 49, 54, 32, 52, 44, 32, 84, 84, 84, 32, 50, 48, 32, 52, 44, 32, 83, 116, 97, 116, 83, 78, 32, 50, 52, 32, 52, 44, 32, 69, 120, 112, 67, 109, 100, 83, 78, 32, 50, 56, 32, 52, 44, 32, 77, 97, 120, 67, 109, 100, 83, 78, 32, 51, 50, 32, 52]⟩
def kd13 : Kd := ⟨37, [68, 97, 116, 97, 73, 110], 199,
 [⟨[83, 116, 97, 116, 117, 115], 3, 1⟩, ⟨[76, 85, 78], 8, 8⟩, ⟨[73, 84, 84], 16, 4⟩, ⟨[84, 84, 84], 20, 4⟩, ⟨[83, 116, 97, 116, 83, 78], 24, 4⟩, ⟨[69, 120, 112, 67, 109, 100, 83, 78], 28, 4⟩, ⟨[77, 97, 120, 67, 109, 100, 83, 78], 32, 4⟩, ⟨[68, 97, 116, 97, 83, 78], 36, 4⟩, ⟨[79, 102, 102, 115, 101, 116], 40, 4⟩, ⟨[82, 101, 115, 105, 100, 117, 97, 108], 44, 4⟩],
 [83, 116, 97, 116, 117, 115, 32, 51, 32, 49, 44, 32, 76, 85, 78, 32, 56, 32, 56, 44, 32, 73, 84, 84, 32, 49, 54, 32, 52, 44, 32, 84, 84, 84, 32, 50, 48, 32, 52, 44, 32, 83, 116, 97, 116, 83, 78, 32, 50, 52, 32, 52, 44, 32, 69, 120, 112, 67, 109, 100, 83, 78, 32, 50, 56, 32, 52, 44, 32, 77, 97, 120, 67, 109, 100, 83, 78, 32, 51, 50, 32, 52, 44, 32, 68, 97, 116, 97, 83, 78, 32, 51, 54, 32, 52, 44, 32, 79, 102, 102, 115, 101, 116, 32, 52, 48, 32, 52, 44, 32, 82, 101, 115, 105, 100, 117, 97, 108, 32, 52, 52, 32, 52]⟩
def kd14 : Kd := ⟨38, [76, 111, 103, 111, 117, 116, 82, 101, 115, 112, 111, 110, 115, 101], 128,
 [⟨[82, 101, 115, 112, 111, 110, 115, 101], 2, 1⟩, ⟨[73, 84, 84], 16, 4⟩, ⟨[83, 116, 97, 116, 83, 78], 24, 4⟩, ⟨[69, 120, 112, 67, 109, 100, 83, 78], 28, 4⟩, ⟨[77, 97, 120, 67, 109, 100, 83, 78], 32, 4⟩, ⟨[84, 105, 109, 101, 50, 87, 97, 105, 116], 40, 2⟩, ⟨[84, 105, 109, 101, 50, 82, 101, 116, 97, 105, 110], 42, 2⟩],
 [82, 101, 115, 112, 111, 110, 115, 101, 32, 50, 32, 49, 44, 32, 73, 84, 84, 32, 49, 54, 32, 52, 44, 32, 83, 116, 97, 116, 83, 78, 32, 50, 52, 32, 52, 44, 32, 69, 120, 112, 67, 109, 100, 83, 78, 32, 50, 56, 32, 52, 44, 32, 77, 97, 120, 67, 109, 100, 83, 78, 32, 51, 50, 32, 52, 44, 32, 84, 105, 109, 101, 50, 87, 97, 105, 116, 32, 52, 48, 32, 50, 44, 32, 84, 105, 109, 101, 50, 82, 101, 116, 97, 105, 110, 32, 52, 50, 32, 50]⟩
def kd15 : Kd := ⟨49, [82, 50, 84], 128,
 [⟨[76, 85, 78], 8, 8⟩, ⟨[73, 84, 84], 16, 4⟩, ⟨[84, 84, 84], 20, 4⟩, ⟨[83, 116, 97, 116, 83, 78], 24, 4⟩, ⟨[69, 120, 112, 67, 109, 100, 83, 78], 28, 4⟩, ⟨[77, 97, 120, 67, 109, 100, 83, 78], 32, 4⟩, ⟨[82, 50, 84, 83, 78], 36, 4⟩, ⟨[79, 102, 102, 115, 101, 116], 40, 4⟩, ⟨[76, 101, 110, 103, 116, 104], 44, 4⟩],
 [76, 85, 78, 32, 56, 32, 56, 44, 32, 73, 84, 84, 32, 49, 54, 32, 52, 44, 32, 84, 84, 84, 32, 50, 48, 32, 52, 44, 32, 83, 116, 97, 116, 83, 78, 32, 50, 52, 32, 52, 44, 32, 69, 120, 112, 67, 109, 100, 83, 78, 32, 50, 56, 32, 52, 44, 32, 77, 97, 120, 67, 109, 100, 83, 78, 32, 51, 50, 32, 52, 44, 32, 82, 50, 84, 83, 78, 32, 51, 54, 32, 52, 44, 32, 79, 102, 102, 115, 101, 116, 32, 52, 48, 32, 52, 44, 32, 76, 101, 110, 103, 116, 104, 32, 52, 52, 32, 52]⟩
def kd16 : Kd := ⟨50, [65, 115, 121, 110, 99], 128,
 [⟨[76, 85, 78], 8, 8⟩, ⟨[73, 84, 84], 16, 4⟩, ⟨[83, 116, 97, 116, 83, 78], 24, 4⟩, ⟨[69, 120, 112, 67, 109, 100, 83, 78], 28, 4⟩, ⟨[77, 97, 120, 67, 109, 100, 83, 78], 32, 4⟩, ⟨[69, 118, 101, 110, 116], 36, 1⟩, ⟨[86, 67, 111, 100, 101], 37, 1⟩, ⟨[80, 97, 114, 97, 109, 101, 116, 101, 114, 49], 38, 2⟩, ⟨[80, 97, 114, 97, 109, 101, 116, 101, 114, 50], 40, 2⟩, ⟨[80, 97, 114, 97, 109, 101, 116, 101, 114, 51], 42, 2⟩],
 [76, 85, 78, 32, 56, 32, 56, 44, 32, 73, 84, 84, 32, 49, 54, 32, 52, 44, 32, 83, 116, 97, 116, 83, 78, 32, 50, 52, 32, 52, 44, 32, 69, 120, 112, 67, 109, 100, 83, 78, 32, 50, 56, 32, 52, 44, 32, 77, 97, 120, 67, 109, 100, 83, 78, 32, 51, 50, 32, 52, 44, 32, 69, 118, 101, 110, 116, 32, 51, 54, 32, 49, 44, 32, 86, 67, 111, 100, 101, 32, 51, 55, 32, 49, 44, 32, 80, 97, 114, 97, 109, 101, 116, 101, 114, 49, 32, 51, 56, 32, 50, 44, 32, 80, 97, 114, 97, 109, 101, 116, 101, 114, 50, 32, 52, 48, 32, 50, 44, 32, 80, 97, 114, 97, 109, 101, 116, 101, 114, 51, 32, 52, 50, 32, 50]⟩
def kd17 : Kd := ⟨63, [82, 101, 106, 101, 99, 116], 128,
 [⟨[82, 101, 97, 115, 111, 110], 2, 1⟩, ⟨[73, 84, 84], 16, 4⟩, ⟨[83, 116, 97, 116, 83, 78], 24, 4⟩, ⟨[69, 120, 112, 67, 109, 100, 83, 78], 28, 4⟩, ⟨[77, 97, 120, 67, 109, 100, 83, 78], 32, 4⟩, ⟨[68, 97, 116, 97, 83, 78], 36, 4⟩],
 [82, 101, 97, 115, 111, 110, 32, 50, 32, 49, 44, 32, 73, 84, 84, 32, 49, 54, 32, 52, 44, 32, 83, 116, 97, 116, 83, 78, 32, 50, 52, 32, 52, 44, 32, 69, 120, 112, 67, 109, 100, 83, 78, 32, 50, 56, 32, 52, 44, 32, 77, 97, 120, 67, 109, 100, 83, 78, 32, 51, 50, 32, 52, 44, 32, 68, 97, 116, 97, 83, 78, 32, 51, 54, 32, 52]⟩
def kinds : List Kd := [kd0, kd1, kd2, kd3, kd4, kd5, kd6, kd7, kd8, kd9, kd10, kd11, kd12, kd13, kd14, kd15, kd16, kd17]
def kindOf (op : Int) : Option Kd := kinds.find? fun k => decide ((k.op : Int) = op)
end Go.Proofs.YtjbbbpgcegcbaaaGreatDoor
namespace Go.Proofs.YtjbbbpgcegcbaaaGreatDoor
open Go.RowKit
def zs (n : Nat) : List UInt8 := List.replicate n 0
@[go_sem] theorem zs_len (n : Nat) : (zs n).length = n := by simp [zs]
def be (n : Nat) : Nat → List UInt8
 | 0 => []
 | k + 1 => UInt8.ofNat (n / 2 ^ (8 * k) % 256) :: be n k
theorem be_len (n k : Nat) : (be n k).length = k := by induction k <;> simp [be, *]
def val (l : List UInt8) : Nat := l.foldl (fun n b => n * 256 + b.toNat) 0
structure Hd where
 op : Int
 now : Bool
 fl : Int
 vs : List Nat
def hd0 : Hd := ⟨0, false, 0, []⟩
def idxName : List Fd → List UInt8 → Option Nat
 | [], _ => none
 | f :: fs, n => if f.nm = n then some 0 else (idxName fs n).map (· + 1)
def flOk (fl : Int) (mask : Nat) : Bool := decide (0 ≤ fl) && (fl.toNat &&& mask == fl.toNat)
def badVal : List Fd → List Nat → Option Nat
 | f :: fs, v :: vs => if v / 2 ^ (8 * f.sz) = 0 then (badVal fs vs).map (· + 1) else some 0
 | _, _ => none
def rightK (k : Kd) (now : Bool) (op : Int) (fl : Int) (vs : List Nat) : Int × Int :=
 if (now && decide (32 ≤ op)) || !flOk fl k.fl then (3, -1)
 else if vs.length ≠ k.fs.length then (7, -1)
 else match badVal k.fs vs with
  | some i => (2, (i : Int))
  | none => (0, -1)
def rightR (h : Hd) : Int × Int :=
 match kindOf h.op with
 | none => (1, -1)
 | some k => rightK k h.now h.op h.fl h.vs
def valueK (k : Kd) (vs : List Nat) (n : List UInt8) : Nat × Int :=
 match idxName k.fs n with
 | none => (0, 5)
 | some i => if i < vs.length then (vs.getD i 0, 0) else (0, 7)
def valueR (h : Hd) (n : List UInt8) : Nat × Int :=
 match kindOf h.op with
 | none => (0, 1)
 | some k => valueK k h.vs n
def fill (fs : List Fd) : List (List UInt8) → List Nat → List Nat → List Nat × Int
 | [], _, acc => (acc, 0)
 | n :: ns, vs, acc => match idxName fs n with
  | none => (acc, 5)
  | some j => match vs with
   | [] => (acc, 7)
   | v :: vs => fill fs ns vs (acc.set j v)
def makeR (op fl : Int) (ns : List (List UInt8)) (vs : List Nat) : Hd × Int × Int :=
 match kindOf op with
 | none => (hd0, 1, -1)
 | some k =>
  let r := fill k.fs ns vs (List.replicate k.fs.length 0)
  if r.2 ≠ 0 then (hd0, r.2, -1)
  else
   let e := rightR ⟨op, false, fl, r.1⟩
   if e.1 ≠ 0 then (hd0, e) else (⟨op, false, fl, r.1⟩, 0, -1)
def cutB (l : List UInt8) (o n : Nat) : List UInt8 := (l.drop o).take n
def readW (s : List UInt8) : Nat := val (cutB s 4 1)
def readD (s : List UInt8) : Nat := val (cutB s 5 3)
def apartF : List Fd → Bool
 | [] => true
 | f :: fs => fs.all (fun g => decide (f.pos + f.sz ≤ g.pos ∨ g.pos + g.sz ≤ f.pos) && decide (f.nm ≠ g.nm)) && apartF fs
def fieldOk (f : Fd) : Bool := decide (2 ≤ f.pos) && decide (f.pos + f.sz ≤ 48) && decide (1 ≤ f.sz) && decide (f.sz ≤ 8) && decide (f.pos + f.sz ≤ 4 ∨ 8 ≤ f.pos) && decide (0 < f.nm.length) && decide (f.nm.length < 50)
def kindOk (k : Kd) : Bool := decide (k.op < 64) && decide (0 < k.fl) && decide (k.fl < 256) && decide (1 ≤ k.fs.length) && decide (k.fs.length ≤ 10) && k.fs.all fieldOk && apartF k.fs && decide (0 < k.nm.length) && decide (k.nm.length < 50) && (idxName k.fs [73, 84, 84]).isSome
theorem kinds_ok : kinds.all kindOk = true := by decide +kernel
theorem kindOf_mem {op : Int} {k : Kd} (h : kindOf op = some k) : k ∈ kinds ∧ (k.op : Int) = op := by
 unfold kindOf at h
 exact ⟨List.mem_of_find?_eq_some h, by have := List.find?_some h; simpa using this⟩
theorem kindOf_ok {op : Int} {k : Kd} (h : kindOf op = some k) : kindOk k = true := List.all_eq_true.1 kinds_ok k (kindOf_mem h).1
structure KindFacts (k : Kd) : Prop where
 op : k.op < 64
 fl0 : 0 < k.fl
 fl : k.fl < 256
 len0 : 1 ≤ k.fs.length
 len : k.fs.length ≤ 10
 fok : ∀ f ∈ k.fs, 2 ≤ f.pos ∧ f.pos + f.sz ≤ 48 ∧ 1 ≤ f.sz ∧ f.sz ≤ 8 ∧ (f.pos + f.sz ≤ 4 ∨ 8 ≤ f.pos) ∧ 0 < f.nm.length ∧ f.nm.length < 50
 apart : apartF k.fs = true
 nm0 : 0 < k.nm.length
 nm : k.nm.length < 50
 itt : ∃ i, idxName k.fs [73, 84, 84] = some i
theorem kindFacts {op : Int} {k : Kd} (h : kindOf op = some k) : KindFacts k := by
 have hk := kindOf_ok h
 unfold kindOk at hk
 simp only [Bool.and_eq_true, decide_eq_true_eq] at hk
 obtain ⟨⟨⟨⟨⟨⟨⟨⟨⟨h1, h2⟩, h3⟩, h4⟩, h5⟩, h6⟩, h7⟩, h8⟩, h9⟩, h10⟩ := hk
 refine ⟨h1, h2, h3, h4, h5, fun f hf => ?_, h7, h8, h9, Option.isSome_iff_exists.1 h10⟩
 have := List.all_eq_true.1 h6 f hf
 unfold fieldOk at this
 simp only [Bool.and_eq_true, decide_eq_true_eq] at this
 obtain ⟨⟨⟨⟨⟨⟨a, b⟩, c⟩, d⟩, e⟩, f1⟩, f2⟩ := this
 exact ⟨a, b, c, d, e, f1, f2⟩
theorem idxName_lt {fs : List Fd} {n : List UInt8} {i : Nat} : idxName fs n = some i → i < fs.length := by
 induction fs generalizing i with
 | nil => intro h; cases h
 | cons f fs ih =>
  intro h
  unfold idxName at h
  split at h
  ·cases h; simp
  ·cases hx : idxName fs n with
   | none => rw [hx] at h; cases h
   | some j => rw [hx] at h; cases h; have := ih hx; simp; omega
theorem idxName_at {fs : List Fd} {n : List UInt8} {i : Nat} (h : idxName fs n = some i) : (fs[i]'(idxName_lt h)).nm = n := by
 induction fs generalizing i with
 | nil => cases h
 | cons f fs ih =>
  have h' := h
  unfold idxName at h
  split at h
  ·cases h; assumption
  ·cases hx : idxName fs n with
   | none => rw [hx] at h; cases h
   | some j => rw [hx] at h; cases h; simpa using ih hx
theorem idxName_first {fs : List Fd} {n : List UInt8} {k : Nat} (hk : k < fs.length) (h0 : ∀ j (hj : j < k), (fs[j]'(by omega)).nm ≠ n) (h1 : (fs[k]'hk).nm = n) : idxName fs n = some k := by
 induction fs generalizing k with
 | nil => simp at hk
 | cons f fs ih =>
  unfold idxName
  cases k with
  | zero => rw [if_pos (by simpa using h1)]
  | succ k =>
   rw [if_neg (by simpa using h0 0 (by omega))]
   rw [ih (k := k) (by simpa using hk) (fun j hj => by have := h0 (j + 1) (by omega); simpa using this) (by simpa using h1)]
   rfl
theorem idxName_all {fs : List Fd} {n : List UInt8} (h0 : ∀ j (hj : j < fs.length), (fs[j]'hj).nm ≠ n) : idxName fs n = none := by
 cases h : idxName fs n with
 | none => rfl
 | some i => exact absurd (idxName_at h) (h0 i (idxName_lt h))
theorem badVal_first {fs : List Fd} {vs : List Nat} {k : Nat} (hk : k < fs.length) (hv : k < vs.length) (h0 : ∀ j (hj : j < k), (vs[j]'(by omega)) / 2 ^ (8 * (fs[j]'(by omega)).sz) = 0) (h1 : vs[k] / 2 ^ (8 * fs[k].sz) ≠ 0) : badVal fs vs = some k := by
 induction fs generalizing k vs with
 | nil => simp at hk
 | cons f fs ih =>
  cases vs with
  | nil => simp at hv
  | cons v vs =>
   unfold badVal
   cases k with
   | zero => rw [if_neg (by simpa using h1)]
   | succ k =>
    rw [if_pos (by simpa using h0 0 (by omega))]
    rw [ih (k := k) (vs := vs) (by simpa using hk) (by simpa using hv) (fun j hj => by have := h0 (j + 1) (by omega); simpa using this) (by simpa using h1)]
    rfl
theorem badVal_none {fs : List Fd} {vs : List Nat} (hl : vs.length = fs.length) (h0 : ∀ j (hj : j < fs.length), (vs[j]'(by omega)) / 2 ^ (8 * (fs[j]'hj).sz) = 0) : badVal fs vs = none := by
 induction fs generalizing vs with
 | nil => rfl
 | cons f fs ih =>
  cases vs with
  | nil => rfl
  | cons v vs =>
   unfold badVal
   have h00 : v / 2 ^ (8 * f.sz) = 0 := h0 0 (by simp)
   rw [if_pos h00, ih (by simpa using hl) (fun j hj => by have := h0 (j + 1) (by simpa using hj); simpa using this)]
   rfl
theorem badVal_good {fs : List Fd} {vs : List Nat} (h : badVal fs vs = none) : ∀ j (hj : j < fs.length) (hv : j < vs.length), vs[j] / 2 ^ (8 * fs[j].sz) = 0 := by
 induction fs generalizing vs with
 | nil => intro j hj; simp at hj
 | cons f fs ih =>
  cases vs with
  | nil => intro j _ hv; simp at hv
  | cons v vs =>
   unfold badVal at h
   split at h
   ·rename_i h0
    have hx : badVal fs vs = none := by cases hx : badVal fs vs with | none => rfl | some j => rw [hx] at h; cases h
    intro j hj hv
    cases j with
    | zero => simpa using h0
    | succ j => simpa using ih hx j (by simpa using hj) (by simpa using hv)
   ·cases h
def inF (f : Fd) (i : Nat) : Prop := f.pos ≤ i ∧ i < f.pos + f.sz
instance (f : Fd) (i : Nat) : Decidable (inF f i) := by unfold inF; infer_instance
def freeK (k : Kd) (i : Nat) : Prop := i = 0 ∨ i = 1 ∨ (4 ≤ i ∧ i < 8) ∨ ∃ f ∈ k.fs, inF f i
instance (k : Kd) (i : Nat) : Decidable (freeK k i) := by unfold freeK; infer_instance
theorem getD_some {l : List UInt8} {i : Nat} {b : UInt8} (h : l[i]? = some b) : l.getD i 0 = b := by rw [List.getD_eq_getElem?_getD, h]; rfl
theorem flOk_bd {fl : Int} {m : Nat} (hm : m < 256) (h : flOk fl m = true) : 0 ≤ fl ∧ fl < 256 := by
 unfold flOk at h
 simp only [Bool.and_eq_true, decide_eq_true_eq, beq_iff_eq] at h
 have := Nat.and_le_right (n := fl.toNat) (m := m)
 omega
theorem rightR_good {h : Hd} (hr : rightR h = (0, -1)) : ∃ k, kindOf h.op = some k ∧ (h.now = true → h.op < 32) ∧ flOk h.fl k.fl = true ∧ h.vs.length = k.fs.length ∧ badVal k.fs h.vs = none := by
 unfold rightR at hr
 cases hk : kindOf h.op with
 | none => rw [hk] at hr; simp at hr
 | some k =>
  rw [hk] at hr
  simp only [rightK] at hr
  split at hr
  ·simp at hr
  ·rename_i h1
   split at hr
   ·simp at hr
   ·rename_i h2
    split at hr
    ·simp at hr
    ·rename_i h3
     simp only [Bool.or_eq_true, Bool.and_eq_true, decide_eq_true_eq, Bool.not_eq_true', not_or, not_and] at h1
     exact ⟨k, rfl, fun hn => by have := h1.1 hn; omega, by simpa using h1.2, by omega, h3⟩
theorem rightR_mk {h : Hd} {k : Kd} (hk : kindOf h.op = some k) (h1 : h.now = true → h.op < 32) (h2 : flOk h.fl k.fl = true) (h3 : h.vs.length = k.fs.length) (h4 : badVal k.fs h.vs = none) : rightR h = (0, -1) := by
 unfold rightR
 rw [hk]
 simp only [rightK]
 rw [if_neg, if_neg (by omega), h4]
 simp only [Bool.or_eq_true, Bool.and_eq_true, decide_eq_true_eq, Bool.not_eq_true', not_or, not_and]
 exact ⟨fun hn => by have := h1 hn; omega, by simp [h2]⟩
theorem rightR_0 {h : Hd} : (rightR h).1 = 0 → rightR h = (0, -1) := by
 unfold rightR
 cases kindOf h.op with
 | none => intro h; simp at h
 | some k =>
  simp only [rightK]
  split
  ·intro h; simp at h
  ·split
   ·intro h; simp at h
   ·split
    ·intro h; simp at h
    ·intro _; rfl
end Go.Proofs.YtjbbbpgcegcbaaaGreatDoor
