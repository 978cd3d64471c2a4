/- Numbers as numerals and back; words between commas. No program stands in it. -/
import Derived.Test.YtikcgnalcchlpaaGreatDoorKeyMath
namespace Go.Proofs.YtikcgnalcchlpaaGreatDoor
open Go.RowKit
theorem dig_dec : ∀ i : Fin 10, isDig 10 (UInt8.ofNat (48 + i.1)) = true ∧ digV (UInt8.ofNat (48 + i.1)) = i.1 := by decide +kernel
theorem numF_app (b : Nat) : ∀ (l m : List UInt8) (n : Nat), numF b n (l ++ m) = (numF b n l).bind (fun k => numF b k m)
  | [], m, n => rfl
  | c :: l, m, n => by
    rw [List.cons_append, numF, numF]
    split
    · split
      · exact numF_app b l m _
      · rfl
    · rfl
theorem dec_step {n : Nat} (h : ¬ n < 10) : Lib.decDigits n = Lib.decDigits (n / 10) ++ [UInt8.ofNat (48 + n % 10)] := by rw [Lib.decDigits, dif_neg h]
theorem numF_dec : ∀ (f n : Nat), n ≤ f → n < 1099511627776 → numF 10 0 (Lib.decDigits n) = some n := by
  intro f
  induction f with
  | zero =>
    intro n hf hn
    obtain rfl : n = 0 := by omega
    rw [Lib.decDigits_one (by decide)]
    decide
  | succ f ih =>
    intro n hf hn
    by_cases h : n < 10
    · rw [Lib.decDigits_one h]
      obtain ⟨h1, h2⟩ := dig_dec ⟨n, h⟩
      simp only at h1 h2
      rw [numF_go h1 (by rw [h2]; omega), h2, numF_nil]
      simp
    · rw [dec_step h, numF_app, ih (n / 10) (by omega) (by omega)]
      obtain ⟨h1, h2⟩ := dig_dec ⟨n % 10, by omega⟩
      simp only at h1 h2
      show numF 10 (n / 10) [UInt8.ofNat (48 + n % 10)] = some n
      rw [numF_go h1 (by rw [h2]; omega), h2, numF_nil]
      congr 1
      omega
theorem dec_ne (n : Nat) : Lib.decDigits n ≠ [] := by
  rw [Lib.decDigits]
  split <;> simp
theorem dec_head : ∀ (f n : Nat), n ≤ f → 1 ≤ n → (Lib.decDigits n).getD 0 0 ≠ 48 := by
  intro f
  induction f with
  | zero => intro n h1 h2; omega
  | succ f ih =>
    intro n hf hn
    by_cases h : n < 10
    · rw [Lib.decDigits_one h]
      have : ∀ i : Fin 10, 1 ≤ i.1 → ([UInt8.ofNat (48 + i.1)] : List UInt8).getD 0 0 ≠ 48 := by decide +kernel
      exact this ⟨n, h⟩ hn
    · rw [dec_step h]
      have h1 := ih (n / 10) (by omega) (by omega)
      cases hd : Lib.decDigits (n / 10) with
      | nil => exact absurd hd (dec_ne _)
      | cons c l => rw [hd] at h1; exact h1
theorem dec_dig : ∀ (f n : Nat), n ≤ f → ∀ c ∈ Lib.decDigits n, 48 ≤ c.toNat ∧ c.toNat ≤ 57 := by
  intro f
  induction f with
  | zero =>
    intro n h1 c hc
    obtain rfl : n = 0 := by omega
    rw [Lib.decDigits_one (by decide)] at hc
    rw [List.mem_singleton.1 hc]; decide
  | succ f ih =>
    intro n hf c hc
    have hd : ∀ i : Fin 10, 48 ≤ (UInt8.ofNat (48 + i.1)).toNat ∧ (UInt8.ofNat (48 + i.1)).toNat ≤ 57 := by decide +kernel
    by_cases h : n < 10
    · rw [Lib.decDigits_one h] at hc
      rw [List.mem_singleton.1 hc]; exact hd ⟨n, h⟩
    · rw [dec_step h] at hc
      rcases List.mem_append.1 hc with hc | hc
      · exact ih (n / 10) (by omega) c hc
      · rw [List.mem_singleton.1 hc]; exact hd ⟨n % 10, by omega⟩
theorem take2_of {s : List UInt8} {c d : UInt8} (h : s.take 2 = [c, d]) : ∃ r, s = c :: d :: r := by
  match s, h with
  | a :: b :: r, h => exact ⟨r, by simp at h; rw [h.1, h.2]⟩
  | [a], h => simp at h
  | [], h => simp at h
theorem numR_dec {n : Nat} (hn : n < 1099511627776) : numR (Lib.decDigits n) = some n := by
  unfold numR
  have h1 : ¬ (Lib.decDigits n).take 2 = [48, 120] := fun e => by
    obtain ⟨r, hr⟩ := take2_of e
    have := dec_dig n n (Nat.le_refl _) 120 (by rw [hr]; simp)
    revert this; decide
  have h2 : ¬ (1 < (Lib.decDigits n).length ∧ (Lib.decDigits n).getD 0 0 = 48) := fun ⟨e1, e2⟩ => by
    rcases Nat.eq_zero_or_pos n with h0 | h0
    · subst h0
      rw [Lib.decDigits_one (by decide)] at e1
      revert e1; decide
    · exact dec_head n n (Nat.le_refl _) h0 e2
  rw [if_neg h1, if_neg h2]
  unfold numU
  rw [if_neg (dec_ne n)]
  exact numF_dec n n (Nat.le_refl _) hn
theorem numD_dec {n : Nat} (hn : n < 1099511627776) : numD (Lib.decDigits n) = n := by unfold numD; rw [numR_dec hn]; rfl
/-! words -/
theorem mem_split (c : UInt8) : ∀ (n : Nat) (s x : List UInt8), s.length ≤ n → x ∈ split1 c s → c ∉ x := by
  intro n
  induction n with
  | zero =>
    intro s x hn hx
    obtain rfl : s = [] := List.eq_nil_of_length_eq_zero (by omega)
    simp [split1] at hx
    rw [hx]; simp
  | succ n ih =>
    intro s x hn hx
    cases h : cut1 c s with
    | none =>
      rw [split1_none h] at hx
      rw [List.mem_singleton.1 hx]
      exact cut1_none h
    | some q =>
      obtain ⟨a, b⟩ := q
      rw [split1_some h] at hx
      obtain ⟨hs, ha⟩ := cut1_some h
      rcases List.mem_cons.1 hx with rfl | hx
      · exact ha
      · exact ih b x (by have := congrArg List.length hs; simp at this; omega) hx
theorem split_alone {c : UInt8} {s : List UInt8} (h : c ∉ s) : split1 c s = [s] := split1_none (cut1_not h)
theorem split_snoc (c : UInt8) : ∀ (n : Nat) (s x : List UInt8), s.length ≤ n → c ∉ x → split1 c (s ++ c :: x) = split1 c s ++ [x] := by
  intro n
  induction n with
  | zero =>
    intro s x hn hx
    obtain rfl : s = [] := List.eq_nil_of_length_eq_zero (by omega)
    have : cut1 c ([] ++ c :: x) = some ([], x) := cut1_of x (by simp)
    rw [split1_some this, split_alone hx]
    rfl
  | succ n ih =>
    intro s x hn hx
    cases h : cut1 c s with
    | none =>
      have h2 : cut1 c (s ++ c :: x) = some (s, x) := cut1_of x (cut1_none h)
      rw [split1_some h2, split1_none h, split_alone hx]
      rfl
    | some q =>
      obtain ⟨a, b⟩ := q
      obtain ⟨hs, ha⟩ := cut1_some h
      have h2 : cut1 c (s ++ c :: x) = some (a, b ++ c :: x) := by
        rw [hs, List.append_assoc, List.cons_append]
        exact cut1_of _ ha
      rw [split1_some h2, split1_some h, ih b x (by have := congrArg List.length hs; simp at this; omega) hx]
      rfl
/-- a word among words: with the sign around both, it stands there -/
theorem word_in (c : UInt8) : ∀ (n : Nat) (s x : List UInt8), s.length ≤ n → x ∈ split1 c s → ∃ p q, c :: (s ++ [c]) = p ++ (c :: (x ++ c :: q)) := by
  intro n
  induction n with
  | zero =>
    intro s x hn hx
    obtain rfl : s = [] := List.eq_nil_of_length_eq_zero (by omega)
    simp [split1] at hx
    rw [hx]
    exact ⟨[], [], by simp⟩
  | succ n ih =>
    intro s x hn hx
    cases h : cut1 c s with
    | none =>
      rw [split1_none h] at hx
      rw [List.mem_singleton.1 hx]
      exact ⟨[], [], by simp⟩
    | some q =>
      obtain ⟨a, b⟩ := q
      obtain ⟨hs, ha⟩ := cut1_some h
      rw [split1_some h] at hx
      rcases List.mem_cons.1 hx with rfl | hx
      · exact ⟨[], b ++ [c], by rw [hs]; simp⟩
      · obtain ⟨p, q, hpq⟩ := ih b x (by have := congrArg List.length hs; simp at this; omega) hx
        refine ⟨c :: a ++ p, q, ?_⟩
        rw [hs, show c :: (a ++ c :: b ++ [c]) = c :: a ++ (c :: (b ++ [c])) by simp, hpq]
        simp
theorem word_of (c : UInt8) : ∀ (n : Nat) (s x p q : List UInt8), s.length ≤ n → c ∉ x → c :: (s ++ [c]) = p ++ (c :: (x ++ c :: q)) → x ∈ split1 c s := by
  intro n
  induction n with
  | zero =>
    intro s x p q hn hx he
    obtain rfl : s = [] := List.eq_nil_of_length_eq_zero (by omega)
    have hl := congrArg List.length he
    simp at hl
    have hx0 : x = [] := List.eq_nil_of_length_eq_zero (by omega)
    rw [hx0]; simp [split1]
  | succ n ih =>
    intro s x p q hn hx he
    cases p with
    | nil =>
      have he' : s ++ c :: [] = x ++ c :: q := by simpa using he
      cases h : cut1 c s with
      | none =>
        have h1 : cut1 c (s ++ c :: []) = some (s, []) := cut1_of _ (cut1_none h)
        rw [he', cut1_of q hx] at h1
        rw [split1_none h]
        simp at h1
        simp [h1.1]
      | some r =>
        obtain ⟨a, b⟩ := r
        obtain ⟨hs, ha⟩ := cut1_some h
        have h1 : cut1 c (s ++ c :: []) = some (a, b ++ c :: []) := by
          rw [hs, List.append_assoc, List.cons_append]
          exact cut1_of _ ha
        rw [he', cut1_of q hx] at h1
        rw [split1_some h]
        simp at h1
        simp [h1.1]
    | cons d p' =>
      have he' : s ++ [c] = p' ++ (c :: (x ++ c :: q)) := by
        have := congrArg List.tail he
        simpa using this
      cases h : cut1 c s with
      | none =>
        have hc : (s ++ [c]).count c = 1 := by
          rw [List.count_append, List.count_eq_zero.2 (cut1_none h)]; simp
        rw [he'] at hc
        simp [List.count_append] at hc
        omega
      | some r =>
        obtain ⟨a, b⟩ := r
        obtain ⟨hs, ha⟩ := cut1_some h
        rw [split1_some h]
        refine List.mem_cons_of_mem _ ?_
        have hb : b.length ≤ n := by have := congrArg List.length hs; simp at this; omega
        rw [hs, List.append_assoc, List.cons_append] at he'
        cases h2 : cut1 c p' with
        | none =>
          have e1 : cut1 c (p' ++ (c :: (x ++ c :: q))) = some (p', x ++ c :: q) := cut1_of _ (cut1_none h2)
          rw [← he', cut1_of _ ha] at e1
          simp at e1
          exact ih b x [] q hb hx (by rw [e1.2]; simp)
        | some r2 =>
          obtain ⟨a2, p2⟩ := r2
          obtain ⟨hp, ha2⟩ := cut1_some h2
          have e1 : cut1 c (p' ++ (c :: (x ++ c :: q))) = some (a2, p2 ++ (c :: (x ++ c :: q))) := by
            rw [hp, List.append_assoc, List.cons_append]
            exact cut1_of _ ha2
          rw [← he', cut1_of _ ha] at e1
          simp at e1
          exact ih b x (c :: p2) q hb hx (by rw [e1.2]; simp)
theorem index_word (s x : List UInt8) (hx : (44 : UInt8) ∉ x) : (0 ≤ Lib.index (44 :: (s ++ [44])) (44 :: (x ++ [44]))) ↔ x ∈ split1 44 s := by
  rcases Lib.index_spec (44 :: (s ++ [44])) (44 :: (x ++ [44])) with ⟨h1, h2⟩ | ⟨i, h1, h2, h3, _⟩
  · rw [h1]
    refine ⟨fun h => by omega, fun h => ?_⟩
    obtain ⟨p, q, he⟩ := word_in 44 s.length s x (Nat.le_refl _) h
    have := h2 p.length (by rw [he]; simp)
    unfold Lib.occAt at this
    rw [he, List.drop_left] at this
    have h3 : (44 :: (x ++ [44])).isPrefixOf (44 :: (x ++ 44 :: q)) = true := by
      rw [List.isPrefixOf_iff_prefix]
      exact ⟨q, by simp⟩
    rw [h3] at this
    cases this
  · rw [h1]
    refine ⟨fun _ => ?_, fun _ => by omega⟩
    unfold Lib.occAt at h3
    rw [List.isPrefixOf_iff_prefix] at h3
    obtain ⟨q, hq⟩ := h3
    refine word_of 44 s.length s x ((44 :: (s ++ [44])).take i) q (Nat.le_refl _) hx ?_
    have := List.take_append_drop i (44 :: (s ++ [44]))
    rw [← hq] at this
    refine this.symm.trans ?_
    simp
end Go.Proofs.YtikcgnalcchlpaaGreatDoor
