/- What comes of two values: the laws of it. No program stands in it. -/
import Derived.Test.YtikcgnalcchlpaaGreatDoorKeyMath2
namespace Go.Proofs.YtikcgnalcchlpaaGreatDoor
open Go.RowKit
theorem resK_ok {k : Ke} {a b : List UInt8} (h1 : fitK k a = 0) (h2 : fitK k b = 0) : resK k a b = resOk k a b := by
  unfold resK; rw [if_neg (by simpa using h1), if_neg (by simpa using h2)]
theorem resK_off {k : Ke} {a b : List UInt8} (h : fitK k a ≠ 0) : resK k a b = ([], fitK k a) := by unfold resK; rw [if_pos h]
theorem resK_own {k : Ke} {a b : List UInt8} (h1 : fitK k a = 0) (h : fitK k b ≠ 0) : resK k a b = ([], fitK k b) := by
  unfold resK; rw [if_neg (by simpa using h1), if_pos h]
theorem resOk_and {k : Ke} (a b : List UInt8) (h : k.kd = 1) : resOk k a b = (yesNo (decide (a = yesL) && decide (b = yesL)), 0) := by unfold resOk; rw [if_pos h]
theorem resOk_or {k : Ke} (a b : List UInt8) (h : k.kd = 2) : resOk k a b = (yesNo (decide (a = yesL) || decide (b = yesL)), 0) := by unfold resOk; rw [if_neg (by omega), if_pos h]
theorem resOk_least {k : Ke} (a b : List UInt8) (h : k.kd = 3) : resOk k a b = (Lib.decDigits (min (numD a) (numD b)), 0) := by unfold resOk; rw [if_neg (by omega), if_neg (by omega), if_pos h]
theorem resOk_most {k : Ke} (a b : List UInt8) (h : k.kd = 4) : resOk k a b = (Lib.decDigits (max (numD a) (numD b)), 0) := by unfold resOk; rw [if_neg (by omega), if_neg (by omega), if_neg (by omega), if_pos h]
theorem resOk_first {k : Ke} (a b : List UInt8) (h : k.kd = 5) : resOk k a b = match firstR a b with | some x => (x, 0) | none => ([], 8) := by unfold resOk; rw [if_neg (by omega), if_neg (by omega), if_neg (by omega), if_neg (by omega), if_pos h]; cases firstR a b <;> rfl
theorem resOk_told {k : Ke} (a b : List UInt8) (h : k.kd = 6 ∨ k.kd = 7) : resOk k a b = (a, 0) := by unfold resOk; rw [if_neg (by omega), if_neg (by omega), if_neg (by omega), if_neg (by omega), if_neg (by omega)]
theorem resOk_bad {k : Ke} {a b : List UInt8} (h : (resOk k a b).2 ≠ 0) : (resOk k a b).1 = [] := by
  unfold resOk at h ⊢
  by_cases h1 : k.kd = 1
  · rw [if_pos h1] at h; exact absurd rfl h
  rw [if_neg h1] at h ⊢
  by_cases h2 : k.kd = 2
  · rw [if_pos h2] at h; exact absurd rfl h
  rw [if_neg h2] at h ⊢
  by_cases h3 : k.kd = 3
  · rw [if_pos h3] at h; exact absurd rfl h
  rw [if_neg h3] at h ⊢
  by_cases h4 : k.kd = 4
  · rw [if_pos h4] at h; exact absurd rfl h
  rw [if_neg h4] at h ⊢
  by_cases h5 : k.kd = 5
  · rw [if_pos h5] at h ⊢
    cases hf : firstR a b with
    | none => rfl
    | some x => rw [hf] at h; exact absurd rfl h
  · rw [if_neg h5] at h; exact absurd rfl h
theorem resK_bad {k : Ke} {a b : List UInt8} (h : (resK k a b).2 ≠ 0) : (resK k a b).1 = [] := by
  by_cases h1 : fitK k a = 0
  · by_cases h2 : fitK k b = 0
    · rw [resK_ok h1 h2] at h ⊢; exact resOk_bad h
    · rw [resK_own h1 h2]
  · rw [resK_off h1]
theorem yesNo_yes (b : Bool) : decide (yesNo b = yesL) = b := by cases b <;> decide
theorem yesNo_or (b : Bool) : yesNo b = yesL ∨ yesNo b = noL := by cases b <;> simp [yesNo]
theorem numD_of {s : List UInt8} {n : Nat} (h : numR s = some n) : numD s = n := by unfold numD; rw [h]; rfl
theorem fit_dec {k : Ke} {n : Nat} (hk : k.kd = 3 ∨ k.kd = 4 ∨ k.kd = 7) (hh : k.hi ≤ 16777215) (h1 : k.lo ≤ n) (h2 : n ≤ k.hi) : fitK k (Lib.decDigits n) = 0 := by
  rw [fitK_num hk, numR_dec (by omega)]
  simp only
  rw [if_neg (by omega)]
theorem word_ok {x : List UInt8} {l : List (List UInt8)} (hl : OkL l) (hx : x ∈ l) (hc : (44 : UInt8) ∉ x) : listR x = some [x] := by
  unfold listR
  rw [split_alone hc, if_pos]
  exact ⟨fun y hy => by rw [List.mem_singleton.1 hy]; exact hl.1 x hx, by simp⟩
theorem firstR_some {a b x : List UInt8} (h : firstR a b = some x) : x ∈ split1 44 a ∧ x ∈ split1 44 b := by
  unfold firstR at h
  exact ⟨List.mem_of_find?_eq_some h, by simpa using List.find?_some h⟩
theorem firstR_self {x b : List UInt8} (hx : (44 : UInt8) ∉ x) (h : x ∈ split1 44 b) : firstR x b = some x := by
  unfold firstR
  rw [split_alone hx]
  simp [h]
/-- once is enough -/
theorem resK_again {k : Ke} {a b : List UInt8} (hk : 1 ≤ k.kd ∧ k.kd ≤ 7) (hh : k.hi ≤ 16777215) (h : (resK k a b).2 = 0) :
    fitK k (resK k a b).1 = 0 ∧ resK k (resK k a b).1 (resK k a b).1 = ((resK k a b).1, 0) ∧ resK k (resK k a b).1 b = ((resK k a b).1, 0) := by
  have ha : fitK k a = 0 := by
    rcases Nat.eq_zero_or_pos (fitK k a) with h0 | h0
    · exact h0
    · rw [resK_off (by omega)] at h; exact absurd h (by simp only; omega)
  have hb : fitK k b = 0 := by
    rcases Nat.eq_zero_or_pos (fitK k b) with h0 | h0
    · exact h0
    · rw [resK_own ha (by omega)] at h; exact absurd h (by simp only; omega)
  rw [resK_ok ha hb] at h ⊢
  have hc : k.kd = 1 ∨ k.kd = 2 ∨ k.kd = 3 ∨ k.kd = 4 ∨ k.kd = 5 ∨ k.kd = 6 ∨ k.kd = 7 := by omega
  rcases hc with hc | hc | hc | hc | hc | hc | hc
  · rw [resOk_and a b hc]
    simp only
    have hf : ∀ c, fitK k (yesNo c) = 0 := fun c => by rw [fitK_yes (.inl hc), if_pos (yesNo_or c)]
    refine ⟨hf _, ?_, ?_⟩
    · rw [resK_ok (hf _) (hf _), resOk_and _ _ hc, yesNo_yes]
      cases decide (a = yesL) <;> cases decide (b = yesL) <;> rfl
    · rw [resK_ok (hf _) hb, resOk_and _ _ hc, yesNo_yes]
      cases decide (a = yesL) <;> cases decide (b = yesL) <;> rfl
  · rw [resOk_or a b hc]
    simp only
    have hf : ∀ c, fitK k (yesNo c) = 0 := fun c => by rw [fitK_yes (.inr hc), if_pos (yesNo_or c)]
    refine ⟨hf _, ?_, ?_⟩
    · rw [resK_ok (hf _) (hf _), resOk_or _ _ hc, yesNo_yes]
      cases decide (a = yesL) <;> cases decide (b = yesL) <;> rfl
    · rw [resK_ok (hf _) hb, resOk_or _ _ hc, yesNo_yes]
      cases decide (a = yesL) <;> cases decide (b = yesL) <;> rfl
  · obtain ⟨n, hn, n1, n2⟩ := fitK_num0 (.inl hc) ha
    obtain ⟨m, hm, m1, m2⟩ := fitK_num0 (.inl hc) hb
    rw [resOk_least a b hc, numD_of hn, numD_of hm]
    simp only
    have hf := fit_dec (n := min n m) (.inl hc) hh (by omega) (by omega)
    refine ⟨hf, ?_, ?_⟩
    · rw [resK_ok hf hf, resOk_least _ _ hc, numD_dec (by omega), Nat.min_self]
    · rw [resK_ok hf hb, resOk_least _ _ hc, numD_dec (by omega), numD_of hm, show min (min n m) m = min n m by omega]
  · obtain ⟨n, hn, n1, n2⟩ := fitK_num0 (.inr (.inl hc)) ha
    obtain ⟨m, hm, m1, m2⟩ := fitK_num0 (.inr (.inl hc)) hb
    rw [resOk_most a b hc, numD_of hn, numD_of hm]
    simp only
    have hf := fit_dec (n := max n m) (.inr (.inl hc)) hh (by omega) (by omega)
    refine ⟨hf, ?_, ?_⟩
    · rw [resK_ok hf hf, resOk_most _ _ hc, numD_dec (by omega), Nat.max_self]
    · rw [resK_ok hf hb, resOk_most _ _ hc, numD_dec (by omega), numD_of hm, show max (max n m) m = max n m by omega]
  · rw [resOk_first a b hc] at h ⊢
    cases hx : firstR a b with
    | none => rw [hx] at h; cases h
    | some x =>
      simp only
      obtain ⟨x1, x2⟩ := firstR_some hx
      have hxc := mem_split 44 a.length a x (Nat.le_refl _) x1
      have hok := (fitK_list0 hc ha).1
      have hf : fitK k x = 0 := by rw [fitK_list hc, word_ok hok x1 hxc]
      refine ⟨hf, ?_, ?_⟩
      · rw [resK_ok hf hf, resOk_first _ _ hc, firstR_self hxc (by rw [split_alone hxc]; simp)]
      · rw [resK_ok hf hb, resOk_first _ _ hc, firstR_self hxc x2]
  · rw [resOk_told a b (.inl hc)]
    simp only
    exact ⟨ha, by rw [resK_ok ha ha, resOk_told _ _ (.inl hc)], by rw [resK_ok ha hb, resOk_told _ _ (.inl hc)]⟩
  · rw [resOk_told a b (.inr hc)]
    simp only
    exact ⟨ha, by rw [resK_ok ha ha, resOk_told _ _ (.inr hc)], by rw [resK_ok ha hb, resOk_told _ _ (.inr hc)]⟩
/-- whoever offers -/
theorem resK_both {k : Ke} {a b : List UInt8} (hk : 1 ≤ k.kd ∧ k.kd ≤ 4) : (resK k a b).1 = (resK k b a).1 ∧ ((resK k a b).2 = 0 ↔ (resK k b a).2 = 0) := by
  by_cases ha : fitK k a = 0
  · by_cases hb : fitK k b = 0
    · rw [resK_ok ha hb, resK_ok hb ha]
      have hc : k.kd = 1 ∨ k.kd = 2 ∨ k.kd = 3 ∨ k.kd = 4 := by omega
      rcases hc with hc | hc | hc | hc
      · rw [resOk_and _ _ hc, resOk_and _ _ hc, Bool.and_comm]; exact ⟨rfl, Iff.rfl⟩
      · rw [resOk_or _ _ hc, resOk_or _ _ hc, Bool.or_comm]; exact ⟨rfl, Iff.rfl⟩
      · rw [resOk_least _ _ hc, resOk_least _ _ hc, Nat.min_comm]; exact ⟨rfl, Iff.rfl⟩
      · rw [resOk_most _ _ hc, resOk_most _ _ hc, Nat.max_comm]; exact ⟨rfl, Iff.rfl⟩
    · rw [resK_own ha hb, resK_off hb]; exact ⟨rfl, Iff.rfl⟩
  · rw [resK_off ha]
    by_cases hb : fitK k b = 0
    · rw [resK_own hb ha]; exact ⟨rfl, Iff.rfl⟩
    · rw [resK_off hb]; exact ⟨rfl, by simp only; exact ⟨fun h => absurd h ha, fun h => absurd h hb⟩⟩
theorem resK_n (k : Ke) (a b : List UInt8) : (resK k a b).2 = 0 ∨ (resK k a b).2 = 2 ∨ (resK k a b).2 = 3 ∨ (resK k a b).2 = 8 := by
  unfold resK
  split
  · rcases fitK_n k a with h | h | h <;> simp [h]
  · split
    · rcases fitK_n k b with h | h | h <;> simp [h]
    · unfold resOk
      repeat' split
      all_goals simp
end Go.Proofs.YtikcgnalcchlpaaGreatDoor
