/- The reference's reading of values: digits two by two, letters as bits, bits by eights. No program stands in it. -/
import Derived.Test.YtoheabcohfjknaaGreatDoorBitsPlain
import Derived.Test.YtoheabcohfjknaaGreatDoorB64Plain
import Derived.Lib.IndexLaws
namespace Go.Proofs.YtoheabcohfjknaaGreatDoor
/-- the digits that the reference looks a byte up in -/
def hexAll : List UInt8 := [48, 49, 50, 51, 52, 53, 54, 55, 56, 57, 97, 98, 99, 100, 101, 102, 65, 66, 67, 68, 69, 70]
theorem hexAll_at (c : UInt8) : (Lib.indexByte hexAll c < 0 ↔ (hexV c).isNone = true) := by
  have h : ∀ n : Fin 256, (Lib.indexByte hexAll (UInt8.ofNat n.1) < 0 ↔ (hexV (UInt8.ofNat n.1)).isNone = true) := by decide +kernel
  have := h ⟨c.toNat, c.toNat_lt⟩
  simpa using this
theorem hexV_dig (c : UInt8) (h : (hexV c).isNone = false) : isDig 16 c = true ∧ digV c = hexN c := by
  have g : ∀ n : Fin 256, (hexV (UInt8.ofNat n.1)).isNone = false → isDig 16 (UInt8.ofNat n.1) = true ∧ digV (UInt8.ofNat n.1) = hexN (UInt8.ofNat n.1) := by decide +kernel
  have := g ⟨c.toNat, c.toNat_lt⟩
  simp only [UInt8.ofNat_toNat] at this
  exact this h
theorem valB_app (b : Nat) (x y : List UInt8) : valB b (x ++ y) = valB b x * b ^ y.length + valB b y := by
  have h : ∀ (y : List UInt8) (n : Nat), y.foldl (fun n c => n * b + digV c) n = n * b ^ y.length + y.foldl (fun n c => n * b + digV c) 0 := by
    intro y
    induction y with
    | nil => intro n; simp
    | cons c y ih =>
      intro n
      rw [List.foldl_cons, List.foldl_cons, ih (n * b + digV c), ih (0 * b + digV c), List.length_cons, Nat.pow_succ, Nat.zero_mul, Nat.zero_add, Nat.add_mul, Nat.mul_assoc, Nat.mul_comm b, Nat.add_assoc]
  unfold valB
  rw [List.foldl_append, h]
theorem valB_lt (b : Nat) (hb : 1 ≤ b) (l : List UInt8) (hd : ∀ c ∈ l, isDig b c = true) : valB b l < b ^ l.length := by
  have := valB_take_lt b hb l hd l.length (Nat.le_refl _)
  rwa [List.take_length] at this
/-- two digits, one byte -/
def pairs : List UInt8 → List UInt8
  | a :: b :: r => UInt8.ofNat (valB 16 [a, b]) :: pairs r
  | _ => []
theorem pairs_step (r : List UInt8) (h : 2 ≤ r.length) : pairs r = UInt8.ofNat (valB 16 (r.take 2)) :: pairs (r.drop 2) := by
  match r, h with
  | a :: b :: r, _ => simp [pairs]
theorem pairs_row : ∀ (l : List UInt8) (i : Nat), l.length ≤ i → (∀ c ∈ l, (hexV c).isNone = false) → pairs l = hexRow l i
  | [], _, _, _ => rfl
  | [_], _, _, _ => by simp [pairs, hexRow]
  | a :: b :: r, i, hi, hg => by
    simp only [List.length_cons] at hi
    have h1 := (hexV_dig a (hg a (by simp))).2
    have h2 := (hexV_dig b (hg b (by simp))).2
    simp only [pairs, hexRow]
    rw [if_neg (by omega), if_neg (by omega), pairs_row r (i - 2) (by omega) (fun c hc => hg c (by simp [hc]))]
    simp [valB, h1, h2]
theorem pairs_unhex (l : List UInt8) (hg : ∀ c ∈ l, (hexV c).isNone = false) : pairs l = unhex l := pairs_row l l.length (Nat.le_refl _) hg
theorem pairs_len : ∀ (l : List UInt8), (pairs l).length = l.length / 2
  | [] => rfl
  | [_] => by simp [pairs]
  | a :: b :: r => by simp only [pairs, List.length_cons, pairs_len r]; omega
/-- the reference strikes one =, then, if there was one, another -/
theorem strike_one (l : List UInt8) : Lib.trimSuffix l [61] = l.take (l.length - (if Lib.hasSuffix l [61] then 1 else 0)) := by
  unfold Lib.trimSuffix
  cases h : Lib.hasSuffix l [61]
  · simp
  · simp
theorem suf_two (l : List UInt8) : Lib.hasSuffix l [61, 61] = true ↔ ∃ k, l = k ++ [61, 61] := by
  unfold Lib.hasSuffix
  rw [List.isSuffixOf_iff_suffix]
  exact ⟨fun ⟨k, h⟩ => ⟨k, h.symm⟩, fun ⟨k, h⟩ => ⟨k, h.symm⟩⟩
theorem suf_one (l : List UInt8) : Lib.hasSuffix l [61] = true ↔ ∃ k, l = k ++ [61] := by
  unfold Lib.hasSuffix
  rw [List.isSuffixOf_iff_suffix]
  exact ⟨fun ⟨k, h⟩ => ⟨k, h.symm⟩, fun ⟨k, h⟩ => ⟨k, h.symm⟩⟩
theorem strike (l : List UInt8) : (Lib.trimSuffix l [61] = l ∧ l.take (l.length - eqs l) = l) ∨ (Lib.trimSuffix l [61] ≠ l ∧ Lib.trimSuffix (Lib.trimSuffix l [61]) [61] = l.take (l.length - eqs l)) := by
  cases h1 : Lib.hasSuffix l [61]
  · left
    have h2 : Lib.hasSuffix l [61, 61] = false := by
      cases h2 : Lib.hasSuffix l [61, 61]
      · rfl
      · obtain ⟨k, rfl⟩ := (suf_two l).1 h2
        have : Lib.hasSuffix (k ++ [61, 61]) [61] = true := (suf_one _).2 ⟨k ++ [61], by simp⟩
        rw [h1] at this; cases this
    refine ⟨?_, ?_⟩
    · unfold Lib.trimSuffix; rw [h1]; rfl
    · unfold eqs; rw [h1, h2]; simp
  · right
    obtain ⟨k, rfl⟩ := (suf_one l).1 h1
    have ht : Lib.trimSuffix (k ++ [61]) [61] = k := by unfold Lib.trimSuffix; rw [h1]; simp
    rw [ht]
    refine ⟨fun e => ?_, ?_⟩
    · have := congrArg List.length e
      simp at this
    · cases h2 : Lib.hasSuffix k [61]
      · have h3 : Lib.hasSuffix (k ++ [61]) [61, 61] = false := by
          cases h3 : Lib.hasSuffix (k ++ [61]) [61, 61]
          · rfl
          · obtain ⟨j, hj⟩ := (suf_two _).1 h3
            have hj2 : k ++ [61] = (j ++ [61]) ++ [61] := by rw [hj]; simp
            have hk : k = j ++ [61] := List.append_cancel_right hj2
            have : Lib.hasSuffix k [61] = true := (suf_one _).2 ⟨j, hk⟩
            rw [h2] at this; cases this
        unfold eqs
        rw [h3, h1]
        unfold Lib.trimSuffix
        rw [h2]
        simp
      · obtain ⟨j, rfl⟩ := (suf_one k).1 h2
        have h3 : Lib.hasSuffix (j ++ [61] ++ [61]) [61, 61] = true := (suf_two _).2 ⟨j, by simp⟩
        unfold eqs
        rw [h3]
        unfold Lib.trimSuffix
        rw [h2]
        simp
/-- letters as bits -/
def sixBits : List UInt8 → List UInt8
  | [] => []
  | c :: l => lowD 2 (letN c).toNat 6 ++ sixBits l
theorem sixBits_app (a b : List UInt8) : sixBits (a ++ b) = sixBits a ++ sixBits b := by
  induction a with
  | nil => rfl
  | cons x a ih => simp [sixBits, ih]
theorem sixBits_snoc (l : List UInt8) (c : UInt8) : sixBits (l ++ [c]) = sixBits l ++ lowD 2 (letN c).toNat 6 := by rw [sixBits_app]; simp [sixBits]
theorem sixBits_len (l : List UInt8) : (sixBits l).length = 6 * l.length := by
  induction l with
  | nil => rfl
  | cons x a ih => simp [sixBits, ih, lowD_len]; omega
theorem sixBits_two (l : List UInt8) : ∀ c ∈ sixBits l, isDig 2 c = true := by
  induction l with
  | nil => intro c h; simp [sixBits] at h
  | cons x a ih =>
    intro c h
    rcases List.mem_append.1 h with h | h
    · exact lowD_two _ _ _ h
    · exact ih c h
/-- bits as bytes, and what is left -/
def octs : List UInt8 → List UInt8 × List UInt8
  | a :: b :: c :: d :: e :: f :: g :: h :: r => (UInt8.ofNat (valB 2 [a, b, c, d, e, f, g, h]) :: (octs r).1, (octs r).2)
  | r => ([], r)
theorem octs_step (r : List UInt8) (h : 8 ≤ r.length) : octs r = (UInt8.ofNat (valB 2 (r.take 8)) :: (octs (r.drop 8)).1, (octs (r.drop 8)).2) := by
  match r, h with
  | a :: b :: c :: d :: e :: f :: g :: h :: r, _ => simp [octs]
theorem octs_short (r : List UInt8) (h : r.length < 8) : octs r = ([], r) := by
  match r, h with
  | [], _ => rfl
  | [_], _ => rfl
  | [_, _], _ => rfl
  | [_, _, _], _ => rfl
  | [_, _, _, _], _ => rfl
  | [_, _, _, _, _], _ => rfl
  | [_, _, _, _, _, _], _ => rfl
  | [_, _, _, _, _, _, _], _ => rfl
theorem octs_app (s : List UInt8) : ∀ (n : Nat) (x : List UInt8), x.length ≤ n → octs (x ++ s) = ((octs x).1 ++ (octs ((octs x).2 ++ s)).1, (octs ((octs x).2 ++ s)).2)
  | 0, x, h => by
    obtain rfl : x = [] := List.eq_nil_of_length_eq_zero (by omega)
    rw [octs_short [] (by decide)]
    rfl
  | n + 1, x, h => by
    by_cases h8 : 8 ≤ x.length
    · have ih := octs_app s n (x.drop 8) (by rw [List.length_drop]; omega)
      rw [octs_step (x ++ s) (by rw [List.length_append]; omega), octs_step x h8, List.take_append_of_le_length h8, List.drop_append_of_le_length h8, ih]
      rfl
    · rw [octs_short x (by omega)]
      rfl
theorem val_low (n : Nat) : ∀ k, valB 2 (lowD 2 n k) = n % 2 ^ k
  | 0 => by simp [lowD, valB, Nat.mod_one]
  | k + 1 => by
    have h := valB_app 2 [digC (n / 2 ^ k % 2)] (lowD 2 n k)
    have hd := (digC_two (n / 2 ^ k % 2) (Nat.mod_lt _ (by decide))).2
    have h1 : valB 2 [digC (n / 2 ^ k % 2)] = n / 2 ^ k % 2 := by simp [valB, hd]
    show valB 2 ([digC (n / 2 ^ k % 2)] ++ lowD 2 n k) = _
    rw [h, val_low n k, lowD_len, h1, Nat.mod_pow_succ, Nat.mul_comm, Nat.add_comm]
theorem octs_run : ∀ (n : Nat) (l : List UInt8), l.length = n → (∀ c ∈ l, 0 ≤ letN c) →
    (octs (sixBits l)).1 = (runL l).2.2 ∧ (octs (sixBits l)).2.length = (runL l).2.1 ∧ valB 2 (octs (sixBits l)).2 = (runL l).1 ∧ (∀ c ∈ (octs (sixBits l)).2, isDig 2 c = true)
  | 0, l, h, _ => by
    obtain rfl : l = [] := List.eq_nil_of_length_eq_zero h
    exact ⟨rfl, rfl, rfl, fun c hc => by cases hc⟩
  | n + 1, l, h, hg => by
    have hne : l ≠ [] := by intro e; rw [e] at h; cases h
    obtain ⟨k, c, rfl⟩ : ∃ k c, l = k ++ [c] := ⟨l.dropLast, l.getLast hne, (List.dropLast_concat_getLast hne).symm⟩
    have hk : k.length = n := by simp at h; exact h
    obtain ⟨i1, i2, i3, i4⟩ := octs_run n k hk (fun x hx => hg x (by simp [hx]))
    have hinv := runL_inv k
    have hc := letN_bd c
    have hc0 := hg c (by simp)
    rw [sixBits_snoc, octs_app _ _ _ (Nat.le_refl _), runL_snoc, i1]
    generalize (octs (sixBits k)).2 = lo at i2 i3 i4 ⊢
    obtain ⟨m, hm⟩ : ∃ m : Nat, (letN c).toNat = m := ⟨_, rfl⟩
    have hm64 : m < 64 := by omega
    rw [hm]
    generalize runL k = st at i2 i3 hinv ⊢
    obtain ⟨a, s, o⟩ := st
    obtain ⟨hs, ha, _⟩ := hinv
    simp only at hs ha i2 i3 ⊢
    have hdy : ∀ x ∈ lo ++ lowD 2 m 6, isDig 2 x = true := fun x hx => by
      rcases List.mem_append.1 hx with hx | hx
      · exact i4 x hx
      · exact lowD_two _ _ _ hx
    have hv : valB 2 (lo ++ lowD 2 m 6) = a * 64 + m := by
      rw [valB_app, val_low, lowD_len, i3, Nat.mod_eq_of_lt (show m < 2 ^ 6 from hm64)]
    have hyl : (lo ++ lowD 2 m 6).length = s + 6 := by rw [List.length_append, lowD_len, i2]
    generalize lo ++ lowD 2 m 6 = y at hdy hv hyl ⊢
    by_cases h2 : 2 ≤ s
    · have hst : stepL (a, s, o) m = ((a * 64 + m) % 2 ^ (s - 2), s - 2, o ++ [UInt8.ofNat ((a * 64 + m) / 2 ^ (s - 2))]) := by simp only [stepL]; rw [if_pos h2]
      have hdl : (y.drop 8).length = s - 2 := by rw [List.length_drop]; omega
      have hdd : ∀ x ∈ y.drop 8, isDig 2 x = true := fun x hx => hdy x (List.mem_of_mem_drop hx)
      have hsp := valB_app 2 (y.take 8) (y.drop 8)
      have hlt := valB_lt 2 (by decide) (y.drop 8) hdd
      rw [List.take_append_drop, hv, hdl] at hsp
      rw [hdl] at hlt
      have hdiv : (a * 64 + m) / 2 ^ (s - 2) = valB 2 (y.take 8) := by
        rw [hsp, Nat.mul_comm, Nat.mul_add_div (Nat.pow_pos (by decide)), Nat.div_eq_of_lt hlt, Nat.add_zero]
      have hmod : (a * 64 + m) % 2 ^ (s - 2) = valB 2 (y.drop 8) := by
        rw [hsp, Nat.mul_comm, Nat.mul_add_mod, Nat.mod_eq_of_lt hlt]
      rw [hst, hdiv, hmod, octs_step y (by omega), octs_short (y.drop 8) (by rw [hdl]; omega)]
      exact ⟨rfl, hdl, rfl, hdd⟩
    · have hst : stepL (a, s, o) m = (a * 64 + m, s + 6, o) := by simp only [stepL]; rw [if_neg h2]
      rw [hst, octs_short y (by omega)]
      exact ⟨by simp, hyl, hv, hdy⟩
theorem dig_two (c : UInt8) (h : isDig 2 c = true) : c = 48 ∨ c = 49 := by
  have g : ∀ n : Fin 256, isDig 2 (UInt8.ofNat n.1) = true → UInt8.ofNat n.1 = 48 ∨ UInt8.ofNat n.1 = 49 := by decide +kernel
  have := g ⟨c.toNat, c.toNat_lt⟩
  simp only [UInt8.ofNat_toNat] at this
  exact this h
theorem has_one : ∀ (l : List UInt8), (∀ c ∈ l, isDig 2 c = true) → (0 ≤ Lib.indexByte l 49 ↔ valB 2 l ≠ 0)
  | [], _ => by simp [Lib.indexByte, valB]
  | c :: l, h => by
    have ih := has_one l (fun x hx => h x (by simp [hx]))
    have hv := valB_app 2 [c] l
    have hge := Lib.indexByte_ge l 49
    rw [List.singleton_append] at hv
    rcases dig_two c (h c (by simp)) with rfl | rfl
    · have h0 : valB 2 [48] = 0 := by decide
      rw [h0, Nat.zero_mul, Nat.zero_add] at hv
      rw [hv, ← ih]
      show 0 ≤ (if ((48 : UInt8) == 49) = true then (0 : Int) else if (Lib.indexByte l 49 == -1) = true then -1 else Lib.indexByte l 49 + 1) ↔ _
      rw [if_neg (by decide)]
      by_cases hx : Lib.indexByte l 49 = -1
      · rw [hx]; decide
      · rw [if_neg (by simpa using hx)]; omega
    · have h1 : valB 2 [49] = 1 := by decide
      rw [h1, Nat.one_mul] at hv
      have hp : 0 < 2 ^ l.length := Nat.pow_pos (by decide)
      have h2 : Lib.indexByte (49 :: l) 49 = 0 := by
        show (if ((49 : UInt8) == 49) = true then (0 : Int) else _) = 0
        rw [if_pos (by decide)]
      rw [h2, hv]
      exact ⟨fun _ => by omega, fun _ => by decide⟩
end Go.Proofs.YtoheabcohfjknaaGreatDoor
