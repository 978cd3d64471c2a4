/- LP04: several texts in one. -/
import Derived.Lib.ItoaLen
import Derived.Lib.ItoaMem
import Derived.Test.YtmkebjdmkkjloaaGreatDoorLP01
import Derived.Test.YtmkebjdmkkjloaaGreatDoorLP03
namespace Go.Proofs.YtmkebjdmkkjloaaGreatDoor
def lowB (c : UInt8) : Nat := (c ||| 32).toNat
def digV (c : UInt8) : Nat := if 48 ≤ c.toNat ∧ c.toNat ≤ 57 then c.toNat - 48 else lowB c - 87
def isDig (b : Nat) (c : UInt8) : Bool := ((decide (48 ≤ c.toNat) && decide (c.toNat ≤ 57)) || (decide (97 ≤ lowB c) && decide (lowB c ≤ 122))) && decide (digV c < b)
theorem lowB_or (c : UInt8) : bits .or .u8 (c.toNat : Int) 32 = ((lowB c : Nat) : Int) := by
  have h : ∀ n : Fin 256, bits .or .u8 (((UInt8.ofNat n.1).toNat : Nat) : Int) 32 = ((lowB (UInt8.ofNat n.1) : Nat) : Int) := by decide +kernel
  have := h ⟨c.toNat, c.toNat_lt⟩
  rwa [show UInt8.ofNat c.toNat = c from by simp] at this
theorem lowB_lt (c : UInt8) : lowB c < 256 := (c ||| 32).toNat_lt
end Go.Proofs.YtmkebjdmkkjloaaGreatDoor
namespace Go.Proofs.YtmkebjdmkkjloaaGreatDoor
open Go.RowKit
def yesL : List UInt8 := [89, 101, 115]
def noL : List UInt8 := [78, 111]
def numF (b : Nat) : Nat → List UInt8 → Option Nat
  | n, [] => some n
  | n, c :: l => if isDig b c = true then (if n * b + digV c < 1099511627776 then numF b (n * b + digV c) l else none) else none
def numU (b : Nat) (l : List UInt8) : Option Nat := if l = [] then none else numF b 0 l
def numR (s : List UInt8) : Option Nat := if s.take 2 = [48, 120] then numU 16 (s.drop 2) else if 1 < s.length ∧ s.getD 0 0 = 48 then none else numU 10 s
theorem numF_nil (b n : Nat) : numF b n [] = some n := rfl
theorem numF_go {b n : Nat} {c : UInt8} {l : List UInt8} (h : isDig b c = true) (h2 : n * b + digV c < 1099511627776) : numF b n (c :: l) = numF b (n * b + digV c) l := by
  rw [numF]; rw [if_pos h, if_pos h2]
theorem numF_lt : ∀ (b : Nat) (l : List UInt8) (n m : Nat), n < 1099511627776 → numF b n l = some m → m < 1099511627776
  | b, [], n, m, hn, h => by rw [numF_nil] at h; cases h; exact hn
  | b, c :: l, n, m, hn, h => by
    unfold numF at h
    split at h
    · split at h
      · exact numF_lt b l _ m (by assumption) h
      · cases h
    · cases h
theorem numU_lt {b : Nat} {l : List UInt8} {m : Nat} (h : numU b l = some m) : m < 1099511627776 := by
  unfold numU at h
  split at h
  · cases h
  · exact numF_lt b l 0 m (by decide) h
theorem numR_lt {s : List UInt8} {m : Nat} (h : numR s = some m) : m < 1099511627776 := by
  unfold numR at h
  split at h
  · exact numU_lt h
  · split at h
    · cases h
    · exact numU_lt h
def OkL (l : List (List UInt8)) : Prop := (∀ x ∈ l, x ≠ []) ∧ l.Nodup
instance (l : List (List UInt8)) : Decidable (OkL l) := by unfold OkL; infer_instance
def listR (s : List UInt8) : Option (List (List UInt8)) := if OkL (split1 44 s) then some (split1 44 s) else none
theorem okL_snoc {l : List (List UInt8)} {x : List UInt8} (h : OkL l) : OkL (l ++ [x]) ↔ x ≠ [] ∧ x ∉ l := by
  unfold OkL at h ⊢
  rw [List.nodup_append]
  constructor
  · rintro ⟨h1, _, _, h4⟩
    exact ⟨h1 x (by simp), fun hx => h4 x hx x (by simp) rfl⟩
  · rintro ⟨h1, h2⟩
    refine ⟨fun y hy => ?_, h.2, by simp, fun y hy z hz => ?_⟩
    · rcases List.mem_append.1 hy with hy | hy
      · exact h.1 y hy
      · rw [List.mem_singleton.1 hy]; exact h1
    · rw [List.mem_singleton.1 hz]; intro e; subst e; exact h2 hy
theorem okL_prefix {l m : List (List UInt8)} (h : OkL l) (hp : m <+: l) : OkL m := by
  obtain ⟨r, rfl⟩ := hp
  exact ⟨fun x hx => h.1 x (List.mem_append_left _ hx), (List.nodup_append.1 h.2).1⟩
theorem okL_nil : OkL [] := ⟨(fun _ h => by cases h), List.nodup_nil⟩
def fitK (k : Ke) (v : List UInt8) : Nat :=
  if k.kd ≤ 2 then (if v = yesL ∨ v = noL then 0 else 3)
  else if k.kd = 5 then (match listR v with | some _ => 0 | none => 3)
  else if k.kd = 6 then (if v = [] then 3 else 0)
  else match numR v with | none => 3 | some n => if n < k.lo ∨ k.hi < n then 2 else 0
def keyFits (nm v : List UInt8) : Nat := match rowOf nm with | none => 5 | some k => fitK k v
def numD (s : List UInt8) : Nat := (numR s).getD 0
def yesNo (b : Bool) : List UInt8 := if b = true then yesL else noL
def firstR (a b : List UInt8) : Option (List UInt8) := (split1 44 a).find? (fun x => decide (x ∈ split1 44 b))
def resOk (k : Ke) (a b : List UInt8) : List UInt8 × Nat :=
  if k.kd = 1 then (yesNo (decide (a = yesL) && decide (b = yesL)), 0)
  else if k.kd = 2 then (yesNo (decide (a = yesL) || decide (b = yesL)), 0)
  else if k.kd = 3 then (Lib.decDigits (min (numD a) (numD b)), 0)
  else if k.kd = 4 then (Lib.decDigits (max (numD a) (numD b)), 0)
  else if k.kd = 5 then (match firstR a b with | some x => (x, 0) | none => ([], 8))
  else (a, 0)
def resK (k : Ke) (a b : List UInt8) : List UInt8 × Nat := if fitK k a ≠ 0 then ([], fitK k a) else if fitK k b ≠ 0 then ([], fitK k b) else resOk k a b
def keyRes (nm a b : List UInt8) : List UInt8 × Nat := match rowOf nm with | none => ([], 5) | some k => resK k a b
theorem fitK_num {k : Ke} {v : List UInt8} (hk : k.kd = 3 ∨ k.kd = 4 ∨ k.kd = 7) : fitK k v = match numR v with | none => 3 | some n => if n < k.lo ∨ k.hi < n then 2 else 0 := by
  unfold fitK
  rw [if_neg (by omega), if_neg (by omega), if_neg (by omega)]
theorem fitK_num0 {k : Ke} {v : List UInt8} (hk : k.kd = 3 ∨ k.kd = 4 ∨ k.kd = 7) (h : fitK k v = 0) : ∃ n, numR v = some n ∧ k.lo ≤ n ∧ n ≤ k.hi := by
  rw [fitK_num hk] at h
  cases hn : numR v with
  | none => rw [hn] at h; cases h
  | some n =>
    rw [hn] at h
    simp only at h
    split at h
    · cases h
    · exact ⟨n, rfl, by omega, by omega⟩
theorem fitK_list {k : Ke} {v : List UInt8} (hk : k.kd = 5) : fitK k v = match listR v with | some _ => 0 | none => 3 := by
  unfold fitK
  rw [if_neg (by omega), if_pos hk]
theorem fitK_list0 {k : Ke} {v : List UInt8} (hk : k.kd = 5) (h : fitK k v = 0) : OkL (split1 44 v) ∧ listR v = some (split1 44 v) := by
  rw [fitK_list hk] at h
  unfold listR at h ⊢
  split at h
  · rename_i h1
    split at h1
    · rename_i h2; exact ⟨h2, by rw [if_pos h2]⟩
    · cases h1
  · cases h
theorem fitK_yes {k : Ke} {v : List UInt8} (hk : k.kd = 1 ∨ k.kd = 2) : fitK k v = if v = yesL ∨ v = noL then 0 else 3 := by
  unfold fitK
  rw [if_pos (by omega)]
theorem fitK_yes0 {k : Ke} {v : List UInt8} (hk : k.kd = 1 ∨ k.kd = 2) (h : fitK k v = 0) : v = yesL ∨ v = noL := by
  rw [fitK_yes hk] at h
  split at h
  · assumption
  · cases h
theorem fitK_told {k : Ke} {v : List UInt8} (hk : k.kd = 6) : fitK k v = if v = [] then 3 else 0 := by
  unfold fitK
  rw [if_neg (by omega), if_neg (by omega), if_pos hk]
end Go.Proofs.YtmkebjdmkkjloaaGreatDoor
namespace Go.Proofs.YtmkebjdmkkjloaaGreatDoor
open Go.RowKit
theorem dig_dec : ∀ i : Fin 10, isDig 10 (UInt8.ofNat (48 + i.1)) = true ∧ digV (UInt8.ofNat (48 + i.1)) = i.1 := by decide +kernel
theorem numF_app (b : Nat) : ∀ (l m : List UInt8) (n : Nat), numF b n (l ++ m) = (numF b n l).bind (fun k => numF b k m)
  | [], m, n => rfl
  | c :: l, m, n => by
    rw [List.cons_append, numF, numF]
    split
    · split
      · exact numF_app b l m _
      · rfl
    · rfl
theorem dec_step {n : Nat} (h : ¬ n < 10) : Lib.decDigits n = Lib.decDigits (n / 10) ++ [UInt8.ofNat (48 + n % 10)] := by rw [Lib.decDigits, dif_neg h]
theorem numF_dec : ∀ (f n : Nat), n ≤ f → n < 1099511627776 → numF 10 0 (Lib.decDigits n) = some n := by
  intro f
  induction f with
  | zero =>
    intro n hf hn
    obtain rfl : n = 0 := by omega
    rw [Lib.decDigits_one (by decide)]
    decide
  | succ f ih =>
    intro n hf hn
    by_cases h : n < 10
    · rw [Lib.decDigits_one h]
      obtain ⟨h1, h2⟩ := dig_dec ⟨n, h⟩
      simp only at h1 h2
      rw [numF_go h1 (by rw [h2]; omega), h2, numF_nil]
      simp
    · rw [dec_step h, numF_app, ih (n / 10) (by omega) (by omega)]
      obtain ⟨h1, h2⟩ := dig_dec ⟨n % 10, by omega⟩
      simp only at h1 h2
      show numF 10 (n / 10) [UInt8.ofNat (48 + n % 10)] = some n
      rw [numF_go h1 (by rw [h2]; omega), h2, numF_nil]
      congr 1
      omega
theorem dec_ne (n : Nat) : Lib.decDigits n ≠ [] := by
  rw [Lib.decDigits]
  split <;> simp
theorem dec_head : ∀ (f n : Nat), n ≤ f → 1 ≤ n → (Lib.decDigits n).getD 0 0 ≠ 48 := by
  intro f
  induction f with
  | zero => intro n h1 h2; omega
  | succ f ih =>
    intro n hf hn
    by_cases h : n < 10
    · rw [Lib.decDigits_one h]
      have : ∀ i : Fin 10, 1 ≤ i.1 → ([UInt8.ofNat (48 + i.1)] : List UInt8).getD 0 0 ≠ 48 := by decide +kernel
      exact this ⟨n, h⟩ hn
    · rw [dec_step h]
      have h1 := ih (n / 10) (by omega) (by omega)
      cases hd : Lib.decDigits (n / 10) with
      | nil => exact absurd hd (dec_ne _)
      | cons c l => rw [hd] at h1; exact h1
theorem dec_dig : ∀ (f n : Nat), n ≤ f → ∀ c ∈ Lib.decDigits n, 48 ≤ c.toNat ∧ c.toNat ≤ 57 := by
  intro f
  induction f with
  | zero =>
    intro n h1 c hc
    obtain rfl : n = 0 := by omega
    rw [Lib.decDigits_one (by decide)] at hc
    rw [List.mem_singleton.1 hc]; decide
  | succ f ih =>
    intro n hf c hc
    have hd : ∀ i : Fin 10, 48 ≤ (UInt8.ofNat (48 + i.1)).toNat ∧ (UInt8.ofNat (48 + i.1)).toNat ≤ 57 := by decide +kernel
    by_cases h : n < 10
    · rw [Lib.decDigits_one h] at hc
      rw [List.mem_singleton.1 hc]; exact hd ⟨n, h⟩
    · rw [dec_step h] at hc
      rcases List.mem_append.1 hc with hc | hc
      · exact ih (n / 10) (by omega) c hc
      · rw [List.mem_singleton.1 hc]; exact hd ⟨n % 10, by omega⟩
theorem take2_of {s : List UInt8} {c d : UInt8} (h : s.take 2 = [c, d]) : ∃ r, s = c :: d :: r := by
  match s, h with
  | a :: b :: r, h => exact ⟨r, by simp at h; rw [h.1, h.2]⟩
  | [a], h => simp at h
  | [], h => simp at h
theorem numR_dec {n : Nat} (hn : n < 1099511627776) : numR (Lib.decDigits n) = some n := by
  unfold numR
  have h1 : ¬ (Lib.decDigits n).take 2 = [48, 120] := fun e => by
    obtain ⟨r, hr⟩ := take2_of e
    have := dec_dig n n (Nat.le_refl _) 120 (by rw [hr]; simp)
    revert this; decide
  have h2 : ¬ (1 < (Lib.decDigits n).length ∧ (Lib.decDigits n).getD 0 0 = 48) := fun ⟨e1, e2⟩ => by
    rcases Nat.eq_zero_or_pos n with h0 | h0
    · subst h0
      rw [Lib.decDigits_one (by decide)] at e1
      revert e1; decide
    · exact dec_head n n (Nat.le_refl _) h0 e2
  rw [if_neg h1, if_neg h2]
  unfold numU
  rw [if_neg (dec_ne n)]
  exact numF_dec n n (Nat.le_refl _) hn
theorem numD_dec {n : Nat} (hn : n < 1099511627776) : numD (Lib.decDigits n) = n := by unfold numD; rw [numR_dec hn]; rfl
theorem mem_split (c : UInt8) : ∀ (n : Nat) (s x : List UInt8), s.length ≤ n → x ∈ split1 c s → c ∉ x := by
  intro n
  induction n with
  | zero =>
    intro s x hn hx
    obtain rfl : s = [] := List.eq_nil_of_length_eq_zero (by omega)
    simp [split1] at hx
    rw [hx]; simp
  | succ n ih =>
    intro s x hn hx
    cases h : cut1 c s with
    | none =>
      rw [split1_none h] at hx
      rw [List.mem_singleton.1 hx]
      exact cut1_none h
    | some q =>
      obtain ⟨a, b⟩ := q
      rw [split1_some h] at hx
      obtain ⟨hs, ha⟩ := cut1_some h
      rcases List.mem_cons.1 hx with rfl | hx
      · exact ha
      · exact ih b x (by have := congrArg List.length hs; simp at this; omega) hx
theorem split_alone {c : UInt8} {s : List UInt8} (h : c ∉ s) : split1 c s = [s] := split1_none (cut1_not h)
end Go.Proofs.YtmkebjdmkkjloaaGreatDoor
namespace Go.Proofs.YtmkebjdmkkjloaaGreatDoor
open Go.RowKit
theorem resK_ok {k : Ke} {a b : List UInt8} (h1 : fitK k a = 0) (h2 : fitK k b = 0) : resK k a b = resOk k a b := by
  unfold resK; rw [if_neg (by simpa using h1), if_neg (by simpa using h2)]
theorem resK_off {k : Ke} {a b : List UInt8} (h : fitK k a ≠ 0) : resK k a b = ([], fitK k a) := by unfold resK; rw [if_pos h]
theorem resK_own {k : Ke} {a b : List UInt8} (h1 : fitK k a = 0) (h : fitK k b ≠ 0) : resK k a b = ([], fitK k b) := by
  unfold resK; rw [if_neg (by simpa using h1), if_pos h]
theorem resOk_and {k : Ke} (a b : List UInt8) (h : k.kd = 1) : resOk k a b = (yesNo (decide (a = yesL) && decide (b = yesL)), 0) := by unfold resOk; rw [if_pos h]
theorem resOk_or {k : Ke} (a b : List UInt8) (h : k.kd = 2) : resOk k a b = (yesNo (decide (a = yesL) || decide (b = yesL)), 0) := by unfold resOk; rw [if_neg (by omega), if_pos h]
theorem resOk_least {k : Ke} (a b : List UInt8) (h : k.kd = 3) : resOk k a b = (Lib.decDigits (min (numD a) (numD b)), 0) := by unfold resOk; rw [if_neg (by omega), if_neg (by omega), if_pos h]
theorem resOk_most {k : Ke} (a b : List UInt8) (h : k.kd = 4) : resOk k a b = (Lib.decDigits (max (numD a) (numD b)), 0) := by unfold resOk; rw [if_neg (by omega), if_neg (by omega), if_neg (by omega), if_pos h]
theorem resOk_first {k : Ke} (a b : List UInt8) (h : k.kd = 5) : resOk k a b = match firstR a b with | some x => (x, 0) | none => ([], 8) := by unfold resOk; rw [if_neg (by omega), if_neg (by omega), if_neg (by omega), if_neg (by omega), if_pos h]; first | done | (cases firstR a b <;> rfl)
theorem resOk_told {k : Ke} (a b : List UInt8) (h : k.kd = 6 ∨ k.kd = 7) : resOk k a b = (a, 0) := by unfold resOk; rw [if_neg (by omega), if_neg (by omega), if_neg (by omega), if_neg (by omega), if_neg (by omega)]
theorem yesNo_yes (b : Bool) : decide (yesNo b = yesL) = b := by cases b <;> decide
theorem yesNo_or (b : Bool) : yesNo b = yesL ∨ yesNo b = noL := by cases b <;> simp [yesNo]
theorem numD_of {s : List UInt8} {n : Nat} (h : numR s = some n) : numD s = n := by unfold numD; rw [h]; rfl
theorem fit_dec {k : Ke} {n : Nat} (hk : k.kd = 3 ∨ k.kd = 4 ∨ k.kd = 7) (hh : k.hi ≤ 16777215) (h1 : k.lo ≤ n) (h2 : n ≤ k.hi) : fitK k (Lib.decDigits n) = 0 := by
  rw [fitK_num hk, numR_dec (by omega)]
  simp only
  rw [if_neg (by omega)]
theorem word_ok {x : List UInt8} {l : List (List UInt8)} (hl : OkL l) (hx : x ∈ l) (hc : (44 : UInt8) ∉ x) : listR x = some [x] := by
  unfold listR
  rw [split_alone hc, if_pos]
  exact ⟨fun y hy => by rw [List.mem_singleton.1 hy]; exact hl.1 x hx, by simp⟩
theorem firstR_some {a b x : List UInt8} (h : firstR a b = some x) : x ∈ split1 44 a ∧ x ∈ split1 44 b := by
  unfold firstR at h
  exact ⟨List.mem_of_find?_eq_some h, by simpa using List.find?_some h⟩
theorem firstR_self {x b : List UInt8} (hx : (44 : UInt8) ∉ x) (h : x ∈ split1 44 b) : firstR x b = some x := by
  unfold firstR
  rw [split_alone hx]
  simp [h]
theorem resK_again {k : Ke} {a b : List UInt8} (hk : 1 ≤ k.kd ∧ k.kd ≤ 7) (hh : k.hi ≤ 16777215) (h : (resK k a b).2 = 0) :
    fitK k (resK k a b).1 = 0 ∧ resK k (resK k a b).1 (resK k a b).1 = ((resK k a b).1, 0) ∧ resK k (resK k a b).1 b = ((resK k a b).1, 0) := by
  have ha : fitK k a = 0 := by
    rcases Nat.eq_zero_or_pos (fitK k a) with h0 | h0
    · exact h0
    · rw [resK_off (by omega)] at h; exact absurd h (by simp only; omega)
  have hb : fitK k b = 0 := by
    rcases Nat.eq_zero_or_pos (fitK k b) with h0 | h0
    · exact h0
    · rw [resK_own ha (by omega)] at h; exact absurd h (by simp only; omega)
  rw [resK_ok ha hb] at h ⊢
  have hc : k.kd = 1 ∨ k.kd = 2 ∨ k.kd = 3 ∨ k.kd = 4 ∨ k.kd = 5 ∨ k.kd = 6 ∨ k.kd = 7 := by omega
  rcases hc with hc | hc | hc | hc | hc | hc | hc
  · rw [resOk_and a b hc]
    simp only
    have hf : ∀ c, fitK k (yesNo c) = 0 := fun c => by rw [fitK_yes (.inl hc), if_pos (yesNo_or c)]
    refine ⟨hf _, ?_, ?_⟩
    · rw [resK_ok (hf _) (hf _), resOk_and _ _ hc, yesNo_yes]
      cases decide (a = yesL) <;> cases decide (b = yesL) <;> rfl
    · rw [resK_ok (hf _) hb, resOk_and _ _ hc, yesNo_yes]
      cases decide (a = yesL) <;> cases decide (b = yesL) <;> rfl
  · rw [resOk_or a b hc]
    simp only
    have hf : ∀ c, fitK k (yesNo c) = 0 := fun c => by rw [fitK_yes (.inr hc), if_pos (yesNo_or c)]
    refine ⟨hf _, ?_, ?_⟩
    · rw [resK_ok (hf _) (hf _), resOk_or _ _ hc, yesNo_yes]
      cases decide (a = yesL) <;> cases decide (b = yesL) <;> rfl
    · rw [resK_ok (hf _) hb, resOk_or _ _ hc, yesNo_yes]
      cases decide (a = yesL) <;> cases decide (b = yesL) <;> rfl
  · obtain ⟨n, hn, n1, n2⟩ := fitK_num0 (.inl hc) ha
    obtain ⟨m, hm, m1, m2⟩ := fitK_num0 (.inl hc) hb
    rw [resOk_least a b hc, numD_of hn, numD_of hm]
    simp only
    have hf := fit_dec (n := min n m) (.inl hc) hh (by omega) (by omega)
    refine ⟨hf, ?_, ?_⟩
    · rw [resK_ok hf hf, resOk_least _ _ hc, numD_dec (by omega), Nat.min_self]
    · rw [resK_ok hf hb, resOk_least _ _ hc, numD_dec (by omega), numD_of hm, show min (min n m) m = min n m by omega]
  · obtain ⟨n, hn, n1, n2⟩ := fitK_num0 (.inr (.inl hc)) ha
    obtain ⟨m, hm, m1, m2⟩ := fitK_num0 (.inr (.inl hc)) hb
    rw [resOk_most a b hc, numD_of hn, numD_of hm]
    simp only
    have hf := fit_dec (n := max n m) (.inr (.inl hc)) hh (by omega) (by omega)
    refine ⟨hf, ?_, ?_⟩
    · rw [resK_ok hf hf, resOk_most _ _ hc, numD_dec (by omega), Nat.max_self]
    · rw [resK_ok hf hb, resOk_most _ _ hc, numD_dec (by omega), numD_of hm, show max (max n m) m = max n m by omega]
  · rw [resOk_first a b hc] at h ⊢
    cases hx : firstR a b with
    | none => rw [hx] at h; cases h
    | some x =>
      simp only
      obtain ⟨x1, x2⟩ := firstR_some hx
      have hxc := mem_split 44 a.length a x (Nat.le_refl _) x1
      have hok := (fitK_list0 hc ha).1
      have hf : fitK k x = 0 := by rw [fitK_list hc, word_ok hok x1 hxc]
      refine ⟨hf, ?_, ?_⟩
      · rw [resK_ok hf hf, resOk_first _ _ hc, firstR_self hxc (by rw [split_alone hxc]; simp)]
      · rw [resK_ok hf hb, resOk_first _ _ hc, firstR_self hxc x2]
  · rw [resOk_told a b (.inl hc)]
    simp only
    exact ⟨ha, by rw [resK_ok ha ha, resOk_told _ _ (.inl hc)], by rw [resK_ok ha hb, resOk_told _ _ (.inl hc)]⟩
  · rw [resOk_told a b (.inr hc)]
    simp only
    exact ⟨ha, by rw [resK_ok ha ha, resOk_told _ _ (.inr hc)], by rw [resK_ok ha hb, resOk_told _ _ (.inr hc)]⟩
end Go.Proofs.YtmkebjdmkkjloaaGreatDoor
namespace Go.Proofs.YtmkebjdmkkjloaaGreatDoor
open Go.RowKit
set_option linter.unusedVariables false
def notL : List UInt8 := [78, 111, 116, 85, 110, 100, 101, 114, 115, 116, 111, 111, 100]
def rejL : List UInt8 := [82, 101, 106, 101, 99, 116]
def irrL : List UInt8 := [73, 114, 114, 101, 108, 101, 118, 97, 110, 116]
def ownV (mine : List Pr) (k : Ke) : List UInt8 := (prFind mine k.nm).getD k.df
def oneK (mine : List Pr) (k : Ke) (v : List UInt8) (lg dc : Bool) : Option (List UInt8) × Option (List UInt8) :=
  if k.lg = true ∧ lg = false then (some rejL, none)
  else if k.no = true ∧ dc = true then (some irrL, none)
  else if fitK k v ≠ 0 then (some rejL, none)
  else if k.kd = 6 ∨ k.kd = 7 then (none, some v)
  else if (resK k v (ownV mine k)).2 ≠ 0 then (some rejL, none)
  else (some (resK k v (ownV mine k)).1, some (resK k v (ownV mine k)).1)
def oneN (mine : List Pr) (lg dc : Bool) (p : Pr) : Option (List UInt8) × Option (List UInt8) := match rowOf p.k with
  | none => (some notL, none)
  | some k => oneK mine k p.v lg dc
def asP (k : List UInt8) : Option (List UInt8) → List Pr
  | none => []
  | some v => [⟨k, v⟩]
def recN (rec : List Pr) (k : List UInt8) : Option (List UInt8) → List Pr
  | none => rec
  | some v => rec.filter (fun q => decide (q.k ≠ k)) ++ [⟨k, v⟩]
def goN (f : Pr → Option (List UInt8) × Option (List UInt8)) : List Pr → List Pr → List Pr × List Pr
  | [], rec => ([], rec)
  | p :: l, rec => (asP p.k (f p).1 ++ (goN f l (recN rec p.k (f p).2)).1, (goN f l (recN rec p.k (f p).2)).2)
def twiceF : Nat → List (List UInt8) → List Pr → Option Nat
  | _, _, [] => none
  | i, seen, p :: l => if p.k ∈ seen then some i else twiceF (i + 1) (p.k :: seen) l
def keysP (l : List Pr) : List (List UInt8) := l.map (·.k)
def ansN (mine rec l : List Pr) (lg dc : Bool) : (List Pr × Int × Int) × List Pr :=
  if (prRight l).1 ≠ 0 then (([], prRight l), rec)
  else match twiceF 0 (if lg = true then keysP rec else []) l with
    | some i => (([], 9, (i : Int)), rec)
    | none => (((goN (oneN mine lg dc) l rec).1, 0, -1), (goN (oneN mine lg dc) l rec).2)
def newF : Nat → List (List UInt8) → List Pr → Int × Int
  | _, _, [] => (0, -1)
  | i, seen, p :: l => if p.k ∈ seen then (9, (i : Int)) else if keyFits p.k p.v ≠ 0 then ((keyFits p.k p.v : Int), (i : Int)) else newF (i + 1) (p.k :: seen) l
def newN (l : List Pr) : Int × Int := if (prRight l).1 ≠ 0 then prRight l else newF 0 [] l
def valN (l : List Pr) (key : List UInt8) : List UInt8 × Int := match rowOf key with
  | none => ([], 5)
  | some k => ((prFind l key).getD k.df, 0)
theorem newF_cons (i : Nat) (seen : List (List UInt8)) (p : Pr) (l : List Pr) : newF i seen (p :: l) = if p.k ∈ seen then (9, (i : Int)) else if keyFits p.k p.v ≠ 0 then ((keyFits p.k p.v : Int), (i : Int)) else newF (i + 1) (p.k :: seen) l := rfl
theorem newF_is : ∀ (l : List Pr) (i : Nat) (seen : List (List UInt8)), (newF i seen l).1 = 0 → (keysP l).Nodup ∧ (∀ p ∈ l, p.k ∉ seen ∧ keyFits p.k p.v = 0) ∧ newF i seen l = (0, -1)
  | [], _, _, _ => ⟨List.nodup_nil, (fun _ h => absurd h List.not_mem_nil), rfl⟩
  | p :: l, i, seen, h => by
    rw [newF_cons] at h ⊢
    by_cases h1 : p.k ∈ seen
    · rw [if_pos h1] at h; exact absurd h (show ¬ (9 : Int) = 0 by decide)
    · rw [if_neg h1] at h ⊢
      by_cases h2 : keyFits p.k p.v ≠ 0
      · rw [if_pos h2] at h
        simp only at h
        exact absurd h (by omega)
      · rw [if_neg h2] at h ⊢
        obtain ⟨i1, i2, i3⟩ := newF_is l (i + 1) (p.k :: seen) h
        refine ⟨?_, ?_, i3⟩
        · unfold keysP at i1 ⊢
          rw [List.map_cons, List.nodup_cons]
          refine ⟨fun hm => ?_, i1⟩
          obtain ⟨q, hq, e⟩ := List.mem_map.1 hm
          exact (i2 q hq).1 (by rw [← e]; exact List.mem_cons_self ..)
        · intro q hq
          rcases List.mem_cons.1 hq with rfl | hq
          · exact ⟨h1, by simpa using h2⟩
          · exact ⟨fun hm => (i2 q hq).1 (List.mem_cons_of_mem _ hm), (i2 q hq).2⟩
structure MineOk (l : List Pr) : Prop where
  ok : okPs l
  few : l.length ≤ 60
  one : (keysP l).Nodup
  fit : ∀ p ∈ l, keyFits p.k p.v = 0
theorem newN_is {l : List Pr} (h : (newN l).1 = 0) : MineOk l ∧ newN l = (0, -1) := by
  unfold newN at h ⊢
  by_cases h1 : (prRight l).1 ≠ 0
  · rw [if_pos h1] at h; exact absurd h h1
  · rw [if_neg h1] at h ⊢
    obtain ⟨a, b, _⟩ := prRight_is (by simpa using h1)
    obtain ⟨i1, i2, i3⟩ := newF_is l 0 [] h
    exact ⟨⟨a, b, i1, fun p hp => (i2 p hp).2⟩, i3⟩
theorem twiceF_cons (i : Nat) (seen : List (List UInt8)) (p : Pr) (l : List Pr) : twiceF i seen (p :: l) = if p.k ∈ seen then some i else twiceF (i + 1) (p.k :: seen) l := rfl
theorem twiceF_none : ∀ (l : List Pr) (i : Nat) (seen : List (List UInt8)), twiceF i seen l = none ↔ (keysP l).Nodup ∧ ∀ p ∈ l, p.k ∉ seen
  | [], i, seen => ⟨fun _ => ⟨List.nodup_nil, fun _ h => absurd h List.not_mem_nil⟩, fun _ => rfl⟩
  | p :: l, i, seen => by
    rw [twiceF_cons]
    by_cases h1 : p.k ∈ seen
    · rw [if_pos h1]
      exact ⟨fun h => (by cases h), fun h => absurd h1 (h.2 p (List.mem_cons_self ..))⟩
    · rw [if_neg h1, twiceF_none l (i + 1) (p.k :: seen)]
      unfold keysP
      rw [List.map_cons, List.nodup_cons]
      constructor
      · rintro ⟨a, b⟩
        refine ⟨⟨fun hm => ?_, a⟩, fun q hq => ?_⟩
        · obtain ⟨q, hq, e⟩ := List.mem_map.1 hm
          exact b q hq (by rw [← e]; exact List.mem_cons_self ..)
        · rcases List.mem_cons.1 hq with rfl | hq
          · exact h1
          · exact fun hm => b q hq (List.mem_cons_of_mem _ hm)
      · rintro ⟨⟨a, b⟩, c⟩
        refine ⟨b, fun q hq hm => ?_⟩
        rcases List.mem_cons.1 hm with e | hm
        · exact a (by rw [← e]; exact List.mem_map.2 ⟨q, hq, rfl⟩)
        · exact c q (List.mem_cons_of_mem _ hq) hm
theorem twiceF_seen : ∀ (l : List Pr) (i : Nat) (s t : List (List UInt8)), (∀ x, x ∈ s ↔ x ∈ t) → twiceF i s l = twiceF i t l
  | [], _, _, _, _ => rfl
  | p :: l, i, s, t, h => by
    rw [twiceF_cons, twiceF_cons, twiceF_seen l (i + 1) (p.k :: s) (p.k :: t) (fun x => by simp [h x])]
    by_cases hp : p.k ∈ s
    · rw [if_pos hp, if_pos ((h _).1 hp)]
    · rw [if_neg hp, if_neg (fun hh => hp ((h _).2 hh))]
theorem newF_seen : ∀ (l : List Pr) (i : Nat) (s t : List (List UInt8)), (∀ x, x ∈ s ↔ x ∈ t) → newF i s l = newF i t l
  | [], _, _, _, _ => rfl
  | p :: l, i, s, t, h => by
    rw [newF_cons, newF_cons, newF_seen l (i + 1) (p.k :: s) (p.k :: t) (fun x => by simp [h x])]
    by_cases hp : p.k ∈ s
    · rw [if_pos hp, if_pos ((h _).1 hp)]
    · rw [if_neg hp, if_neg (fun hh => hp ((h _).2 hh))]
theorem keys_take {l : List Pr} {j : Nat} (hj : j < l.length) : keysP (l.take (j + 1)) = keysP (l.take j) ++ [l[j].k] := by
  unfold keysP
  rw [← List.take_append_getElem hj, List.map_append]
  rfl
theorem newF_step {l : List Pr} {j : Nat} (hj : j < l.length) : newF j (keysP (l.take j)) (l.drop j) = if l[j].k ∈ keysP (l.take j) then (9, (j : Int)) else if keyFits l[j].k l[j].v ≠ 0 then ((keyFits l[j].k l[j].v : Int), (j : Int)) else newF (j + 1) (keysP (l.take (j + 1))) (l.drop (j + 1)) := by
  rw [List.drop_eq_getElem_cons hj, newF_cons, newF_seen _ _ (l[j].k :: keysP (l.take j)) (keysP (l.take (j + 1))) (fun x => by rw [keys_take hj]; simp [or_comm])]
theorem twiceF_step {l : List Pr} {s : List (List UInt8)} {j : Nat} (hj : j < l.length) : twiceF j (s ++ keysP (l.take j)) (l.drop j) = if l[j].k ∈ s ++ keysP (l.take j) then some j else twiceF (j + 1) (s ++ keysP (l.take (j + 1))) (l.drop (j + 1)) := by
  rw [List.drop_eq_getElem_cons hj, twiceF_cons, twiceF_seen _ _ (l[j].k :: (s ++ keysP (l.take j))) (s ++ keysP (l.take (j + 1))) (fun x => by rw [keys_take hj]; simp only [List.mem_cons, List.mem_append, List.mem_nil_iff, or_false]; constructor <;> (rintro (h | h | h) <;> simp [h]))]
theorem nodup_rec {rec : List Pr} (k : List UInt8) (v : Option (List UInt8)) (h : (keysP rec).Nodup) : (keysP (recN rec k v)).Nodup := by
  cases v with
  | none => exact h
  | some y =>
    unfold recN keysP
    rw [List.map_append, List.nodup_append]
    refine ⟨?_, by simp, ?_⟩
    · exact List.Nodup.sublist (List.Sublist.map _ (List.filter_sublist)) h
    · intro a ha b hb
      obtain ⟨q, hq, e⟩ := List.mem_map.1 ha
      have := (List.mem_filter.1 hq).2
      simp only [List.map_cons, List.map_nil, List.mem_singleton] at hb
      subst hb e
      simpa using this
theorem goN_cons (f : Pr → Option (List UInt8) × Option (List UInt8)) (p : Pr) (l rec : List Pr) : goN f (p :: l) rec = (asP p.k (f p).1 ++ (goN f l (recN rec p.k (f p).2)).1, (goN f l (recN rec p.k (f p).2)).2) := rfl
theorem goN_nodup (f : Pr → Option (List UInt8) × Option (List UInt8)) : ∀ (l rec : List Pr), (keysP rec).Nodup → (keysP (goN f l rec).2).Nodup
  | [], rec, h => h
  | p :: l, rec, h => goN_nodup f l _ (nodup_rec _ _ h)
theorem goN_from (f : Pr → Option (List UInt8) × Option (List UInt8)) (J : Pr → Prop) : ∀ (l rec : List Pr), (∀ q ∈ rec, J q) → (∀ p ∈ l, ∀ v, (f p).2 = some v → J ⟨p.k, v⟩) → ∀ q ∈ (goN f l rec).2, J q
  | [], rec, h, _ => h
  | p :: l, rec, h, hf => by
    refine goN_from f J l _ (fun q hq => ?_) (fun q hq => hf q (List.mem_cons_of_mem _ hq))
    cases hv : (f p).2 with
    | none => rw [hv] at hq; exact h q hq
    | some v =>
      rw [hv] at hq
      unfold recN at hq
      rcases List.mem_append.1 hq with hq | hq
      · exact h q (List.mem_filter.1 hq).1
      · rw [List.mem_singleton.1 hq]; exact hf p (List.mem_cons_self ..) v hv
end Go.Proofs.YtmkebjdmkkjloaaGreatDoor
namespace Go.Proofs.YtmkebjdmkkjloaaGreatDoor
open Go.RowKit
set_option linter.unusedVariables false
structure Po where
  ad : List UInt8
  gr : Int
structure Cf where
  ts : List (List UInt8)
  ps : List Po
  us : List Us
  sn : List UInt8
  ss : List UInt8
  lim : Int
  own : List Pr
def nameOk (s : List UInt8) : Bool := decide (1 ≤ s.length ∧ s.length ≤ 100) && isVal s
theorem nameOk_is {s : List UInt8} (h : nameOk s = true) : 1 ≤ s.length ∧ s.length ≤ 100 ∧ isVal s = true := by
  unfold nameOk at h
  simp only [Bool.and_eq_true, decide_eq_true_eq] at h
  exact ⟨h.1.1, h.1.2, h.2⟩
def tsBad : Nat → List (List UInt8) → List (List UInt8) → Int × Int
  | _, _, [] => (0, -1)
  | i, seen, t :: l => if nameOk t = false ∨ t ∈ seen then (5, (i : Int)) else tsBad (i + 1) (seen ++ [t]) l
def poBad : Nat → List Po → Int × Int
  | _, [] => (0, -1)
  | i, p :: l => if nameOk p.ad = false then (5, (i : Int)) else if p.gr < 0 ∨ 65535 < p.gr then (2, (i : Int)) else poBad (i + 1) l
def usBad : Nat → List (List UInt8) → List Us → Int × Int
  | _, _, [] => (0, -1)
  | i, seen, u :: l => if u.nm ∈ seen ∨ nameOk u.nm = false ∨ nameOk u.sc = false then (5, (i : Int)) else usBad (i + 1) (seen ++ [u.nm]) l
def selfBad (a b : List UInt8) : Prop := ¬ (a = [] ∧ b = []) ∧ ¬ (nameOk a = true ∧ nameOk b = true)
instance (a b : List UInt8) : Decidable (selfBad a b) := by unfold selfBad; exact inferInstance
def restR (c : Cf) : Int × Int := if selfBad c.sn c.ss then (3, -1) else if c.lim < 512 ∨ 100000 < c.lim then (2, -1) else newN c.own
def tgtR (c : Cf) : Int × Int :=
  if 8 < c.ts.length ∨ 4 < c.ps.length ∨ 8 < c.us.length then (4, -1)
  else if (tsBad 0 [] c.ts).1 ≠ 0 then tsBad 0 [] c.ts
  else if (poBad 0 c.ps).1 ≠ 0 then poBad 0 c.ps
  else if (usBad 0 [] c.us).1 ≠ 0 then usBad 0 [] c.us
  else restR c
theorem tsBad_cons (i : Nat) (seen : List (List UInt8)) (t : List UInt8) (l : List (List UInt8)) : tsBad i seen (t :: l) = if nameOk t = false ∨ t ∈ seen then (5, (i : Int)) else tsBad (i + 1) (seen ++ [t]) l := rfl
theorem poBad_cons (i : Nat) (p : Po) (l : List Po) : poBad i (p :: l) = if nameOk p.ad = false then (5, (i : Int)) else if p.gr < 0 ∨ 65535 < p.gr then (2, (i : Int)) else poBad (i + 1) l := rfl
theorem usBad_cons (i : Nat) (seen : List (List UInt8)) (u : Us) (l : List Us) : usBad i seen (u :: l) = if u.nm ∈ seen ∨ nameOk u.nm = false ∨ nameOk u.sc = false then (5, (i : Int)) else usBad (i + 1) (seen ++ [u.nm]) l := rfl
def tgtR3 (c : Cf) : Int × Int := if (usBad 0 [] c.us).1 ≠ 0 then usBad 0 [] c.us else restR c
def tgtR2 (c : Cf) : Int × Int := if (poBad 0 c.ps).1 ≠ 0 then poBad 0 c.ps else tgtR3 c
theorem tgtR_much {c : Cf} (h : 8 < c.ts.length ∨ 4 < c.ps.length ∨ 8 < c.us.length) : tgtR c = (4, -1) := by unfold tgtR; rw [if_pos h]
theorem tgtR_few {c : Cf} (h : ¬ (8 < c.ts.length ∨ 4 < c.ps.length ∨ 8 < c.us.length)) : tgtR c = if (tsBad 0 [] c.ts).1 ≠ 0 then tsBad 0 [] c.ts else tgtR2 c := by unfold tgtR; rw [if_neg h]; rfl
theorem tsBad_ways : ∀ (l : List (List UInt8)) (i : Nat) (seen : List (List UInt8)), ((tsBad i seen l).1 = 0 ∧ tsBad i seen l = (0, -1) ∧ (∀ t ∈ l, nameOk t = true ∧ t ∉ seen) ∧ l.Nodup) ∨ ((tsBad i seen l).1 = 5 ∧ ¬ ((∀ t ∈ l, nameOk t = true ∧ t ∉ seen) ∧ l.Nodup))
  | [], i, seen => .inl ⟨rfl, rfl, fun t h => absurd h List.not_mem_nil, List.nodup_nil⟩
  | t :: l, i, seen => by
    unfold tsBad
    by_cases h : nameOk t = false ∨ t ∈ seen
    · rw [if_pos h]
      refine .inr ⟨rfl, fun h2 => ?_⟩
      obtain ⟨h3, h4⟩ := h2.1 t List.mem_cons_self
      rcases h with h | h
      · rw [h3] at h; cases h
      · exact h4 h
    · rw [if_neg h]
      have hn : nameOk t = true := by cases hh : nameOk t with
        | true => rfl
        | false => exact absurd (.inl hh) h
      have hs : t ∉ seen := fun hh => h (.inr hh)
      rcases tsBad_ways l (i + 1) (seen ++ [t]) with ⟨h1, h2, h3, h4⟩ | ⟨h1, h2⟩
      · refine .inl ⟨h1, h2, fun x hx => ?_, ?_⟩
        · rcases List.mem_cons.1 hx with rfl | hx
          · exact ⟨hn, hs⟩
          · exact ⟨(h3 x hx).1, fun hh => (h3 x hx).2 (List.mem_append_left _ hh)⟩
        · exact List.nodup_cons.2 ⟨fun hh => (h3 t hh).2 (List.mem_append_right _ List.mem_cons_self), h4⟩
      · refine .inr ⟨h1, fun hh => h2 ⟨fun x hx => ⟨(hh.1 x (List.mem_cons_of_mem _ hx)).1, fun hm => ?_⟩, (List.nodup_cons.1 hh.2).2⟩⟩
        rcases List.mem_append.1 hm with hm | hm
        · exact (hh.1 x (List.mem_cons_of_mem _ hx)).2 hm
        · rw [List.mem_singleton.1 hm] at hx
          exact (List.nodup_cons.1 hh.2).1 hx
theorem tsBad_ok {l : List (List UInt8)} : (tsBad 0 [] l).1 = 0 ↔ (∀ t ∈ l, nameOk t = true) ∧ l.Nodup := by
  rcases tsBad_ways l 0 [] with ⟨h1, _, h3, h4⟩ | ⟨h1, h2⟩
  · exact ⟨fun _ => ⟨fun t h => (h3 t h).1, h4⟩, fun _ => h1⟩
  · exact ⟨fun h => (by rw [h1] at h; cases h), fun h => absurd ⟨fun t ht => ⟨h.1 t ht, List.not_mem_nil⟩, h.2⟩ h2⟩
theorem poBad_ways : ∀ (l : List Po) (i : Nat), ((poBad i l).1 = 0 ∧ poBad i l = (0, -1) ∧ (∀ p ∈ l, nameOk p.ad = true ∧ 0 ≤ p.gr ∧ p.gr ≤ 65535)) ∨ ((poBad i l).1 ≠ 0 ∧ ¬ (∀ p ∈ l, nameOk p.ad = true ∧ 0 ≤ p.gr ∧ p.gr ≤ 65535))
  | [], i => .inl ⟨rfl, rfl, fun t h => absurd h List.not_mem_nil⟩
  | p :: l, i => by
    unfold poBad
    by_cases h : nameOk p.ad = false
    · rw [if_pos h]
      exact .inr ⟨by simp, fun h2 => by rw [(h2 p List.mem_cons_self).1] at h; cases h⟩
    · rw [if_neg h]
      have hn : nameOk p.ad = true := by cases hh : nameOk p.ad with
        | true => rfl
        | false => exact absurd hh h
      by_cases hg : p.gr < 0 ∨ 65535 < p.gr
      · rw [if_pos hg]
        exact .inr ⟨by simp, fun h2 => by have := (h2 p List.mem_cons_self).2; omega⟩
      · rw [if_neg hg]
        rcases poBad_ways l (i + 1) with ⟨h1, h2, h3⟩ | ⟨h1, h2⟩
        · refine .inl ⟨h1, h2, fun x hx => ?_⟩
          rcases List.mem_cons.1 hx with rfl | hx
          · exact ⟨hn, by omega, by omega⟩
          · exact h3 x hx
        · exact .inr ⟨h1, fun hh => h2 fun x hx => hh x (List.mem_cons_of_mem _ hx)⟩
theorem poBad_ok {l : List Po} : (poBad 0 l).1 = 0 ↔ ∀ p ∈ l, nameOk p.ad = true ∧ 0 ≤ p.gr ∧ p.gr ≤ 65535 := by
  rcases poBad_ways l 0 with ⟨h1, _, h3⟩ | ⟨h1, h2⟩
  · exact ⟨fun _ => h3, fun _ => h1⟩
  · exact ⟨fun h => absurd h h1, fun h => absurd h h2⟩
theorem usBad_ways : ∀ (l : List Us) (i : Nat) (seen : List (List UInt8)), ((usBad i seen l).1 = 0 ∧ usBad i seen l = (0, -1) ∧ (∀ u ∈ l, nameOk u.nm = true ∧ nameOk u.sc = true ∧ u.nm ∉ seen) ∧ (l.map (·.nm)).Nodup) ∨ ((usBad i seen l).1 = 5 ∧ ¬ ((∀ u ∈ l, nameOk u.nm = true ∧ nameOk u.sc = true ∧ u.nm ∉ seen) ∧ (l.map (·.nm)).Nodup))
  | [], i, seen => .inl ⟨rfl, rfl, fun t h => absurd h List.not_mem_nil, List.nodup_nil⟩
  | u :: l, i, seen => by
    unfold usBad
    by_cases h : u.nm ∈ seen ∨ nameOk u.nm = false ∨ nameOk u.sc = false
    · rw [if_pos h]
      refine .inr ⟨rfl, fun h2 => ?_⟩
      obtain ⟨h3, h4, h5⟩ := h2.1 u List.mem_cons_self
      rcases h with h | h | h
      · exact h5 h
      · rw [h3] at h; cases h
      · rw [h4] at h; cases h
    · rw [if_neg h]
      have hs : u.nm ∉ seen := fun hh => h (.inl hh)
      have hn : nameOk u.nm = true := by cases hh : nameOk u.nm with
        | true => rfl
        | false => exact absurd (.inr (.inl hh)) h
      have hn2 : nameOk u.sc = true := by cases hh : nameOk u.sc with
        | true => rfl
        | false => exact absurd (.inr (.inr hh)) h
      rcases usBad_ways l (i + 1) (seen ++ [u.nm]) with ⟨h1, h2, h3, h4⟩ | ⟨h1, h2⟩
      · refine .inl ⟨h1, h2, fun x hx => ?_, ?_⟩
        · rcases List.mem_cons.1 hx with rfl | hx
          · exact ⟨hn, hn2, hs⟩
          · exact ⟨(h3 x hx).1, (h3 x hx).2.1, fun hh => (h3 x hx).2.2 (List.mem_append_left _ hh)⟩
        · rw [List.map_cons]
          refine List.nodup_cons.2 ⟨fun hh => ?_, h4⟩
          obtain ⟨x, hx, he⟩ := List.mem_map.1 hh
          exact (h3 x hx).2.2 (List.mem_append_right _ (by rw [he]; exact List.mem_cons_self))
      · refine .inr ⟨h1, fun hh => h2 ⟨fun x hx => ⟨(hh.1 x (List.mem_cons_of_mem _ hx)).1, (hh.1 x (List.mem_cons_of_mem _ hx)).2.1, fun hm => ?_⟩, ?_⟩⟩
        · rcases List.mem_append.1 hm with hm | hm
          · exact (hh.1 x (List.mem_cons_of_mem _ hx)).2.2 hm
          · have := hh.2
            rw [List.map_cons] at this
            exact (List.nodup_cons.1 this).1 (List.mem_map.2 ⟨x, hx, List.mem_singleton.1 hm⟩)
        · have := hh.2
          rw [List.map_cons] at this
          exact (List.nodup_cons.1 this).2
theorem usBad_ok {l : List Us} : (usBad 0 [] l).1 = 0 ↔ (∀ u ∈ l, nameOk u.nm = true ∧ nameOk u.sc = true) ∧ (l.map (·.nm)).Nodup := by
  rcases usBad_ways l 0 [] with ⟨h1, _, h3, h4⟩ | ⟨h1, h2⟩
  · exact ⟨fun _ => ⟨fun t h => ⟨(h3 t h).1, (h3 t h).2.1⟩, h4⟩, fun _ => h1⟩
  · exact ⟨fun h => (by rw [h1] at h; cases h), fun h => absurd ⟨fun t ht => ⟨(h.1 t ht).1, (h.1 t ht).2, List.not_mem_nil⟩, h.2⟩ h2⟩
structure CfOk (c : Cf) : Prop where
  nt : c.ts.length ≤ 8
  np : c.ps.length ≤ 4
  nu : c.us.length ≤ 8
  ts : (∀ t ∈ c.ts, nameOk t = true) ∧ c.ts.Nodup
  ps : ∀ p ∈ c.ps, nameOk p.ad = true ∧ 0 ≤ p.gr ∧ p.gr ≤ 65535
  us : (∀ u ∈ c.us, nameOk u.nm = true ∧ nameOk u.sc = true) ∧ (c.us.map (·.nm)).Nodup
  rest : (restR c).1 = 0
theorem tgtR_ok {c : Cf} : (tgtR c).1 = 0 ↔ CfOk c := by
  unfold tgtR
  by_cases h1 : 8 < c.ts.length ∨ 4 < c.ps.length ∨ 8 < c.us.length
  · rw [if_pos h1]
    exact ⟨fun h => (by cases h), fun h => by have := h.nt; have := h.np; have := h.nu; omega⟩
  · rw [if_neg h1]
    by_cases h2 : (tsBad 0 [] c.ts).1 ≠ 0
    · rw [if_pos h2]
      exact ⟨fun h => absurd h h2, fun h => absurd (tsBad_ok.2 h.ts) h2⟩
    · rw [if_neg h2]
      by_cases h3 : (poBad 0 c.ps).1 ≠ 0
      · rw [if_pos h3]
        exact ⟨fun h => absurd h h3, fun h => absurd (poBad_ok.2 h.ps) h3⟩
      · rw [if_neg h3]
        by_cases h4 : (usBad 0 [] c.us).1 ≠ 0
        · rw [if_pos h4]
          exact ⟨fun h => absurd h h4, fun h => absurd (usBad_ok.2 h.us) h4⟩
        · rw [if_neg h4]
          exact ⟨fun h => ⟨by omega, by omega, by omega, tsBad_ok.1 (by simpa using h2), poBad_ok.1 (by simpa using h3), usBad_ok.1 (by simpa using h4), h⟩, fun h => h.rest⟩
def nmK : List UInt8 := [84, 97, 114, 103, 101, 116, 78, 97, 109, 101]
def hasT (ts : List (List UInt8)) (name : List UInt8) : Bool := decide (name ∈ ts)
end Go.Proofs.YtmkebjdmkkjloaaGreatDoor
