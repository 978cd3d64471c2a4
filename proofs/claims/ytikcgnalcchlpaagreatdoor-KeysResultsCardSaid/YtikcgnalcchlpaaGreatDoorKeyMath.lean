/- Numerals, lists, what fits a key, what comes of two values, as plain data. No program stands in it. -/
import Derived.Test.YtikcgnalcchlpaaGreatDoorKeyTab
import Derived.Test.YtikcgnalcchlpaaGreatDoorPairMath2
import Derived.Test.YtikcgnalcchlpaaGreatDoorParsePlain
import Derived.Lib.ItoaMem
namespace Go.Proofs.YtikcgnalcchlpaaGreatDoor
open Go.RowKit
def yesL : List UInt8 := [89, 101, 115]
def noL : List UInt8 := [78, 111]
/-- digits behind a number -/
def numF (b : Nat) : Nat → List UInt8 → Option Nat
  | n, [] => some n
  | n, c :: l => if isDig b c = true then (if n * b + digV c < 1099511627776 then numF b (n * b + digV c) l else none) else none
def numU (b : Nat) (l : List UInt8) : Option Nat := if l = [] then none else numF b 0 l
/-- the number that a numeral is -/
def numR (s : List UInt8) : Option Nat := if s.take 2 = [48, 120] then numU 16 (s.drop 2) else if 1 < s.length ∧ s.getD 0 0 = 48 then none else numU 10 s
theorem numF_nil (b n : Nat) : numF b n [] = some n := rfl
theorem numF_bad {b n : Nat} {c : UInt8} {l : List UInt8} (h : isDig b c = false) : numF b n (c :: l) = none := by simp [numF, h]
theorem numF_big {b n : Nat} {c : UInt8} {l : List UInt8} (h : isDig b c = true) (h2 : 1099511627776 ≤ n * b + digV c) : numF b n (c :: l) = none := by
  unfold numF; rw [if_pos h, if_neg (by omega)]
theorem numF_go {b n : Nat} {c : UInt8} {l : List UInt8} (h : isDig b c = true) (h2 : n * b + digV c < 1099511627776) : numF b n (c :: l) = numF b (n * b + digV c) l := by
  rw [numF]; rw [if_pos h, if_pos h2]
theorem numF_lt : ∀ (b : Nat) (l : List UInt8) (n m : Nat), n < 1099511627776 → numF b n l = some m → m < 1099511627776
  | b, [], n, m, hn, h => by rw [numF_nil] at h; cases h; exact hn
  | b, c :: l, n, m, hn, h => by
    unfold numF at h
    split at h
    · split at h
      · exact numF_lt b l _ m (by assumption) h
      · cases h
    · cases h
theorem numU_lt {b : Nat} {l : List UInt8} {m : Nat} (h : numU b l = some m) : m < 1099511627776 := by
  unfold numU at h
  split at h
  · cases h
  · exact numF_lt b l 0 m (by decide) h
theorem numR_lt {s : List UInt8} {m : Nat} (h : numR s = some m) : m < 1099511627776 := by
  unfold numR at h
  split at h
  · exact numU_lt h
  · split at h
    · cases h
    · exact numU_lt h
/-- words that are none of them empty, and none of them there twice -/
def OkL (l : List (List UInt8)) : Prop := (∀ x ∈ l, x ≠ []) ∧ l.Nodup
instance (l : List (List UInt8)) : Decidable (OkL l) := by unfold OkL; infer_instance
/-- the words that a value is -/
def listR (s : List UInt8) : Option (List (List UInt8)) := if OkL (split1 44 s) then some (split1 44 s) else none
theorem okL_snoc {l : List (List UInt8)} {x : List UInt8} (h : OkL l) : OkL (l ++ [x]) ↔ x ≠ [] ∧ x ∉ l := by
  unfold OkL at h ⊢
  rw [List.nodup_append]
  constructor
  · rintro ⟨h1, _, _, h4⟩
    exact ⟨h1 x (by simp), fun hx => h4 x hx x (by simp) rfl⟩
  · rintro ⟨h1, h2⟩
    refine ⟨fun y hy => ?_, h.2, by simp, fun y hy z hz => ?_⟩
    · rcases List.mem_append.1 hy with hy | hy
      · exact h.1 y hy
      · rw [List.mem_singleton.1 hy]; exact h1
    · rw [List.mem_singleton.1 hz]; intro e; subst e; exact h2 hy
theorem okL_prefix {l m : List (List UInt8)} (h : OkL l) (hp : m <+: l) : OkL m := by
  obtain ⟨r, rfl⟩ := hp
  exact ⟨fun x hx => h.1 x (List.mem_append_left _ hx), (List.nodup_append.1 h.2).1⟩
theorem okL_nil : OkL [] := ⟨(fun _ h => by cases h), List.nodup_nil⟩
/-- what is wrong with a value of a key: an error's number, 0: nothing -/
def fitK (k : Ke) (v : List UInt8) : Nat :=
  if k.kd ≤ 2 then (if v = yesL ∨ v = noL then 0 else 3)
  else if k.kd = 5 then (match listR v with | some _ => 0 | none => 3)
  else if k.kd = 6 then (if v = [] then 3 else 0)
  else match numR v with | none => 3 | some n => if n < k.lo ∨ k.hi < n then 2 else 0
def keyFits (nm v : List UInt8) : Nat := match rowOf nm with | none => 5 | some k => fitK k v
def numD (s : List UInt8) : Nat := (numR s).getD 0
def yesNo (b : Bool) : List UInt8 := if b = true then yesL else noL
/-- the first of an offer that one has -/
def firstR (a b : List UInt8) : Option (List UInt8) := (split1 44 a).find? (fun x => decide (x ∈ split1 44 b))
/-- what comes of an offer, and of what one has: a value, an error's number -/
def resOk (k : Ke) (a b : List UInt8) : List UInt8 × Nat :=
  if k.kd = 1 then (yesNo (decide (a = yesL) && decide (b = yesL)), 0)
  else if k.kd = 2 then (yesNo (decide (a = yesL) || decide (b = yesL)), 0)
  else if k.kd = 3 then (Lib.decDigits (min (numD a) (numD b)), 0)
  else if k.kd = 4 then (Lib.decDigits (max (numD a) (numD b)), 0)
  else if k.kd = 5 then (match firstR a b with | some x => (x, 0) | none => ([], 8))
  else (a, 0)
def resK (k : Ke) (a b : List UInt8) : List UInt8 × Nat := if fitK k a ≠ 0 then ([], fitK k a) else if fitK k b ≠ 0 then ([], fitK k b) else resOk k a b
def keyRes (nm a b : List UInt8) : List UInt8 × Nat := match rowOf nm with | none => ([], 5) | some k => resK k a b
theorem fitK_num {k : Ke} {v : List UInt8} (hk : k.kd = 3 ∨ k.kd = 4 ∨ k.kd = 7) : fitK k v = match numR v with | none => 3 | some n => if n < k.lo ∨ k.hi < n then 2 else 0 := by
  unfold fitK
  rw [if_neg (by omega), if_neg (by omega), if_neg (by omega)]
theorem fitK_num0 {k : Ke} {v : List UInt8} (hk : k.kd = 3 ∨ k.kd = 4 ∨ k.kd = 7) (h : fitK k v = 0) : ∃ n, numR v = some n ∧ k.lo ≤ n ∧ n ≤ k.hi := by
  rw [fitK_num hk] at h
  cases hn : numR v with
  | none => rw [hn] at h; cases h
  | some n =>
    rw [hn] at h
    simp only at h
    split at h
    · cases h
    · exact ⟨n, rfl, by omega, by omega⟩
theorem fitK_list {k : Ke} {v : List UInt8} (hk : k.kd = 5) : fitK k v = match listR v with | some _ => 0 | none => 3 := by
  unfold fitK
  rw [if_neg (by omega), if_pos hk]
theorem fitK_list0 {k : Ke} {v : List UInt8} (hk : k.kd = 5) (h : fitK k v = 0) : OkL (split1 44 v) ∧ listR v = some (split1 44 v) := by
  rw [fitK_list hk] at h
  unfold listR at h ⊢
  split at h
  · rename_i h1
    split at h1
    · rename_i h2; exact ⟨h2, by rw [if_pos h2]⟩
    · cases h1
  · cases h
theorem fitK_yes {k : Ke} {v : List UInt8} (hk : k.kd = 1 ∨ k.kd = 2) : fitK k v = if v = yesL ∨ v = noL then 0 else 3 := by
  unfold fitK
  rw [if_pos (by omega)]
theorem fitK_yes0 {k : Ke} {v : List UInt8} (hk : k.kd = 1 ∨ k.kd = 2) (h : fitK k v = 0) : v = yesL ∨ v = noL := by
  rw [fitK_yes hk] at h
  split at h
  · assumption
  · cases h
theorem fitK_told {k : Ke} {v : List UInt8} (hk : k.kd = 6) : fitK k v = if v = [] then 3 else 0 := by
  unfold fitK
  rw [if_neg (by omega), if_neg (by omega), if_pos hk]
theorem fitK_n (k : Ke) (v : List UInt8) : fitK k v = 0 ∨ fitK k v = 2 ∨ fitK k v = 3 := by
  unfold fitK
  split
  · split <;> simp
  · split
    · split <;> simp
    · split
      · split <;> simp
      · split
        · simp
        · split <;> simp
end Go.Proofs.YtikcgnalcchlpaaGreatDoor
