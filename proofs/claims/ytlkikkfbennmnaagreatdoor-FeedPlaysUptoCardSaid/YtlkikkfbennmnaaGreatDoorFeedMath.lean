/- A feed: what is kept, what is next, all that are there. No program stands in it. -/
import Derived.Test.YtlkikkfbennmnaaGreatDoorPduSeen
namespace Go.Proofs.YtlkikkfbennmnaaGreatDoor
open Go.RowKit
structure Fe where
  lim : Nat
  mode : Nat
  kept : List UInt8
  bad : Bool
/-- a PDU, or a head whose data are spoilt -/
structure Pc where
  p : Pd
  sp : List UInt8
def pc0 : Pc := ⟨pd0, []⟩
structure FeOk (F : Fe) : Prop where
  lim : F.lim ≤ 100000
  mode : F.mode ≤ 3
def firstF (F : Fe) : List UInt8 × Int :=
  if F.kept.length < 48 then ([], 0)
  else if F.lim < readD F.kept then ([], 4)
  else if F.kept.length < ea F.kept F.mode then ([], 0)
  else (F.kept.take (ea F.kept F.mode), 0)
def pieceF (s : List UInt8) (m : Nat) : Pc × Int :=
  if (readP s m).2.2 = 13 then (⟨pd0, s.take 48⟩, 0)
  else if (readP s m).2.2 ≠ 0 then (pc0, (readP s m).2.2)
  else (⟨(readP s m).1, []⟩, 0)
def stopF (F : Fe) : Fe := { F with kept := [], bad := true }
def nextF (F : Fe) : (Pc × Bool × Int) × Fe :=
  if (firstF F).2 ≠ 0 then ((pc0, false, (firstF F).2), stopF F)
  else if (firstF F).1 = [] then ((pc0, false, 0), F)
  else if (pieceF (firstF F).1 F.mode).2 ≠ 0 then ((pc0, false, (pieceF (firstF F).1 F.mode).2), stopF F)
  else (((pieceF (firstF F).1 F.mode).1, true, 0), { F with kept := F.kept.drop (firstF F).1.length })
def allN : Nat → Fe → List Pc × Int × Fe
  | 0, F => ([], 0, F)
  | n + 1, F => if (nextF F).1.2.1 = true then ((nextF F).1.1 :: (allN n (nextF F).2).1, (allN n (nextF F).2).2) else ([], (nextF F).1.2.2, (nextF F).2)
def allF (F : Fe) : List Pc × Int × Fe := allN (F.kept.length + 1) F
theorem stop_ok {F : Fe} (h : FeOk F) : FeOk (stopF F) := ⟨h.lim, h.mode⟩
/-- the three ways of a next one -/
inductive NextIs (F : Fe) : (Pc × Bool × Int) × Fe → Prop
  | none (h : F.kept.length < 48 ∨ F.kept.length < ea F.kept F.mode) (hl : F.kept.length < 48 ∨ readD F.kept ≤ F.lim) : NextIs F ((pc0, false, 0), F)
  | err (n : Int) (hn : n ≠ 0) : NextIs F ((pc0, false, n), stopF F)
  | ok (p : Pc) (h48 : 48 ≤ F.kept.length) (hl : readD F.kept ≤ F.lim) (h : ea F.kept F.mode ≤ F.kept.length) (hp : pieceF (F.kept.take (ea F.kept F.mode)) F.mode = (p, 0)) : NextIs F ((p, true, 0), { F with kept := F.kept.drop (ea F.kept F.mode) })
theorem next_short {F : Fe} (h : F.kept.length < 48) : nextF F = ((pc0, false, 0), F) := by
  unfold nextF firstF
  rw [if_pos h]
  rfl
theorem next_limit {F : Fe} (h1 : ¬ F.kept.length < 48) (h2 : F.lim < readD F.kept) : nextF F = ((pc0, false, 4), stopF F) := by
  unfold nextF firstF
  rw [if_neg h1, if_pos h2]
  rfl
theorem next_few {F : Fe} (h1 : ¬ F.kept.length < 48) (h2 : ¬ F.lim < readD F.kept) (h3 : F.kept.length < ea F.kept F.mode) : nextF F = ((pc0, false, 0), F) := by
  unfold nextF firstF
  rw [if_neg h1, if_neg h2, if_pos h3]
  rfl
theorem next_whole {F : Fe} (h1 : ¬ F.kept.length < 48) (h2 : ¬ F.lim < readD F.kept) (h3 : ¬ F.kept.length < ea F.kept F.mode) :
    nextF F = if (pieceF (F.kept.take (ea F.kept F.mode)) F.mode).2 ≠ 0 then ((pc0, false, (pieceF (F.kept.take (ea F.kept F.mode)) F.mode).2), stopF F) else (((pieceF (F.kept.take (ea F.kept F.mode)) F.mode).1, true, 0), { F with kept := F.kept.drop (ea F.kept F.mode) }) := by
  have L := ends_le F.kept F.mode
  have hlen : (F.kept.take (ea F.kept F.mode)).length = ea F.kept F.mode := by rw [List.length_take]; omega
  have hne : F.kept.take (ea F.kept F.mode) ≠ [] := fun e => by rw [e] at hlen; simp at hlen; omega
  have e : firstF F = (F.kept.take (ea F.kept F.mode), 0) := by unfold firstF; rw [if_neg h1, if_neg h2, if_neg h3]
  unfold nextF
  rw [e]
  simp only
  rw [if_neg (by simp), if_neg hne, hlen]
theorem next_is (F : Fe) : NextIs F (nextF F) := by
  by_cases h1 : F.kept.length < 48
  · rw [next_short h1]; exact .none (.inl h1) (.inl h1)
  by_cases h2 : F.lim < readD F.kept
  · rw [next_limit h1 h2]; exact .err 4 (by decide)
  by_cases h3 : F.kept.length < ea F.kept F.mode
  · rw [next_few h1 h2 h3]; exact .none (.inr h3) (.inr (by omega))
  rw [next_whole h1 h2 h3]
  by_cases h4 : (pieceF (F.kept.take (ea F.kept F.mode)) F.mode).2 = 0
  · rw [if_neg (by simpa using h4)]
    exact .ok _ (by omega) (by omega) (by omega) (by rw [← h4])
  · rw [if_pos h4]
    exact .err _ h4
theorem next_zero {F : Fe} (h : (nextF F).1.2.1 = true) : ∃ p, nextF F = ((p, true, 0), { F with kept := F.kept.drop (ea F.kept F.mode) }) ∧ 48 ≤ F.kept.length ∧ readD F.kept ≤ F.lim ∧ ea F.kept F.mode ≤ F.kept.length ∧ pieceF (F.kept.take (ea F.kept F.mode)) F.mode = (p, 0) := by
  have N := next_is F
  generalize hx : nextF F = x at *
  cases N with
  | none => exact absurd h (by simp)
  | err => exact absurd h (by simp)
  | ok p h48 hl ha hp => exact ⟨p, rfl, h48, hl, ha, hp⟩
theorem next_less {F : Fe} (h : (nextF F).1.2.1 = true) : (nextF F).2.kept.length < F.kept.length := by
  obtain ⟨p, e, h48, _⟩ := next_zero h
  have L := ends_le F.kept F.mode
  rw [e]
  simp only [List.length_drop]
  omega
theorem allN_more : ∀ (n m : Nat) (F : Fe), F.kept.length < n → F.kept.length < m → allN n F = allN m F
  | n + 1, m + 1, F, hn, hm => by
    unfold allN
    by_cases h : (nextF F).1.2.1 = true
    · have hl := next_less h
      rw [if_pos h, if_pos h, allN_more n m _ (by omega) (by omega)]
    · rw [if_neg h, if_neg h]
theorem all_more {F : Fe} (h : (nextF F).1.2.1 = true) : allF F = ((nextF F).1.1 :: (allF (nextF F).2).1, (allF (nextF F).2).2) := by
  have hl := next_less h
  unfold allF
  rw [allN, if_pos h, allN_more F.kept.length ((nextF F).2.kept.length + 1) _ hl (by omega)]
theorem all_end {F : Fe} (h : (nextF F).1.2.1 = false) : allF F = ([], (nextF F).1.2.2, (nextF F).2) := by
  unfold allF
  rw [allN, if_neg (by simp [h])]
theorem next_ok {F : Fe} (h : FeOk F) : FeOk (nextF F).2 := by
  have N := next_is F
  generalize nextF F = x at *
  cases N with
  | none => exact h
  | err => exact stop_ok h
  | ok => exact ⟨h.lim, h.mode⟩
theorem next_keep (F : Fe) : (nextF F).2.kept.length ≤ F.kept.length := by
  have N := next_is F
  generalize nextF F = x at *
  cases N with
  | none => exact Nat.le_refl _
  | err => exact Nat.zero_le _
  | ok => simp only [List.length_drop]; omega
/-- a next one behind which nothing went wrong, and nothing is there -/
theorem next_stop {F : Fe} (h : (nextF F).1.2.1 = false) : (nextF F).1.1 = pc0 ∧ ((nextF F).1.2.2 = 0 → (nextF F).2 = F) ∧ ((nextF F).1.2.2 ≠ 0 → (nextF F).2 = stopF F) := by
  have N := next_is F
  generalize nextF F = x at *
  cases N with
  | none => exact ⟨rfl, fun _ => rfl, fun h => absurd rfl h⟩
  | err n hn => exact ⟨rfl, fun h => absurd h hn, fun _ => rfl⟩
  | ok => cases h
/-- more bytes behind change nothing of what is next -/
theorem next_app {F : Fe} (b : List UInt8) (h : (nextF F).1.2.1 = true ∨ (nextF F).1.2.2 ≠ 0) : nextF { F with kept := F.kept ++ b } = ((nextF F).1, if (nextF F).1.2.1 = true then { F with kept := (nextF F).2.kept ++ b } else stopF F) := by
  have L := ends_le F.kept F.mode
  have h48 : ¬ F.kept.length < 48 := fun hc => by
    rw [next_short hc] at h
    rcases h with h | h
    · cases h
    · exact h rfl
  have hw := readW_left (a := F.kept) (b := b) (by omega)
  have hd := readD_left (a := F.kept) (b := b) (by omega)
  have he := (ea_same hw hd F.mode).1
  have g1 : ¬ (F.kept ++ b).length < 48 := by rw [List.length_append]; omega
  by_cases h2 : F.lim < readD F.kept
  · rw [next_limit h48 h2, next_limit (F := { F with kept := F.kept ++ b }) g1 (by simpa [hd] using h2)]
    rfl
  by_cases h3 : F.kept.length < ea F.kept F.mode
  · rw [next_few h48 h2 h3] at h
    rcases h with h | h
    · cases h
    · exact absurd rfl h
  have ht : (F.kept ++ b).take (ea F.kept F.mode) = F.kept.take (ea F.kept F.mode) := by rw [List.take_append_of_le_length (by omega)]
  have hdr : (F.kept ++ b).drop (ea F.kept F.mode) = F.kept.drop (ea F.kept F.mode) ++ b := by rw [List.drop_append_of_le_length (by omega)]
  rw [next_whole (F := { F with kept := F.kept ++ b }) g1 (by simpa [hd] using h2) (by simp only [he, List.length_append]; omega), next_whole h48 h2 h3]
  simp only [he, ht, hdr]
  by_cases h4 : (pieceF (F.kept.take (ea F.kept F.mode)) F.mode).2 = 0
  · rw [if_neg (by simpa using h4), if_neg (by simpa using h4)]
    rfl
  · rw [if_pos h4, if_pos h4]
    rfl
theorem all_app : ∀ (n : Nat) (F : Fe) (b : List UInt8), F.kept.length < n →
    allF { F with kept := F.kept ++ b } = if (allF F).2.1 = 0 then ((allF F).1 ++ (allF { F with kept := (allF F).2.2.kept ++ b }).1, (allF { F with kept := (allF F).2.2.kept ++ b }).2) else allF F
  | n + 1, F, b, hn => by
    by_cases h : (nextF F).1.2.1 = true
    · have hl := next_less h
      obtain ⟨p, e, _⟩ := next_zero h
      have hA := next_app b (.inl h)
      rw [if_pos h] at hA
      have hF : ({ F with kept := (nextF F).2.kept ++ b } : Fe) = { (nextF F).2 with kept := (nextF F).2.kept ++ b } := by rw [e]
      have ih := all_app n (nextF F).2 b (by omega)
      have hx : (nextF { F with kept := F.kept ++ b }).1.2.1 = true := by rw [hA]; exact h
      rw [all_more hx, all_more h, hA]
      simp only
      rw [hF, ih]
      by_cases h0 : (allF (nextF F).2).2.1 = 0
      · rw [if_pos h0, if_pos h0]
        rw [e]
        rfl
      · rw [if_neg h0, if_neg h0]
    · have h' : (nextF F).1.2.1 = false := by simpa using h
      rw [all_end h']
      simp only
      obtain ⟨_, s0, s1⟩ := next_stop h'
      by_cases h0 : (nextF F).1.2.2 = 0
      · rw [if_pos h0, s0 h0]
        simp only [List.nil_append]
      · rw [if_neg h0]
        have hA := next_app b (.inr h0)
        rw [if_neg h] at hA
        have hx : (nextF { F with kept := F.kept ++ b }).1.2.1 = false := by rw [hA]; exact h'
        rw [all_end hx, hA, s1 h0]
/-- behind all, nothing is next -/
theorem all_done : ∀ (n : Nat) (F : Fe), F.kept.length < n →
    FeOk F → FeOk (allF F).2.2 ∧ (allF F).2.2.lim = F.lim ∧ (allF F).2.2.mode = F.mode ∧ (allF F).2.2.kept.length ≤ F.kept.length ∧ ((allF F).2.1 = 0 → (allF F).2.2.bad = F.bad ∧ nextF (allF F).2.2 = ((pc0, false, 0), (allF F).2.2)) ∧ ((allF F).2.1 ≠ 0 → (allF F).2.2.kept = [] ∧ (allF F).2.2.bad = true)
  | n + 1, F, hn, hF => by
    by_cases h : (nextF F).1.2.1 = true
    · have hl := next_less h
      obtain ⟨p, e, _⟩ := next_zero h
      have ih := all_done n (nextF F).2 (by omega) (next_ok hF)
      rw [all_more h]
      simp only
      obtain ⟨i1, i2, i3, i4, i5, i6⟩ := ih
      refine ⟨i1, by rw [i2, e], by rw [i3, e], by omega, fun h0 => ⟨by rw [(i5 h0).1, e], (i5 h0).2⟩, i6⟩
    · have h' : (nextF F).1.2.1 = false := by simpa using h
      rw [all_end h']
      simp only
      obtain ⟨s, s0, s1⟩ := next_stop h'
      by_cases h0 : (nextF F).1.2.2 = 0
      · have e := s0 h0
        refine ⟨by rw [e]; exact hF, by rw [e], by rw [e], by rw [e]; exact Nat.le_refl _, fun _ => ⟨by rw [e], ?_⟩, fun hc => absurd h0 hc⟩
        rw [e]
        rw [show nextF F = (((nextF F).1.1, (nextF F).1.2.1, (nextF F).1.2.2), (nextF F).2) from rfl, s, h', h0, e]
      · have e := s1 h0
        exact ⟨by rw [e]; exact stop_ok hF, by rw [e]; rfl, by rw [e]; rfl, by rw [e]; exact Nat.zero_le _, fun hc => absurd hc h0, fun _ => by rw [e]; exact ⟨rfl, rfl⟩⟩
theorem all_len : ∀ (n : Nat) (F : Fe), F.kept.length < n → (allF F).1.length * 48 ≤ F.kept.length
  | n + 1, F, hn => by
    by_cases h : (nextF F).1.2.1 = true
    · obtain ⟨p, e, h48, _⟩ := next_zero h
      have L := ends_le F.kept F.mode
      have hk : (nextF F).2.kept.length + 48 ≤ F.kept.length := by
        rw [e]
        simp only [List.length_drop]
        omega
      have ih := all_len n (nextF F).2 (by omega)
      rw [all_more h]
      simp only [List.length_cons]
      omega
    · rw [all_end (by simpa using h)]
      simp
end Go.Proofs.YtlkikkfbennmnaaGreatDoor
