/- What a feed tells is of no more than a head has; one by one. No program stands in it. -/
import Derived.Test.YtlkikkfbennmnaaGreatDoorFeedMath2
import Derived.Test.YtlkikkfbennmnaaGreatDoorPduFit
namespace Go.Proofs.YtlkikkfbennmnaaGreatDoor
open Go.RowKit
structure PcOk (q : Pc) : Prop where
  v : q.p.h.vs.length ≤ 140737488355328
  a : q.p.a.length ≤ 140737488355328
theorem pc0_ok : PcOk pc0 := ⟨by decide, by decide⟩
theorem RightP.ok {p : Pd} (h : RightP p) (s : List UInt8) : PcOk ⟨p, s⟩ := ⟨by have := h.vs; simp only; omega, by have := h.a; have := wrL_ge p.a; simp only; omega⟩
theorem piece_ok {s : List UInt8} {m : Nat} {q : Pc} (h : pieceF s m = (q, 0)) : PcOk q := by
  unfold pieceF at h
  by_cases h1 : (readP s (m : Int)).2.2 = 13
  · rw [if_pos h1] at h
    cases h
    exact ⟨pc0_ok.v, pc0_ok.a⟩
  · rw [if_neg h1] at h
    by_cases h2 : (readP s (m : Int)).2.2 = 0
    · rw [if_neg (by simpa using h2)] at h
      obtain ⟨_, p, n, hR, hr, _⟩ := readP_is h2
      rw [hR] at h
      cases h
      exact (rightP_is hr).ok []
    · rw [if_pos h2] at h
      exact absurd (congrArg Prod.snd h) h2
theorem next_pcok (F : Fe) : PcOk (nextF F).1.1 := by
  have N := next_is F
  generalize nextF F = x at *
  cases N with
  | none => exact pc0_ok
  | err => exact pc0_ok
  | ok p h48 hl h hp => exact piece_ok hp
theorem all_pcok : ∀ (n : Nat) (F : Fe), F.kept.length < n → ∀ q ∈ (allF F).1, PcOk q
  | n + 1, F, hn, q, hq => by
    by_cases h : (nextF F).1.2.1 = true
    · have hl := next_less h
      rw [all_more h] at hq
      rcases List.mem_cons.1 hq with rfl | hq
      · exact next_pcok F
      · exact all_pcok n (nextF F).2 (by omega) q hq
    · rw [all_end (by simpa using h)] at hq
      cases hq
theorem all_cons {G F' : Fe} {p : Pc} {l : List Pc} {er : Int} (h : allF G = (p :: l, er, F')) : ∃ G', nextF G = ((p, true, 0), G') ∧ allF G' = (l, er, F') := by
  by_cases hx : (nextF G).1.2.1 = true
  · obtain ⟨q, e, _⟩ := next_zero hx
    rw [all_more hx, e] at h
    simp only [Prod.mk.injEq, List.cons.injEq] at h
    obtain ⟨⟨rfl, h1⟩, h2⟩ := h
    exact ⟨_, e, Prod.ext h1 h2⟩
  · rw [all_end (by simpa using hx)] at h
    simp at h
theorem all_nil {G F' : Fe} {er : Int} (h : allF G = ([], er, F')) : nextF G = ((pc0, false, er), F') := by
  by_cases hx : (nextF G).1.2.1 = true
  · rw [all_more hx] at h
    simp at h
  · have hx' : (nextF G).1.2.1 = false := by simpa using hx
    rw [all_end hx'] at h
    obtain ⟨h1, _, _⟩ := next_stop hx'
    simp only [Prod.mk.injEq] at h
    rw [show nextF G = (((nextF G).1.1, (nextF G).1.2.1, (nextF G).1.2.2), (nextF G).2) from rfl, h1, hx', h.2.1, h.2.2]
/-- where something was wrong nothing is kept -/
theorem next_bad {F : Fe} (h : F.bad = true → F.kept = []) : (nextF F).2.bad = true → (nextF F).2.kept = [] := by
  have N := next_is F
  generalize nextF F = x at *
  cases N with
  | none => exact h
  | err => exact fun _ => rfl
  | ok p h48 hl ha hp =>
    intro hb
    have := h hb
    rw [this] at h48
    exact absurd h48 (by decide)
theorem all_bad : ∀ (n : Nat) (F : Fe), F.kept.length < n → (F.bad = true → F.kept = []) → ((allF F).2.2.bad = true → (allF F).2.2.kept = [])
  | n + 1, F, hn, h => by
    by_cases hx : (nextF F).1.2.1 = true
    · have hl := next_less hx
      rw [all_more hx]
      exact all_bad n (nextF F).2 (by omega) (next_bad h)
    · rw [all_end (by simpa using hx)]
      exact next_bad h
end Go.Proofs.YtlkikkfbennmnaaGreatDoor
