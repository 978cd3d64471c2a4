/- HeadFields: which places and names are seen. -/
import Derived.Test.YtffdlchoaaakdaaDoorApart
import Derived.Test.YtffdlchoaaakdaaDoorBoolMap
namespace Go.Proofs.YtffdlchoaaakdaaDoor
open Go.RowKit
theorem apartF_pos {fs : List Fd} (ha : apartF fs = true) : ∀ i j (hi : i < fs.length) (hj : j < fs.length), i < j → fs[i].pos + fs[i].sz ≤ fs[j].pos ∨ fs[j].pos + fs[j].sz ≤ fs[i].pos := by
  induction fs with
  | nil => intro i j hi; simp at hi
  | cons f fs ih =>
    intro i j hi hj hij
    obtain ⟨h1, h2⟩ := apartF_cons ha
    cases j with
    | zero => omega
    | succ j =>
      cases i with
      | zero => exact (h1 _ (List.getElem_mem (by simpa using hj))).1
      | succ i => exact ih h2 i j (by simpa using hi) (by simpa using hj) (by omega)
def LI (n : Nat) : Lit := .int .i64 (n : Int)
theorem LI_inj {a b : Nat} (h : LI a = LI b) : a = b := by
  have := (Lit.int.inj h).2
  omega
def lowP (i : Nat) : Prop := i = 0 ∨ i = 1 ∨ (4 ≤ i ∧ i < 8)
def seenF (fs : List Fd) (j : Nat) (kl : Lit) : Prop := ∃ i : Nat, kl = LI i ∧ (lowP i ∨ ∃ x, ∃ hx : x < fs.length, x < j ∧ inF (fs[x]'hx) i)
def partF (fs : List Fd) (j : Nat) (f : Fd) (y : Nat) (kl : Lit) : Prop := seenF fs j kl ∨ ∃ i : Nat, kl = LI i ∧ f.pos ≤ i ∧ i < y
def nameF (fs : List Fd) (j : Nat) (kl : Lit) : Prop := ∃ x, ∃ hx : x < fs.length, x < j ∧ kl = .string (fs[x]'hx).nm
theorem seen_start (fs : List Fd) (x : Lit) : (x = LI 7 ∨ x = LI 6 ∨ x = LI 5 ∨ x = LI 4 ∨ x = LI 1 ∨ x = LI 0 ∨ False) ↔ seenF fs 0 x := by
  constructor
  · rintro (h | h | h | h | h | h | h)
    · exact ⟨7, h, .inl (.inr (.inr (by omega)))⟩
    · exact ⟨6, h, .inl (.inr (.inr (by omega)))⟩
    · exact ⟨5, h, .inl (.inr (.inr (by omega)))⟩
    · exact ⟨4, h, .inl (.inr (.inr (by omega)))⟩
    · exact ⟨1, h, .inl (.inr (.inl rfl))⟩
    · exact ⟨0, h, .inl (.inl rfl)⟩
    · exact h.elim
  · rintro ⟨i, rfl, (h | h | h) | ⟨_, _, h, _⟩⟩
    · subst h; simp
    · subst h; simp
    · have : i = 4 ∨ i = 5 ∨ i = 6 ∨ i = 7 := by omega
      rcases this with rfl | rfl | rfl | rfl <;> simp
    · omega
theorem part_start (fs : List Fd) (j : Nat) (f : Fd) (x : Lit) : seenF fs j x ↔ partF fs j f f.pos x := by
  constructor
  · exact .inl
  · rintro (h | ⟨i, _, h1, h2⟩)
    · exact h
    · omega
theorem part_step (fs : List Fd) (j : Nat) (f : Fd) (y : Nat) (hy : f.pos ≤ y) (x : Lit) : (x = LI y ∨ partF fs j f y x) ↔ partF fs j f (y + 1) x := by
  constructor
  · rintro (h | h | ⟨i, h, h1, h2⟩)
    · exact .inr ⟨y, h, hy, by omega⟩
    · exact .inl h
    · exact .inr ⟨i, h, h1, by omega⟩
  · rintro (h | ⟨i, h, h1, h2⟩)
    · exact .inr (.inl h)
    · by_cases e : i = y
      · subst e; exact .inl h
      · exact .inr (.inr ⟨i, h, h1, by omega⟩)
theorem part_end (fs : List Fd) (j : Nat) (hj : j < fs.length) (f : Fd) (hf : fs[j] = f) (x : Lit) : partF fs j f (f.pos + f.sz) x ↔ seenF fs (j + 1) x := by
  subst hf
  constructor
  · rintro (⟨i, h, h1 | ⟨z, hz, hzj, hin⟩⟩ | ⟨i, h, h1, h2⟩)
    · exact ⟨i, h, .inl h1⟩
    · exact ⟨i, h, .inr ⟨z, hz, by omega, hin⟩⟩
    · exact ⟨i, h, .inr ⟨j, hj, by omega, h1, h2⟩⟩
  · rintro ⟨i, h, h1 | ⟨z, hz, hzj, hin⟩⟩
    · exact .inl ⟨i, h, .inl h1⟩
    · by_cases e : z = j
      · subst e; exact .inr ⟨i, h, hin.1, hin.2⟩
      · exact .inl ⟨i, h, .inr ⟨z, hz, by omega, hin⟩⟩
theorem part_not {k : Kd} (K : KindFacts k) (j : Nat) (hj : j < k.fs.length) (f : Fd) (hf : k.fs[j] = f) (y : Nat) (h1 : f.pos ≤ y) (h2 : y < f.pos + f.sz) : ¬ partF k.fs j f y (LI y) := by
  subst hf
  have F := K.fok _ (List.getElem_mem hj)
  rintro (⟨i, h, hl | ⟨z, hz, hzj, hin⟩⟩ | ⟨i, h, h3, h4⟩)
  · obtain rfl := LI_inj h
    unfold lowP at hl
    omega
  · obtain rfl := LI_inj h
    have := apartF_pos K.apart z j hz hj hzj
    obtain ⟨h3, h4⟩ := hin
    omega
  · obtain rfl := LI_inj h
    omega
theorem name_step (fs : List Fd) (j : Nat) (hj : j < fs.length) (f : Fd) (hf : fs[j] = f) (x : Lit) : (x = .string f.nm ∨ nameF fs j x) ↔ nameF fs (j + 1) x := by
  subst hf
  constructor
  · rintro (h | ⟨z, hz, hzj, h⟩)
    · exact ⟨j, hj, by omega, h⟩
    · exact ⟨z, hz, by omega, h⟩
  · rintro ⟨z, hz, hzj, h⟩
    by_cases e : z = j
    · subst e; exact .inl h
    · exact .inr ⟨z, hz, by omega, h⟩
theorem name_not {fs : List Fd} (ha : apartF fs = true) (j : Nat) (hj : j < fs.length) (f : Fd) (hf : fs[j] = f) : ¬ nameF fs j (.string f.nm) := by
  subst hf
  rintro ⟨z, hz, hzj, h⟩
  exact apartF_names ha z j hz hj hzj (Lit.string.inj h).symm
theorem name_itt {k : Kd} (K : KindFacts k) : nameF k.fs k.fs.length (.string [73, 84, 84]) := by
  obtain ⟨i, hi⟩ := K.itt
  exact ⟨i, idxName_lt hi, idxName_lt hi, by rw [idxName_at hi]⟩
theorem part_name_lt {k : Kd} (K : KindFacts k) {f : Fd} (hf : f ∈ k.fs) : f.nm.length < 1000 ∧ f.nm ≠ [] := by
  have := K.fok f hf
  exact ⟨by omega, fun h => by rw [h] at this; simp at this⟩
end Go.Proofs.YtffdlchoaaakdaaDoor
