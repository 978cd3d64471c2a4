/- Letters as bytes: the reading, as plain lists. No program stands in it. -/
import Derived.Test.YtoponmdfjbhnoaaDoorBinPlain
import Derived.Lib.Bytealg
namespace Go.Proofs.YtoponmdfjbhnoaaDoor
/-- a letter's number, -1 if it is none -/
def letN (c : UInt8) : Int := Lib.indexByte letterTab c
theorem letN_bd (c : UInt8) : -1 ≤ letN c ∧ letN c < 64 := by
  have h : ∀ n : Fin 256, -1 ≤ letN (UInt8.ofNat n.1) ∧ letN (UInt8.ofNat n.1) < 64 := by decide +kernel
  have := h ⟨c.toNat, c.toNat_lt⟩
  simpa using this
def stepL (st : Nat × Nat × List UInt8) (n : Nat) : Nat × Nat × List UInt8 :=
  if 2 ≤ st.2.1 then ((st.1 * 64 + n) % 2 ^ (st.2.1 - 2), st.2.1 - 2, st.2.2 ++ [UInt8.ofNat ((st.1 * 64 + n) / 2 ^ (st.2.1 - 2))]) else (st.1 * 64 + n, st.2.1 + 6, st.2.2)
def runL (l : List UInt8) : Nat × Nat × List UInt8 := l.foldl (fun st c => stepL st (letN c).toNat) (0, 0, [])
theorem runL_snoc (l : List UInt8) (c : UInt8) : runL (l ++ [c]) = stepL (runL l) (letN c).toNat := by simp [runL]
def LInv (st : Nat × Nat × List UInt8) (k : Nat) : Prop := (st.2.1 = 0 ∨ st.2.1 = 2 ∨ st.2.1 = 4 ∨ st.2.1 = 6) ∧ st.1 < 2 ^ st.2.1 ∧ 8 * st.2.2.length + st.2.1 = 6 * k
theorem stepL_inv (st : Nat × Nat × List UInt8) (k n : Nat) (hn : n < 64) (h : LInv st k) : LInv (stepL st n) (k + 1) := by
  obtain ⟨a, s, o⟩ := st
  obtain ⟨hs, ha, hk⟩ := h
  simp only at hs ha hk
  rcases hs with rfl | rfl | rfl | rfl
  all_goals simp [stepL, LInv]
  all_goals omega
theorem runL_inv (l : List UInt8) : LInv (runL l) l.length := by
  have h : ∀ (l : List UInt8) (st : Nat × Nat × List UInt8) (k : Nat), LInv st k → LInv (l.foldl (fun st c => stepL st (letN c).toNat) st) (k + l.length) := by
    intro l
    induction l with
    | nil => intro st k h; exact h
    | cons c l ih =>
      intro st k h
      rw [List.foldl_cons, List.length_cons, show k + (l.length + 1) = (k + 1) + l.length from by omega]
      exact ih _ _ (stepL_inv _ _ _ (by have := letN_bd c; omega) h)
  have := h l (0, 0, []) 0 ⟨.inl rfl, by decide, rfl⟩
  rw [Nat.zero_add] at this
  exact this
/-- the bytes that letters are; which error; where -/
def eqs (l : List UInt8) : Nat := if Lib.hasSuffix l [61, 61] then 2 else if Lib.hasSuffix l [61] then 1 else 0
theorem eqs_le (l : List UInt8) : eqs l ≤ 2 := by unfold eqs; split <;> (try split) <;> omega
theorem eqs_len (l : List UInt8) : eqs l ≤ l.length := by
  unfold eqs
  split
  · rename_i h
    have := (List.isSuffixOf_iff_suffix.1 h).length_le
    simpa using this
  · split
    · rename_i h
      have := (List.isSuffixOf_iff_suffix.1 h).length_le
      simpa using this
    · omega
def readLet (l : List UInt8) : List UInt8 × Int × Int :=
  if l.length % 4 ≠ 0 then ([], 7, -1) else match (l.take (l.length - eqs l)).findIdx? (fun c => letN c < 0) with
    | some i => ([], 3, 2 + (i : Int))
    | none => if (runL (l.take (l.length - eqs l))).1 ≠ 0 then ([], 3, 2 + ((l.length - eqs l - 1 : Nat) : Int)) else ((runL (l.take (l.length - eqs l))).2.2, 0, -1)
end Go.Proofs.YtoponmdfjbhnoaaDoor
