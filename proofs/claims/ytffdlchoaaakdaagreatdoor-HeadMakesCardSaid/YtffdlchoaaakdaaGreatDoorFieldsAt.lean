/- Fields as cells; how the table's rows are spelled. No function of the program is walked here. -/
import Derived.Test.YtffdlchoaaakdaaGreatDoorHeadMath
import Derived.Test.YtffdlchoaaakdaaGreatDoorBlk
import Derived.Lib.Split
import Derived.Lib.IndexMore
import Derived.Lib.Atoi
import Derived.Laws.OwnMore
namespace Go.Proofs.YtffdlchoaaakdaaGreatDoor
open Go.RowKit
def fieldC (f : Fd) : List Value := [.string (S f.nm), .int .i64 (f.pos : Int), .int .i64 (f.sz : Int)]
def cellsF (l : List Fd) : Array Value := (l.flatMap fieldC).toArray
def fd0 : Fd := ⟨[], 0, 0⟩
theorem cellsF_len : ∀ (l : List Fd), (cellsF l).size = 3 * l.length
  | [] => rfl
  | f :: l => by
    have := cellsF_len l
    unfold cellsF at *
    simp only [List.flatMap_cons, List.size_toArray, List.length_append, List.length_cons] at *
    rw [this]; simp [fieldC]; omega
theorem cellsF_get : ∀ (l : List Fd) (j : Nat) (hj : j < l.length) (i : Nat), i < 3 → (cellsF l)[j * 3 + i]? = (fieldC l[j])[i]?
  | [], j, hj, _, _ => by simp at hj
  | f :: l, j, hj, i, hi => by
    unfold cellsF
    simp only [List.flatMap_cons, List.getElem?_toArray]
    cases j with
    | zero => rw [List.getElem?_append_left (by simp [fieldC]; omega)]; simp
    | succ j =>
      rw [List.getElem?_append_right (by simp [fieldC]; omega)]
      have h := cellsF_get l j (by simpa using hj) i hi
      unfold cellsF at h
      rw [List.getElem?_toArray] at h
      rw [show (j + 1) * 3 + i - (fieldC f).length = j * 3 + i by simp [fieldC]; omega, h]
      rfl
theorem cellsF_set (l : List Fd) (j : Nat) (hj : j < l.length) (f : Fd) :
    (((cellsF l).setIfInBounds (j * 3) (.string (S f.nm))).setIfInBounds (j * 3 + 1) (.int .i64 (f.pos : Int))).setIfInBounds (j * 3 + 2) (.int .i64 (f.sz : Int)) = cellsF (l.set j f) := by
  apply Array.ext_getElem?
  intro i
  have hs := cellsF_len l
  have hs2 := cellsF_len (l.set j f)
  rw [List.length_set] at hs2
  by_cases hi : i < 3 * l.length
  · obtain ⟨a, b, rfl, hb⟩ : ∃ a b, i = a * 3 + b ∧ b < 3 := ⟨i / 3, i % 3, by omega, by omega⟩
    have ha : a < l.length := by omega
    rw [cellsF_get _ a (by rw [List.length_set]; exact ha) b hb]
    simp only [Array.getElem?_setIfInBounds, Array.size_setIfInBounds, hs]
    by_cases hab : a = j
    · subst hab
      rw [List.getElem_set_self]
      have hb' : b = 0 ∨ b = 1 ∨ b = 2 := by omega
      rcases hb' with rfl | rfl | rfl
      · rw [if_neg (by omega), if_neg (by omega), if_pos (by omega), if_pos (by omega)]; rfl
      · rw [if_neg (by omega), if_pos (by omega), if_pos (by omega)]; rfl
      · rw [if_pos (by omega), if_pos (by omega)]; rfl
    · rw [if_neg (by omega), if_neg (by omega), if_neg (by omega), List.getElem_set_ne (by omega), cellsF_get _ a ha b hb]
  · rw [Array.getElem?_eq_none (by simp only [Array.size_setIfInBounds]; omega), Array.getElem?_eq_none (by omega)]
theorem madeCells_F (n : Nat) : madeCells #[Value.string (S []), .int .i64 0, .int .i64 0] (n * 3) = cellsF (List.replicate n fd0) := by
  apply Array.ext_getElem?
  intro i
  have h1 : (madeCells #[Value.string (S []), .int .i64 0, .int .i64 0] (n * 3)).size = n * 3 := size_madeCells _ _
  have h2 := cellsF_len (List.replicate n fd0)
  rw [List.length_replicate] at h2
  by_cases hi : i < n * 3
  · obtain ⟨a, b, rfl, hb⟩ : ∃ a b, i = a * 3 + b ∧ b < 3 := ⟨i / 3, i % 3, by omega, by omega⟩
    rw [cellsF_get _ a (by rw [List.length_replicate]; omega) b hb, Array.getElem?_eq_getElem (by omega)]
    unfold madeCells
    simp only [Array.getElem_map, Array.getElem_range, List.getElem_replicate]
    have e : (a * 3 + b) % (#[Value.string (S []), .int .i64 0, .int .i64 0] : Array Value).size = b := by
      show (a * 3 + b) % 3 = b
      omega
    rw [e]
    have hb' : b = 0 ∨ b = 1 ∨ b = 2 := by omega
    rcases hb' with rfl | rfl | rfl <;> rfl
  · rw [Array.getElem?_eq_none (by omega), Array.getElem?_eq_none (by omega)]
/-- what stands when k fields have been laid -/
def rowsF (fs : List Fd) (k : Nat) : List Fd := fs.take k ++ List.replicate (fs.length - k) fd0
theorem rowsF_0 (fs : List Fd) : rowsF fs 0 = List.replicate fs.length fd0 := by simp [rowsF]
theorem rowsF_all (fs : List Fd) : rowsF fs fs.length = fs := by simp [rowsF]
theorem rowsF_len (fs : List Fd) (k : Nat) (hk : k ≤ fs.length) : (rowsF fs k).length = fs.length := by simp [rowsF]; omega
theorem rowsF_step (fs : List Fd) (k : Nat) (hk : k < fs.length) : (rowsF fs k).set k fs[k] = rowsF fs (k + 1) := by
  unfold rowsF
  have hl : (fs.take k).length = k := by simp; omega
  rw [List.set_append_right _ _ (by omega), hl, Nat.sub_self, show fs.length - k = (fs.length - (k + 1)) + 1 by omega, List.replicate_succ, List.set_cons_zero, List.take_succ_eq_append_getElem hk, List.append_assoc]
  rfl
-- how they are spelled
def dec2 (n : Nat) : List UInt8 := if n < 10 then [UInt8.ofNat (48 + n)] else [UInt8.ofNat (48 + n / 10), UInt8.ofNat (48 + n % 10)]
def numT (f : Fd) : List UInt8 := dec2 f.pos ++ 32 :: dec2 f.sz
def fieldT (f : Fd) : List UInt8 := f.nm ++ 32 :: numT f
def spelt (f : Fd) : Bool := Lib.cut (fieldT f) [32] == (f.nm, numT f, true) && Lib.cut (numT f) [32] == (dec2 f.pos, dec2 f.sz, true) &&
  Lib.atoi (dec2 f.pos) == some (f.pos : Int) && Lib.atoi (dec2 f.sz) == some (f.sz : Int) && decide ((fieldT f).length < 100)
def speltK (k : Kd) : Bool := k.fs.all spelt && Lib.splitK [44, 32] 0 (Lib.count k.tx [44, 32]) k.tx == k.fs.map fieldT && Lib.count k.tx [44, 32] + 1 == k.fs.length && decide (k.tx.length < 1000)
theorem kinds_spelt : kinds.all speltK = true := by decide +kernel
structure Spelt (k : Kd) : Prop where
  fld : ∀ f ∈ k.fs, Lib.cut (fieldT f) [32] = (f.nm, numT f, true) ∧ Lib.cut (numT f) [32] = (dec2 f.pos, dec2 f.sz, true) ∧ Lib.atoi (dec2 f.pos) = some (f.pos : Int) ∧ Lib.atoi (dec2 f.sz) = some (f.sz : Int) ∧ (fieldT f).length < 100
  split : Lib.splitK [44, 32] 0 (Lib.count k.tx [44, 32]) k.tx = k.fs.map fieldT
  cnt : Lib.count k.tx [44, 32] + 1 = k.fs.length
  len : k.tx.length < 1000
theorem spelt_of {k : Kd} (h : k ∈ kinds) : Spelt k := by
  have := List.all_eq_true.1 kinds_spelt k h
  unfold speltK at this
  simp only [Bool.and_eq_true, decide_eq_true_eq, beq_iff_eq] at this
  obtain ⟨⟨⟨h1, h2⟩, h3⟩, h4⟩ := this
  refine ⟨fun f hf => ?_, h2, h3, h4⟩
  have hs := List.all_eq_true.1 h1 f hf
  unfold spelt at hs
  simp only [Bool.and_eq_true, decide_eq_true_eq, beq_iff_eq] at hs
  obtain ⟨⟨⟨⟨a, b⟩, c⟩, d⟩, e⟩ := hs
  exact ⟨a, b, c, d, e⟩
theorem dec2_len (n : Nat) : (dec2 n).length ≤ 2 := by unfold dec2; split <;> simp
theorem splitB_of {k : Kd} (h : Spelt k) : Lib.splitB (S [44, 32]) 0 (Lib.countB (S k.tx) (S [44, 32])) (S k.tx) = k.fs.map fun f => S (fieldT f) := by
  have e1 : Lib.countB (S k.tx) (S [44, 32]) = Lib.count k.tx [44, 32] := by show Lib.count (S k.tx).data.toList (S [44, 32]).data.toList = _; simp [S]
  rw [e1]
  have hd := Lib.splitB_data (S [44, 32]) 0 (Lib.count k.tx [44, 32]) (S k.tx)
  have e2 : (S [44, 32]).data.toList = [44, 32] := by simp [S]
  have e3 : (S k.tx).data.toList = k.tx := by simp [S]
  rw [e2, e3, h.split] at hd
  have hinv : ∀ s : ByteArray, S s.data.toList = s := fun s => by apply ByteArray.ext; simp [S]
  have := congrArg (List.map S) hd
  rw [List.map_map, List.map_map] at this
  rw [show (S ∘ fun x : ByteArray => x.data.toList) = id from funext fun s => hinv s, List.map_id] at this
  rw [this]
  rfl
theorem countB_of {k : Kd} (h : Spelt k) : Lib.countB (S k.tx) (S [44, 32]) + 1 = k.fs.length := by
  have e1 : Lib.countB (S k.tx) (S [44, 32]) = Lib.count k.tx [44, 32] := by show Lib.count (S k.tx).data.toList (S [44, 32]).data.toList = _; simp [S]
  rw [e1, h.cnt]
end Go.Proofs.YtffdlchoaaakdaaGreatDoor
