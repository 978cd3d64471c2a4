/- HeadZeros: a head whose values are 0, and one byte of it. -/
import Derived.Test.YtffdlchoaaakdaaDoorHeadFlags
import Derived.Test.YtffdlchoaaakdaaDoorHeadOnly
import Derived.Test.YtffdlchoaaakdaaDoorPick
namespace Go.Proofs.YtffdlchoaaakdaaDoor
open Go.RowKit
theorem flOk_zero (m : Nat) : flOk 0 m = true := by unfold flOk; simp
def zeroH (op : Int) (k : Kd) : Hd := ⟨op, false, 0, List.replicate k.fs.length 0⟩
theorem zero_make {op : Int} {k : Kd} (hk : kindOf op = some k) : makeR op 0 [] [] = (zeroH op k, 0, -1) := by
  rw [make_zero hk, if_pos (flOk_zero _)]; rfl
theorem zero_right {op : Int} {k : Kd} (hk : kindOf op = some k) : rightR (zeroH op k) = (0, -1) :=
  rightR_mk (h := zeroH op k) hk (fun h => by cases h) (flOk_zero _) (by simp [zeroH]) (badVal_zeros _)
theorem zero_write {op : Int} {k : Kd} (hk : kindOf op = some k) : writeR (zeroH op k) 0 0 = (headB (zeroH op k) 0 0, 0, -1) := by
  unfold writeR
  simp only [zero_right hk]
  rw [if_neg (by simp), if_neg (by omega)]
  rfl
theorem getD_set (l : List UInt8) (i j : Nat) (c : UInt8) (hi : i < l.length) : (l.set i c).getD j 0 = if j = i then c else l.getD j 0 := by
  rw [List.getD_eq_getElem?_getD, List.getElem?_set]
  by_cases h : j = i
  · subst h; simp [hi]
  · rw [if_neg (Ne.symm h), if_neg h, List.getD_eq_getElem?_getD]
theorem zero_read {op : Int} {k : Kd} (hk : kindOf op = some k) (a : Nat) (c : UInt8) (h2 : 2 ≤ a) (h48 : a < 48) :
    (freeK k a ∨ c = 0 → ∃ h x y, readR ((headB (zeroH op k) 0 0).set a c) = (h, x, y, 0)) ∧ (¬ (freeK k a ∨ c = 0) → readR ((headB (zeroH op k) 0 0).set a c) = (hd0, 0, 0, 3)) := by
  have hkz : kindOf (zeroH op k).op = some k := hk
  have hR := kindOf_range hk
  have hl := headB_len hkz 0 0
  have e0 : (headB (zeroH op k) 0 0).getD 0 0 = UInt8.ofNat (op.toNat + 0) := getD_some (headB_0 hkz 0 0)
  have e1 : (headB (zeroH op k) 0 0).getD 1 0 = UInt8.ofNat 0 := getD_some (headB_1 hkz 0 0)
  have g := fun j => getD_set (headB (zeroH op k) 0 0) a j c (by omega)
  have n0 : ((headB (zeroH op k) 0 0).set a c).getD 0 0 = UInt8.ofNat op.toNat := by rw [g, if_neg (by omega), e0]; rfl
  have n1 : ((headB (zeroH op k) 0 0).set a c).getD 1 0 = 0 := by rw [g, if_neg (by omega), e1]; rfl
  have t0 : (UInt8.ofNat op.toNat).toNat = op.toNat := by rw [UInt8.toNat_ofNat']; omega
  have hk' : kindOf (((((headB (zeroH op k) 0 0).set a c).getD 0 0).toNat % 64 : Nat) : Int) = some k := by
    rw [n0, t0]
    rw [show ((op.toNat % 64 : Nat) : Int) = op by omega]
    exact hk
  have hs : ((headB (zeroH op k) 0 0).set a c).length = 48 := by rw [List.length_set]; exact hl
  have WR := write_read (s := (headB (zeroH op k) 0 0).set a c) hs (by rw [n0, t0]; omega) hk'
  have hz : ∀ i, i < 48 → ¬ freeK k i → ((headB (zeroH op k) 0 0).set a c).getD i 0 = if i = a then c else 0 := by
    intro i hi hf
    rw [g]
    by_cases h : i = a
    · rw [if_pos h, if_pos h]
    · rw [if_neg h, if_neg h]
      unfold freeK at hf
      apply getD_some
      rw [headB_base hkz 0 0 i (fun h => hf (.inr (.inr (.inr h))))]
      exact baseB_0s _ _ _ i hi (by omega) (by omega)
  have WR2 : writeR (readH k ((headB (zeroH op k) 0 0).set a c)) (readW ((headB (zeroH op k) 0 0).set a c)) (readD ((headB (zeroH op k) 0 0).set a c)) = ((headB (zeroH op k) 0 0).set a c, 0, -1) ↔ (freeK k a ∨ c = 0) := by
    rw [WR, n0, n1, t0]
    constructor
    · rintro ⟨_, _, h⟩
      by_cases hf : freeK k a
      · exact .inl hf
      · have := h a h48 hf
        rw [hz a h48 hf, if_pos rfl] at this
        exact .inr this
    · intro h
      refine ⟨fun h' => by omega, by simp, fun i hi hf => ?_⟩
      rw [hz i hi hf]
      by_cases e : i = a
      · subst e
        rw [if_pos rfl]
        exact h.resolve_left hf
      · rw [if_neg e]
  have hread : readR ((headB (zeroH op k) 0 0).set a c) = if (freeK k a ∨ c = 0) then (readH k ((headB (zeroH op k) 0 0).set a c), readW ((headB (zeroH op k) 0 0).set a c), readD ((headB (zeroH op k) 0 0).set a c), 0) else (hd0, 0, 0, 3) := by
    unfold readR
    rw [if_neg (by rw [hs]; simp), if_neg (by rw [n0, t0]; omega), hk']
    simp only [WR2]
  rw [hread]
  exact ⟨fun h => ⟨_, _, _, if_pos h⟩, fun h => if_neg h⟩
end Go.Proofs.YtffdlchoaaakdaaDoor
