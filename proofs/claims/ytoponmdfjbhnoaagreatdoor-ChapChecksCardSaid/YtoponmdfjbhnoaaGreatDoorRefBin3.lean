/- ref.Binary: the bytes that any value is. -/
import Derived.Test.YtoponmdfjbhnoaaGreatDoorRefBin2
namespace Go.Proofs.YtoponmdfjbhnoaaGreatDoor
open Go.RowKit
theorem refBin_any (l : List UInt8) (w : World) (hl : l.length ≤ 1000) (hT : LowT w) (hB : BruijnT w) :
    Calls Tryz.prog 18 #[.string (S l)] w (RetSF w (readV l)) := by
  match l, hl with
  | [], _ => exact refBin_short [] w (by decide)
  | [a], _ => exact refBin_short [a] w (by simp)
  | a :: b :: r, hl =>
    have hr : r.length ≤ 1000 := by simp at hl; omega
    by_cases ha : a = 48
    · subst ha
      by_cases hx : b = 120 ∨ b = 88
      · have hlow : (48 : UInt8) :: Lib.toLowerD [b] = [48, 120] := by
          rcases hx with rfl | rfl
          · rw [low_low 120 (by decide)]; decide
          · rw [low_low 88 (by decide)]; decide
        rw [readV_hex r b hx]
        by_cases ho : r.length % 2 = 0
        · cases hf : r.findIdx? (fun c => (hexV c).isNone) with
          | some m =>
            obtain ⟨hm, hp, hall⟩ := List.findIdx?_eq_some_iff_getElem.1 hf
            have e : readHex r = ([], 3, 2 + (m : Int)) := by unfold readHex; rw [if_neg (by omega), hf]
            rw [e]
            exact refBin_hexloop 48 b r m _ w hr hT hlow ho (by omega) (fun j hj hjm => by
              have := hall j hjm; cases h : hexV r[j] <;> simp_all) (fun hj => by simpa using hp) (fun _ => rfl) (fun h => absurd hm h)
          | none =>
            have hall := List.findIdx?_eq_none_iff.1 hf
            have e : readHex r = (unhex r, 0, -1) := by unfold readHex; rw [if_neg (by omega), hf]
            rw [e]
            exact refBin_hexloop 48 b r r.length _ w hr hT hlow ho (Nat.le_refl _) (fun j hj _ => by
              have := hall r[j] (List.getElem_mem hj); cases h : hexV r[j] <;> simp_all) (fun hj => absurd hj (Nat.lt_irrefl _)) (fun h => absurd h (Nat.lt_irrefl _)) (fun _ => rfl)
        · have e : readHex r = ([], 7, -1) := by unfold readHex; rw [if_pos (by omega)]
          rw [e]
          exact refBin_hexodd 48 b r w hr hT hlow (by omega)
      · by_cases hy : b = 98 ∨ b = 66
        · have hlow : (48 : UInt8) :: Lib.toLowerD [b] = [48, 98] := by
            rcases hy with rfl | rfl
            · rw [low_low 98 (by decide)]; decide
            · rw [low_low 66 (by decide)]; decide
          rw [readV_b64 r b hy]
          by_cases ho : r.length % 4 = 0
          · obtain ⟨m, hm⟩ : ∃ m, m = r.length - eqs r := ⟨_, rfl⟩
            have hmr : m ≤ r.length := by omega
            have htl : (r.take m).length = m := by rw [List.length_take]; omega
            cases hf : (r.take m).findIdx? (fun c => letN c < 0) with
            | some p =>
              obtain ⟨hp, hbad, hall⟩ := List.findIdx?_eq_some_iff_getElem.1 hf
              have hpm : p < m := by omega
              have e : readLet r = ([], 3, 2 + (p : Int)) := by unfold readLet; rw [if_neg (by omega), ← hm, hf]
              rw [e]
              exact refBin_b64loop 48 b r m p _ w hr hT hB hlow ho hm (by omega) (fun j hj hjp => by
                have := hall j hjp; rw [List.getElem_take] at this; simpa using this) (fun hj _ => by rw [List.getElem_take] at hbad; simpa using hbad) (fun _ => rfl) (fun h => absurd hpm h) (fun h => absurd hpm h)
            | none =>
              have hall := List.findIdx?_eq_none_iff.1 hf
              exact refBin_b64loop 48 b r m m _ w hr hT hB hlow ho hm (Nat.le_refl _) (fun j hj hjm => by
                have := hall r[j] (List.mem_take_iff_getElem.2 ⟨j, by omega, rfl⟩); simpa using this) (fun _ h => absurd h (Nat.lt_irrefl _)) (fun h => absurd h (Nat.lt_irrefl _))
                (fun _ h => by unfold readLet; rw [if_neg (by omega), ← hm, hf]; simp only; rw [if_pos h])
                (fun _ h => by unfold readLet; rw [if_neg (by omega), ← hm, hf]; simp only; rw [if_neg (by rw [h]; decide)])
          · have e : readLet r = ([], 7, -1) := by unfold readLet; rw [if_pos ho]
            rw [e]
            exact refBin_b64odd 48 b r w hr hT hlow ho
        · have e : readV (48 :: b :: r) = ([], 3, -1) := by simp only [readV, if_true]; rw [if_neg hx, if_neg hy]
          rw [e]
          obtain ⟨n1, n2⟩ := low_not 48 b (fun _ => ⟨hx, hy⟩)
          exact refBin_none 48 b r _ w hr hT rfl n1 n2
    · have e : readV (a :: b :: r) = ([], 3, -1) := by simp only [readV]; rw [if_neg ha]
      rw [e]
      obtain ⟨n1, n2⟩ := low_not a b (fun h => absurd h ha)
      exact refBin_none a b r _ w hr hT rfl n1 n2
end Go.Proofs.YtoponmdfjbhnoaaGreatDoor
