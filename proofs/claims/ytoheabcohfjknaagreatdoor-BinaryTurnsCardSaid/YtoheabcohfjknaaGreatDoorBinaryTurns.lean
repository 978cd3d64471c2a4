/- BinaryTurns: any bytes as values, and the bytes that any value is, are the document's. -/
import Derived.Test.YtoheabcohfjknaaGreatDoorRefBin2
import Derived.Test.YtoheabcohfjknaaGreatDoorPlaceAt
import Derived.Test.YtoheabcohfjknaaGreatDoorHex
import Derived.Test.YtoheabcohfjknaaGreatDoorBase64
namespace Go.Proofs.YtoheabcohfjknaaGreatDoor
open Go.RowKit
theorem refBin_any (l : List UInt8) (w : World) (hl : l.length ≤ 1000) (hT : LowT w) (hB : BruijnT w) :
    Calls Tryz.prog 4 #[.string (S l)] w (RetSF w (readV l)) := by
  match l, hl with
  | [], _ => exact refBin_short [] w (by decide)
  | [a], _ => exact refBin_short [a] w (by simp)
  | a :: b :: r, hl =>
    have hr : r.length ≤ 1000 := by simp at hl; omega
    by_cases ha : a = 48
    · subst ha
      by_cases hx : b = 120 ∨ b = 88
      · have hlow : (48 : UInt8) :: Lib.toLowerD [b] = [48, 120] := by
          rcases hx with rfl | rfl
          · rw [low_low 120 (by decide)]; decide
          · rw [low_low 88 (by decide)]; decide
        rw [readV_hex r b hx]
        by_cases ho : r.length % 2 = 0
        · cases hf : r.findIdx? (fun c => (hexV c).isNone) with
          | some m =>
            obtain ⟨hm, hp, hall⟩ := List.findIdx?_eq_some_iff_getElem.1 hf
            have e : readHex r = ([], 3, 2 + (m : Int)) := by unfold readHex; rw [if_neg (by omega), hf]
            rw [e]
            exact refBin_hexloop 48 b r m _ w hr hT hlow ho (by omega) (fun j hj hjm => by
              have := hall j hjm; cases h : hexV r[j] <;> simp_all) (fun hj => by simpa using hp) (fun _ => rfl) (fun h => absurd hm h)
          | none =>
            have hall := List.findIdx?_eq_none_iff.1 hf
            have e : readHex r = (unhex r, 0, -1) := by unfold readHex; rw [if_neg (by omega), hf]
            rw [e]
            exact refBin_hexloop 48 b r r.length _ w hr hT hlow ho (Nat.le_refl _) (fun j hj _ => by
              have := hall r[j] (List.getElem_mem hj); cases h : hexV r[j] <;> simp_all) (fun hj => absurd hj (Nat.lt_irrefl _)) (fun h => absurd h (Nat.lt_irrefl _)) (fun _ => rfl)
        · have e : readHex r = ([], 7, -1) := by unfold readHex; rw [if_pos (by omega)]
          rw [e]
          exact refBin_hexodd 48 b r w hr hT hlow (by omega)
      · by_cases hy : b = 98 ∨ b = 66
        · have hlow : (48 : UInt8) :: Lib.toLowerD [b] = [48, 98] := by
            rcases hy with rfl | rfl
            · rw [low_low 98 (by decide)]; decide
            · rw [low_low 66 (by decide)]; decide
          rw [readV_b64 r b hy]
          by_cases ho : r.length % 4 = 0
          · obtain ⟨m, hm⟩ : ∃ m, m = r.length - eqs r := ⟨_, rfl⟩
            have hmr : m ≤ r.length := by omega
            have htl : (r.take m).length = m := by rw [List.length_take]; omega
            cases hf : (r.take m).findIdx? (fun c => letN c < 0) with
            | some p =>
              obtain ⟨hp, hbad, hall⟩ := List.findIdx?_eq_some_iff_getElem.1 hf
              have hpm : p < m := by omega
              have e : readLet r = ([], 3, 2 + (p : Int)) := by unfold readLet; rw [if_neg (by omega), ← hm, hf]
              rw [e]
              exact refBin_b64loop 48 b r m p _ w hr hT hB hlow ho hm (by omega) (fun j hj hjp => by
                have := hall j hjp; rw [List.getElem_take] at this; simpa using this) (fun hj _ => by rw [List.getElem_take] at hbad; simpa using hbad) (fun _ => rfl) (fun h => absurd hpm h) (fun h => absurd hpm h)
            | none =>
              have hall := List.findIdx?_eq_none_iff.1 hf
              exact refBin_b64loop 48 b r m m _ w hr hT hB hlow ho hm (Nat.le_refl _) (fun j hj hjm => by
                have := hall r[j] (List.mem_take_iff_getElem.2 ⟨j, by omega, rfl⟩); simpa using this) (fun _ h => absurd h (Nat.lt_irrefl _)) (fun h => absurd h (Nat.lt_irrefl _))
                (fun _ h => by unfold readLet; rw [if_neg (by omega), ← hm, hf]; simp only; rw [if_pos h])
                (fun _ h => by unfold readLet; rw [if_neg (by omega), ← hm, hf]; simp only; rw [if_neg (by rw [h]; decide)])
          · have e : readLet r = ([], 7, -1) := by unfold readLet; rw [if_pos ho]
            rw [e]
            exact refBin_b64odd 48 b r w hr hT hlow ho
        · have e : readV (48 :: b :: r) = ([], 3, -1) := by simp only [readV, if_true]; rw [if_neg hx, if_neg hy]
          rw [e]
          obtain ⟨n1, n2⟩ := low_not 48 b (fun _ => ⟨hx, hy⟩)
          exact refBin_none 48 b r _ w hr hT rfl n1 n2
    · have e : readV (a :: b :: r) = ([], 3, -1) := by simp only [readV]; rw [if_neg ha]
      rw [e]
      obtain ⟨n1, n2⟩ := low_not a b (fun h => absurd h ha)
      exact refBin_none a b r _ w hr hT rfl n1 n2
set_option maxRecDepth 100000 in
theorem binaryTurns_any (s v : List UInt8) (w : World) (hs : s.length ≤ 140737488351232) (hv : v.length ≤ 140737488351232) (hg : ErrCell w) (hT : LowT w) (hB : BruijnT w) :
    Calls Tryz.prog 3 #[.string (S s), .string (S v)] w fun e w' => e = .returned (.bool true) ∧ Below w.heap.size w w' := by
  by_cases h8 : 800 < s.length + v.length
  · clear hg hT hB
    have h8i : (800 : Int) < (s.length : Int) + (v.length : Int) := by omega
    go_enter Tryz.func3, Tryz.ntmps3
    go_wp2_with fail
    go_ret
    exact ⟨rfl, Below.refl _ _⟩
  · have h8i : ¬ (800 : Int) < (s.length : Int) + (v.length : Int) := by omega
    obtain ⟨x, e, p, hxe⟩ : ∃ x e p, readV v = (x, e, p) := ⟨_, _, _, rfl⟩
    have C1 := Lib.hid (refBin_any v w (by omega) hT hB)
    have C2 := Lib.hid (fun W => read_any v W (by omega))
    have C3 := Lib.hid (fun W => hex_any s W (by omega))
    have C4 := Lib.hid (fun W hB => refHex_any s W (by omega) hB)
    have C5 := Lib.hid (fun W => base64_any s W (by omega))
    have C6 := Lib.hid (fun W hB => refB64_any s W (by omega) hB)
    rw [hxe] at C1 C2
    obtain ⟨hx, hhx⟩ : ∃ y, hexL s = y := ⟨_, rfl⟩
    obtain ⟨bx, hbx⟩ : ∃ y, b64L s = y := ⟨_, rfl⟩
    rw [hhx] at C3 C4
    rw [hbx] at C5 C6
    have Hg := Lib.hid hg
    have HBr := Lib.hid hB
    clear hxe hhx hbx hg hT hB
    go_enter Tryz.func3, Tryz.ntmps3
    go_wp2_with fail
    refine C1.out.mono ?_
    rintro r1 w1 ⟨rfl, hb1⟩
    go_wp2_with fail
    have hw2 : Below w.heap.size w (w1.alloc (.cells #[.int .i64 e, .int .i64 p] 24)) := hb1.alloc hb1.size _
    have hc2 : Cell2 (w1.alloc (.cells #[.int .i64 e, .int .i64 p] 24)) w1.heap.size e p := heap_alloc_new w1 _
    obtain ⟨W2, hW2⟩ : ∃ W2, w1.alloc (.cells #[.int .i64 e, .int .i64 p] 24) = W2 := ⟨_, rfl⟩
    rw [hW2] at hw2 hc2 ⊢
    obtain ⟨fb, hfb⟩ : ∃ fb, w1.heap.size = fb := ⟨_, rfl⟩
    rw [hfb] at hc2 ⊢
    have Hc2 := Lib.hid hc2
    have Hw2 := Lib.hid hw2
    clear hW2 hfb hc2 hw2 hb1
    refine (C2.out _).mono ?_
    rintro r2 w3 ⟨ev, rfl, he, hb3⟩
    have He := Lib.hid he
    have Hb3 := Lib.hid hb3
    clear he hb3
    go_wp2_with fail
    with_reducible refine (C3.out _).mono ?_
    rintro r2 w4 ⟨rfl, hb4⟩
    have Hb4 := Lib.hid (below_then Hb3.out hb4)
    have He4 := Lib.hid (He.out.later hb4)
    clear hb4
    go_wp2_with fail
    with_reducible refine (C4.out _ (HBr.out.later (below_then Hw2.out Hb4.out))).mono ?_
    rintro r2 w5 ⟨rfl, hb5⟩
    have Hb5 := Lib.hid (below_then Hb4.out hb5)
    have He5 := Lib.hid (He4.out.later hb5)
    clear hb5
    go_wp2_with fail
    with_reducible refine (C5.out _).mono ?_
    rintro r2 w6 ⟨rfl, hb6⟩
    have Hb6 := Lib.hid (below_then Hb5.out hb6)
    have He6 := Lib.hid (He5.out.later hb6)
    clear hb6
    go_wp2_with fail
    with_reducible refine (C6.out _ (HBr.out.later (below_then Hw2.out Hb6.out))).mono ?_
    rintro r2 w7 ⟨rfl, hb7⟩
    have Hb7 := Lib.hid (below_then Hb6.out hb7)
    have He7 := Lib.hid (He6.out.later hb7)
    clear hb7
    obtain ⟨q0, q1⟩ := (Hc2.out.later Hb7.out).cells
    go_wp2_with fail
    have D := placed_same He7.out (Hg.out.later (below_then Hw2.out Hb7.out))
    refine D.mono ?_
    rintro r2 w8 ⟨rfl, hb8⟩
    go_wp2_with fail
    go_ret
    exact ⟨rfl, below_then Hw2.out (below_then Hb7.out hb8)⟩
end Go.Proofs.YtoheabcohfjknaaGreatDoor
