/- BinaryCases: great or small; what reading a value can come to. -/
import Derived.Test.YtoheabcohfjknaaDoorBinaryPlain
import Derived.Test.YtoheabcohfjknaaDoorBinOnlyMath
import Derived.Test.YtoheabcohfjknaaDoorShCase
import Derived.Test.YtoheabcohfjknaaDoorGuard
import Derived.Deep.RegionHeld3
namespace Go.Proofs.YtoheabcohfjknaaDoor
open Go.RowKit
theorem ascii_at {l : List UInt8} (h : ∀ x ∈ l, x.toNat < 128) : ∀ (j : Nat) (b : UInt8), (S l).data.toList[j]? = some b → b.toNat < 128 := fun j b hb => by
  rw [S_data] at hb
  exact h b (List.mem_of_getElem? hb)
theorem upper_any (l : List UInt8) (w : World) (hl : l.length ≤ 4294967280) (h : ∀ x ∈ l, x.toNat < 128) :
    Calls Tryd.prog 18 #[.string (S l)] w fun e w' => e = .returned (.string (S (l.map Lib.upperB))) ∧ Below w.heap.size w w' :=
  Tryd.strings_ToUpper_ascii (S l) w (by rw [S_size]; omega) (ascii_at h)
theorem fold_any (a b : List UInt8) (w : World) (hl : a.length ≤ 4294967280) (ha : ∀ x ∈ a, x.toNat < 128) (hb : ∀ x ∈ b, x.toNat < 128) :
    Calls Tryd.prog 17 #[.string (S a), .string (S b)] w fun e w' => e = .returned (.bool (Lib.equalFold a b)) ∧ w = w' :=
  (Tryd.strings_EqualFold (S a) (S b) w (by rw [S_size]; omega) (ascii_at ha) (ascii_at hb)).mono fun _ _ ⟨h1, h2⟩ => ⟨h1, h2.symm⟩
theorem readV_upper (l : List UInt8) : readV ((hexL l).map Lib.upperB) = (l, 0, -1) := by
  have e : (hexL l).map Lib.upperB = 48 :: 88 :: (hexOf l).map Lib.upperB := by unfold hexL; rfl
  rw [e, readV_hex _ _ (.inr rfl), readHex_upper, readHex_hexOf]
theorem binaryCases_any (l : List UInt8) (w : World) (hl : l.length ≤ 140737488351232) (hg : ErrCell w) :
    Calls Tryd.prog 8 #[.string (S l)] w fun e w' => e = .returned (.bool true) ∧ Below w.heap.size w w' := by
  have Hg := Lib.hid hg
  clear hg
  by_cases h3 : 300 < l.length
  · go_enter Tryd.func8, Tryd.ntmps8
    go_wp2_with fail
    refine (valued_fact _ Hg.out).mono ?_
    rintro e w1 ⟨rfl, hb1⟩
    go_wp2_with fail
    go_ret
    exact ⟨rfl, hb1⟩
  · have hx := hexL_len l
    have hy := lettersOf_len l
    have k1 := fun W => hex_any l W (by omega)
    have k2 := fun W => upper_any (hexL l) W (by omega) (hexL_ascii l)
    have k3 := fun W => read_any ((hexL l).map Lib.upperB) W (by rw [List.length_map]; omega)
    have k4 := fun W => base64_any l W (by omega)
    have k5 := fun W => read_any (48 :: 66 :: lettersOf l) W (by simp only [List.length_cons]; omega)
    rw [readV_upper] at k3
    rw [readV_b64 _ _ (.inr rfl), readLet_letters] at k5
    rw [show b64L l = 48 :: 98 :: lettersOf l from rfl] at k4
    generalize (hexL l).map Lib.upperB = x2 at k2 k3
    generalize hexL l = x at k1 k2 hx
    generalize lettersOf l = y at k4 k5 hy
    have C1 := Lib.hid k1
    have C2 := Lib.hid k2
    have C3 := Lib.hid k3
    have C4 := Lib.hid k4
    have C5 := Lib.hid k5
    have hxl : 2 ≤ x.length := by omega
    have hxm : x.length ≤ 602 := by omega
    have hym : y.length ≤ 602 := by omega
    clear k1 k2 k3 k4 k5 hx hy
    go_enter Tryd.func8, Tryd.ntmps8
    go_wp2_with fail
    refine (valued_fact _ Hg.out).mono ?_
    rintro e w1 ⟨rfl, hb1⟩
    go_wp2_with fail
    refine (C1.out _).mono ?_
    rintro e w2 ⟨rfl, hb2⟩
    go_wp2_with fail
    refine (C2.out _).mono ?_
    rintro e w3 ⟨rfl, hb3⟩
    go_wp2_with fail
    refine (C3.out _).mono ?_
    rintro e w4 ⟨v4, rfl, he4, hb4⟩
    rw [he4.zero]
    clear he4
    go_wp2_with fail
    refine (C4.out _).mono ?_
    rintro e w5 ⟨rfl, hb5⟩
    go_wp2_with fail
    refine (C5.out _).mono ?_
    rintro e w6 ⟨v6, rfl, he6, hb6⟩
    rw [he6.zero]
    clear he6
    go_wp2_with fail
    go_ret
    exact ⟨rfl, below_then hb1 (below_then hb2 (below_then hb3 (below_then hb4 (below_then hb5 hb6))))⟩
/-- what reading a value can come to -/
theorem readV_ways (l : List UInt8) : ((readV l).2.1 ≠ 0 ∧ (readV l).1 = []) ∨ (∃ b r t, l = 48 :: b :: r ∧ (b = 120 ∨ b = 88) ∧ readV l = (t, 0, -1) ∧ Lib.equalFold l (hexL t) = true ∧ ∀ x ∈ l, x.toNat < 128) ∨
    (∃ b r t, l = 48 :: b :: r ∧ (b = 98 ∨ b = 66) ∧ readV l = (t, 0, -1) ∧ Lib.equalFold l (hexL t) = false ∧ lettersOf t = r ∧ ∀ x ∈ l, x.toNat < 128) := by
  match l with
  | [] => exact .inl ⟨by decide, rfl⟩
  | [_] => exact .inl ⟨show (3 : Int) ≠ 0 by decide, rfl⟩
  | a :: b :: r =>
    by_cases ha : a = 48
    · subst ha
      by_cases hx : b = 120 ∨ b = 88
      · rw [readV_hex r b hx]
        by_cases h0 : (readHex r).2.1 = 0
        · right; left
          have hp : (readHex r).2.2 = -1 := by
            unfold readHex at h0 ⊢
            split
            · rfl
            · rename_i ho
              rw [if_neg ho] at h0
              split
              · rename_i hf; rw [hf] at h0; exact absurd h0 (show ¬ (3 : Int) = 0 by decide)
              · rfl
          have he : readHex r = ((readHex r).1, 0, -1) := by rw [← h0, ← hp]
          obtain ⟨h1, h2⟩ := readHex_ok r _ he
          refine ⟨b, r, (readHex r).1, rfl, hx, he, ?_, ?_⟩
          · unfold hexL
            have hb : Lib.foldEq b 120 = true := by rcases hx with rfl | rfl <;> decide
            simp only [Lib.equalFold, hb, h1, Bool.and_true]
            decide
          · intro x hxm
            simp only [List.mem_cons] at hxm
            rcases hxm with rfl | rfl | hxm
            · decide
            · rcases hx with rfl | rfl <;> decide
            · exact h2 x hxm
        · exact .inl ⟨h0, readHex_err r h0⟩
      · by_cases hy : b = 98 ∨ b = 66
        · rw [readV_b64 r b hy]
          by_cases h0 : (readLet r).2.1 = 0
          · right; right
            have hp : (readLet r).2.2 = -1 := by
              unfold readLet at h0 ⊢
              split
              · rfl
              · rename_i ho
                rw [if_neg ho] at h0
                split
                · rename_i hf; rw [hf] at h0; exact absurd h0 (show ¬ (3 : Int) = 0 by decide)
                · rename_i hf
                  rw [hf] at h0
                  simp only at h0 ⊢
                  split
                  · rename_i hz; rw [if_pos hz] at h0; exact absurd h0 (show ¬ (3 : Int) = 0 by decide)
                  · rfl
            have he : readLet r = ((readLet r).1, 0, -1) := by rw [← h0, ← hp]
            obtain ⟨h1, h2⟩ := readLet_ok r _ he
            refine ⟨b, r, (readLet r).1, rfl, hy, he, ?_, h1, ?_⟩
            · unfold hexL
              have hb : Lib.foldEq b 120 = false := by rcases hy with rfl | rfl <;> decide
              simp only [Lib.equalFold, hb, Bool.false_and, Bool.and_false]
            · intro x hxm
              simp only [List.mem_cons] at hxm
              rcases hxm with rfl | rfl | hxm
              · decide
              · rcases hy with rfl | rfl <;> decide
              · exact h2 x hxm
          · exact .inl ⟨h0, readLet_err r h0⟩
        · have e : readV (48 :: b :: r) = ([], 3, -1) := by simp only [readV, if_true]; rw [if_neg hx, if_neg hy]
          rw [e]; exact .inl ⟨by decide, rfl⟩
    · have e : readV (a :: b :: r) = ([], 3, -1) := by simp only [readV]; rw [if_neg ha]
      rw [e]; exact .inl ⟨by decide, rfl⟩
theorem ErrIs.pos {w : World} {v : Value} {n p : Int} (h : ErrIs w v n p) (hn : n ≠ 0) : ∃ t x, v = .iface t x ∧ (t = 34 ∧ x = .int .i64 n ∨ t = 108 ∧ ∃ b, x = .pointer (some ⟨b, 0, none⟩)) := by
  cases h with
  | good => exact absurd rfl hn
  | bare _ _ => exact ⟨_, _, rfl, .inl ⟨rfl, rfl⟩⟩
  | placed b _ _ _ _ _ => exact ⟨_, _, rfl, .inr ⟨rfl, b, rfl⟩⟩
end Go.Proofs.YtoheabcohfjknaaDoor
