/- PairsLetters: a key with one letter more is one just if that may stand in one, and it isn't too long. -/
import Derived.Test.YtildnpnpakhnjaaPaired
namespace Go.Proofs.Ytildnpnpakhnjaa
open Go.RowKit
theorem mayB_yes {c : UInt8} (h : (97 ≤ c.toNat ∧ c.toNat ≤ 122) ∨ (65 ≤ c.toNat ∧ c.toNat ≤ 90) ∨ (48 ≤ c.toNat ∧ c.toNat ≤ 57) ∨ 0 ≤ sgnN c) : mayB c = true := by
  have hs := sgn_has c
  unfold mayB greatB
  rw [← hs]
  rcases h with h | h | h | h <;> simp [h]
theorem mayB_no {c : UInt8} (h1 : c.toNat < 48 ∨ (57 < c.toNat ∧ c.toNat < 65) ∨ (90 < c.toNat ∧ c.toNat < 97) ∨ 122 < c.toNat) (h2 : sgnN c < 0) : mayB c = false := by
  have hs := sgn_has c
  unfold mayB greatB
  rw [← hs, show decide (65 ≤ c.toNat ∧ c.toNat ≤ 90) = false from decide_eq_false (by omega), show decide (97 ≤ c.toNat ∧ c.toNat ≤ 122) = false from decide_eq_false (by omega), show decide (48 ≤ c.toNat ∧ c.toNat ≤ 57) = false from decide_eq_false (by omega), show decide (0 ≤ sgnN c) = false from decide_eq_false (by omega)]
  rfl
theorem cv_one (w : World) (c : UInt8) : (convert 44 9 (.slice (some ⟨w.heap.size, 0, none⟩) 1 1)).run Try.prog (w.alloc (.cells #[.int .u8 (c.toNat : Int)] 5)) = .ok (.string (S [c])) (w.alloc (.cells #[.int .u8 (c.toNat : Int)] 5)) :=
  run_string_cells8 44 9 5 Try.underlying44 Try.underlying5 Try.underlying9 w [c] 1 1 5 (by simp)
set_option maxRecDepth 100000 in
set_option maxHeartbeats 4000000 in
theorem pairsLetters_any (s : List UInt8) (a : Int) (w : World) (hl : s.length ≤ 140737488351232) (wf : (Lit.int .u8 a).wf = true) (hm : MaxCell w) :
    Calls Try.prog 6 #[.string (S s), .int .u8 a] w fun e w' => e = .returned (.bool true) ∧ Below w.heap.size w w' := by
  have hb8 : 0 ≤ a ∧ a ≤ 255 := by simpa [Lit.wf, IntKind.min, IntKind.max, IntKind.signed, IntKind.bits] using wf
  obtain ⟨c, rfl⟩ : ∃ c : UInt8, a = (c.toNat : Int) := ⟨UInt8.ofNat a.toNat, by rw [UInt8.toNat_ofNat', Nat.mod_eq_of_lt (by omega)]; omega⟩
  have F := Lib.hid (paired_any w hm)
  have K := fun w => Lib.hid (key_any s w (by omega))
  clear wf hb8 hm
  cases hk : isKey s with
  | false =>
    simp only [hk] at K
    clear hk
    go_enter Try.func6, Try.ntmps6
    go_wp2_with fail
    refine F.out.mono ?_
    rintro e w1 ⟨rfl, hb1⟩
    have Hb1 := Lib.hid hb1
    clear hb1 F
    go_wp2_with fail
    refine (K _).out.mono ?_
    rintro e w2 ⟨rfl, rfl⟩
    go_wp2_with fail
    go_ret
    exact ⟨rfl, Hb1.out⟩
  | true =>
    obtain ⟨h0, h63, hg⟩ := isKey_head hk
    have e0 : s.getD 0 0 = s[0]'h0 := by rw [List.getD_eq_getElem?_getD, List.getElem?_eq_getElem h0]; rfl
    rw [e0] at hg
    have hg1 : 65 ≤ (s[0]'h0).toNat ∧ (s[0]'h0).toNat ≤ 90 := of_decide_eq_true hg
    obtain ⟨hg1, hg2⟩ := hg1
    have K2 := fun w => key_any (s ++ [c]) w (by rw [List.length_append]; simp; omega)
    simp only [isKey_snoc c hk] at K2
    simp only [hk] at K
    have I := fun w => Lib.hid (signs_any c w)
    have hY := mayB_yes (c := c)
    have hN := mayB_no (c := c)
    obtain ⟨k, hsg⟩ : ∃ k, sgnN c = k := ⟨_, rfl⟩
    simp only [hsg] at I hY hN
    have cv := fun w => cv_one w c
    have hcc : ¬ 9223372036854775807 < s.length + 1 := by omega
    clear hk hg e0 hsg
    have hc : (97 ≤ c.toNat ∧ c.toNat ≤ 122) ∨ (65 ≤ c.toNat ∧ c.toNat ≤ 90) ∨ (48 ≤ c.toNat ∧ c.toNat ≤ 57) ∨ c.toNat < 48 ∨ (57 < c.toNat ∧ c.toNat < 65) ∨ (90 < c.toNat ∧ c.toNat < 97) ∨ 122 < c.toNat := by omega
    by_cases h6 : s.length < 63
    all_goals
      first
      | simp only [decide_eq_true h6] at K2
      | simp only [decide_eq_false h6] at K2
      rcases hc with ⟨h, h2⟩ | ⟨h, h2⟩ | ⟨h, h2⟩ | h | ⟨h, h2⟩ | ⟨h, h2⟩ | h
      case inl | inr.inl | inr.inr.inl =>
        simp only [hY (by omega)] at K2
        have K2 := fun w => Lib.hid (K2 w)
        clear hY hN
        go_enter Try.func6, Try.ntmps6
        go_wp2_with fail
        refine F.out.mono ?_
        rintro e w1 ⟨rfl, hb1⟩
        have Hb1 := Lib.hid hb1
        clear hb1 F
        go_wp2_with fail
        refine (K _).out.mono ?_
        rintro e w2 ⟨rfl, rfl⟩
        go_wp2_with fail
        refine (K2 _).out.mono ?_
        rintro e w2 ⟨rfl, rfl⟩
        go_wp2_with fail
        go_ret
        refine ⟨?_, Hb1.out.alloc Hb1.out.size _⟩
        simp
        omega
      all_goals
        by_cases h0k : 0 ≤ k
        all_goals
          first
          | simp only [hY (by omega)] at K2
          | simp only [hN (by omega) (by omega)] at K2
          have K2 := fun w => Lib.hid (K2 w)
          clear hY hN
          go_enter Try.func6, Try.ntmps6
          go_wp2_with fail
          refine F.out.mono ?_
          rintro e w1 ⟨rfl, hb1⟩
          have Hb1 := Lib.hid hb1
          clear hb1 F
          go_wp2_with fail
          refine (K _).out.mono ?_
          rintro e w2 ⟨rfl, rfl⟩
          go_wp2_with fail
          refine (I _).out.mono ?_
          rintro e w2 ⟨rfl, rfl⟩
          go_wp2_with fail
          refine (K2 _).out.mono ?_
          rintro e w2 ⟨rfl, rfl⟩
          go_wp2_with fail
          go_ret
          refine ⟨?_, Hb1.out.alloc Hb1.out.size _⟩
          simp
          omega
end Go.Proofs.Ytildnpnpakhnjaa
