/- BinaryCut: not whole, not one. -/
import Derived.Test.YtoheabcohfjknaaDoorBinaryPlain
namespace Go.Proofs.YtoheabcohfjknaaDoor
open Go.RowKit
theorem cut_hex (l : List UInt8) (h : 0 < l.length) : readV ((hexL l).take (1 + 2 * l.length)) = ([], 7, -1) := by
  have e : (hexL l).take (1 + 2 * l.length) = 48 :: 120 :: (hexOf l).take (2 * l.length - 1) := by
    unfold hexL
    obtain ⟨m, hm⟩ : ∃ m, l.length = m + 1 := ⟨l.length - 1, by omega⟩
    rw [hm, show 1 + 2 * (m + 1) = (2 * m + 1) + 1 + 1 from by omega, show 2 * (m + 1) - 1 = 2 * m + 1 from by omega, List.take_succ_cons, List.take_succ_cons]
  rw [e, readV_hex _ _ (.inl rfl)]
  unfold readHex
  rw [if_pos (by rw [List.length_take, hexOf_len]; omega)]
theorem cut_b64 (l : List UInt8) (h : 0 < l.length) : readV ((b64L l).take (1 + (l.length + 2) / 3 * 4)) = ([], 7, -1) := by
  have e : (b64L l).take (1 + (l.length + 2) / 3 * 4) = 48 :: 98 :: (lettersOf l).take ((l.length + 2) / 3 * 4 - 1) := by
    unfold b64L
    obtain ⟨m, hm⟩ : ∃ m, (l.length + 2) / 3 * 4 = m + 1 := ⟨(l.length + 2) / 3 * 4 - 1, by omega⟩
    rw [hm, show 1 + (m + 1) = m + 1 + 1 from by omega, Nat.add_sub_cancel, List.take_succ_cons, List.take_succ_cons]
  rw [e, readV_b64 _ _ (.inl rfl)]
  unfold readLet
  rw [if_pos (by rw [List.length_take, lettersOf_len]; omega)]
theorem binaryCut_any (l : List UInt8) (w : World) (hl : l.length ≤ 140737488351232) (hg : ErrCell w) :
    Calls Tryd.prog 9 #[.string (S l)] w fun e w' => e = .returned (.bool true) ∧ Below w.heap.size w w' := by
  have Hg := Lib.hid hg
  clear hg
  by_cases h3 : 300 < l.length
  · go_enter Tryd.func9, Tryd.ntmps9
    go_wp2_with fail
    refine (valued_fact _ Hg.out).mono ?_
    rintro e w1 ⟨rfl, hb1⟩
    go_wp2_with fail
    go_ret
    exact ⟨rfl, hb1⟩
  · by_cases h0 : l = []
    · subst h0
      go_enter Tryd.func9, Tryd.ntmps9
      go_wp2_with fail
      refine (valued_fact _ Hg.out).mono ?_
      rintro e w1 ⟨rfl, hb1⟩
      go_wp2_with fail
      go_ret
      exact ⟨rfl, hb1⟩
    · have hpos : 0 < l.length := List.length_pos_iff.2 h0
      have C1 := Lib.hid (fun W => hex_any l W (by omega))
      have C2 := Lib.hid (fun W => base64_any l W (by omega))
      have hx := hexL_len l
      have hy := b64L_len l
      have r1 := cut_hex l hpos
      have r2 := cut_b64 l hpos
      have he : l.isEmpty = false := by cases l with | nil => exact absurd rfl h0 | cons _ _ => rfl
      obtain ⟨x, hxe⟩ : ∃ x, hexL l = x := ⟨_, rfl⟩
      obtain ⟨y, hye⟩ : ∃ y, b64L l = y := ⟨_, rfl⟩
      rw [hxe] at C1 hx r1
      rw [hye] at C2 hy r2
      rw [show 1 + 2 * l.length = x.length - 1 from by omega] at r1
      rw [show 1 + (l.length + 2) / 3 * 4 = y.length - 1 from by omega] at r2
      have c3 := fun W => read_any (x.take (x.length - 1)) W (by rw [List.length_take]; omega)
      have c4 := fun W => read_any (y.take (y.length - 1)) W (by rw [List.length_take]; omega)
      rw [r1] at c3
      rw [r2] at c4
      have C3 := Lib.hid c3
      have C4 := Lib.hid c4
      have hxl : 2 ≤ x.length := by omega
      have hyl : 2 ≤ y.length := by omega
      have hxm : x.length ≤ 602 := by omega
      have hym : y.length ≤ 602 := by omega
      have hxt : ((x.length : Int) - 1).toNat = x.length - 1 := by omega
      have hyt : ((y.length : Int) - 1).toNat = y.length - 1 := by omega
      clear r1 r2 c3 c4 hxe hye hx hy h0
      go_enter Tryd.func9, Tryd.ntmps9
      go_wp2_with fail
      refine (valued_fact _ Hg.out).mono ?_
      rintro e w1 ⟨rfl, hb1⟩
      go_wp2_with fail
      refine (C1.out _).mono ?_
      rintro e w2 ⟨rfl, hb2⟩
      go_wp2_with fail
      refine (C2.out _).mono ?_
      rintro e w3 ⟨rfl, hb3⟩
      go_wp2_with fail
      refine (C3.out _).mono ?_
      rintro e w4 ⟨v4, rfl, he4, hb4⟩
      go_wp2_with fail
      refine (C4.out _).mono ?_
      rintro e w5 ⟨v5, rfl, he5, hb5⟩
      have hbb := below_then hb1 (below_then hb2 (below_then hb3 (below_then hb4 hb5)))
      have Hg5 := Lib.hid (Hg.out.later hbb)
      have He4 := Lib.hid (he4.later hb5)
      have He5 := Lib.hid he5
      clear he4 he5
      go_wp2_with fail
      refine (tell_is He4.out Hg5.out).mono ?_
      rintro e w6 ⟨rfl, hb6⟩
      have Hg6 := Lib.hid (Hg5.out.later hb6)
      have He6 := Lib.hid (He5.out.later hb6)
      go_wp2_with fail
      refine (tell_is He6.out Hg6.out).mono ?_
      rintro e w7 ⟨rfl, hb7⟩
      go_wp2_with fail
      go_ret
      exact ⟨rfl, below_then hbb (below_then hb6 hb7)⟩
end Go.Proofs.YtoheabcohfjknaaDoor
