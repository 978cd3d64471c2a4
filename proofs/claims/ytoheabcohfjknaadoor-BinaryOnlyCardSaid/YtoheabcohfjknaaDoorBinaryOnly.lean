/- BinaryOnly: hardly more than one way. -/
import Derived.Test.YtoheabcohfjknaaDoorBinaryCases
namespace Go.Proofs.YtoheabcohfjknaaDoor
open Go.RowKit
set_option maxRecDepth 100000 in
set_option maxHeartbeats 2000000 in
theorem binaryOnly_any (l : List UInt8) (w : World) (hl : l.length ≤ 140737488351232) (hg : ErrCell w) :
    Calls Tryd.prog 6 #[.string (S l)] w fun e w' => e = .returned (.bool true) ∧ Below w.heap.size w w' := by
  have Hg := Lib.hid hg
  clear hg
  by_cases h3 : 300 < l.length
  · go_enter Tryd.func6, Tryd.ntmps6
    go_wp2_with fail
    refine (valued_fact _ Hg.out).mono ?_
    rintro e w1 ⟨rfl, hb1⟩
    go_wp2_with fail
    go_ret
    exact ⟨rfl, hb1⟩
  · have k1 := fun W => read_any l W (by omega)
    rcases readV_ways l with ⟨h1, h2⟩ | ⟨b, r, t, hlr, hb, hv, hf, hasc⟩ | ⟨b, r, t, hlr, hb, hv, hf, hlt, hasc⟩
    · have C1 := Lib.hid k1
      have H1 := Lib.hid h1
      have H2 := Lib.hid h2
      clear k1 h1 h2
      go_enter Tryd.func6, Tryd.ntmps6
      go_wp2_with fail
      refine (valued_fact _ Hg.out).mono ?_
      rintro e w1 ⟨rfl, hb1⟩
      go_wp2_with fail
      refine (C1.out _).mono ?_
      rintro e w2 ⟨v, rfl, he, hb2⟩
      rw [H2.out]
      obtain ⟨u, x, rfl, hux⟩ := he.pos H1.out
      clear he
      rcases hux with ⟨rfl, rfl⟩ | ⟨rfl, b, rfl⟩
      all_goals
        go_wp2_with fail
        go_ret
        exact ⟨rfl, below_then hb1 hb2⟩
    · rw [hv] at k1
      have htl : t.length ≤ l.length := by
        have := hexL_len t
        have hle : ∀ (a b : List UInt8), Lib.equalFold a b = true → b.length ≤ a.length := by
          intro a
          induction a with
          | nil => intro b h; cases b with
            | nil => simp
            | cons _ _ => simp [Lib.equalFold] at h
          | cons x a ih => intro b h; cases b with
            | nil => simp
            | cons y b => simp only [Lib.equalFold, Bool.and_eq_true] at h; have := ih b h.2; simp; omega
        have := hle _ _ hf
        omega
      have k2 := fun W => hex_any t W (by omega)
      have k3 := fun W => fold_any l (hexL t) W (by omega) hasc (hexL_ascii t)
      rw [hf] at k3
      generalize hexL t = x at k2 k3
      have C1 := Lib.hid k1
      have C2 := Lib.hid k2
      have C3 := Lib.hid k3
      clear k1 k2 k3 hb hv hf hasc hlr
      go_enter Tryd.func6, Tryd.ntmps6
      go_wp2_with fail
      refine (valued_fact _ Hg.out).mono ?_
      rintro e w1 ⟨rfl, hb1⟩
      go_wp2_with fail
      refine (C1.out _).mono ?_
      rintro e w2 ⟨v, rfl, he, hb2⟩
      rw [he.zero]
      clear he
      have Hb12 := Lib.hid (below_then hb1 hb2)
      clear hb1 hb2
      go_wp2_with fail
      first | (go_region_with ((first | (go_at_call 17; refine (C3.out _).mono ?_; rintro e w' ⟨rfl, rfl⟩) | (go_at_call 13; refine (C2.out _).mono ?_; rintro e w' ⟨rfl, hb'⟩)))) | fail
      all_goals
        go_wp2_with fail
        go_ret
        exact ⟨rfl, below_then Hb12.out (((Below.refl _ _).drew).trans hb')⟩
    · rw [hv] at k1
      have hbl := b64L_len t
      have htl : t.length ≤ l.length := by
        have h1 := congrArg List.length hlt
        rw [lettersOf_len] at h1
        rw [hlr, List.length_cons, List.length_cons]; omega
      have hrl : r.length ≤ 300 := by rw [hlr, List.length_cons, List.length_cons] at h3; omega
      have hri : (r.length : Int) + 1 + 1 ≤ 300 := by rw [hlr, List.length_cons, List.length_cons] at h3; omega
      have k2 := fun W => hex_any t W (by omega)
      have k3 := fun W => fold_any l (hexL t) W (by omega) hasc (hexL_ascii t)
      have k4 := fun W => base64_any t W (by omega)
      rw [hf] at k3
      rw [show b64L t = 48 :: 98 :: lettersOf t from rfl, hlt] at k4
      generalize hexL t = x at k2 k3
      subst hlr
      have C1 := Lib.hid k1
      have C2 := Lib.hid k2
      have C3 := Lib.hid k3
      have C4 := Lib.hid k4
      clear k1 k2 k3 k4 hv hf hasc hlt hbl htl
      rcases hb with rfl | rfl
      all_goals
        go_enter Tryd.func6, Tryd.ntmps6
        go_wp2_with fail
        refine (valued_fact _ Hg.out).mono ?_
        rintro e w1 ⟨rfl, hb1⟩
        go_wp2_with fail
        refine (C1.out _).mono ?_
        rintro e w2 ⟨v, rfl, he, hb2⟩
        rw [he.zero]
        clear he
        have Hb12 := Lib.hid (below_then hb1 hb2)
        clear hb1 hb2
        go_wp2_with fail
        first | (go_region_with ((first | (go_at_call 17; refine (C3.out _).mono ?_; rintro e w' ⟨rfl, rfl⟩) | (go_at_call 13; refine (C2.out _).mono ?_; rintro e w' ⟨rfl, hb'⟩) | (go_at_call 15; refine (C4.out _).mono ?_; rintro e w' ⟨rfl, hb''⟩)))) | fail
        all_goals
          go_wp2_with fail
          go_ret
          exact ⟨rfl, below_then Hb12.out ((((Below.refl _ _).drew).trans hb').trans (hb''.mono hb'.size))⟩
end Go.Proofs.YtoheabcohfjknaaDoor
