/- KeysBoth: of And, Or, and numbers it comes to the same, whichever of both is offered. -/
import Derived.Test.YtbllnelnajfjgaaDoorKeyed
import Derived.BigRegion
namespace Go.Proofs.YtbllnelnajfjgaaDoor
open Go.RowKit
set_option linter.unusedVariables false
set_option maxRecDepth 100000 in
set_option maxHeartbeats 2000000 in
theorem keysBoth_any (nm a b : List UInt8) (w : World) (h0 : nm.length ≤ 140737488351232) (h1 : a.length ≤ 140737488351232) (h2 : b.length ≤ 140737488351232) (hE : Env w) (hg : ErrCell w) :
    Calls Tryd.prog 5 #[.string (S nm), .string (S a), .string (S b)] w fun e w' => e = .returned (.bool true) ∧ Below w.heap.size w w' := by
  have Fk := Lib.hid (keyed_any w hE hg)
  by_cases hbig : 300 < nm.length + a.length + b.length
  · have hbig' : (300 : Int) < (nm.length : Int) + (a.length : Int) + (b.length : Int) := by omega
    clear hE hg
    go_enter Tryd.func5, Tryd.ntmps5
    go_wp2_with fail
    refine Fk.out.mono ?_
    rintro e w1 ⟨rfl, hb1⟩
    have Hb1 := Lib.hid hb1
    clear hb1
    go_wp2_with fail
    go_ret
    exact ⟨rfl, Hb1.out⟩
  have hbig' : (nm.length : Int) + (a.length : Int) + (b.length : Int) ≤ 300 := by omega
  have la : a.length ≤ 1000 := by omega
  have lb : b.length ≤ 1000 := by omega
  cases hr : rowOf nm with
  | none =>
    have O := Lib.hid (fun W => of_no (s := nm) W hr)
    clear hE hg hr hbig
    go_enter Tryd.func5, Tryd.ntmps5
    go_wp2_with fail
    refine Fk.out.mono ?_
    rintro e w1 ⟨rfl, hb1⟩
    have Hb1 := Lib.hid hb1
    clear hb1
    go_wp2_with fail
    refine (O.out w1).mono ?_
    rintro e w2 ⟨rfl, hb2⟩
    have Hb2 := Lib.hid ((below_then Hb1.out hb2).alloc (below_then Hb1.out hb2).size (.cells #[.string (S []), .int .i64 0, .int .i64 0, .int .i64 0, .string (S []), .bool false, .bool false] 23))
    clear hb2
    go_wp2_with fail
    go_ret
    exact ⟨rfl, Hb2.out⟩
  | some k =>
    have hok := rowOf_ok hr
    have kr : keyRes nm a b = resK k a b := by unfold keyRes; rw [hr]
    have kr2 : keyRes nm b a = resK k b a := by unfold keyRes; rw [hr]
    have hboth := @resK_both k a b
    obtain ⟨kn, kd, lo, hi, df, no, lg⟩ := k
    have hk1 := hok.2.2.1
    have hk7 := hok.2.2.2.1
    obtain ⟨x, n, hxn⟩ : ∃ x n, resK ⟨kn, kd, lo, hi, df, no, lg⟩ a b = (x, n) := ⟨_, _, rfl⟩
    obtain ⟨x', n', hxn'⟩ : ∃ x n, resK ⟨kn, kd, lo, hi, df, no, lg⟩ b a = (x, n) := ⟨_, _, rfl⟩
    rw [hxn] at kr hboth
    rw [hxn'] at kr2 hboth
    simp only at hk1 hk7 hboth
    obtain ⟨K, hK⟩ : ∃ K : Int, (kd : Int) = K := ⟨_, rfl⟩
    have O0 := fun W => of_row (s := nm) W hr
    rw [hK] at O0
    have O := Lib.hid O0
    obtain ⟨ev, hev⟩ : ∃ ev, errV (n : Int) = ev := ⟨_, rfl⟩
    obtain ⟨ev', hev'⟩ : ∃ ev, errV (n' : Int) = ev := ⟨_, rfl⟩
    have R := Lib.hid (fun W (h : Below w.heap.size w W) => res_at (ev := ev) W kr hev la lb (hE.later h))
    have R' := Lib.hid (fun W (h : Below w.heap.size w W) => res_at (ev := ev') W kr2 hev' lb la (hE.later h))
    clear O0 hr kr kr2 hxn hxn' hE hg hbig hok
    have main : ∀ (_ : (K = 5 ∨ K = 6 ∨ K = 7) ∨ (((K == 5) = false ∧ (K == 6) = false ∧ (K == 7) = false) ∧ x = x' ∧ ((∃ t y t' y', ev = .iface t y ∧ ev' = .iface t' y') ∨ (ev = .nilIface ∧ ev' = .nilIface)))), Calls Tryd.prog 5 #[.string (S nm), .string (S a), .string (S b)] w fun e w' => e = .returned (.bool true) ∧ Below w.heap.size w w' := by
      intro hh
      have Hh := Lib.hid hh
      clear hh hk1 hk7 hboth hev hev' hK
      go_enter Tryd.func5, Tryd.ntmps5
      go_wp2_with fail
      refine Fk.out.mono ?_
      rintro e w1 ⟨rfl, hb1⟩
      have Hb1 := Lib.hid hb1
      clear hb1
      go_wp2_with fail
      refine (O.out w1).mono ?_
      rintro e w2 ⟨rfl, hb2⟩
      obtain ⟨w3, hw3⟩ : ∃ w3, w2.alloc (.cells #[.string (S kn), .int .i64 K, .int .i64 (lo : Int), .int .i64 (hi : Int), .string (S df), .bool no, .bool lg] 23) = w3 := ⟨_, rfl⟩
      have Hb3 := Lib.hid (show Below w.heap.size w w3 by rw [← hw3]; exact (below_then Hb1.out hb2).alloc (below_then Hb1.out hb2).size _)
      have bK : Blk w3 w2.heap.size #[.string (S kn), .int .i64 K, .int .i64 (lo : Int), .int .i64 (hi : Int), .string (S df), .bool no, .bool lg] 23 := by rw [← hw3]; exact Blk.new w2 _ _
      obtain ⟨_, c1, _, _, _, _, _⟩ := bK.seven
      clear hb2 bK
      rcases Hh.out with (rfl | rfl | rfl) | ⟨⟨g5, g6, g7⟩, rfl, hnn⟩
      · go_wp2_with fail
        go_ret
        exact ⟨rfl, Hb3.out⟩
      · go_wp2_with fail
        go_ret
        exact ⟨rfl, Hb3.out⟩
      · go_wp2_with fail
        go_ret
        exact ⟨rfl, Hb3.out⟩
      · have e1 : (x == x) = true := by simp
        rcases hnn with ⟨t, y, t', y', rfl, rfl⟩ | ⟨rfl, rfl⟩
        all_goals
          go_wp2_with fail
          refine (R.out w3 Hb3.out).mono ?_
          rintro e w4 ⟨rfl, hb4⟩
          have Hb4 := Lib.hid (below_then Hb3.out hb4)
          clear hb4
          go_wp2_with fail
          refine (R'.out w4 Hb4.out).mono ?_
          rintro e w5 ⟨rfl, hb5⟩
          have Hb5 := Lib.hid (below_then Hb4.out hb5)
          clear hb5
          go_wp2_with fail
          go_region
          all_goals
            go_wp2_with fail
            go_ret
            exact ⟨rfl, Hb5.out.drew⟩
    by_cases h567 : kd = 5 ∨ kd = 6 ∨ kd = 7
    · exact main (.inl (by omega))
    · obtain ⟨g1, g2⟩ := hboth (by omega)
      refine main (.inr ⟨⟨by rw [beq_eq_false_iff_ne]; omega, by rw [beq_eq_false_iff_ne]; omega, by rw [beq_eq_false_iff_ne]; omega⟩, g1, ?_⟩)
      by_cases hn : n = 0
      · have hn' := g2.1 hn
        subst hn
        subst hn'
        exact .inr ⟨hev.symm, hev'.symm⟩
      · exact .inl ⟨_, _, _, _, hev.symm.trans (errV_ne hn), hev'.symm.trans (errV_ne (fun h => hn (g2.2 h)))⟩
end Go.Proofs.YtbllnelnajfjgaaDoor
