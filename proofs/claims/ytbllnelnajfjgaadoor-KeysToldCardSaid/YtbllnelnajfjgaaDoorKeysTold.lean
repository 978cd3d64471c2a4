/- KeysTold: of a key that each of both tells it comes to what is offered. -/
import Derived.Test.YtbllnelnajfjgaaDoorKeyed
namespace Go.Proofs.YtbllnelnajfjgaaDoor
open Go.RowKit
set_option linter.unusedVariables false
set_option maxRecDepth 100000 in
set_option maxHeartbeats 2000000 in
theorem keysTold_any (nm a b : List UInt8) (w : World) (h0 : nm.length ≤ 140737488351232) (h1 : a.length ≤ 140737488351232) (h2 : b.length ≤ 140737488351232) (hE : Env w) (hg : ErrCell w) :
    Calls Tryd.prog 4 #[.string (S nm), .string (S a), .string (S b)] w fun e w' => e = .returned (.bool true) ∧ Below w.heap.size w w' := by
  have Fk := Lib.hid (keyed_any w hE hg)
  by_cases hbig : 300 < nm.length + a.length + b.length
  · have hbig' : (300 : Int) < (nm.length : Int) + (a.length : Int) + (b.length : Int) := by omega
    clear hE hg
    go_enter Tryd.func4, Tryd.ntmps4
    go_wp2_with fail
    refine Fk.out.mono ?_
    rintro e w1 ⟨rfl, hb1⟩
    have Hb1 := Lib.hid hb1
    clear hb1
    go_wp2_with fail
    go_ret
    exact ⟨rfl, Hb1.out⟩
  have hbig' : (nm.length : Int) + (a.length : Int) + (b.length : Int) ≤ 300 := by omega
  have la : a.length ≤ 1000 := by omega
  have lb : b.length ≤ 1000 := by omega
  cases hr : rowOf nm with
  | none =>
    have O := Lib.hid (fun W => of_no (s := nm) W hr)
    have kr : keyRes nm a b = ([], 5) := by unfold keyRes; rw [hr]
    have kf : keyFits nm a = 5 := by unfold keyFits; rw [hr]
    have R := Lib.hid (fun W (h : Below w.heap.size w W) => res_at (ev := .iface 24 (.int .i64 5)) W kr rfl la lb (hE.later h))
    have FI := Lib.hid (fun W (h : Below w.heap.size w W) => fits_at (ev := .iface 24 (.int .i64 5)) W kf rfl la (hE.later h))
    have T := Lib.hid (fun W (h : Below w.heap.size w W) => tell_err 5 W (hg.later h))
    clear hE hg hr kr kf hbig
    go_enter Tryd.func4, Tryd.ntmps4
    go_wp2_with fail
    refine Fk.out.mono ?_
    rintro e w1 ⟨rfl, hb1⟩
    have Hb1 := Lib.hid hb1
    clear hb1
    go_wp2_with fail
    refine (O.out w1).mono ?_
    rintro e w2 ⟨rfl, hb2⟩
    have Hb3 := Lib.hid ((below_then Hb1.out hb2).alloc (below_then Hb1.out hb2).size (.cells #[.string (S []), .int .i64 0, .int .i64 0, .int .i64 0, .string (S []), .bool false, .bool false] 23))
    clear hb2
    go_wp2_with fail
    generalize w2.alloc (.cells #[.string (S []), .int .i64 0, .int .i64 0, .int .i64 0, .string (S []), .bool false, .bool false] 23) = w3 at Hb3 ⊢
    refine (R.out w3 Hb3.out).mono ?_
    rintro e w4 ⟨rfl, hb4⟩
    have Hb4 := Lib.hid (below_then Hb3.out hb4)
    clear hb4
    go_wp2_with fail
    refine (T.out w4 Hb4.out).mono ?_
    rintro e w5 ⟨rfl, hb5⟩
    have Hb5 := Lib.hid (below_then Hb4.out hb5)
    clear hb5
    go_wp2_with fail
    refine (FI.out w5 Hb5.out).mono ?_
    rintro e w6 ⟨rfl, hb6⟩
    have Hb6 := Lib.hid (below_then Hb5.out hb6)
    clear hb6
    go_wp2_with fail
    refine (T.out w6 Hb6.out).mono ?_
    rintro e w7 ⟨rfl, hb7⟩
    have Hb7 := Lib.hid (below_then Hb6.out hb7)
    clear hb7
    go_wp2_with fail
    go_ret
    exact ⟨rfl, Hb7.out⟩
  | some k =>
    have hok := rowOf_ok hr
    have kr : keyRes nm a b = resK k a b := by unfold keyRes; rw [hr]
    have htold : (k.kd = 6 ∨ k.kd = 7) → (resK k a b).2 = 0 → (resK k a b).1 = a := fun h1 h2 => by
      by_cases f1 : fitK k a = 0
      · by_cases f2 : fitK k b = 0
        · rw [resK_ok f1 f2, resOk_told a b h1]
        · rw [resK_own f1 f2] at h2; exact absurd h2 f2
      · rw [resK_off f1] at h2; exact absurd h2 f1
    obtain ⟨kn, kd, lo, hi, df, no, lg⟩ := k
    obtain ⟨x, n, hxn⟩ : ∃ x n, resK ⟨kn, kd, lo, hi, df, no, lg⟩ a b = (x, n) := ⟨_, _, rfl⟩
    rw [hxn] at kr htold
    simp only at htold
    obtain ⟨K, hK⟩ : ∃ K : Int, (kd : Int) = K := ⟨_, rfl⟩
    have O0 := fun W => of_row (s := nm) W hr
    rw [hK] at O0
    have O := Lib.hid O0
    obtain ⟨ev, hev⟩ : ∃ ev, errV (n : Int) = ev := ⟨_, rfl⟩
    have R := Lib.hid (fun W (h : Below w.heap.size w W) => res_at (ev := ev) W kr hev la lb (hE.later h))
    clear O0 hr kr hxn hE hg hbig hok
    have main : ∀ (_ : ((K != 6) = true ∧ (K != 7) = true) ∨ (∃ t y, ev = .iface t y) ∨ (ev = .nilIface ∧ x = a)), Calls Tryd.prog 4 #[.string (S nm), .string (S a), .string (S b)] w fun e w' => e = .returned (.bool true) ∧ Below w.heap.size w w' := by
      intro hh
      have Hh := Lib.hid hh
      clear hh htold hev hK
      go_enter Tryd.func4, Tryd.ntmps4
      go_wp2_with fail
      refine Fk.out.mono ?_
      rintro e w1 ⟨rfl, hb1⟩
      have Hb1 := Lib.hid hb1
      clear hb1
      go_wp2_with fail
      refine (O.out w1).mono ?_
      rintro e w2 ⟨rfl, hb2⟩
      obtain ⟨w3, hw3⟩ : ∃ w3, w2.alloc (.cells #[.string (S kn), .int .i64 K, .int .i64 (lo : Int), .int .i64 (hi : Int), .string (S df), .bool no, .bool lg] 23) = w3 := ⟨_, rfl⟩
      have Hb3 := Lib.hid (show Below w.heap.size w w3 by rw [← hw3]; exact (below_then Hb1.out hb2).alloc (below_then Hb1.out hb2).size _)
      have HK := Lib.hid (show Blk w3 w2.heap.size #[.string (S kn), .int .i64 K, .int .i64 (lo : Int), .int .i64 (hi : Int), .string (S df), .bool no, .bool lg] 23 by rw [← hw3]; exact Blk.new w2 _ _)
      clear hb2
      go_wp2_with fail
      refine (R.out w3 Hb3.out).mono ?_
      rintro e w4 ⟨rfl, hb4⟩
      have Hb4 := Lib.hid (below_then Hb3.out hb4)
      obtain ⟨_, c1, _, _, _, _, _⟩ := (HK.out.later hb4).seven
      clear hb4
      rcases Hh.out with ⟨g6, g7⟩ | ⟨t, y, rfl⟩ | ⟨rfl, rfl⟩
      · go_wp2_with fail
        go_ret
        exact ⟨rfl, Hb4.out⟩
      · by_cases g6 : K = 6
        · subst g6
          go_wp2_with fail
          go_ret
          exact ⟨rfl, Hb4.out⟩
        · by_cases g7 : K = 7
          · subst g7
            go_wp2_with fail
            go_ret
            exact ⟨rfl, Hb4.out⟩
          · have g6' : (K != 6) = true := by simpa using g6
            have g7' : (K != 7) = true := by simpa using g7
            go_wp2_with fail
            go_ret
            exact ⟨rfl, Hb4.out⟩
      · have e1 : (x == x) = true := by simp
        by_cases g6 : K = 6
        · subst g6
          go_wp2_with fail
          go_ret
          exact ⟨rfl, Hb4.out⟩
        · by_cases g7 : K = 7
          · subst g7
            go_wp2_with fail
            go_ret
            exact ⟨rfl, Hb4.out⟩
          · have g6' : (K != 6) = true := by simpa using g6
            have g7' : (K != 7) = true := by simpa using g7
            go_wp2_with fail
            go_ret
            exact ⟨rfl, Hb4.out⟩
    by_cases hn : n = 0
    · subst hn
      by_cases h67 : kd = 6 ∨ kd = 7
      · exact main (.inr (.inr ⟨hev.symm, htold h67 rfl⟩))
      · exact main (.inl ⟨by rw [bne_iff_ne]; omega, by rw [bne_iff_ne]; omega⟩)
    · exact main (.inr (.inl ⟨_, _, hev.symm.trans (errV_ne hn)⟩))
end Go.Proofs.YtbllnelnajfjgaaDoor
