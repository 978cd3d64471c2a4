/- ref.Names: all keys, as the reference has them. -/
import Derived.Test.YtikcgnalcchlpaaDoorRKnown
import Derived.Test.YtikcgnalcchlpaaDoorKOf
import Derived.Test.YtikcgnalcchlpaaDoorStrV
import Derived.Test.YtikcgnalcchlpaaDoorKNames
namespace Go.Proofs.YtikcgnalcchlpaaDoor
open Go.RowKit
set_option linter.unusedVariables false
theorem row_mono {W : World} {base base' : Nat} {v : Value} {l : List (List UInt8)} (h : StBuf base W v l) (hb : base' ≤ base) : StBuf base' W v l := by
  refine ⟨h.1, ?_⟩
  rcases h.2 with h0 | ⟨g, cap, cur, rfl, hbg, rest⟩
  · exact .inl h0
  · exact .inr ⟨g, cap, cur, rfl, Nat.le_trans hb hbg, rest⟩
theorem keNames_take {j : Nat} (hj : j < keRows.length) : (keRows.take (j + 1)).map (·.nm) = (keRows.take j).map (·.nm) ++ [keRows[j].nm] := by
  rw [List.take_succ_eq_append_getElem hj, List.map_append]; rfl
set_option maxRecDepth 100000 in
set_option maxHeartbeats 1000000 in
theorem refNames_any (w : World) : Calls Tryd.prog 9 #[] w fun e W' => ∃ v, e = .returned v ∧ StBuf w.heap.size W' v keNames ∧ Below w.heap.size w W' := by
  obtain ⟨i0, hi, hz0, hz1, hz2⟩ := infoSt
  go_enter Tryd.func9, Tryd.ntmps9
  go_wp2_with fail
  refine (known_any w).mono ?_
  rintro e w1 ⟨b, rfl, hk⟩
  have HK := Lib.hid hk
  have Hs1 := Lib.hid hk.low.size
  clear hk
  go_wp2_with fail
  go_loopw [1, 6] (fun v i wr => ∃ (j : Nat) (acc : List (List UInt8)), j ≤ 18 ∧ i = .int .i64 j ∧ Hid ((keRows.take j).map (·.nm) = acc) ∧ acc.length ≤ 18 ∧ StBuf w1.heap.size wr v acc ∧ Below w1.heap.size w1 wr) (fun _ i _ => 18 - (intOf i).toNat)
  case atStart => exact ⟨0, [], by omega, rfl, Lib.hid rfl, by simp, StBuf.nil _ _, Below.refl _ _⟩
  case round =>
    obtain ⟨j, acc, hj, rfl, Ha, hal, hbuf, hb⟩ := hrel
    obtain ⟨pv, cv, rfl⟩ := hbuf.form
    have Hb := Lib.hid hb
    have Hbuf := Lib.hid hbuf
    have Hge := Lib.hid hbuf.ge
    clear hb hbuf
    by_cases hlt : j < 18
    · have hjk : j < keRows.length := by rw [keRows_len]; exact hlt
      have hji : (j : Int) < 18 := by omega
      obtain ⟨q0, q1, q2, q3, q4, q5, q6⟩ := (HK.out.later Hb.out).get j hjk
      have Ha2 := Lib.hid (keNames_take hjk)
      obtain ⟨k, hk⟩ : ∃ k, keRows[j] = k := ⟨_, rfl⟩
      rw [hk] at q0 q1 q2 q3 q4 q5 q6 Ha2
      obtain ⟨w2, hw2⟩ : ∃ w2, wr.alloc (.cells #[.string (S k.nm), .int .i64 (k.kd : Int), .int .i64 (k.lo : Int), .int .i64 (k.hi : Int), .string (S k.df), .bool k.no, .bool k.lg] 23) = w2 := ⟨_, rfl⟩
      have hnb : Blk w2 wr.heap.size #[.string (S k.nm), .int .i64 (k.kd : Int), .int .i64 (k.lo : Int), .int .i64 (k.hi : Int), .string (S k.df), .bool k.no, .bool k.lg] 23 := by rw [← hw2]; exact Blk.new wr _ _
      have Hb2 := Lib.hid (show Below w1.heap.size w1 w2 by rw [← hw2]; exact Hb.out.alloc Hb.out.size _)
      have Hbuf2 := Lib.hid (show StBuf w1.heap.size w2 (.slice pv acc.length cv) acc by rw [← hw2]; exact Hbuf.out.alloc _)
      have Hs2 := Lib.hid Hb2.out.size
      obtain ⟨x0, x1, x2, x3, x4, x5, x6⟩ := hnb.seven
      obtain ⟨HA1, HA2, HA3, HA4, HA5⟩ := appS_sides k.nm w2 w2.heap.size acc.length w1.heap.size rfl (by omega) Hb2.out.size
      have HBa := Lib.hid (Hbuf2.out.alloc (.cells #[.string (S k.nm)] 9))
      clear hk hjk hnb
      go_wp2_with (at_builtin; refine wpList_append_own _ rfl _ _ 33 rfl w1.heap.size 9 i0 (.string (S [])) 1 16 Tryd.underlying33 hi hz0 hz1 hz2 rfl (by decide) (.slice pv acc.length cv) acc.length (strVs acc) rfl HBa.out ⟨w2.heap.size, 0, none⟩ 1 1 [.string (S k.nm)] rfl rfl HA1.out HA2.out HA3.out HA4.out HA5.out ?_)
      intro v' wa hown hgrow hnil
      have hown' : StBuf w1.heap.size wa v' (acc ++ [k.nm]) := by
        unfold StBuf
        rw [strVs_app, List.length_append]
        exact hown
      have Hlow3 := Lib.hid ((Hb2.out.alloc Hb2.out.size (.cells #[.string (S k.nm)] 9)).grown hgrow (by simp; have := Hs2.out; omega) Hge.out)
      have Hown := Lib.hid hown'
      clear hown hown' hgrow hnil
      go_wp2_with fail
      go_roundw
      case rel => exact ⟨j + 1, acc ++ [k.nm], by omega, by go_num, Lib.hid (by rw [Ha2.out, Ha.out]), by
        have h := congrArg List.length (Ha2.out.trans (by rw [Ha.out]))
        rw [← h]; simp; omega, Hown.out, Hlow3.out⟩
      case measure => simp [intOf]; omega
    · have hj18 : j = 18 := by omega
      subst hj18
      have hacc : acc = keNames := by rw [← Ha.out]; rfl
      have HR := Lib.hid (show ∃ v, Ending.returned (.slice pv acc.length cv) = .returned v ∧ StBuf w.heap.size wr v keNames ∧ Below w.heap.size w wr from ⟨_, rfl, by rw [← hacc]; exact row_mono Hbuf.out Hs1.out, below_then HK.out.low Hb.out⟩)
      clear hacc hlt
      go_wp2_with fail
      go_ret
      exact HR.out
end Go.Proofs.YtikcgnalcchlpaaDoor
