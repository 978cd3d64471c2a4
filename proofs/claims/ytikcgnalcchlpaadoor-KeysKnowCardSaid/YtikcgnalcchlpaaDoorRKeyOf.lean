/- ref.KeyOf: what is known of a key, as the reference has it. -/
import Derived.Test.YtikcgnalcchlpaaDoorRKnown
import Derived.Test.YtikcgnalcchlpaaDoorKOf
import Derived.LoopN
namespace Go.Proofs.YtikcgnalcchlpaaDoor
open Go.RowKit
set_option linter.unusedVariables false
def RetKeyT (w : World) (s : List UInt8) (e : Ending) (w' : World) : Prop := e = .returned (keyT s) ∧ Below w.heap.size w w'
theorem seven_put {W : World} {b : Nat} {o0 o1 o2 o3 o4 o5 o6 : Value} {t : TypeId} (x0 x1 x2 x3 x4 x5 x6 : Value) (hR : Blk W b #[o0, o1, o2, o3, o4, o5, o6] t) :
    Blk (((((((W.setCell ⟨b, 0, none⟩ x0).setCell ⟨b, 1, none⟩ x1).setCell ⟨b, 2, none⟩ x2).setCell ⟨b, 3, none⟩ x3).setCell ⟨b, 4, none⟩ x4).setCell ⟨b, 5, none⟩ x5).setCell ⟨b, 6, none⟩ x6) b #[x0, x1, x2, x3, x4, x5, x6] t := by
  have r0 : Blk (W.setCell ⟨b, 0, none⟩ x0) b #[x0, o1, o2, o3, o4, o5, o6] t := hR.set 0 x0
  have r1 : Blk ((W.setCell ⟨b, 0, none⟩ x0).setCell ⟨b, 1, none⟩ x1) b #[x0, x1, o2, o3, o4, o5, o6] t := r0.set 1 x1
  have r2 : Blk (((W.setCell ⟨b, 0, none⟩ x0).setCell ⟨b, 1, none⟩ x1).setCell ⟨b, 2, none⟩ x2) b #[x0, x1, x2, o3, o4, o5, o6] t := r1.set 2 x2
  have r3 : Blk ((((W.setCell ⟨b, 0, none⟩ x0).setCell ⟨b, 1, none⟩ x1).setCell ⟨b, 2, none⟩ x2).setCell ⟨b, 3, none⟩ x3) b #[x0, x1, x2, x3, o4, o5, o6] t := r2.set 3 x3
  have r4 : Blk (((((W.setCell ⟨b, 0, none⟩ x0).setCell ⟨b, 1, none⟩ x1).setCell ⟨b, 2, none⟩ x2).setCell ⟨b, 3, none⟩ x3).setCell ⟨b, 4, none⟩ x4) b #[x0, x1, x2, x3, x4, o5, o6] t := r3.set 4 x4
  have r5 : Blk ((((((W.setCell ⟨b, 0, none⟩ x0).setCell ⟨b, 1, none⟩ x1).setCell ⟨b, 2, none⟩ x2).setCell ⟨b, 3, none⟩ x3).setCell ⟨b, 4, none⟩ x4).setCell ⟨b, 5, none⟩ x5) b #[x0, x1, x2, x3, x4, x5, o6] t := r4.set 5 x5
  have r6 : Blk (((((((W.setCell ⟨b, 0, none⟩ x0).setCell ⟨b, 1, none⟩ x1).setCell ⟨b, 2, none⟩ x2).setCell ⟨b, 3, none⟩ x3).setCell ⟨b, 4, none⟩ x4).setCell ⟨b, 5, none⟩ x5).setCell ⟨b, 6, none⟩ x6) b #[x0, x1, x2, x3, x4, x5, x6] t := r5.set 6 x6
  exact r6
theorem seven_low {N : Nat} {w W : World} {b : Nat} (x0 x1 x2 x3 x4 x5 x6 : Value) (h : Below N w W) (hb : N ≤ b) :
    Below N w (((((((W.setCell ⟨b, 0, none⟩ x0).setCell ⟨b, 1, none⟩ x1).setCell ⟨b, 2, none⟩ x2).setCell ⟨b, 3, none⟩ x3).setCell ⟨b, 4, none⟩ x4).setCell ⟨b, 5, none⟩ x5).setCell ⟨b, 6, none⟩ x6) :=
  ((((((h.setCell (p := ⟨b, 0, none⟩) hb x0).setCell (p := ⟨b, 1, none⟩) hb x1).setCell (p := ⟨b, 2, none⟩) hb x2).setCell (p := ⟨b, 3, none⟩) hb x3).setCell (p := ⟨b, 4, none⟩) hb x4).setCell (p := ⟨b, 5, none⟩) hb x5).setCell (p := ⟨b, 6, none⟩) hb x6
set_option maxRecDepth 100000 in
set_option maxHeartbeats 1000000 in
theorem refKeyOf_any (s : List UInt8) (w : World) : Calls Tryd.prog 4 #[.string (S s)] w (RetKeyT w s) := by
  obtain ⟨W0, hW0⟩ : ∃ W0, w.alloc (.cells #[.string (S []), .int .i64 0, .int .i64 0, .int .i64 0, .string (S []), .bool false, .bool false] 23) = W0 := ⟨_, rfl⟩
  have hR0 : Blk W0 w.heap.size #[.string (S []), .int .i64 0, .int .i64 0, .int .i64 0, .string (S []), .bool false, .bool false] 23 := by rw [← hW0]; exact Blk.new w _ _
  have hb0 : Below w.heap.size w W0 := by rw [← hW0]; exact (Below.refl _ _).alloc (Nat.le_refl _) _
  have HR0 := Lib.hid hR0
  have Hb0 := Lib.hid hb0
  have KA := Lib.hid (known_any W0)
  clear hR0 hb0
  go_enter Tryd.func4, Tryd.ntmps4
  go_wp2_with fail
  refine KA.out.mono ?_
  rintro e w1 ⟨b, rfl, hk⟩
  have HK := Lib.hid hk
  have HR1 := Lib.hid (HR0.out.later hk.low)
  clear hk
  go_wp2_with fail
  go_loopw [8] (fun i wr => ∃ j : Nat, j ≤ 18 ∧ i = .int .i64 j ∧ (∀ i (hi : i < j) (hk : i < keRows.length), keRows[i].nm ≠ s) ∧ KeB W0 b wr ∧ Blk wr w.heap.size #[.string (S []), .int .i64 0, .int .i64 0, .int .i64 0, .string (S []), .bool false, .bool false] 23) (fun i _ => 18 - (intOf i).toNat)
  case atStart => exact ⟨0, by omega, rfl, fun i hi => absurd hi (Nat.not_lt_zero _), HK.out, HR1.out⟩
  case round =>
    obtain ⟨j, hj, rfl, hpre, hkb, hr⟩ := hrel
    have HKB := Lib.hid hkb
    have Hpre := Lib.hid hpre
    have HR := Lib.hid hr
    clear hkb hpre hr
    by_cases hlt : j < 18
    · have hjk : j < keRows.length := by rw [keRows_len]; exact hlt
      have hji : (j : Int) < 18 := by omega
      obtain ⟨q0, q1, q2, q3, q4, q5, q6⟩ := HKB.out.get j hjk
      have hke := fun h => rowOf_at (s := s) hjk (fun i hi => Hpre.out i hi (by rw [keRows_len]; omega)) h
      have hkn := fun (h : keRows[j].nm ≠ s) i (hi : i < j + 1) (hk : i < keRows.length) => (show keRows[i].nm ≠ s from by
        by_cases e : i = j
        · subst e; exact h
        · exact Hpre.out i (by omega) hk)
      obtain ⟨k, hk⟩ : ∃ k, keRows[j] = k := ⟨_, rfl⟩
      rw [hk] at q0 q1 q2 q3 q4 q5 q6 hke hkn
      obtain ⟨w2, hw2⟩ : ∃ w2, wr.alloc (.cells #[.string (S k.nm), .int .i64 (k.kd : Int), .int .i64 (k.lo : Int), .int .i64 (k.hi : Int), .string (S k.df), .bool k.no, .bool k.lg] 23) = w2 := ⟨_, rfl⟩
      have hbn : Below wr.heap.size wr w2 := by rw [← hw2]; exact (Below.refl wr.heap.size wr).alloc (Nat.le_refl _) _
      have hnb : Blk w2 wr.heap.size #[.string (S k.nm), .int .i64 (k.kd : Int), .int .i64 (k.lo : Int), .int .i64 (k.hi : Int), .string (S k.df), .bool k.no, .bool k.lg] 23 := by rw [← hw2]; exact Blk.new wr _ _
      have HKB2 := Lib.hid (HKB.out.later hbn)
      have HR2 := Lib.hid (HR.out.later hbn)
      have Hke := Lib.hid hke
      have Hkn := Lib.hid hkn
      obtain ⟨x0, x1, x2, x3, x4, x5, x6⟩ := hnb.seven
      clear hbn hke hkn hk hjk
      by_cases ho : k.nm = s
      · have hb : (k.nm == s) = true := by simpa using ho
        have hr2 := HR2.out
        obtain ⟨c0, c1, c2, c3, c4, c5, c6⟩ := hr2.seven
        have f0 := hr2.frozen 0
        have f1 := hr2.frozen 1
        have f2 := hr2.frozen 2
        have f3 := hr2.frozen 3
        have f4 := hr2.frozen 4
        have f5 := hr2.frozen 5
        have f6 := hr2.frozen 6
        have HZ := Lib.hid (seven_put (.string (S k.nm)) (.int .i64 (k.kd : Int)) (.int .i64 (k.lo : Int)) (.int .i64 (k.hi : Int)) (.string (S k.df)) (.bool k.no) (.bool k.lg) hr2)
        have HL := Lib.hid (seven_low (.string (S k.nm)) (.int .i64 (k.kd : Int)) (.int .i64 (k.lo : Int)) (.int .i64 (k.hi : Int)) (.string (S k.df)) (.bool k.no) (.bool k.lg) (below_then Hb0.out HKB2.out.low) (Nat.le_refl _))
        have HT := Lib.hid (show keyT s = .tuple #[.agg #[.string (S k.nm), .int .i64 (k.kd : Int), .int .i64 (k.lo : Int), .int .i64 (k.hi : Int), .string (S k.df), .bool k.no, .bool k.lg], .int .i64 0] from by unfold keyT; rw [Hke.out ho]; rfl)
        clear hr2 ho
        go_wp2_with fail
        obtain ⟨z0, z1, z2, z3, z4, z5, z6⟩ := HZ.out.seven
        clear c0 c1 c2 c3 c4 c5 c6 f0 f1 f2 f3 f4 f5 f6 x0 x1 x2 x3 x4 x5 x6 q0 q1 q2 q3 q4 q5 q6 hnb hw2
        refine bodyPost_ret (v := .tuple #[.agg #[.string (S k.nm), .int .i64 (k.kd : Int), .int .i64 (k.lo : Int), .int .i64 (k.hi : Int), .string (S k.df), .bool k.no, .bool k.lg], .int .i64 0]) (by simp [results, Tryd.results4, go_sem, z0, z1, z2, z3, z4, z5, z6]) rfl ?_
        exact ⟨by rw [HT.out], HL.out⟩
      · have hb : (k.nm == s) = false := by simpa using ho
        have Ho := Lib.hid ho
        clear ho
        go_wp2_with fail
        go_roundw
        case rel => exact ⟨j + 1, by omega, by go_num, Hkn.out Ho.out, HKB2.out, HR2.out⟩
        case measure => simp [intOf]; omega
    · have hj18 : j = 18 := by omega
      subst hj18
      have hno := rowOf_no (s := s) (fun i hi => Hpre.out i (by rw [keRows_len] at hi; exact hi) hi)
      have HT := Lib.hid (show keyT s = .tuple #[.agg #[.string (S []), .int .i64 0, .int .i64 0, .int .i64 0, .string (S []), .bool false, .bool false], .int .i64 5] from by unfold keyT; rw [hno])
      have hr2 := HR.out
      obtain ⟨c0, c1, c2, c3, c4, c5, c6⟩ := hr2.seven
      have f0 := hr2.frozen 0
      have f1 := hr2.frozen 1
      have f2 := hr2.frozen 2
      have f3 := hr2.frozen 3
      have f4 := hr2.frozen 4
      have f5 := hr2.frozen 5
      have f6 := hr2.frozen 6
      have HZ := Lib.hid (seven_put (.string (S [])) (.int .i64 0) (.int .i64 0) (.int .i64 0) (.string (S [])) (.bool false) (.bool false) hr2)
      have HL := Lib.hid (seven_low (.string (S [])) (.int .i64 0) (.int .i64 0) (.int .i64 0) (.string (S [])) (.bool false) (.bool false) (below_then Hb0.out HKB.out.low) (Nat.le_refl _))
      clear hr2 hno hlt
      go_wp2_with fail
      obtain ⟨z0, z1, z2, z3, z4, z5, z6⟩ := HZ.out.seven
      clear c0 c1 c2 c3 c4 c5 c6 f0 f1 f2 f3 f4 f5 f6
      refine bodyPost_ret (v := .tuple #[.agg #[.string (S []), .int .i64 0, .int .i64 0, .int .i64 0, .string (S []), .bool false, .bool false], .int .i64 5]) (by simp [results, Tryd.results4, go_sem, z0, z1, z2, z3, z4, z5, z6]) rfl ?_
      exact ⟨by rw [HT.out], HL.out⟩
end Go.Proofs.YtikcgnalcchlpaaDoor
