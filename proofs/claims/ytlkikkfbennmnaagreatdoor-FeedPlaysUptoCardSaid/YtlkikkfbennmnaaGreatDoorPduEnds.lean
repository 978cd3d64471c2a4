/- pdu.endsOf, pdu.Size. -/
import Derived.Test.YtlkikkfbennmnaaGreatDoorPduSmall
import Derived.Test.YtlkikkfbennmnaaGreatDoorPduBare
import Derived.Test.YtlkikkfbennmnaaGreatDoorGD
namespace Go.Proofs.YtlkikkfbennmnaaGreatDoor
open Go.RowKit
set_option linter.unusedVariables false
set_option maxRecDepth 100000 in
set_option maxHeartbeats 2000000 in
theorem endsOf_any (s : List UInt8) (m : Nat) (w : World) (hm : m ≤ 3) (hs : 48 ≤ s.length) :
    Calls Tryz.prog 95 #[.string (S s), .int .i64 (m : Int)] w fun e w' => e = .returned (.agg #[.int .i64 (eh s : Nat), .int .i64 (eg s m : Nat), .int .i64 (ed s m : Nat), .int .i64 (ea s m : Nat)]) ∧ Below w.heap.size w w' := by
  have G1 := fun W => Lib.hid (get_ok ((s.drop 4).take 1) W (by have := List.length_take_le 1 (s.drop 4); omega))
  have G2 := fun W => Lib.hid (get_ok ((s.drop 5).take 3) W (by have := List.length_take_le 3 (s.drop 5); omega))
  have hx := readW_lt s
  have hy := readD_lt s
  have ea1 : ea s m = ed s m + room m 2 (readD s) := rfl
  have ed1 : ed s m = eg s m + readD s + pad (readD s) := rfl
  have eg1 : eg s m = eh s + room m 1 (eh s) := rfl
  have eh1 : eh s = 48 + 4 * readW s := rfl
  have ex : val ((s.drop 4).take 1) = readW s := rfl
  have ey : val ((s.drop 5).take 3) = readD s := rfl
  simp only [ex] at G1
  simp only [ey] at G2
  generalize readW s = x at *
  generalize readD s = y at *
  generalize ea s m = e4 at *
  generalize ed s m = e3 at *
  generalize eg s m = e2 at *
  generalize eh s = e1 at *
  have P : ∀ W, Calls Tryz.prog 76 #[.int .i64 (y : Int)] W fun e w'' => e = .returned (.int .i64 (pad y : Nat)) ∧ w'' = W := fun W => (pad_any (y : Int) W).mono fun _ _ ⟨h1, h2⟩ => ⟨by rw [h1, padI_pad], h2.symm⟩
  have R1 : ∀ W, Calls Tryz.prog 77 #[.int .i64 (e1 : Int), .int .i64 (m : Int), .int .i64 1] W fun e w'' => e = .returned (.int .i64 (room m 1 e1 : Nat)) ∧ w'' = W := fun W => room_any e1 m 1 W hm (.inl rfl)
  have R2 : ∀ W, Calls Tryz.prog 77 #[.int .i64 (y : Int), .int .i64 (m : Int), .int .i64 2] W fun e w'' => e = .returned (.int .i64 (room m 2 y : Nat)) ∧ w'' = W := fun W => room_any y m 2 W hm (.inr rfl)
  have b1 := room_le m 1 e1
  have b2 := room_le m 2 y
  have b3 := pad_le y
  generalize room m 1 e1 = r1 at *
  generalize room m 2 y = r2 at *
  generalize pad y = q at *
  have h1 : (48 : Int) + 4 * (x : Int) = (e1 : Int) := by omega
  have h2 : (e1 : Int) + (r1 : Int) = (e2 : Int) := by omega
  obtain ⟨e23, h23⟩ : ∃ k : Nat, (e2 : Int) + (y : Int) = (k : Int) := ⟨e2 + y, by omega⟩
  have h3 : (e23 : Int) + (q : Int) = (e3 : Int) := by omega
  have k23 : e23 ≤ 16790000 := by omega
  have h4 : (e3 : Int) + (r2 : Int) = (e4 : Int) := by omega
  have k1 : e1 ≤ 2000 := by omega
  have k2 : e2 ≤ 3000 := by omega
  have k3 : e3 ≤ 16790000 := by omega
  have HR1 := Lib.hid R1
  have HR2 := Lib.hid R2
  have HP := Lib.hid P
  clear ea1 ed1 eg1 eh1 ex ey hm R1 R2 P
  go_enter Tryz.func95, Tryz.ntmps95
  go_wp2_with fail
  refine (G1 _).out.mono ?_
  rintro e w1 ⟨rfl, rfl⟩
  go_wp2_with fail
  refine (G2 _).out.mono ?_
  rintro e w1 ⟨rfl, rfl⟩
  go_wp2_with fail
  have hk0 : Blk ((w.alloc (.cells #[.int .i64 0, .int .i64 0, .int .i64 0, .int .i64 0] 194)).alloc (.cells #[.int .i64 (e1 : Int), .int .i64 0, .int .i64 0, .int .i64 0] 194)) w.heap.size #[.int .i64 0, .int .i64 0, .int .i64 0, .int .i64 0] 194 := (Blk.new w _ _).alloc _
  have hk1 : Blk ((w.alloc (.cells #[.int .i64 0, .int .i64 0, .int .i64 0, .int .i64 0] 194)).alloc (.cells #[.int .i64 (e1 : Int), .int .i64 0, .int .i64 0, .int .i64 0] 194)) (w.heap.size + 1) #[.int .i64 (e1 : Int), .int .i64 0, .int .i64 0, .int .i64 0] 194 := by
    have := Blk.new (w.alloc (.cells #[.int .i64 0, .int .i64 0, .int .i64 0, .int .i64 0] 194)) #[.int .i64 (e1 : Int), .int .i64 0, .int .i64 0, .int .i64 0] 194
    simpa using this
  have hb2 := ((Below.refl w.heap.size w).alloc (Nat.le_refl _) (.cells #[.int .i64 0, .int .i64 0, .int .i64 0, .int .i64 0] 194)).alloc (by simp) (.cells #[.int .i64 (e1 : Int), .int .i64 0, .int .i64 0, .int .i64 0] 194)
  generalize ((w.alloc (.cells #[.int .i64 0, .int .i64 0, .int .i64 0, .int .i64 0] 194)).alloc (.cells #[.int .i64 (e1 : Int), .int .i64 0, .int .i64 0, .int .i64 0] 194)) = W2 at hk0 hk1 hb2 ⊢
  obtain ⟨B, hB⟩ : ∃ B, w.heap.size + 1 = B := ⟨_, rfl⟩
  have hne : w.heap.size ≠ B := by omega
  have hle : w.heap.size ≤ B := by omega
  simp only [hB] at hk1 ⊢
  obtain ⟨q0, q1, q2, q3⟩ := hk1.four
  have f1 := hk1.frozen 1
  have HK0 := Lib.hid hk0
  have HK1 := Lib.hid hk1
  have HB2 := Lib.hid hb2
  clear hk0 hk1 hb2 hB
  refine wp_region_still_tail 8 (by kernel_rfl) (by kernel_rfl) ?_
  simp only [List.take_succ_cons, List.take_zero, List.drop_succ_cons, List.drop_zero]
  change wpStill _ _ W2.drew _ _ _
  repeat still_step
  still_call (HR1.out _)
  repeat still_step
  refine wpStill_nil ?_
  change wpList _ _ _ _ _ W2.drew
  go_wp2_with fail
  have hk0 : Blk (W2.setCell ⟨B, 1, none⟩ (.int .i64 (e2 : Int))).drew w.heap.size #[.int .i64 0, .int .i64 0, .int .i64 0, .int .i64 0] 194 := HK0.out.other hne _
  have hk1 : Blk (W2.setCell ⟨B, 1, none⟩ (.int .i64 (e2 : Int))).drew B #[.int .i64 (e1 : Int), .int .i64 (e2 : Int), .int .i64 0, .int .i64 0] 194 := HK1.out.set 1 _
  have hb2 : Below w.heap.size w (W2.setCell ⟨B, 1, none⟩ (.int .i64 (e2 : Int))).drew := (HB2.out.setCell (p := ⟨B, 1, none⟩) hle _).drew
  clear q0 q1 q2 q3 f1 HK0 HK1 HB2
  generalize (W2.setCell ⟨B, 1, none⟩ (.int .i64 (e2 : Int))).drew = W3 at hk0 hk1 hb2 ⊢
  obtain ⟨q0, q1, q2, q3⟩ := hk1.four
  have f1 := hk1.frozen 2
  have HK0 := Lib.hid hk0
  have HK1 := Lib.hid hk1
  have HB2 := Lib.hid hb2
  clear hk0 hk1 hb2
  refine wp_region_still_tail 8 (by kernel_rfl) (by kernel_rfl) ?_
  simp only [List.take_succ_cons, List.take_zero, List.drop_succ_cons, List.drop_zero]
  change wpStill _ _ W3.drew _ _ _
  repeat still_step
  still_call (HP.out _)
  repeat still_step
  refine wpStill_nil ?_
  change wpList _ _ _ _ _ W3.drew
  go_wp2_with fail
  have hk0 : Blk (W3.setCell ⟨B, 2, none⟩ (.int .i64 ((e23 : Int) + (q : Int)))).drew w.heap.size #[.int .i64 0, .int .i64 0, .int .i64 0, .int .i64 0] 194 := HK0.out.other hne _
  have hk1 : Blk (W3.setCell ⟨B, 2, none⟩ (.int .i64 ((e23 : Int) + (q : Int)))).drew B #[.int .i64 (e1 : Int), .int .i64 (e2 : Int), .int .i64 (e3 : Int), .int .i64 0] 194 := by
    have := HK1.out.set 2 (.int .i64 ((e23 : Int) + (q : Int)))
    rw [h3] at this ⊢
    exact this
  have hb2 : Below w.heap.size w (W3.setCell ⟨B, 2, none⟩ (.int .i64 ((e23 : Int) + (q : Int)))).drew := (HB2.out.setCell (p := ⟨B, 2, none⟩) hle _).drew
  clear q0 q1 q2 q3 f1 HK0 HK1 HB2
  generalize (W3.setCell ⟨B, 2, none⟩ (.int .i64 ((e23 : Int) + (q : Int)))).drew = W4 at hk0 hk1 hb2 ⊢
  obtain ⟨q0, q1, q2, q3⟩ := hk1.four
  have f1 := hk1.frozen 3
  have HK0 := Lib.hid hk0
  have HK1 := Lib.hid hk1
  have HB2 := Lib.hid hb2
  clear hk0 hk1 hb2
  obtain ⟨p0, p1, p2, p3⟩ := HK0.out.four
  have g0 := HK0.out.frozen 0
  have g1 := HK0.out.frozen 1
  have g2 := HK0.out.frozen 2
  have g3 := HK0.out.frozen 3
  have hlt := HK0.out.lt
  have hltB := HK1.out.lt
  refine wp_region_still_tail 7 (by kernel_rfl) (by kernel_rfl) ?_
  simp only [List.take_succ_cons, List.take_zero, List.drop_succ_cons, List.drop_zero]
  change wpStill _ _ W4.drew _ _ _
  repeat still_step
  still_call (HR2.out _)
  repeat still_step
  refine wpStill_nil ?_
  change wpList _ _ _ _ _ W4.drew
  go_wp2_with fail
  have hk0 : Blk (W4.setCell ⟨B, 3, none⟩ (.int .i64 (e4 : Int))).drew w.heap.size #[.int .i64 0, .int .i64 0, .int .i64 0, .int .i64 0] 194 := HK0.out.other hne _
  have hk1 : Blk (W4.setCell ⟨B, 3, none⟩ (.int .i64 (e4 : Int))).drew B #[.int .i64 (e1 : Int), .int .i64 (e2 : Int), .int .i64 (e3 : Int), .int .i64 (e4 : Int)] 194 := HK1.out.set 3 _
  have hb2 : Below w.heap.size w (W4.setCell ⟨B, 3, none⟩ (.int .i64 (e4 : Int))).drew := (HB2.out.setCell (p := ⟨B, 3, none⟩) hle _).drew
  refine bodyPost_ret (v := .agg #[.int .i64 (e1 : Int), .int .i64 (e2 : Int), .int .i64 (e3 : Int), .int .i64 (e4 : Int)]) (by simp [results, Tryz.results95, go_sem, p0, p1, p2, p3]) rfl ⟨rfl, ?_⟩
  exact (four_stored _ _ _ _ hk0 (Nat.le_refl _) hb2).2
theorem field_all (a b c d : Int) (w : World) : (Instr.field 194 (.agg #[.int .i64 a, .int .i64 b, .int .i64 c, .int .i64 d]) 3).run Tryz.prog w = .ok (.int .i64 d) w := by kernel_rfl
set_option maxRecDepth 100000 in
theorem size_any2 (s : List UInt8) (m : Int) (w : World) (hm : I64 m) (hl : s.length ≤ 140737488351232) :
    Calls Tryz.prog 68 #[.string (S s), .int .i64 m] w fun e w' => ∃ ev, e = .returned (.tuple #[.int .i64 ((sizeP s m).1 : Nat), ev]) ∧ Bare1 ev (sizeP s m).2 ∧ Below w.heap.size w w' := by
  have M := fun w => Lib.hid (modes_any m w hm)
  by_cases hk : okM m
  · simp only [decide_eq_true hk] at M
    by_cases h48 : s.length < 48
    · have e : sizeP s m = (0, 7) := by unfold sizeP; rw [if_neg (by simp [hk]), if_pos h48]
      rw [e]
      have h48I : (s.length : Int) < 48 := by omega
      clear hk h48 e hm hl
      go_enter Tryz.func68, Tryz.ntmps68
      go_wp2_with fail
      refine (M _).out.mono ?_
      rintro e w1 ⟨rfl, rfl⟩
      go_wp2_with fail
      go_ret2
      exact ⟨_, rfl, .inr ⟨by decide, rfl⟩, Below.refl _ _⟩
    · have e : sizeP s m = (ea s m.toNat, 0) := by unfold sizeP; rw [if_neg (by simp [hk]), if_neg h48]
      rw [e]
      have h48I : (48 : Int) ≤ (s.length : Int) := by omega
      obtain ⟨n, rfl⟩ : ∃ n : Nat, m = n := ⟨m.toNat, by have := hk.1; omega⟩
      have E := fun w => Lib.hid (endsOf_any s n w (by have := hk.2; omega) (by omega))
      rw [Int.toNat_natCast]
      have F := field_all
      clear hk h48 e hm hl
      go_enter Tryz.func68, Tryz.ntmps68
      go_wp2_with fail
      refine (M _).out.mono ?_
      rintro e w1 ⟨rfl, rfl⟩
      go_wp2_with fail
      refine (E _).out.mono ?_
      rintro e w1 ⟨rfl, hb⟩
      go_wp2_with fail
      go_ret2
      exact ⟨_, rfl, .inl ⟨rfl, rfl⟩, hb⟩
  · simp only [decide_eq_false hk] at M
    have e : sizeP s m = (0, 1) := by unfold sizeP; rw [if_pos hk]
    rw [e]
    clear hk e hm hl
    go_enter Tryz.func68, Tryz.ntmps68
    go_wp2_with fail
    refine (M _).out.mono ?_
    rintro e w1 ⟨rfl, rfl⟩
    go_wp2_with fail
    go_ret2
    exact ⟨_, rfl, .inr ⟨by decide, rfl⟩, Below.refl _ _⟩
end Go.Proofs.YtlkikkfbennmnaaGreatDoor
