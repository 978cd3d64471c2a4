/- keys.numbers: the numbers that two values are. -/
import Derived.Test.YtbllnelnajfjgaaGreatDoorKOf
import Derived.Test.YtbllnelnajfjgaaGreatDoorKNumber
import Derived.LoopN
namespace Go.Proofs.YtbllnelnajfjgaaGreatDoor
open Go.RowKit
theorem numbers_world (w : World) (a b kn df : List UInt8) (lo hi K : Int) (no lg : Bool) : ∃ W0, ((((w.alloc (.cells #[.string (S a), .string (S b)] 70)).alloc (.cells #[.string (S kn), .int .i64 K, .int .i64 lo, .int .i64 hi, .string (S df), .bool no, .bool lg] 52)).alloc (.cells #[.int .i64 0, .int .i64 0] 72)).alloc (.cells #[.int .i64 0, .int .i64 0] 72)) = W0 ∧ Below w.heap.size w W0 ∧
    Blk W0 w.heap.size #[.string (S a), .string (S b)] 70 ∧ Blk W0 (w.heap.size + 1) #[.string (S kn), .int .i64 K, .int .i64 lo, .int .i64 hi, .string (S df), .bool no, .bool lg] 52 ∧ Blk W0 (w.heap.size + 1 + 1) #[.int .i64 0, .int .i64 0] 72 ∧ Blk W0 (w.heap.size + 1 + 1 + 1) #[.int .i64 0, .int .i64 0] 72 := by
  have f0 := Blk.new w #[.string (S a), .string (S b)] 70
  obtain ⟨w1, h1⟩ : ∃ w1, w.alloc (.cells #[.string (S a), .string (S b)] 70) = w1 := ⟨_, rfl⟩
  have z1 : w1.heap.size = w.heap.size + 1 := by rw [← h1, World.size_alloc]
  have b1 : Below w.heap.size w w1 := by rw [← h1]; exact (Below.refl _ w).alloc (Nat.le_refl _) _
  rw [h1] at f0 ⊢
  have f1 := Blk.new w1 #[.string (S kn), .int .i64 K, .int .i64 lo, .int .i64 hi, .string (S df), .bool no, .bool lg] 52
  have f0 := f0.alloc (.cells #[.string (S kn), .int .i64 K, .int .i64 lo, .int .i64 hi, .string (S df), .bool no, .bool lg] 52)
  obtain ⟨w2, h2⟩ : ∃ w2, w1.alloc (.cells #[.string (S kn), .int .i64 K, .int .i64 lo, .int .i64 hi, .string (S df), .bool no, .bool lg] 52) = w2 := ⟨_, rfl⟩
  have z2 : w2.heap.size = w.heap.size + 1 + 1 := by rw [← h2, World.size_alloc, z1]
  have b2 : Below w.heap.size w w2 := by rw [← h2]; exact b1.alloc b1.size _
  rw [h2] at f0 f1 ⊢
  rw [z1] at f1
  have f2 := Blk.new w2 #[.int .i64 0, .int .i64 0] 72
  have f0 := f0.alloc (.cells #[.int .i64 0, .int .i64 0] 72)
  have f1 := f1.alloc (.cells #[.int .i64 0, .int .i64 0] 72)
  obtain ⟨w3, h3⟩ : ∃ w3, w2.alloc (.cells #[.int .i64 0, .int .i64 0] 72) = w3 := ⟨_, rfl⟩
  have z3 : w3.heap.size = w.heap.size + 1 + 1 + 1 := by rw [← h3, World.size_alloc, z2]
  have b3 : Below w.heap.size w w3 := by rw [← h3]; exact b2.alloc b2.size _
  rw [h3] at f0 f1 f2 ⊢
  rw [z2] at f2
  have f3 := Blk.new w3 #[.int .i64 0, .int .i64 0] 72
  rw [z3] at f3
  exact ⟨_, rfl, b3.alloc b3.size _, f0.alloc _, f1.alloc _, f2.alloc _, f3⟩
theorem two_index0 (a b : List UInt8) (w : World) : (Instr.index 70 (.agg #[.string (S a), .string (S b)]) (.int .i64 0)).run Tryz.prog w = .ok (.string (S a)) w := by kernel_rfl
theorem two_index1 (a b : List UInt8) (w : World) : (Instr.index 70 (.agg #[.string (S a), .string (S b)]) (.int .i64 1)).run Tryz.prog w = .ok (.string (S b)) w := by kernel_rfl
set_option maxRecDepth 100000 in
set_option maxHeartbeats 1000000 in
theorem numbers_any (a b kn df : List UInt8) (lo hi K : Int) (no lg : Bool) (na nb : Int) (w : World) (ha : a.length ≤ 1000) (hb : b.length ≤ 1000) (hE : Env w) (h1 : numE a lo hi = (na, 0)) (h2 : numE b lo hi = (nb, 0)) :
    Calls Tryz.prog 36 #[.agg #[.string (S a), .string (S b)], .agg #[.string (S kn), .int .i64 K, .int .i64 lo, .int .i64 hi, .string (S df), .bool no, .bool lg]] w fun e w' => e = .returned (.agg #[.int .i64 na, .int .i64 nb]) ∧ Below w.heap.size w w' := by
  obtain ⟨W0, hW0, hB0, bV, bK, bR, bN⟩ := numbers_world w a b kn df lo hi K no lg
  have Hb0 := Lib.hid hB0
  have NA := Lib.hid (numeral_any a lo hi W0 (by omega) (hE.later hB0))
  rw [h1] at NA
  have NB := Lib.hid (fun W (h : Below w.heap.size w W) => show Calls Tryz.prog 8 #[.string (S b), .int .i64 lo, .int .i64 hi] W (RetNI W (nb, 0)) from by
    have := numeral_any b lo hi W (by omega) (hE.later h)
    rwa [h2] at this)
  obtain ⟨v0, v1⟩ := bV.two
  have HK := Lib.hid bK
  have HR := Lib.hid bR
  have HN := Lib.hid bN
  obtain ⟨_, _, k2, k3, _, _, _⟩ := bK.seven
  clear hB0 bV bK bR bN hE h1 h2
  have i0 := two_index0 a b
  have i1 := two_index1 a b
  go_enter Tryz.func36, Tryz.ntmps36
  go_wp2_with fail
  refine wp_loop_rounds 3 ?_
  rw [rounds_succ]
  go_wp2_with fail
  refine NA.out.mono ?_
  rintro e w1 ⟨rfl, hb1⟩
  have K1 := HK.out.later hb1
  have R1 := HR.out.later hb1
  have N1 := HN.out.later hb1
  obtain ⟨w2, hw2⟩ : ∃ w2, w1.setCell ⟨w.heap.size + 1 + 1 + 1, 0, none⟩ (.int .i64 na) = w2 := ⟨_, rfl⟩
  have Hb2 := Lib.hid (show Below w.heap.size w w2 by rw [← hw2]; exact (below_then Hb0.out hb1).setCell (p := ⟨w.heap.size + 1 + 1 + 1, 0, none⟩) (by show w.heap.size ≤ w.heap.size + 1 + 1 + 1; omega) _)
  have HK2 := Lib.hid (show Blk w2 (w.heap.size + 1) #[.string (S kn), .int .i64 K, .int .i64 lo, .int .i64 hi, .string (S df), .bool no, .bool lg] 52 by rw [← hw2]; exact K1.other (by omega) _)
  have HR2 := Lib.hid (show Blk w2 (w.heap.size + 1 + 1) #[.int .i64 0, .int .i64 0] 72 by rw [← hw2]; exact R1.other (by omega) _)
  have HN2 := Lib.hid (show Blk w2 (w.heap.size + 1 + 1 + 1) #[.int .i64 na, .int .i64 0] 72 by rw [← hw2]; exact N1.set 0 _)
  obtain ⟨p0, p1⟩ := N1.two
  have f0 := N1.frozen 0
  have f1 := N1.frozen 1
  obtain ⟨_, _, k2', k3', _, _, _⟩ := HK2.out.seven
  have NB2 := Lib.hid (NB.out w2 Hb2.out)
  clear hb1 K1 R1 N1 NA NB v0 v1 k2 k3
  go_wp2_with fail
  rw [rounds_succ]
  go_wp2_with fail
  refine NB2.out.mono ?_
  rintro e w3 ⟨rfl, hb3⟩
  have R3 := HR2.out.later hb3
  have N3 := HN2.out.later hb3
  obtain ⟨w4, hw4⟩ : ∃ w4, w3.setCell ⟨w.heap.size + 1 + 1 + 1, 1, none⟩ (.int .i64 nb) = w4 := ⟨_, rfl⟩
  have Hb4 := Lib.hid (show Below w.heap.size w w4 by rw [← hw4]; exact (below_then Hb2.out hb3).setCell (p := ⟨w.heap.size + 1 + 1 + 1, 1, none⟩) (by show w.heap.size ≤ w.heap.size + 1 + 1 + 1; omega) _)
  have HR4 := Lib.hid (show Blk w4 (w.heap.size + 1 + 1) #[.int .i64 0, .int .i64 0] 72 by rw [← hw4]; exact R3.other (by omega) _)
  have N4 : Blk w4 (w.heap.size + 1 + 1 + 1) #[.int .i64 na, .int .i64 nb] 72 := by rw [← hw4]; exact N3.set 1 _
  obtain ⟨s0, s1⟩ := N3.two
  have g0 := N3.frozen 0
  have g1 := N3.frozen 1
  obtain ⟨t0, t1⟩ := N4.two
  obtain ⟨r0, r1⟩ := HR4.out.two
  have u0 := HR4.out.frozen 0
  have u1 := HR4.out.frozen 1
  have HRf := Lib.hid ((HR4.out.set 0 (.int .i64 na)).set 1 (.int .i64 nb))
  clear hb3 R3 N3 N4 NB2 p0 p1 f0 f1 k2' k3'
  go_wp2_with fail
  rw [rounds_succ]
  go_wp2_with fail
  obtain ⟨q0, q1⟩ := Blk.two (HRf.out : Blk _ (w.heap.size + 1 + 1) #[.int .i64 na, .int .i64 nb] 72)
  refine bodyPost_ret (v := .agg #[.int .i64 na, .int .i64 nb]) (by simp [results, Tryz.results36, go_sem, q0, q1]) rfl ?_
  exact ⟨rfl, (Hb4.out.setCell (p := ⟨w.heap.size + 1 + 1, 0, none⟩) (by show w.heap.size ≤ w.heap.size + 1 + 1; omega) _).setCell (p := ⟨w.heap.size + 1 + 1, 1, none⟩) (by show w.heap.size ≤ w.heap.size + 1 + 1; omega) _⟩
end Go.Proofs.YtbllnelnajfjgaaGreatDoor
