/- ref.HeadRead: what is no head, as the reference has it. -/
import Derived.Test.YtffdlchoaaakdaaDoorRefKind
import Derived.Test.YtffdlchoaaakdaaDoorRefUnnum
import Derived.Test.YtffdlchoaaakdaaDoorFieldsMath
import Derived.Test.YtffdlchoaaakdaaDoorHRead2
import Derived.Test.YtffdlchoaaakdaaDoorHBits
namespace Go.Proofs.YtffdlchoaaakdaaDoor
open Go.RowKit
def RetRR (w : World) (r : Hd × Nat × Nat × Int) (e : Ending) (w' : World) : Prop :=
  ∃ v, e = .returned (.tuple #[headV r.1 v, .int .i64 (r.2.1 : Int), .int .i64 (r.2.2.1 : Int), .int .i64 r.2.2.2]) ∧ Vals w' v r.1.vs ∧ Below w.heap.size w w'
theorem refRead_few (s : List UInt8) (w : World) (h : s.length ≠ 48) (_hl : s.length ≤ 140737488351232) : Calls Tryd.prog 13 #[.string (S s)] w (RetRR w (hd0, 0, 0, 7)) := by
  have hne : ((s.length : Int) != 48) = true := by rw [bne_iff_ne]; omega
  clear h
  go_enter Tryd.func13, Tryd.ntmps13
  go_wp2_with fail
  refine bodyPost_ret (v := .tuple #[headV hd0 (.slice none 0 0), .int .i64 0, .int .i64 0, .int .i64 7]) (by simp [results, Tryd.results13, go_sem, headV, hd0]) rfl ⟨_, rfl, vals_nil _, ?_⟩
  exact (Below.refl _ _).alloc (Nat.le_refl _) _
theorem refRead_high (s : List UInt8) (w : World) (hl : s.length = 48) (hl0 : 0 < s.length) (h : 128 ≤ (s[0]'hl0).toNat) : Calls Tryd.prog 13 #[.string (S s)] w (RetRR w (hd0, 0, 0, 3)) := by
  have hne : ((s.length : Int) != 48) = false := by rw [hl]; rfl
  obtain ⟨b0, hb0⟩ : ∃ b, s[0]'hl0 = b := ⟨_, rfl⟩
  rw [hb0] at h
  have hq : ((b0.toNat : Int) / 128 % 256 == 1) = true := by have := b0.toNat_lt; rw [beq_iff_eq]; omega
  clear h hl
  go_enter Tryd.func13, Tryd.ntmps13
  go_wp2_with fail
  refine bodyPost_ret (v := .tuple #[headV hd0 (.slice none 0 0), .int .i64 0, .int .i64 0, .int .i64 3]) (by simp [results, Tryd.results13, go_sem, headV, hd0]) rfl ⟨_, rfl, vals_nil _, ?_⟩
  exact (Below.refl _ _).alloc (Nat.le_refl _) _
theorem refRead_none (s : List UInt8) (w : World) (hl : s.length = 48) (hl0 : 0 < s.length) (h : (s[0]'hl0).toNat < 128) (hk : kindOf (((s[0]'hl0).toNat % 64 : Nat) : Int) = none) : Calls Tryd.prog 13 #[.string (S s)] w (RetRR w (hd0, 0, 0, 1)) := by
  have hne : ((s.length : Int) != 48) = false := by rw [hl]; rfl
  obtain ⟨b0, hb0⟩ : ∃ b, s[0]'hl0 = b := ⟨_, rfl⟩
  rw [hb0] at h hk
  have hq : ((b0.toNat : Int) / 128 % 256 == 1) = false := by rw [beq_eq_false_iff_ne]; omega
  have e64 : ((b0.toNat % 64 : Nat) : Int) = (b0.toNat : Int) % 64 := by omega
  have hr : (b0.toNat : Int) % 64 ≤ 63 := by omega
  have hr0 : 0 ≤ (b0.toNat : Int) % 64 := by omega
  have C := refKind_any ((b0.toNat % 64 : Nat) : Int) (w.alloc (.cells #[.int .i64 0, .bool false, .int .i64 0, .slice none 0 0] 24))
  rw [hk, e64] at C
  have HC := Lib.hid C
  have hk0 := Lib.hid (Blk.new w #[.int .i64 0, .bool false, .int .i64 0, .slice none 0 0] 24)
  have Hb0 := Lib.hid ((Below.refl w.heap.size w).alloc (Nat.le_refl _) (.cells #[.int .i64 0, .bool false, .int .i64 0, .slice none 0 0] 24))
  clear h hl hk C e64
  go_enter Tryd.func13, Tryd.ntmps13
  go_wp2_with fail
  refine HC.out.mono ?_
  rintro e w1 ⟨rfl, hb⟩
  have hkk := hk0.out.later hb
  obtain ⟨q0, q1, q2, q3⟩ := hkk.four
  have f0 := hkk.frozen 0
  have f1 := hkk.frozen 1
  have f2 := hkk.frozen 2
  have f3 := hkk.frozen 3
  have Hb := Lib.hid (below_then Hb0.out hb)
  clear hb hkk
  go_wp2_with fail
  refine bodyPost_ret (v := .tuple #[headV hd0 (.slice none 0 0), .int .i64 0, .int .i64 0, .int .i64 1]) (by simp [results, Tryd.results13, go_sem, headV, hd0, q0, q1, q2, q3]) rfl ⟨_, rfl, vals_nil _, ?_⟩
  exact (((Hb.out.setCell (Nat.le_refl _) _).setCell (Nat.le_refl _) _).setCell (Nat.le_refl _) _).setCell (Nat.le_refl _) _
end Go.Proofs.YtffdlchoaaakdaaDoor
