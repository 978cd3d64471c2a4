/- head.Read. -/
import Derived.Test.YtffdlchoaaakdaaDoorWrite
import Derived.Test.YtffdlchoaaakdaaDoorNums
import Derived.Test.YtffdlchoaaakdaaDoorFGet
import Derived.LoopTactic
namespace Go.Proofs.YtffdlchoaaakdaaDoor
open Go.RowKit
theorem get1_any (l : List UInt8) (w : World) (h : l.length ≤ 8) :
    Calls Tryd.prog 33 #[.string (S l)] w fun e w' => e = .returned (.int .u64 (val l : Nat)) ∧ w = w' := by
  have C := Lib.hid (get_ok l w h)
  go_enter Tryd.func33, Tryd.ntmps33
  go_wp2_with fail
  refine C.out.mono ?_
  rintro e w' ⟨rfl, rfl⟩
  go_wp2_with fail
  go_ret
  exact ⟨rfl, rfl⟩
/-- a head, two numbers and an error are returned -/
def RetRead (w : World) (r : Hd × Nat × Nat × Int) (e : Ending) (w' : World) : Prop :=
  ∃ v ev, e = .returned (.tuple #[headV r.1 v, .int .i64 (r.2.1 : Int), .int .i64 (r.2.2.1 : Int), ev]) ∧ Vals w' v r.1.vs ∧ ErrIs w' ev r.2.2.2 (-1) ∧ Below w.heap.size w w'
theorem read_few (s : List UInt8) (w : World) (_hl : s.length ≤ 140737488351232) (h : s.length ≠ 48) : Calls Tryd.prog 14 #[.string (S s)] w (RetRead w (hd0, 0, 0, 7)) := by
  have hne : ((s.length : Int) != 48) = true := by rw [bne_iff_ne]; omega
  clear h
  go_enter Tryd.func14, Tryd.ntmps14
  go_wp2_with fail
  refine bodyPost_ret (v := .tuple #[headV hd0 (.slice none 0 0), .int .i64 0, .int .i64 0, .iface 25 (.int .i64 7)]) (by simp [results, Tryd.results14, go_sem, headV, hd0]) rfl ⟨_, _, rfl, vals_nil _, .bare 7 (by decide), ?_⟩
  exact (Below.refl _ _).alloc (Nat.le_refl _) _
theorem read_high (s : List UInt8) (w : World) (hl : s.length = 48) (hl0 : 0 < s.length) (h : 128 ≤ (s[0]'hl0).toNat) : Calls Tryd.prog 14 #[.string (S s)] w (RetRead w (hd0, 0, 0, 3)) := by
  have hne : ((s.length : Int) != 48) = false := by rw [hl]; rfl
  have hge : decide ((128 : Int) ≤ ((s[0]'hl0).toNat : Int)) = true := by simp; omega
  have Hl := Lib.hid hl
  clear h hl
  go_enter Tryd.func14, Tryd.ntmps14
  go_wp2_with fail
  refine bodyPost_ret (v := .tuple #[headV hd0 (.slice none 0 0), .int .i64 0, .int .i64 0, .iface 25 (.int .i64 3)]) (by simp [results, Tryd.results14, go_sem, headV, hd0]) rfl ⟨_, _, rfl, vals_nil _, .bare 3 (by decide), ?_⟩
  exact (Below.refl _ _).alloc (Nat.le_refl _) _
theorem andNot64 (b : UInt8) (h : b.toNat < 128) : bits .andNot .u8 (b.toNat : Int) 64 = ((b.toNat % 64 : Nat) : Int) := by
  have hd : ∀ a : Fin 128, a.val &&& (255 - 64) = a.val % 64 := by decide
  have h1 := u8_andNot_nat b.toNat 64 (by omega) (by omega)
  rw [hd ⟨b.toNat, h⟩] at h1
  exact h1
theorem and64 (b : UInt8) (h : b.toNat < 128) : (bits .and .u8 (b.toNat : Int) 64 != 0) = decide (64 ≤ b.toNat) := by
  have hd : ∀ a : Fin 128, ((((a.val &&& 64 : Nat) : Int) != 0) = decide (64 ≤ a.val)) := by decide
  have h1 := u8_and_nat b.toNat 64 (by omega) (by omega)
  have h2 : bits .and .u8 (b.toNat : Int) 64 = ((b.toNat &&& 64 : Nat) : Int) := h1
  rw [h2]
  exact hd ⟨b.toNat, h⟩
theorem read_none (s : List UInt8) (w : World) (hl : s.length = 48) (hl0 : 0 < s.length) (h : (s[0]'hl0).toNat < 128) (hk : kindOf (((s[0]'hl0).toNat % 64 : Nat) : Int) = none) : Calls Tryd.prog 14 #[.string (S s)] w (RetRead w (hd0, 0, 0, 1)) := by
  have hne : ((s.length : Int) != 48) = false := by rw [hl]; rfl
  have Hl := Lib.hid hl
  clear hl
  obtain ⟨b0, hb0⟩ : ∃ b, s[0]'hl0 = b := ⟨_, rfl⟩
  rw [hb0] at h hk
  have hge : decide ((128 : Int) ≤ (b0.toNat : Int)) = false := by simp; omega
  have hop := andNot64 b0 h
  have C := fun w => Lib.hid (fields_none hk w)
  clear h hk
  go_enter Tryd.func14, Tryd.ntmps14
  go_wp2_with fail
  refine (C _).out.mono ?_
  rintro e w1 ⟨rfl, hb⟩
  have hk1 := (Blk.new w #[.int .i64 0, .bool false, .int .i64 0, .slice none 0 0] 24).later hb
  obtain ⟨q0, q1, q2, q3⟩ := hk1.four
  have f0 := hk1.frozen 0
  have f1 := hk1.frozen 1
  have f2 := hk1.frozen 2
  have f3 := hk1.frozen 3
  have Hb := Lib.hid (below_then ((Below.refl w.heap.size w).alloc (Nat.le_refl _) _) hb)
  have Hk1 := Lib.hid hk1
  clear hb hk1
  go_wp2_with fail
  refine bodyPost_ret (v := .tuple #[headV hd0 (.slice none 0 0), .int .i64 0, .int .i64 0, .iface 25 (.int .i64 1)]) (by simp [results, Tryd.results14, go_sem, headV, hd0, q0, q1, q2, q3]) rfl ⟨_, _, rfl, vals_nil _, .bare 1 (by decide), ?_⟩
  exact (four_stored _ _ _ _ Hk1.out (Nat.le_refl _) Hb.out).2
end Go.Proofs.YtffdlchoaaakdaaDoor
