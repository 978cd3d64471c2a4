/- api.Tell at nil and at a bare Errno. -/
import Derived.Test.YtoponmdfjbhnoaaDoorErr
namespace Go.Proofs.YtoponmdfjbhnoaaDoor
open Go.RowKit
theorem ErrCell.lt {w : World} (h : ErrCell w) : 0 < w.heap.size := block_lt_of_cell (w := w) (a := ⟨0, 0, none⟩) h
theorem ErrCell.later {w w' : World} (h : ErrCell w) (hb : Below w.heap.size w w') : ErrCell w' := by
  have := (bcell hb).1 0 0 h.lt
  unfold ErrCell at *
  rw [this]; exact h
theorem ErrCell.drawn {w : World} (h : ErrCell w) (n : Nat) : ErrCell (w.drewN n) := h
theorem noUnwrap (v : Value) (xT : TypeId) (w : World) : (Instr.typeAssert (.iface 40 v) xT 87 true).run Tryd.prog w = .ok (.tuple #[.nilIface, .bool false]) w :=
  run_typeAssert_lacksB Tryd.underlying87 (by kernel_rfl) (by kernel_rfl) v xT w
theorem noAt (v : Value) (xT : TypeId) (w : World) : (Instr.typeAssert (.iface 40 v) xT 109 true).run Tryd.prog w = .ok (.tuple #[.pointer none, .bool false]) w := by kernel_rfl
theorem tell_nil (w : World) : Calls Tryd.prog 15 #[.nilIface] w fun e w' => e = .returned (.int .i64 0) ∧ w = w' := by
  go_enter Tryd.func15, Tryd.ntmps15
  go_wp2_with fail
  go_ret
  exact ⟨rfl, rfl⟩
theorem tell_err (n : Int) (w : World) (hg : ErrCell w) : Calls Tryd.prog 15 #[.iface 40 (.int .i64 n)] w fun e w' => e = .returned (.int .i64 n) ∧ Below w.heap.size w w' := by
  have hg1 : ErrCell (w.alloc (.cells #[.int .i64 0] 40)) := hg.later ((Below.refl _ _).alloc (Nat.le_refl _) _)
  have Hg1 := Lib.hid hg1
  clear hg hg1
  go_enter Tryd.func15, Tryd.ntmps15
  go_wp2_with fail
  refine (as_hit n ⟨w.heap.size, 0, none⟩ (.int .i64 0) _ Hg1.out (by simp) (by simp)).mono ?_
  rintro e w' ⟨rfl, rfl⟩
  go_wp2_with fail
  go_ret
  exact ⟨rfl, ((((((Below.refl _ _).alloc (Nat.le_refl _) _).alloc (by simp) _).alloc (by first | (simp; done) | (simp; omega)) _).alloc (by first | (simp; done) | (simp; omega)) _).alloc (by first | (simp; done) | (simp; omega)) _)⟩
end Go.Proofs.YtoponmdfjbhnoaaDoor
