/- api.Tell of an error value told by its number and its place. -/
import Derived.Test.YtoponmdfjbhnoaaDoorTell
import Derived.Test.YtoponmdfjbhnoaaDoorErrAt
import Derived.Test.YtoponmdfjbhnoaaDoorErrIs
namespace Go.Proofs.YtoponmdfjbhnoaaDoor
open Go.RowKit
theorem tell_at (b : Nat) (n : Int) (w : World) (hg : ErrCell w) (hp : w.cell? ⟨b, 0, none⟩ = some (.int .i64 n)) :
    Calls Tryd.prog 15 #[.iface 109 (.pointer (some ⟨b, 0, none⟩))] w fun e w' => e = .returned (.int .i64 n) ∧ Below w.heap.size w w' := by
  have hb : Below w.heap.size w (w.alloc (.cells #[.int .i64 0] 40)) := (Below.refl _ _).alloc (Nat.le_refl _) _
  have hg1 : ErrCell (w.alloc (.cells #[.int .i64 0] 40)) := hg.later hb
  have hp1 : (w.alloc (.cells #[.int .i64 0] 40)).cell? ⟨b, 0, none⟩ = some (.int .i64 n) := by
    rw [(bcell hb).1 b 0 (block_lt_of_cell (w := w) (a := ⟨b, 0, none⟩) hp)]; exact hp
  have Hg1 := Lib.hid hg1
  have Hp1 := Lib.hid hp1
  clear hg hg1 hp1 hb
  go_enter Tryd.func15, Tryd.ntmps15
  go_wp2_with fail
  refine (as_hit_at n b ⟨w.heap.size, 0, none⟩ (.int .i64 0) _ Hg1.out Hp1.out (by simp) (by simp)).mono ?_
  rintro e w' ⟨rfl, rfl⟩
  go_wp2_with fail
  go_ret
  exact ⟨rfl, ((((((Below.refl _ _).alloc (Nat.le_refl _) _).alloc (by simp) _).alloc (by first | (simp; done) | (simp; omega)) _).alloc (by first | (simp; done) | (simp; omega)) _).alloc (by first | (simp; done) | (simp; omega)) _)⟩
theorem tell_is {w : World} {v : Value} {n p : Int} (h : ErrIs w v n p) (hg : ErrCell w) :
    Calls Tryd.prog 15 #[v] w fun e w' => e = .returned (.int .i64 n) ∧ Below w.heap.size w w' := by
  cases h with
  | good => exact (tell_nil w).mono fun _ _ ⟨h1, h2⟩ => ⟨h1, by rw [← h2]; exact Below.refl _ _⟩
  | bare => exact tell_err n w hg
  | placed b _ _ _ h0 _ => exact tell_at b n w hg h0
end Go.Proofs.YtoponmdfjbhnoaaDoor
