/- An error value told by its number and its place. -/
import Derived.Test.YtoponmdfjbhnoaaDoorRows
import Derived.Test.YtoponmdfjbhnoaaDoorBase
namespace Go.Proofs.YtoponmdfjbhnoaaDoor
open Go.RowKit
/-- the error v, in world W, has this number (0: nil) at this place (-1: none) -/
inductive ErrIs (W : World) : Value → Int → Int → Prop
  | good : ErrIs W .nilIface 0 (-1)
  | bare (n : Int) (hn : n ≠ 0) : ErrIs W (.iface 40 (.int .i64 n)) n (-1)
  | placed (b : Nat) (n p : Int) (hn : n ≠ 0) (h0 : W.cell? ⟨b, 0, none⟩ = some (.int .i64 n)) (h1 : W.cell? ⟨b, 1, none⟩ = some (.int .i64 p)) : ErrIs W (.iface 109 (.pointer (some ⟨b, 0, none⟩))) n p
theorem ErrIs.later {w w' : World} {v : Value} {n p : Int} (h : ErrIs w v n p) (hb : Below w.heap.size w w') : ErrIs w' v n p := by
  cases h with
  | good => exact .good
  | bare _ hn => exact .bare _ hn
  | placed b _ _ hn h0 h1 =>
    have hlt := block_lt_of_cell (w := w) (a := ⟨b, 0, none⟩) h0
    exact .placed b _ _ hn (by rw [(bcell hb).1 b 0 hlt]; exact h0) (by rw [(bcell hb).1 b 1 hlt]; exact h1)
theorem ErrIs.drawn {w : World} {v : Value} {n p : Int} (h : ErrIs w v n p) (k : Nat) : ErrIs (w.drewN k) v n p := by
  cases h with
  | good => exact .good
  | bare _ hn => exact .bare _ hn
  | placed b _ _ hn h0 h1 => exact .placed b _ _ hn h0 h1
theorem ErrIs.zero {w : World} {v : Value} {p : Int} (h : ErrIs w v 0 p) : v = .nilIface := by
  generalize hn : (0 : Int) = n at h
  cases h with
  | good => rfl
  | bare _ h => exact absurd hn.symm h
  | placed _ _ _ h => exact absurd hn.symm h
theorem ErrIs.iface {W : World} {v : Value} {n p : Int} (h : ErrIs W v n p) (hn : n ≠ 0) : ∃ t x, v = .iface t x := by
  cases h with
  | good => exact absurd rfl hn
  | bare => exact ⟨_, _, rfl⟩
  | placed => exact ⟨_, _, rfl⟩
def I64 (n : Int) : Prop := -9223372036854775808 ≤ n ∧ n ≤ 9223372036854775807
/-- an error is returned; memory grows -/
def RetE (w : World) (r : Int × Int) (e : Ending) (w' : World) : Prop := ∃ v, e = .returned v ∧ ErrIs w' v r.1 r.2 ∧ Below w.heap.size w w'
/-- a string and an error are returned; memory grows -/
def RetSE (w : World) (r : List UInt8 × Int × Int) (e : Ending) (w' : World) : Prop :=
  ∃ v, e = .returned (.tuple #[.string (S r.1), v]) ∧ ErrIs w' v r.2.1 r.2.2 ∧ Below w.heap.size w w'
end Go.Proofs.YtoponmdfjbhnoaaDoor
