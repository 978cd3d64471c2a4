/- Two fields compared. -/
import Derived.Test.YtffdlchoaaakdaaGreatDoorRows
import Derived.Test.YtffdlchoaaakdaaGreatDoorBase
import Derived.Laws.StructEq
namespace Go.Proofs.YtffdlchoaaakdaaGreatDoor
open Go.RowKit
theorem run_eqFd (w : World) (a b : List UInt8) (p q s t : Int) :
    (binOp .eql 45 (.agg #[.string (S a), .int .i64 p, .int .i64 s]) (.agg #[.string (S b), .int .i64 q, .int .i64 t])).run Tryz.prog w = .ok (.bool (decide (a = b) && p == q && s == t)) w := by
  have hS : Tryz.prog.underlying 45 = some (.struct (Tryz.prog.fieldsOf 45)) := by kernel_rfl
  have hp : Tryz.prog.stoodInHeld 45 = false := by kernel_rfl
  rw [run_eql_struct, show (10000 : Nat) = 9999 + 1 from rfl, run_equalIn_agg w 9999 45 _ _ hS hp]
  simp only [Program.fieldsOf, Tryz.underlying45]
  go_simp
  by_cases h1 : a = b <;> by_cases h2 : p = q <;> by_cases h3 : s = t <;> simp [h1, h2, h3]
theorem run_neqFd (w : World) (a b : List UInt8) (p q s t : Int) :
    (binOp .neq 45 (.agg #[.string (S a), .int .i64 p, .int .i64 s]) (.agg #[.string (S b), .int .i64 q, .int .i64 t])).run Tryz.prog w = .ok (.bool (!(decide (a = b) && p == q && s == t))) w := by
  have hS : Tryz.prog.underlying 45 = some (.struct (Tryz.prog.fieldsOf 45)) := by kernel_rfl
  have hp : Tryz.prog.stoodInHeld 45 = false := by kernel_rfl
  rw [run_neq_struct, show (10000 : Nat) = 9999 + 1 from rfl, run_equalIn_agg w 9999 45 _ _ hS hp]
  simp only [Program.fieldsOf, Tryz.underlying45]
  go_simp
  by_cases h1 : a = b <;> by_cases h2 : p = q <;> by_cases h3 : s = t <;> simp [h1, h2, h3]
theorem fd_same (w : World) (a : List UInt8) (p s : Int) : (binOp .eql 45 (.agg #[.string (S a), .int .i64 p, .int .i64 s]) (.agg #[.string (S a), .int .i64 p, .int .i64 s])).run Tryz.prog w = .ok (.bool true) w := by
  rw [run_eqFd]; simp
theorem fd_same' (w : World) (a : List UInt8) (p s : Int) : (binOp .neq 45 (.agg #[.string (S a), .int .i64 p, .int .i64 s]) (.agg #[.string (S a), .int .i64 p, .int .i64 s])).run Tryz.prog w = .ok (.bool false) w := by
  rw [run_neqFd]; simp
theorem fd_other (w : World) {a b : List UInt8} (p q s t : Int) (h : a ≠ b) : (binOp .eql 45 (.agg #[.string (S a), .int .i64 p, .int .i64 s]) (.agg #[.string (S b), .int .i64 q, .int .i64 t])).run Tryz.prog w = .ok (.bool false) w := by
  rw [run_eqFd]; simp [h]
theorem fd_other' (w : World) {a b : List UInt8} (p q s t : Int) (h : a ≠ b) : (binOp .neq 45 (.agg #[.string (S a), .int .i64 p, .int .i64 s]) (.agg #[.string (S b), .int .i64 q, .int .i64 t])).run Tryz.prog w = .ok (.bool true) w := by
  rw [run_neqFd]; simp [h]
end Go.Proofs.YtffdlchoaaakdaaGreatDoor
