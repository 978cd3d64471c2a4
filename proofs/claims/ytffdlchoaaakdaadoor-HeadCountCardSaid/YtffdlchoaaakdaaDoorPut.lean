/- head.put. -/
import Derived.Test.YtffdlchoaaakdaaDoorFPut
import Derived.Test.YtffdlchoaaakdaaDoorHeadMath
import Derived.Test.YtffdlchoaaakdaaDoorBlk
import Derived.Lib.BufferWrite
import Derived.Laws.CopyOwn
namespace Go.Proofs.YtffdlchoaaakdaaDoor
open Go.RowKit
theorem splice_cells (l s : List UInt8) (o : Nat) : ((cells8 l).toList.take o ++ Lib.byteCells s ++ (cells8 l).toList.drop (o + s.length)).toArray = cells8 (splice l o s) := by
  unfold cells8 splice Lib.byteCells
  simp [List.map_take, List.map_drop]
theorem run_copy_S {W : World} {b : Nat} {l : List UInt8} {t : TypeId} (h : Blk W b (cells8 l) t) (ty : TypeId) (o n c : Nat) (s : List UInt8) (hn : s.length ≤ n) (hf : o + s.length ≤ l.length) :
    (Builtin.copy_ #[61, 9] ty #[.slice (some ⟨b, o, none⟩) n c, .string (S s)]).run Tryd.prog W = .ok (goInt s.length) (W.setRow b (cells8 (splice l o s))) := by
  have h1 := Lib.run_copy_row_string (P := Tryd.prog) W 61 9 ty 5 b o n c (S s) (cells8 l) t Tryd.underlying61 (by kernel_rfl) h (by rw [S_size]; exact hn) (by rw [S_size, cells8_size]; exact hf)
  rw [S_size] at h1
  have e : (S s).data.toList = s := by simp [S]
  rw [e, splice_cells] at h1
  exact h1
theorem Blk.setRow {W : World} {b : Nat} {C C' : Array Value} {t : TypeId} (h : Blk W b C t) : Blk (W.setRow b C') b C' t := setRow_heap W b C C' t (0, 0) h
theorem put1_any (l : List UInt8) (b o n c v : Nat) (t : TypeId) (w : World) (hb : Blk w b (cells8 l) t) (hn : n ≤ 8) (hf : o + n ≤ l.length) (hv : v / 2 ^ (8 * n) = 0) (B : Nat) (w0 : World) (hB0 : Below B w0 w) (hBb : B ≤ b) :
    Calls Tryd.prog 36 #[.slice (some ⟨b, o, none⟩) n c, .int .u64 (v : Int)] w fun e w' => e = .returned (.tuple #[]) ∧ Blk w' b (cells8 (splice l o (be v n))) t ∧ Below B w0 w' := by
  have C := Lib.hid (put_ok v n w hn hv)
  have Hb := Lib.hid hb
  have HB0 := Lib.hid hB0
  have hlt := hb.lt
  clear hv hb hB0
  go_enter Tryd.func36, Tryd.ntmps36
  go_wp2_with fail
  refine C.out.mono ?_
  rintro e w' ⟨rfl, hb1⟩
  have hb2 := Hb.out.later hb1
  have hcp := fun ty => run_copy_S hb2 ty o n c (be v n) (by rw [be_len]; exact Nat.le_refl _) (by rw [be_len]; exact hf)
  have Hb2 := Lib.hid hb2
  have Hb1 := Lib.hid (HB0.out.trans (hb1.mono (by omega)))
  clear hb1 hb2
  go_wp2_with fail
  go_end0
  exact ⟨rfl, Hb2.out.setRow, below_setRow Hb1.out hBb _⟩
end Go.Proofs.YtffdlchoaaakdaaDoor
