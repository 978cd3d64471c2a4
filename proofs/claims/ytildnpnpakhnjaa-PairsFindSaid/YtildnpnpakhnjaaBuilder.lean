/- strings.Builder: WriteString and String, by the shelf's contracts, laid by hand (the shelf's own laying can't find two types that this closure doesn't name). -/
import Derived.Test.YtildnpnpakhnjaaRows
import Derived.Test.YtildnpnpakhnjaaBlk
import Derived.Shelf.Strings.BuilderF
namespace Go.Proofs.Ytildnpnpakhnjaa
open Go.RowKit
def bldRen : Go.Shelf.Ren := ⟨fun | 166 => 23 | 169 => 24 | 240 => 35 | 276 => 39 | n => n,
  fun | 0 => 0 | 3 => 3 | 4 => 4 | 5 => 5 | 9 => 9 | 20 => 20 | 37 => 44 | 70 => 46 | 72 => 48 | 75 => 26 | 80 => 51 | 127 => 63 | 164 => 66 | n => n, fun | n => n⟩
theorem bldLays166 : Go.Proofs.Lays.n166 Try.prog bldRen := {
  mixed := by kernel_rfl
  f166 := Try.func23.trans (congrArg some (by kernel_rfl))
  f240 := Try.func35.trans (congrArg some (by kernel_rfl))
  f276 := Try.func39.trans (congrArg some (by kernel_rfl))
  t0 := Try.underlying0
  a0 := Try.isAgg0
  z0 := Try.sizeOf0
  v0 := Try.zeroValue0
  t3 := Try.underlying3
  a3 := Try.isAgg3
  z3 := Try.sizeOf3
  v3 := Try.zeroValue3
  t4 := Try.underlying4
  a4 := Try.isAgg4
  z4 := Try.sizeOf4
  v4 := Try.zeroValue4
  t9 := Try.underlying9
  a9 := Try.isAgg9
  z9 := Try.sizeOf9
  v9 := Try.zeroValue9
  t20 := Try.underlying20
  a20 := Try.isAgg20
  z20 := Try.sizeOf20
  v20 := Try.zeroValue20
  t37 := Try.underlying44
  a37 := Try.isAgg44
  z37 := Try.sizeOf44
  v37 := Try.zeroValue44
  t70 := Try.underlying46
  a70 := Try.isAgg46
  z70 := Try.sizeOf46
  v70 := Try.zeroValue46
  t72 := Try.underlying48
  a72 := Try.isAgg48
  z72 := Try.sizeOf48
  v72 := Try.zeroValue48
  t75 := Try.underlying26
  a75 := Try.isAgg26
  z75 := Try.sizeOf26
  v75 := Try.zeroValue26
  t164 := Try.underlying66
  a164 := Try.isAgg66
  z164 := Try.sizeOf66
  v164 := Try.zeroValue66 }
theorem bldLays169 : Go.Proofs.Lays.n169 Try.prog bldRen := {
  mixed := by kernel_rfl
  f169 := Try.func24.trans (congrArg some (by kernel_rfl))
  t0 := Try.underlying0
  a0 := Try.isAgg0
  z0 := Try.sizeOf0
  v0 := Try.zeroValue0
  t3 := Try.underlying3
  a3 := Try.isAgg3
  z3 := Try.sizeOf3
  v3 := Try.zeroValue3
  t9 := Try.underlying9
  a9 := Try.isAgg9
  z9 := Try.sizeOf9
  v9 := Try.zeroValue9
  t37 := Try.underlying44
  a37 := Try.isAgg44
  z37 := Try.sizeOf44
  v37 := Try.zeroValue44
  t70 := Try.underlying46
  a70 := Try.isAgg46
  z70 := Try.sizeOf46
  v70 := Try.zeroValue46
  t72 := Try.underlying48
  a72 := Try.isAgg48
  z72 := Try.sizeOf48
  v72 := Try.zeroValue48
  t127 := Try.underlying63
  a127 := Try.isAgg63
  z127 := Try.sizeOf63
  v127 := Try.zeroValue63 }
theorem bldExtra : Builder.Extra Try.prog bldRen := {
  sizeBuilder := by kernel_rfl
  liesBuilder := by kernel_rfl
  t5 := Try.underlying5
  a5 := Try.isAgg5
  z5 := Try.sizeOf5
  v5 := Try.zeroValue5
  infoByte := by kernel_rfl
  cellsByte := by kernel_rfl
  sizeByte := by kernel_rfl
  neB5 := by decide }
/-- the builder at b, made by the call (B: from where on), holds these bytes -/
def BldAt (W : World) (B b : Nat) (l : List UInt8) : Prop := Lib.IsBuilderF 48 5 B b (Lib.byteCells l) W
theorem BldAt.alloc {W : World} {B b : Nat} {l : List UInt8} (h : BldAt W B b l) (o : Obj) : BldAt (W.alloc o) B b l := h.elim (fun h => .inl (h.alloc o)) (fun h => .inr (h.alloc o))
theorem BldAt.new (w : World) : BldAt (w.alloc (.cells #[.pointer none, .slice none 0 0] 48)) w.heap.size w.heap.size [] :=
  .inl ⟨Nat.le_refl _, .slice none 0 0, Blk.new w _ _, ⟨rfl, .inl ⟨rfl, rfl⟩⟩, by simp [Value.ownBlock]⟩
theorem bld_write {W : World} {B b : Nat} {l : List UInt8} (s : List UInt8) (h : BldAt W B b l) (hl : l.length + s.length ≤ 140737488355328) (hB : B ≤ W.heap.size) :
    Calls Try.prog 23 #[.pointer (some ⟨b, 0, none⟩), .string (S s)] W fun e W' => e = .returned (.tuple #[.int .i64 (s.length : Nat), .nilIface]) ∧ BldAt W' B b (l ++ s) ∧ Below B W W' := by
  have C := Any.Builder_WriteString_f bldLays166 bldExtra B b (Lib.byteCells l) (S s) W h (by rw [Lib.byteCells_length, S_size]; exact hl) hB
  refine C.mono ?_
  rintro e W' ⟨rfl, h1, h2⟩
  refine ⟨by rw [S_size], .inr ?_, h2⟩
  rw [Lib.byteCells_append]
  have e1 : Lib.strCells (S s) = Lib.byteCells s := by simp [Lib.strCells, Lib.byteCells, S]
  rw [e1] at h1
  exact h1
theorem bld_string {W : World} {B b : Nat} {l : List UInt8} (h : BldAt W B b l) (hB : B ≤ W.heap.size) :
    Calls Try.prog 24 #[.pointer (some ⟨b, 0, none⟩)] W fun e W' => e = .returned (.string (S l)) ∧ Below B W W' := by
  refine (Any.Builder_String_any_f bldLays169 bldExtra B b l W h hB).mono ?_
  rintro e W' ⟨rfl, _, h2⟩
  exact ⟨rfl, h2⟩
end Go.Proofs.Ytildnpnpakhnjaa
