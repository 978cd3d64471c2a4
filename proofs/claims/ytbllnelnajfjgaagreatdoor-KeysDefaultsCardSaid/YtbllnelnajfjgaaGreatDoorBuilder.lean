/- strings.Builder: WriteString and String, by the shelf's contracts, laid by hand (the shelf's own laying can't find two types that this closure doesn't name). -/
import Derived.Test.YtbllnelnajfjgaaGreatDoorRows
import Derived.Test.YtbllnelnajfjgaaGreatDoorBlk
import Derived.Shelf.Strings.BuilderF
namespace Go.Proofs.YtbllnelnajfjgaaGreatDoor
open Go.RowKit
def bldRen : Go.Shelf.Ren := ⟨fun | 166 => 39 | 169 => 41 | 240 => 63 | 276 => 88 | n => n,
  fun | 0 => 0 | 3 => 3 | 4 => 4 | 5 => 5 | 9 => 9 | 20 => 20 | 37 => 76 | 70 => 77 | 72 => 79 | 75 => 26 | 80 => 83 | 127 => 115 | 164 => 122 | n => n, fun | n => n⟩
theorem bldLays166 : Go.Proofs.Lays.n166 Tryz.prog bldRen := {
  mixed := by kernel_rfl
  f166 := Tryz.func39.trans (congrArg some (by kernel_rfl))
  f240 := Tryz.func63.trans (congrArg some (by kernel_rfl))
  f276 := Tryz.func88.trans (congrArg some (by kernel_rfl))
  t0 := Tryz.underlying0
  a0 := Tryz.isAgg0
  z0 := Tryz.sizeOf0
  v0 := Tryz.zeroValue0
  t3 := Tryz.underlying3
  a3 := Tryz.isAgg3
  z3 := Tryz.sizeOf3
  v3 := Tryz.zeroValue3
  t4 := Tryz.underlying4
  a4 := Tryz.isAgg4
  z4 := Tryz.sizeOf4
  v4 := Tryz.zeroValue4
  t9 := Tryz.underlying9
  a9 := Tryz.isAgg9
  z9 := Tryz.sizeOf9
  v9 := Tryz.zeroValue9
  t20 := Tryz.underlying20
  a20 := Tryz.isAgg20
  z20 := Tryz.sizeOf20
  v20 := Tryz.zeroValue20
  t37 := Tryz.underlying76
  a37 := Tryz.isAgg76
  z37 := Tryz.sizeOf76
  v37 := Tryz.zeroValue76
  t70 := Tryz.underlying77
  a70 := Tryz.isAgg77
  z70 := Tryz.sizeOf77
  v70 := Tryz.zeroValue77
  t72 := Tryz.underlying79
  a72 := Tryz.isAgg79
  z72 := Tryz.sizeOf79
  v72 := Tryz.zeroValue79
  t75 := Tryz.underlying26
  a75 := Tryz.isAgg26
  z75 := Tryz.sizeOf26
  v75 := Tryz.zeroValue26
  t164 := Tryz.underlying122
  a164 := Tryz.isAgg122
  z164 := Tryz.sizeOf122
  v164 := Tryz.zeroValue122 }
theorem bldLays169 : Go.Proofs.Lays.n169 Tryz.prog bldRen := {
  mixed := by kernel_rfl
  f169 := Tryz.func41.trans (congrArg some (by kernel_rfl))
  t0 := Tryz.underlying0
  a0 := Tryz.isAgg0
  z0 := Tryz.sizeOf0
  v0 := Tryz.zeroValue0
  t3 := Tryz.underlying3
  a3 := Tryz.isAgg3
  z3 := Tryz.sizeOf3
  v3 := Tryz.zeroValue3
  t9 := Tryz.underlying9
  a9 := Tryz.isAgg9
  z9 := Tryz.sizeOf9
  v9 := Tryz.zeroValue9
  t37 := Tryz.underlying76
  a37 := Tryz.isAgg76
  z37 := Tryz.sizeOf76
  v37 := Tryz.zeroValue76
  t70 := Tryz.underlying77
  a70 := Tryz.isAgg77
  z70 := Tryz.sizeOf77
  v70 := Tryz.zeroValue77
  t72 := Tryz.underlying79
  a72 := Tryz.isAgg79
  z72 := Tryz.sizeOf79
  v72 := Tryz.zeroValue79
  t127 := Tryz.underlying115
  a127 := Tryz.isAgg115
  z127 := Tryz.sizeOf115
  v127 := Tryz.zeroValue115 }
theorem bldExtra : Builder.Extra Tryz.prog bldRen := {
  sizeBuilder := by kernel_rfl
  liesBuilder := by kernel_rfl
  t5 := Tryz.underlying5
  a5 := Tryz.isAgg5
  z5 := Tryz.sizeOf5
  v5 := Tryz.zeroValue5
  infoByte := by kernel_rfl
  cellsByte := by kernel_rfl
  sizeByte := by kernel_rfl
  neB5 := by decide }
/-- the builder at b, made by the call (B: from where on), holds these bytes -/
def BldAt (W : World) (B b : Nat) (l : List UInt8) : Prop := Lib.IsBuilderF 79 5 B b (Lib.byteCells l) W
theorem BldAt.alloc {W : World} {B b : Nat} {l : List UInt8} (h : BldAt W B b l) (o : Obj) : BldAt (W.alloc o) B b l := h.elim (fun h => .inl (h.alloc o)) (fun h => .inr (h.alloc o))
theorem BldAt.new (w : World) : BldAt (w.alloc (.cells #[.pointer none, .slice none 0 0] 79)) w.heap.size w.heap.size [] :=
  .inl ⟨Nat.le_refl _, .slice none 0 0, Blk.new w _ _, ⟨rfl, .inl ⟨rfl, rfl⟩⟩, by simp [Value.ownBlock]⟩
theorem bld_write {W : World} {B b : Nat} {l : List UInt8} (s : List UInt8) (h : BldAt W B b l) (hl : l.length + s.length ≤ 140737488355328) (hB : B ≤ W.heap.size) :
    Calls Tryz.prog 39 #[.pointer (some ⟨b, 0, none⟩), .string (S s)] W fun e W' => e = .returned (.tuple #[.int .i64 (s.length : Nat), .nilIface]) ∧ BldAt W' B b (l ++ s) ∧ Below B W W' := by
  have C := Any.Builder_WriteString_f bldLays166 bldExtra B b (Lib.byteCells l) (S s) W h (by rw [Lib.byteCells_length, S_size]; exact hl) hB
  refine C.mono ?_
  rintro e W' ⟨rfl, h1, h2⟩
  refine ⟨by rw [S_size], .inr ?_, h2⟩
  rw [Lib.byteCells_append]
  have e1 : Lib.strCells (S s) = Lib.byteCells s := by simp [Lib.strCells, Lib.byteCells, S]
  rw [e1] at h1
  exact h1
theorem bld_string {W : World} {B b : Nat} {l : List UInt8} (h : BldAt W B b l) (hB : B ≤ W.heap.size) :
    Calls Tryz.prog 41 #[.pointer (some ⟨b, 0, none⟩)] W fun e W' => e = .returned (.string (S l)) ∧ Below B W W' := by
  refine (Any.Builder_String_any_f bldLays169 bldExtra B b l W h hB).mono ?_
  rintro e W' ⟨rfl, _, h2⟩
  exact ⟨rfl, h2⟩
end Go.Proofs.YtbllnelnajfjgaaGreatDoor
