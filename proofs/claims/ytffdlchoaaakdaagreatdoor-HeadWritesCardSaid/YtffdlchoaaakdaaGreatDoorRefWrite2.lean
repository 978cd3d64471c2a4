/- ref.HeadWrite: a head that can be written. -/
import Derived.Test.YtffdlchoaaakdaaGreatDoorRefWrite
import Derived.Deep.RegionHeld3
import Derived.IntWalk
import Derived.Great.FillDense
namespace Go.Proofs.YtffdlchoaaakdaaGreatDoor
open Go Go.RowKit
theorem repeatL_zs (c : Nat) : Lib.repeatL [0] c = List.replicate c 0 := by
  induction c with
  | zero => rfl
  | succ c ih => show [0] ++ Lib.repeatL [0] c = _; rw [ih]; rfl
theorem rep40_any (w : World) : Calls Tryz.prog 33 #[.string (S [0]), .int .i64 40] w fun e w' => e = .returned (.string (S (List.replicate 40 0))) ∧ Below w.heap.size w w' := by
  have h := Tryz.strings_Repeat (S [0]) (40 : Nat) w (by omega) (by rw [S_size]; decide)
  have e : (S [0]).data.toList = [0] := rfl
  rw [e, repeatL_zs] at h
  exact h
theorem list14 {l : List Value} (h : l.length = 14) : ∃ y0 y1 y2 y3 y4 y5 y6 y7 y8 y9 y10 y11 y12 y13, l = [y0, y1, y2, y3, y4, y5, y6, y7, y8, y9, y10, y11, y12, y13] :=
  match l, h with
  | [y0, y1, y2, y3, y4, y5, y6, y7, y8, y9, y10, y11, y12, y13], _ => ⟨y0, y1, y2, y3, y4, y5, y6, y7, y8, y9, y10, y11, y12, y13, rfl⟩
theorem wrap_u8_in {n : Int} (h0 : 0 ≤ n) (h1 : n < 256) : IntKind.u8.wrap n = n := by
  simp [IntKind.wrap, IntKind.signed, IntKind.bits]
  omega
theorem opw_conv8 {o : Oper} {a : Act} {w : World} {x : Operand} {n : Int} {K : Act → World → Prop} {Q : Exit → Act → World → Prop} (ho : o.op = .convert 3 5 x) (hx : a.eval x = .int .i64 n) (hK : K (a.put o.dst (.int .u8 (IntKind.u8.wrap n))) w) : Oper.wp Tryz.prog o a w K Q := by
  refine opw_value ?_ hK
  have h : (convert 3 5 (.int .i64 n)).run Tryz.prog w = .ok (.int .u8 (IntKind.u8.wrap n)) w := by
    have u := Tryz.underlying3
    have u' := Tryz.underlying5
    go_simp
  unfold execOp
  rw [ho]
  simp only [Sem.run_bind, hx, h]
  rfl
theorem opw_fieldAddr2 {o : Oper} {a : Act} {w : World} {x : Operand} {b : Nat} {K : Act → World → Prop} {Q : Exit → Act → World → Prop} (ho : o.op = .fieldAddr 24 x 2) (hx : a.eval x = .pointer (some ⟨b, 0, none⟩)) (hK : K (a.put o.dst (.pointer (some ⟨b, 2, none⟩))) w) : Oper.wp Tryz.prog o a w K Q := by
  refine opw_value ?_ hK
  have h : (Instr.fieldAt 24 (.pointer (some ⟨b, 0, none⟩)) 2).run Tryz.prog w = .ok (.pointer (some ⟨b, 2, none⟩)) w := by
    have u := Tryz.underlying24
    go_simp
  unfold execOp
  rw [ho]
  simp only [Sem.run_bind, hx, h]
  rfl
theorem opw_loadI {o : Oper} {a : Act} {w : World} {x : Operand} {b i : Nat} {n : Int} {K : Act → World → Prop} {Q : Exit → Act → World → Prop} (ho : o.op = .load 3 x) (hx : a.eval x = .pointer (some ⟨b, i, none⟩)) (hc : w.cell? ⟨b, i, none⟩ = some (.int .i64 n)) (hK : K (a.put o.dst (.int .i64 n)) w) : Oper.wp Tryz.prog o a w K Q := by
  refine opw_value ?_ hK
  have h : (Instr.loadAt 3 (.pointer (some ⟨b, i, none⟩))).run Tryz.prog w = .ok (.int .i64 n) w := by
    go_simp
  unfold execOp
  rw [ho]
  simp only [Sem.run_bind, hx, h]
  rfl
theorem opw_row5 {o : Oper} {a : Act} {w : World} {x0 x1 x4 : Operand} {b0 b1 b4 : UInt8} {K : Act → World → Prop} {Q : Exit → Act → World → Prop} (ho : o.op = .buildSlice 86 5 #[(0, x0), (1, x1), (2, .const (.int .u8 0)), (3, .const (.int .u8 0)), (4, x4)])
    (h0 : a.eval x0 = .int .u8 (b0.toNat : Int)) (h1 : a.eval x1 = .int .u8 (b1.toNat : Int)) (h4 : a.eval x4 = .int .u8 (b4.toNat : Int)) (hK : K (a.put o.dst (.slice (some ⟨w.heap.size, 0, none⟩) 5 5)) (w.alloc (.cells (cells8 [b0, b1, 0, 0, b4]) 5))) : Oper.wp Tryz.prog o a w K Q := by
  obtain ⟨i, hi, hz, hs, _⟩ := info_parts (show (Tryz.prog.info? 5).map (fun i => (i.zero, i.size, i.bytes)) = some (some (.int .u8 0), 1, 1) by kernel_rfl)
  refine opw_value ?_ hK
  have h := run_buildSlice (P := Tryz.prog) w 86 5 5 #[(0, .int .u8 (b0.toNat : Int)), (1, .int .u8 (b1.toNat : Int)), (2, .int .u8 0), (3, .int .u8 0), (4, .int .u8 (b4.toNat : Int))] (cells8 [b0, b1, 0, 0, b4]) i _ Tryz.underlying86 hi hz (by rw [hs]; omega) (by rw [hs]; omega) (by
    rw [hs]
    exact Great.fill_whole (s := 1) (by decide) [.int .u8 (b0.toNat : Int), .int .u8 (b1.toNat : Int), .int .u8 0, .int .u8 0, .int .u8 (b4.toNat : Int)] _ (fun v hv => by simp at hv; rcases hv with rfl | rfl | rfl | rfl <;> rfl) (by simp))
  unfold execOp
  rw [ho]
  have e : ((#[(0, x0), (1, x1), (2, .const (.int .u8 0)), (3, .const (.int .u8 0)), (4, x4)] : Array (Nat × Operand)).map fun (i, x) => (i, a.eval x)) = #[(0, .int .u8 (b0.toNat : Int)), (1, .int .u8 (b1.toNat : Int)), (2, .int .u8 0), (3, .int .u8 0), (4, .int .u8 (b4.toNat : Int))] := by
    simp only [List.map_toArray, List.map_cons, List.map_nil, h0, h1, h4]
    rfl
  simp only [Sem.run_bind, e, h]
  rfl
theorem opw_str5 {o : Oper} {a : Act} {w : World} {x : Operand} {b : Nat} {l : List UInt8} {K : Act → World → Prop} {Q : Exit → Act → World → Prop} (ho : o.op = .convert 86 9 x) (hx : a.eval x = .slice (some ⟨b, 0, none⟩) l.length l.length) (hB : Blk w b (cells8 l) 5)
    (hK : K (a.put o.dst (.string (S l))) w) : Oper.wp Tryz.prog o a w K Q := by
  refine opw_value ?_ hK
  have h := run_string_at (P := Tryz.prog) 86 9 5 Tryz.underlying86 Tryz.underlying5 Tryz.underlying9 w b 0 l l.length (fun j hj => by rw [Nat.zero_add]; exact (hB.cell j).trans (cells8_get l j hj))
  unfold execOp
  rw [ho]
  simp only [Sem.run_bind, hx, h]
  rfl
theorem opw_addS {o : Oper} {a : Act} {w : World} {x y : Operand} {l m : List UInt8} {K : Act → World → Prop} {Q : Exit → Act → World → Prop} (ho : o.op = .binOp .add 9 x y 9) (hx : a.eval x = .string (S l)) (hy : a.eval y = .string (S m)) (hl : l.length + m.length ≤ 9223372036854775807) (hK : K (a.put o.dst (.string (S (l ++ m)))) w) : Oper.wp Tryz.prog o a w K Q := by
  refine opw_value ?_ hK
  have h : (binOp .add 9 (.string (S l)) (.string (S m))).run Tryz.prog w = .ok (.string (S (l ++ m))) w := by
    go_simp
  unfold execOp
  rw [ho]
  simp [hx, hy, h, eqGuard]
def wrP (first fl words : Int) (hb : Nat) (b0 b1 b4 : UInt8) (bd : List UInt8) : List (Value → World → Prop) :=
  [fun v _ => v = .int .i64 first, fun v _ => v = .int .u8 (b0.toNat : Int), fun v _ => v = .pointer (some ⟨hb, 2, none⟩), fun v _ => v = .int .i64 fl, fun v _ => v = .int .u8 (b1.toNat : Int), fun v _ => v = .int .i64 words,
   fun v _ => v = .int .u8 (b4.toNat : Int), fun v w => ∃ b, v = .slice (some ⟨b, 0, none⟩) 5 5 ∧ Blk w b (cells8 [b0, b1, 0, 0, b4]) 5, fun v _ => v = .string (S [b0, b1, 0, 0, b4]), fun v _ => v = .string (S bd),
   fun v _ => v = .string (S ([b0, b1, 0, 0, b4] ++ bd)), fun v _ => v = .string (S (List.replicate 40 0)), fun v _ => v = .string (S ([b0, b1, 0, 0, b4] ++ bd ++ List.replicate 40 0)), fun v _ => v = .string (S ([b0, b1, 0, 0, b4] ++ bd ++ List.replicate 40 0))]
def wrPv (first fl words : Int) (hb : Nat) (b0 b1 b4 : UInt8) (bd : List UInt8) (i : Nat) (v : Value) (w : World) : Prop := ((wrP first fl words hb b0 b1 b4 bd).getD i fun _ _ => True) v w
theorem wrPv_later (first fl words : Int) (hb : Nat) (b0 b1 b4 : UInt8) (bd : List UInt8) (i : Nat) (v : Value) (W W' : World) (h : wrPv first fl words hb b0 b1 b4 bd i v W) (hbl : Below W.heap.size W W') : wrPv first fl words hb b0 b1 b4 bd i v W' :=
  match i, h with
  | 0, h => h
  | 1, h => h
  | 2, h => h
  | 3, h => h
  | 4, h => h
  | 5, h => h
  | 6, h => h
  | 7, ⟨b, e, hB⟩ => ⟨b, e, hB.later hbl⟩
  | 8, h => h
  | 9, h => h
  | 10, h => h
  | 11, h => h
  | 12, h => h
  | 13, h => h
  | _ + 14, _ => trivial
end Go.Proofs.YtffdlchoaaakdaaGreatDoor
