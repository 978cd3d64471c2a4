/- LA11: several texts in one. -/
import Derived.Laws.Tables
import Derived.Lib.AtoiErrMem
import Derived.LoopIn
import Derived.LoopNIn
import Derived.OwnWalkIn
import Derived.RangeFuncBound
import Derived.RangeFuncCalls
import Derived.RangeFuncLeaves
import Derived.RangeFuncNested
import Derived.Shelf.Abstract
import Derived.Shelf.RegionOpen
import Derived.Shelf.Strconv.Atoi
import Derived.TacticsInMore
import Derived.Test.YtjbbbpgcegcbaaaGreatDoorProg
import Derived.Test.YtjbbbpgcegcbaaaGreatDoorRows
import Derived.Test.YtjbbbpgcegcbaaaGreatDoorLA06
import Derived.Test.YtjbbbpgcegcbaaaGreatDoorLA07
import Derived.Test.YtjbbbpgcegcbaaaGreatDoorLA08
import Derived.Test.YtjbbbpgcegcbaaaGreatDoorLA10
namespace Go.Proofs
open Go.Shelf
def Tryz.lays172_ren : Go.Shelf.Ren := ⟨fun | 172 => 173 | 244 => 188 | 245 => 189 | 247 => 199 | 279 => 200 | 280 => 201 | 281 => 202 | 282 => 203 | 287 => 191 | 316 => 211 | 171 => 154 | 205 => 212 | 321 => 204 | 322 => 205 | 243 => 177 | 246 => 194 | 283 => 207 | 284 => 208 | 285 => 209 | 286 => 210 | 129 => 214 | 317 => 213 | 318 => 215 | 319 => 216 | 320 => 217 | 337 => 218 | 338 => 219 | n => n, fun | 9 => 9 | 3 => 3 | 75 => 43 | 76 => 149 | 4 => 4 | 5 => 5 | 167 => 293 | 37 => 116 | 0 => 0 | 85 => 294 | 2 => 2 | 168 => 296 | 53 => 77 | 175 => 133 | 46 => 132 | 210 => 306 | 127 => 210 | 145 => 319 | 143 => 317 | 21 => 21 | 171 => 300 | 173 => 303 | 212 => 313 | 51 => 66 | 20 => 20 | 213 => 314 | 232 => 321 | 233 => 322 | 80 => 151 | n => n, fun | 15 => 4 | 16 => 5 | 17 => 8 | 18 => 9 | 19 => 10 | n => n⟩
theorem Tryz.lays172 : Go.Proofs.Lays.n172 Tryz.prog Tryz.lays172_ren := {
 mixed := by kernel_rfl
 f129 := Tryz.func214.trans (congrArg some (by kernel_rfl))
 f171 := Tryz.func154.trans (congrArg some (by kernel_rfl))
 f172 := Tryz.func173.trans (congrArg some (by kernel_rfl))
 f205 := Tryz.func212.trans (congrArg some (by kernel_rfl))
 f243 := Tryz.func177.trans (congrArg some (by kernel_rfl))
 f244 := Tryz.func188.trans (congrArg some (by kernel_rfl))
 f245 := Tryz.func189.trans (congrArg some (by kernel_rfl))
 f246 := Tryz.func194.trans (congrArg some (by kernel_rfl))
 f247 := Tryz.func199.trans (congrArg some (by kernel_rfl))
 f279 := Tryz.func200.trans (congrArg some (by kernel_rfl))
 f280 := Tryz.func201.trans (congrArg some (by kernel_rfl))
 f281 := Tryz.func202.trans (congrArg some (by kernel_rfl))
 f282 := Tryz.func203.trans (congrArg some (by kernel_rfl))
 f283 := Tryz.func207.trans (congrArg some (by kernel_rfl))
 f284 := Tryz.func208.trans (congrArg some (by kernel_rfl))
 f285 := Tryz.func209.trans (congrArg some (by kernel_rfl))
 f286 := Tryz.func210.trans (congrArg some (by kernel_rfl))
 f287 := Tryz.func191.trans (congrArg some (by kernel_rfl))
 f316 := Tryz.func211.trans (congrArg some (by kernel_rfl))
 f317 := Tryz.func213.trans (congrArg some (by kernel_rfl))
 f318 := Tryz.func215.trans (congrArg some (by kernel_rfl))
 f319 := Tryz.func216.trans (congrArg some (by kernel_rfl))
 f320 := Tryz.func217.trans (congrArg some (by kernel_rfl))
 f321 := Tryz.func204.trans (congrArg some (by kernel_rfl))
 f322 := Tryz.func205.trans (congrArg some (by kernel_rfl))
 f337 := Tryz.func218.trans (congrArg some (by kernel_rfl))
 f338 := Tryz.func219.trans (congrArg some (by kernel_rfl))
 t0 := Tryz.underlying0
 a0 := Tryz.isAgg0
 z0 := Tryz.sizeOf0
 v0 := Tryz.zeroValue0
 t2 := Tryz.underlying2
 a2 := Tryz.isAgg2
 z2 := Tryz.sizeOf2
 v2 := Tryz.zeroValue2
 t3 := Tryz.underlying3
 a3 := Tryz.isAgg3
 z3 := Tryz.sizeOf3
 v3 := Tryz.zeroValue3
 t4 := Tryz.underlying4
 a4 := Tryz.isAgg4
 z4 := Tryz.sizeOf4
 v4 := Tryz.zeroValue4
 t5 := Tryz.underlying5
 a5 := Tryz.isAgg5
 z5 := Tryz.sizeOf5
 v5 := Tryz.zeroValue5
 t9 := Tryz.underlying9
 a9 := Tryz.isAgg9
 z9 := Tryz.sizeOf9
 v9 := Tryz.zeroValue9
 t20 := Tryz.underlying20
 a20 := Tryz.isAgg20
 z20 := Tryz.sizeOf20
 v20 := Tryz.zeroValue20
 t21 := Tryz.underlying21
 a21 := Tryz.isAgg21
 z21 := Tryz.sizeOf21
 v21 := Tryz.zeroValue21
 t37 := Tryz.underlying116
 a37 := Tryz.isAgg116
 z37 := Tryz.sizeOf116
 v37 := Tryz.zeroValue116
 t46 := Tryz.underlying132
 a46 := Tryz.isAgg132
 z46 := Tryz.sizeOf132
 v46 := Tryz.zeroValue132
 t51 := Tryz.underlying66
 a51 := Tryz.isAgg66
 z51 := Tryz.sizeOf66
 v51 := Tryz.zeroValue66
 t53 := Tryz.underlying77
 a53 := Tryz.isAgg77
 z53 := Tryz.sizeOf77
 v53 := Tryz.zeroValue77
 t75 := Tryz.underlying43
 a75 := Tryz.isAgg43
 z75 := Tryz.sizeOf43
 v75 := Tryz.zeroValue43
 t76 := Tryz.underlying149
 a76 := Tryz.isAgg149
 z76 := Tryz.sizeOf149
 v76 := Tryz.zeroValue149
 t85 := Tryz.underlying294
 a85 := Tryz.isAgg294
 z85 := Tryz.sizeOf294
 v85 := Tryz.zeroValue294
 t127 := Tryz.underlying210
 a127 := Tryz.isAgg210
 z127 := Tryz.sizeOf210
 v127 := Tryz.zeroValue210
 t143 := Tryz.underlying317
 a143 := Tryz.isAgg317
 z143 := Tryz.sizeOf317
 v143 := Tryz.zeroValue317
 t145 := Tryz.underlying319
 a145 := Tryz.isAgg319
 z145 := Tryz.sizeOf319
 v145 := Tryz.zeroValue319
 t167 := Tryz.underlying293
 a167 := Tryz.isAgg293
 z167 := Tryz.sizeOf293
 v167 := Tryz.zeroValue293
 t168 := Tryz.underlying296
 a168 := Tryz.isAgg296
 z168 := Tryz.sizeOf296
 v168 := Tryz.zeroValue296
 t171 := Tryz.underlying300
 a171 := Tryz.isAgg300
 z171 := Tryz.sizeOf300
 v171 := Tryz.zeroValue300
 t173 := Tryz.underlying303
 a173 := Tryz.isAgg303
 z173 := Tryz.sizeOf303
 v173 := Tryz.zeroValue303
 t175 := Tryz.underlying133
 a175 := Tryz.isAgg133
 z175 := Tryz.sizeOf133
 v175 := Tryz.zeroValue133
 t210 := Tryz.underlying306
 a210 := Tryz.isAgg306
 z210 := Tryz.sizeOf306
 v210 := Tryz.zeroValue306
 t212 := Tryz.underlying313
 a212 := Tryz.isAgg313
 z212 := Tryz.sizeOf313
 v212 := Tryz.zeroValue313
 t213 := Tryz.underlying314
 a213 := Tryz.isAgg314
 z213 := Tryz.sizeOf314
 t232 := Tryz.underlying321
 a232 := Tryz.isAgg321
 z232 := Tryz.sizeOf321
 v232 := Tryz.zeroValue321
 t233 := Tryz.underlying322
 a233 := Tryz.isAgg322
 z233 := Tryz.sizeOf322
 v233 := Tryz.zeroValue322
 g15 := by kernel_rfl
 g16 := by kernel_rfl
 g17 := by kernel_rfl
 g18 := by kernel_rfl
 g19 := by kernel_rfl }
open Go.RowKit in
theorem Tryz.strconv_Atoi (s : ByteArray) (n : Int) (hl : s.size ≤ 18) (h : Lib.atoi s.data.toList = some n) (w : World) :
  Calls Tryz.prog 173 #[.string s] w fun e w' => e = .returned (.tuple #[.int .i64 n, .nilIface]) ∧ ∃ t, w' = Lib.bytesWorld w 5 t := Any.strconv_Atoi Tryz.lays172 s n hl h w
end Go.Proofs
namespace Go.Proofs.YtjbbbpgcegcbaaaGreatDoor
open Go.RowKit Go.Shelf
attribute [local go_sem] Oper.semAt_some
theorem wpListIn_buildTo {F : Fence} {n : Nat} {P : Program} {ops : Array Oper} {rest : List Oper} {o : Oper} {a : Act} {w : World} {Q : Exit → Act → World → Prop} (hg : o.guard = none) (t : TypeId) (parts : Array (Nat × Operand)) (ho : o.op = .build t parts)
  (d : Option Tmp) (hd : o.dst = d) (cells : Array Value) (hf : P.built t (parts.map fun (i, x) => (i, a.eval x)).toList = some cells)
  (h : wpListIn F n P ops Q rest (a.put d (.agg cells)) w) : wpListIn F n P ops Q (o :: rest) a w := by
 subst hd
 refine wpListIn_plain hg fun K hK => ⟨fun f hf' => ?_, ?_⟩
 ·unfold Oper.about at hf'
  rw [ho] at hf'
  cases hf'
 ·rw [Oper.semAt_plain F _ _ (by rw [ho]; intro c hc'; cases hc')]
  unfold execOp
  simp only [ho, Sem.run_bind, run_build w t _ cells hf, Result.andThen_ok]
  exact hK _ _ h
def rowC (k : Kd) : List Value := [.int .i64 (k.op : Int), .string (S k.nm), .int .i64 (k.fl : Int), .string (S k.tx)]
def rowV (k : Kd) : Value := .agg (rowC k).toArray
def rowsC : Array Value := (kinds.flatMap rowC).toArray
def kdAt (k : Nat) : Kd := kinds.getD k kd0
set_option maxRecDepth 100000 in
theorem rows_index0 (w : World) : (Instr.index 275 (.agg rowsC) (.int .i64 ((0 : Nat) : Int))).run Tryz.prog w = .ok (rowV (kdAt 0)) w := by kernel_rfl
set_option maxRecDepth 100000 in
theorem rows_index1 (w : World) : (Instr.index 275 (.agg rowsC) (.int .i64 ((1 : Nat) : Int))).run Tryz.prog w = .ok (rowV (kdAt 1)) w := by kernel_rfl
set_option maxRecDepth 100000 in
theorem rows_index2 (w : World) : (Instr.index 275 (.agg rowsC) (.int .i64 ((2 : Nat) : Int))).run Tryz.prog w = .ok (rowV (kdAt 2)) w := by kernel_rfl
set_option maxRecDepth 100000 in
theorem rows_index3 (w : World) : (Instr.index 275 (.agg rowsC) (.int .i64 ((3 : Nat) : Int))).run Tryz.prog w = .ok (rowV (kdAt 3)) w := by kernel_rfl
set_option maxRecDepth 100000 in
theorem rows_index4 (w : World) : (Instr.index 275 (.agg rowsC) (.int .i64 ((4 : Nat) : Int))).run Tryz.prog w = .ok (rowV (kdAt 4)) w := by kernel_rfl
set_option maxRecDepth 100000 in
theorem rows_index5 (w : World) : (Instr.index 275 (.agg rowsC) (.int .i64 ((5 : Nat) : Int))).run Tryz.prog w = .ok (rowV (kdAt 5)) w := by kernel_rfl
set_option maxRecDepth 100000 in
theorem rows_index6 (w : World) : (Instr.index 275 (.agg rowsC) (.int .i64 ((6 : Nat) : Int))).run Tryz.prog w = .ok (rowV (kdAt 6)) w := by kernel_rfl
set_option maxRecDepth 100000 in
theorem rows_index7 (w : World) : (Instr.index 275 (.agg rowsC) (.int .i64 ((7 : Nat) : Int))).run Tryz.prog w = .ok (rowV (kdAt 7)) w := by kernel_rfl
set_option maxRecDepth 100000 in
theorem rows_index8 (w : World) : (Instr.index 275 (.agg rowsC) (.int .i64 ((8 : Nat) : Int))).run Tryz.prog w = .ok (rowV (kdAt 8)) w := by kernel_rfl
set_option maxRecDepth 100000 in
theorem rows_index9 (w : World) : (Instr.index 275 (.agg rowsC) (.int .i64 ((9 : Nat) : Int))).run Tryz.prog w = .ok (rowV (kdAt 9)) w := by kernel_rfl
set_option maxRecDepth 100000 in
theorem rows_index10 (w : World) : (Instr.index 275 (.agg rowsC) (.int .i64 ((10 : Nat) : Int))).run Tryz.prog w = .ok (rowV (kdAt 10)) w := by kernel_rfl
set_option maxRecDepth 100000 in
theorem rows_index11 (w : World) : (Instr.index 275 (.agg rowsC) (.int .i64 ((11 : Nat) : Int))).run Tryz.prog w = .ok (rowV (kdAt 11)) w := by kernel_rfl
set_option maxRecDepth 100000 in
theorem rows_index12 (w : World) : (Instr.index 275 (.agg rowsC) (.int .i64 ((12 : Nat) : Int))).run Tryz.prog w = .ok (rowV (kdAt 12)) w := by kernel_rfl
set_option maxRecDepth 100000 in
theorem rows_index13 (w : World) : (Instr.index 275 (.agg rowsC) (.int .i64 ((13 : Nat) : Int))).run Tryz.prog w = .ok (rowV (kdAt 13)) w := by kernel_rfl
set_option maxRecDepth 100000 in
theorem rows_index14 (w : World) : (Instr.index 275 (.agg rowsC) (.int .i64 ((14 : Nat) : Int))).run Tryz.prog w = .ok (rowV (kdAt 14)) w := by kernel_rfl
set_option maxRecDepth 100000 in
theorem rows_index15 (w : World) : (Instr.index 275 (.agg rowsC) (.int .i64 ((15 : Nat) : Int))).run Tryz.prog w = .ok (rowV (kdAt 15)) w := by kernel_rfl
set_option maxRecDepth 100000 in
theorem rows_index16 (w : World) : (Instr.index 275 (.agg rowsC) (.int .i64 ((16 : Nat) : Int))).run Tryz.prog w = .ok (rowV (kdAt 16)) w := by kernel_rfl
set_option maxRecDepth 100000 in
theorem rows_index17 (w : World) : (Instr.index 275 (.agg rowsC) (.int .i64 ((17 : Nat) : Int))).run Tryz.prog w = .ok (rowV (kdAt 17)) w := by kernel_rfl
theorem rows_index (k : Nat) (hk : k < 18) (w : World) : (Instr.index 275 (.agg rowsC) (.int .i64 (k : Int))).run Tryz.prog w = .ok (rowV (kdAt k)) w := by
 have h : k = 0 ∨ k = 1 ∨ k = 2 ∨ k = 3 ∨ k = 4 ∨ k = 5 ∨ k = 6 ∨ k = 7 ∨ k = 8 ∨ k = 9 ∨ k = 10 ∨ k = 11 ∨ k = 12 ∨ k = 13 ∨ k = 14 ∨ k = 15 ∨ k = 16 ∨ k = 17 := by omega
 rcases h with rfl | rfl | rfl | rfl | rfl | rfl | rfl | rfl | rfl | rfl | rfl | rfl | rfl | rfl | rfl | rfl | rfl | rfl
 ·exact rows_index0 w
 ·exact rows_index1 w
 ·exact rows_index2 w
 ·exact rows_index3 w
 ·exact rows_index4 w
 ·exact rows_index5 w
 ·exact rows_index6 w
 ·exact rows_index7 w
 ·exact rows_index8 w
 ·exact rows_index9 w
 ·exact rows_index10 w
 ·exact rows_index11 w
 ·exact rows_index12 w
 ·exact rows_index13 w
 ·exact rows_index14 w
 ·exact rows_index15 w
 ·exact rows_index16 w
 ·exact rows_index17 w
theorem kinds_take (k : Nat) (h : k < 18) : kinds.take k ++ [kdAt k] = kinds.take (k + 1) := by
 rw [List.take_succ_eq_append_getElem (show k < kinds.length from h)]
 congr 2
 unfold kdAt
 rw [List.getD_eq_getElem?_getD, List.getElem?_eq_getElem (show k < kinds.length from h)]
 rfl
theorem kinds_take_len (k : Nat) (h : k ≤ 18) : (kinds.take k).length = k := by rw [List.length_take]; exact Nat.min_eq_left h
set_option maxRecDepth 100000 in
theorem rows1_in (F : Fence) (n : Nat) (hf : F.fn 143) (hro : F.round = none) (hn : 1 ≤ n) (l n₀ : Nat) (J Jx : List Kd → World → Prop)
  (hY : ∀ pre x W, J pre W → pre.length < 18 → YieldAt F (n - 1) Tryz.prog l #[rowV x] W fun e W' =>
   (e = .returned (.bool true) ∧ J (pre ++ [x]) W' ∧ Below n₀ W W') ∨ (e = .returned (.bool false) ∧ Jx (pre ++ [x]) W'))
  (W : World) (hJ : AbidesFrom W.heap.size J) (h0 : J [] W) :
  CallsIn F n Tryz.prog 143 #[.func (.yield l) #[] #[]] W fun e W' => (∃ v, e = .returned v) ∧
   ((∃ ys, ys = kinds ∧ J ys W') ∨ (∃ pre, pre <+: kinds ∧ Jx pre W')) := by
 refine callsIn_of_wp Tryz.func143 rfl hf ?_ hro
 simp only [Tryz.ntmps143, List.size_toArray, List.length_cons, List.length_nil, Nat.reduceAdd, Nat.reduceSub, Array.replicate_succ, Array.replicate_zero, List.push_toArray, List.append_toArray, List.nil_append, List.cons_append]
 repeat (first | apply wpIn_block | (apply wpIn_seq_k; intro _ _) | apply wpIn_region_lit)
 refine wpListIn_buildTo rfl 192 _ rfl (some 4) rfl (rowC kd0).toArray (by as_aux_lemma => kernel_rfl) ?_
 refine wpListIn_buildTo rfl 192 _ rfl (some 5) rfl (rowC kd1).toArray (by as_aux_lemma => kernel_rfl) ?_
 refine wpListIn_buildTo rfl 192 _ rfl (some 6) rfl (rowC kd2).toArray (by as_aux_lemma => kernel_rfl) ?_
 refine wpListIn_buildTo rfl 192 _ rfl (some 7) rfl (rowC kd3).toArray (by as_aux_lemma => kernel_rfl) ?_
 refine wpListIn_buildTo rfl 192 _ rfl (some 8) rfl (rowC kd4).toArray (by as_aux_lemma => kernel_rfl) ?_
 refine wpListIn_buildTo rfl 192 _ rfl (some 9) rfl (rowC kd5).toArray (by as_aux_lemma => kernel_rfl) ?_
 refine wpListIn_buildTo rfl 192 _ rfl (some 10) rfl (rowC kd6).toArray (by as_aux_lemma => kernel_rfl) ?_
 refine wpListIn_buildTo rfl 192 _ rfl (some 11) rfl (rowC kd7).toArray (by as_aux_lemma => kernel_rfl) ?_
 refine wpListIn_buildTo rfl 192 _ rfl (some 12) rfl (rowC kd8).toArray (by as_aux_lemma => kernel_rfl) ?_
 refine wpListIn_buildTo rfl 192 _ rfl (some 13) rfl (rowC kd9).toArray (by as_aux_lemma => kernel_rfl) ?_
 refine wpListIn_buildTo rfl 192 _ rfl (some 14) rfl (rowC kd10).toArray (by as_aux_lemma => kernel_rfl) ?_
 refine wpListIn_buildTo rfl 192 _ rfl (some 15) rfl (rowC kd11).toArray (by as_aux_lemma => kernel_rfl) ?_
 refine wpListIn_buildTo rfl 192 _ rfl (some 16) rfl (rowC kd12).toArray (by as_aux_lemma => kernel_rfl) ?_
 refine wpListIn_buildTo rfl 192 _ rfl (some 17) rfl (rowC kd13).toArray (by as_aux_lemma => kernel_rfl) ?_
 refine wpListIn_buildTo rfl 192 _ rfl (some 18) rfl (rowC kd14).toArray (by as_aux_lemma => kernel_rfl) ?_
 refine wpListIn_buildTo rfl 192 _ rfl (some 19) rfl (rowC kd15).toArray (by as_aux_lemma => kernel_rfl) ?_
 refine wpListIn_buildTo rfl 192 _ rfl (some 20) rfl (rowC kd16).toArray (by as_aux_lemma => kernel_rfl) ?_
 refine wpListIn_buildTo rfl 192 _ rfl (some 21) rfl (rowC kd17).toArray (by as_aux_lemma => kernel_rfl) ?_
 refine wpListIn_buildTo rfl 275 _ rfl (some 22) rfl rowsC (by as_aux_lemma => kernel_rfl) ?_
 gi_wp2
 have hidx := rows_index
 obtain ⟨RC, hRC⟩ : ∃ RC, Value.agg rowsC = RC := ⟨_, rfl⟩
 rw [hRC] at hidx ⊢
 clear hRC
 gi_loopw [23] (fun p wr => ∃ k : Nat, k ≤ 18 ∧ p = .int .i64 k ∧ W.heap.size ≤ wr.heap.size ∧ J (kinds.take k) wr) (fun p _ => 18 - (intOf p).toNat)
 case atStart => exact ⟨0, by omega, rfl, Nat.le_refl _, h0⟩
 case round =>
  obtain ⟨k, hk, rfl, hsz, hJs⟩ := hrel
  by_cases hlt : k < 18
  ·obtain ⟨x, hx⟩ : ∃ x, kdAt k = x := ⟨_, rfl⟩
   have hi := hidx k hlt
   rw [hx] at hi
   unfold rowV rowC at hi
   have hJ2 : J (kinds.take k) (wr.alloc (.cells #[.int .i64 (x.op : Int), .string (S x.nm), .int .i64 (x.fl : Int), .string (S x.tx)] 192)) := hJ _ _ _ none hJs (World.grownBy_alloc _ _ none) (fun r e => by cases e)
   obtain ⟨fn, tmps, assign, body, hy, hR⟩ := hY (kinds.take k) x _ hJ2 (by rw [kinds_take_len k hk]; exact hlt)
   unfold rowV rowC at hy
   clear hidx hY
   have htk := Lib.hid (show kinds.take k ++ [x] = kinds.take (k + 1) by rw [← hx]; exact kinds_take k hlt)
   gi_wp2
   refine hR.mono ?_
   clear hR hy
   rintro e W3 (⟨rfl, hJ3, hk3⟩ | ⟨rfl, hJx3⟩)
   ·gi_wp2
    go_roundw
    case rel => exact ⟨k + 1, by omega, by go_num, by have := hk3.size; simp at this; omega, by have h3 := hJ3; rw [htk.out] at h3; exact h3⟩
    case measure => simp [intOf]; omega
   ·gi_wp2
    refine bodyPost_ret (results_none rfl _ _ _) rfl ?_
    exact ⟨⟨_, rfl⟩, .inr ⟨kinds.take (k + 1), List.take_prefix _ _, by rw [htk.out] at hJx3; exact hJx3⟩⟩
  ·have hk18 : k = 18 := by omega
   gi_wp2
   go_end0
   exact ⟨⟨_, rfl⟩, .inl ⟨kinds, rfl, by rw [hk18] at hJs; exact hJs⟩⟩
theorem rows_stops (F : Fence) (n : Nat) (hf : F.fn 143) (hro : F.round = none) (hn : 1 ≤ n) (n₀ : Nat) (w : World) :
  SeqStopsK F n Tryz.prog 143 #[] (fun x : Kd => #[rowV x]) (Below n₀) (fun ys => ys = kinds) (fun pre => pre <+: kinds) 18 w := fun l J Jx W _ hJ _ hY h0 =>
 rows1_in F n hf hro hn l n₀ J Jx hY W hJ h0
attribute [local go_sem] Oper.semAt_some
def zeroC : Array Value := #[.int .i64 0, .string (S []), .int .i64 0, .string (S [])]
def findV (op : Int) : Value := match kindOf op with
 | some k => .tuple #[.agg (rowC k).toArray, .nilIface]
 | none => .tuple #[.agg zeroC, .iface 56 (.int .i64 1)]
theorem row_stored {w W : World} {N b : Nat} {o0 o1 o2 o3 oe : Value} {t te : TypeId} (x0 x1 x2 x3 e : Value) (hR : Blk W b #[o0, o1, o2, o3] t) (hE : Blk W (b + 1) #[oe] te) (hb : N ≤ b) (hB : Below N w W) :
  Blk (((((W.setCell ⟨b, 0, none⟩ x0).setCell ⟨b, 1, none⟩ x1).setCell ⟨b, 2, none⟩ x2).setCell ⟨b, 3, none⟩ x3).setCell ⟨b + 1, 0, none⟩ e) b #[x0, x1, x2, x3] t ∧
  Blk (((((W.setCell ⟨b, 0, none⟩ x0).setCell ⟨b, 1, none⟩ x1).setCell ⟨b, 2, none⟩ x2).setCell ⟨b, 3, none⟩ x3).setCell ⟨b + 1, 0, none⟩ e) (b + 1) #[e] te ∧
  Below N w (((((W.setCell ⟨b, 0, none⟩ x0).setCell ⟨b, 1, none⟩ x1).setCell ⟨b, 2, none⟩ x2).setCell ⟨b, 3, none⟩ x3).setCell ⟨b + 1, 0, none⟩ e) ∧
  KeepsOthers W (((((W.setCell ⟨b, 0, none⟩ x0).setCell ⟨b, 1, none⟩ x1).setCell ⟨b, 2, none⟩ x2).setCell ⟨b, 3, none⟩ x3).setCell ⟨b + 1, 0, none⟩ e) := by
 refine ⟨?_, ?_, ?_, ?_⟩
 ·exact ((((hR.set 0 x0).set 1 x1).set 2 x2).set 3 x3).other (by omega) e
 ·exact ((((hE.other (by omega) x0).other (by omega) x1).other (by omega) x2).other (by omega) x3).set 0 e
 ·exact ((((hB.setCell (p := ⟨b, 0, none⟩) hb _).setCell (p := ⟨b, 1, none⟩) hb _).setCell (p := ⟨b, 2, none⟩) hb _).setCell (p := ⟨b, 3, none⟩) hb _).setCell (p := ⟨b + 1, 0, none⟩) (by show N ≤ b + 1; omega) _
 ·exact ((((KeepsOthers.setCell _ _ _).trans (KeepsOthers.setCell _ _ _)).trans (KeepsOthers.setCell _ _ _)).trans (KeepsOthers.setCell _ _ _)).trans (KeepsOthers.setCell _ _ _)
theorem kindOf_prefix {op : Int} {q : List Kd} {k : Kd} (hp : q ++ [k] <+: kinds) (hq : ∀ k ∈ q, (k.op : Int) ≠ op) (hk : (k.op : Int) = op) : kindOf op = some k := by
 obtain ⟨r, hr⟩ := hp
 unfold kindOf
 rw [← hr, List.append_assoc, List.find?_append, List.find?_eq_none.2 (fun x hx => by simpa using hq x hx)]
 simp [hk]
theorem kindOf_none {op : Int} (hq : ∀ k ∈ kinds, (k.op : Int) ≠ op) : kindOf op = none := by
 unfold kindOf
 exact List.find?_eq_none.2 (fun x hx => by simpa using hq x hx)
set_option maxRecDepth 100000 in
set_option maxHeartbeats 1000000 in
theorem find_in (F : Fence) (n : Nat) (hf : F.fn 108) (hr : F.fn 143) (hro : F.round = none) (hn : 6 ≤ n) (op : Int) (w : World) :
  CallsIn F n Tryz.prog 108 #[.int .i64 op] w fun e W' => e = .returned (findV op) ∧ Below w.heap.size w W' := by
 have h1 : 1 ≤ n := by omega
 refine callsIn_of_wp_marks Tryz.func108 rfl hf ?_ hro
 simp only [Tryz.ntmps108, List.size_toArray, List.length_cons, List.length_nil, Nat.reduceAdd, Nat.reduceSub, Array.replicate_succ, Array.replicate_zero, List.push_toArray, List.append_toArray, List.nil_append, List.cons_append]
 gi_wp2
 have bO := ((Blk.new w #[.int .i64 op] 3).alloc (.cells #[.int .i64 0, .string (S []), .int .i64 0, .string (S [])] 192)).alloc (.cells #[.nilIface] 43)
 have bR := (Blk.new (w.alloc (.cells #[.int .i64 op] 3)) #[.int .i64 0, .string (S []), .int .i64 0, .string (S [])] 192).alloc (.cells #[.nilIface] 43)
 have bE := Blk.new ((w.alloc (.cells #[.int .i64 op] 3)).alloc (.cells #[.int .i64 0, .string (S []), .int .i64 0, .string (S [])] 192)) #[.nilIface] 43
 simp only [World.size_alloc] at bR bE
 have hB0 : Below w.heap.size w (((w.alloc (.cells #[.int .i64 op] 3)).alloc (.cells #[.int .i64 0, .string (S []), .int .i64 0, .string (S [])] 192)).alloc (.cells #[.nilIface] 43)) := (((Below.refl _ w).alloc (Nat.le_refl _) _).alloc (by simp) _).alloc (by simp; omega) _
 have hsz : (((w.alloc (.cells #[.int .i64 op] 3)).alloc (.cells #[.int .i64 0, .string (S []), .int .i64 0, .string (S [])] 192)).alloc (.cells #[.nilIface] 43)).heap.size = w.heap.size + 3 := by simp
 obtain ⟨W0, hW0⟩ : ∃ W0, ((w.alloc (.cells #[.int .i64 op] 3)).alloc (.cells #[.int .i64 0, .string (S []), .int .i64 0, .string (S [])] 192)).alloc (.cells #[.nilIface] 43) = W0 := ⟨_, rfl⟩
 rw [hW0] at bO bR bE hB0 hsz ⊢
 clear hW0
 refine wpIn_rangeFunc_ownH hro h1 (gf := 143) (lb := #[]) rfl hr (enters_of Tryz.func143 (by kernel_rfl) rfl)
  (rows_stops F (n - 1) hr hro (by omega) w.heap.size W0) belowK_t (belowK_b (by omega)) (Below.refl _ _) (fun _ => rfl)
  (fun pre W => ((Blk W w.heap.size #[.int .i64 op] 3 ∧ Blk W (w.heap.size + 1) #[.int .i64 0, .string (S []), .int .i64 0, .string (S [])] 192 ∧ Blk W (w.heap.size + 1 + 1) #[.nilIface] 43) ∧ (∀ k ∈ pre, (k.op : Int) ≠ op)) ∧ Below w.heap.size w W)
  (fun c pre W => (c = .ret ∧ ∃ q k, pre = q ++ [k] ∧ (∀ k ∈ q, (k.op : Int) ≠ op) ∧ (k.op : Int) = op ∧ Blk W (w.heap.size + 1) (rowC k).toArray 192 ∧ Blk W (w.heap.size + 1 + 1) #[.nilIface] 43) ∧ Below w.heap.size w W)
  (OwnFrom.and (OwnFrom.and (OwnFrom.and (Own.from (Blk.own _ _ _) _) (OwnFrom.and (Own.from (Blk.own _ _ _) _) (Own.from (Blk.own _ _ _) _))) (Own.from (own_const _) _)) (ownFrom_below (Nat.le_refl _) (by omega)))
  (fun c => OwnFrom.and (Own.from (fun s X Y row hs hg hr => by
   obtain ⟨hc, q, k, h1, h2, h3, h4, h5⟩ := hs
   exact ⟨hc, q, k, h1, h2, h3, Blk.own _ (fun _ : Unit => _) _ () X Y row h4 hg hr, Blk.own _ (fun _ : Unit => _) _ () X Y row h5 hg hr⟩) _) (ownFrom_below (Nat.le_refl _) (by omega)))
  ⟨⟨⟨bO, bR, bE⟩, fun k hk => by cases hk⟩, hB0⟩
  (fun x a' W => ∃ Bx, w.heap.size + 2 < Bx ∧ Blk W Bx (rowC x).toArray 192 ∧ a' = { tmps := #[.int .i64 op, .pointer (some ⟨w.heap.size, 0, none⟩), .pointer (some ⟨w.heap.size + 1, 0, none⟩), .pointer (some ⟨w.heap.size + 1 + 1, 0, none⟩), .pointer (some ⟨Bx, 0, none⟩), rowV x, undef, undef, undef, undef, undef, undef, undef], defers := [] })
  (fun x a' _ X Y row hs hg hr => by obtain ⟨Bx, h1, h2, h3⟩ := hs; exact ⟨Bx, h1, Blk.own Bx (fun _ : Unit => _) _ () X Y row h2 hg (fun r e => (hr r e).2), h3⟩)
  ?assign ?body ?done ?stop
 case assign =>
  rintro l pre x W K ⟨⟨⟨bO1, bR1, bE1⟩, hpre⟩, hB1⟩ hK
  unfold rowV rowC at *
  gi_wp2
  exact hK _ _ ((KeepsOthers.alloc _ _).from _) ((Below.refl _ W).alloc hB1.size _) ⟨⟨⟨bO1.alloc _, bR1.alloc _, bE1.alloc _⟩, hpre⟩, hB1.alloc hB1.size _⟩ ⟨W.heap.size, bE1.lt, Blk.new W _ _, rfl⟩
 case body =>
  rintro l pre x a' W hl ⟨r, hr⟩ ⟨⟨⟨bO1, bR1, bE1⟩, hpre⟩, hB1⟩ ⟨Bx, hBx, bX, rfl⟩ hlt
  obtain ⟨c0, c1, c2, c3⟩ := bR1.four
  have f0 := bR1.frozen 0
  have f1 := bR1.frozen 1
  have f2 := bR1.frozen 2
  have f3 := bR1.frozen 3
  have ce := bE1.one
  have fe := bE1.frozen 0
  have co := bO1.one
  unfold rowC at bX
  obtain ⟨x0, x1, x2, x3⟩ := bX.four
  by_cases hx : (x.op : Int) = op
  ·have hx' : ((x.op : Int) == op) = true := by simpa using hx
   have Hx := Lib.hid hx
   clear hx
   gi_wp2
   obtain ⟨g1, g2, g3, g4⟩ := row_stored (.int .i64 (x.op : Int)) (.string (S x.nm)) (.int .i64 (x.fl : Int)) (.string (S x.tx)) .nilIface bR1 bE1 (Nat.le_succ _) hB1
   exact ⟨g4.from _, ⟨rfl, pre, x, rfl, hpre, Hx.out, g1, g2⟩, g3⟩
  ·have hx' : ((x.op : Int) == op) = false := by simpa using hx
   gi_wp2
   exact ⟨KeepsFrom.refl _ _, Below.refl _ _, ⟨⟨bO1, bR1, bE1⟩, fun k hk => by
    rcases List.mem_append.1 hk with h | h
    ·exact hpre k h
    ·rw [List.mem_singleton.1 h]; exact hx⟩, hB1⟩
 case done =>
  rintro D xs W hD rfl ⟨⟨⟨bO1, bR1, bE1⟩, hpre⟩, hB1⟩ hK
  obtain ⟨c0, c1, c2, c3⟩ := bR1.four
  have f0 := bR1.frozen 0
  have f1 := bR1.frozen 1
  have f2 := bR1.frozen 2
  have f3 := bR1.frozen 3
  have ce := bE1.one
  have fe := bE1.frozen 0
  gi_wp2
  obtain ⟨g1, g2, g3, g4⟩ := row_stored (.int .i64 0) (.string (S [])) (.int .i64 0) (.string (S [])) (.iface 56 (.int .i64 1)) bR1 bE1 (Nat.le_succ _) hB1
  have hK' := g4.same D _ hK rfl
  refine ⟨by simp, .inl ⟨_, _, rfl, run_takeDeferred hK', ?_⟩⟩
  have e1 : w.heap.size + 1 ≠ D := by omega
  have e2 : w.heap.size + 1 + 1 ≠ D := by omega
  have hB2 := g3.trans (belowK_b (w := w) (Nat.le_refl _) _ D _ (.deferred none) (by omega) hK' rfl rfl)
  have g1' := g1.put (.deferred none) e1
  have g2' := g2.put (.deferred none) e2
  obtain ⟨q0, q1, q2, q3⟩ := g1'.four
  have qe := g2'.one
  refine ⟨findV op, ?_, rfl, hB2⟩
  unfold findV
  rw [kindOf_none hpre]
  clear g1 g2 g3 g4 hK' g1' g2' hB2 c0 c1 c2 c3 f0 f1 f2 f3 ce fe
  simp [results, Tryz.results108, go_sem, q0, q1, q2, q3, qe, zeroC]
 case stop =>
  rintro D c pre W hD hp ⟨⟨rfl, q, k, rfl, hq, hk, bR1, bE1⟩, hB1⟩ hK
  gi_wp2
  refine ⟨by simp, .inl ⟨_, _, rfl, run_takeDeferred hK, ?_⟩⟩
  have e1 : w.heap.size + 1 ≠ D := by omega
  have e2 : w.heap.size + 1 + 1 ≠ D := by omega
  have hB2 := hB1.trans (belowK_b (w := w) (Nat.le_refl _) _ D _ (.deferred none) (by omega) hK rfl rfl)
  unfold rowC at bR1
  have g1' := bR1.put (.deferred none) e1
  have g2' := bE1.put (.deferred none) e2
  obtain ⟨q0, q1, q2, q3⟩ := g1'.four
  have qe := g2'.one
  refine ⟨findV op, ?_, rfl, hB2⟩
  unfold findV
  rw [kindOf_prefix hp hq hk]
  clear g1' g2' hB2 hq hp hk
  simp [results, Tryz.results108, go_sem, q0, q1, q2, q3, qe, rowC]
theorem find_any (op : Int) (w : World) : Calls Tryz.prog 108 #[.int .i64 op] w fun e W' => e = .returned (findV op) ∧ Below w.heap.size w W' :=
 (callsIn_wide (n := 6)).1 (find_in _ 6 trivial trivial rfl (Nat.le_refl _) op w)
end Go.Proofs.YtjbbbpgcegcbaaaGreatDoor
namespace Go.Proofs.YtjbbbpgcegcbaaaGreatDoor
open Go.RowKit
theorem hnumber_any (l : List UInt8) (n : Int) (w : World) (hl : l.length ≤ 18) (h : Lib.atoi l = some n) :
  Calls Tryz.prog 147 #[.string (S l)] w fun e w' => e = .returned (.int .i64 n) ∧ Below w.heap.size w w' := by
 have C := Lib.hid (Tryz.strconv_Atoi (S l) n (by rw [S_size]; exact hl) (by simpa [S] using h) w)
 clear h
 go_enter Tryz.func147, Tryz.ntmps147
 go_wp2_with fail
 refine C.out.mono ?_
 rintro e w' ⟨rfl, t, rfl⟩
 have hb := Lib.bytesWorld_below w 5 t
 have Hb := Lib.hid hb
 clear hb
 go_wp2_with fail
 go_ret
 exact ⟨rfl, Hb.out⟩
theorem cut_any (l : List UInt8) (a b : List UInt8) (w : World) (hl : l.length < 1000) (h : Lib.cut l [32] = (a, b, true)) (hm : MaxCell w) :
  Calls Tryz.prog 93 #[.string (S l), .string (S [32])] w fun e w' => e = .returned (.tuple #[.string (S a), .string (S b), .bool true]) ∧ ∃ n, w' = w.drewN n := by
 obtain ⟨m, hm⟩ := hm
 have C := Tryz.strings_Cut (S l) (S [32]) m w (by rw [S_size]; omega) hm
 have e1 : (S l).data.toList = l := by simp [S]
 have e2 : (S [32]).data.toList = [32] := by simp [S]
 rw [e1, e2, h] at C
 exact C
def Flds (W : World) (b : Nat) (fs : List Fd) : Prop := Blk W b (cellsF fs) 216
theorem Flds.get {W : World} {b : Nat} {fs : List Fd} (h : Flds W b fs) (j : Nat) (hj : j < fs.length) :
  W.cell? ⟨b, j * 3, none⟩ = some (.string (S fs[j].nm)) ∧ W.cell? ⟨b, j * 3 + 1, none⟩ = some (.int .i64 (fs[j].pos : Int)) ∧ W.cell? ⟨b, j * 3 + 2, none⟩ = some (.int .i64 (fs[j].sz : Int)) :=
 ⟨(Blk.cell h _).trans (cellsF_get fs j hj 0 (by decide)), (Blk.cell h _).trans (cellsF_get fs j hj 1 (by decide)), (Blk.cell h _).trans (cellsF_get fs j hj 2 (by decide))⟩
def RetFields (w : World) (fs : List Fd) (e : Ending) (w' : World) : Prop :=
 ∃ b, e = .returned (.slice (some ⟨b, 0, none⟩) fs.length fs.length) ∧ w.heap.size ≤ b ∧ Flds w' b fs ∧ Below w.heap.size w w'
theorem run_make_F (w : World) (n : Nat) (hn : n ≤ 100) : (Instr.makeSlice 196 (.int .i64 (n : Int)) (.int .i64 (n : Int))).run Tryz.prog w = .ok (.slice (some ⟨w.heap.size, 0, none⟩) n n) (w.alloc (.cells (cellsF (List.replicate n fd0)) 216)) := by
 obtain ⟨i, hi, hz, hs, hb⟩ := info_parts (show (Tryz.prog.info? 216).map (fun i => (i.zero, i.size, i.bytes)) = some (some (.agg #[.string (S []), .int .i64 0, .int .i64 0]), 3, 32) by kernel_rfl)
 have h := run_make (P := Tryz.prog) w 196 216 i _ Tryz.underlying196 hi hz .i64 .i64 n n (by omega) (Int.le_refl _) (by rw [hb]; omega) (by omega)
 simp only [Int.toNat_natCast, hs] at h
 rw [show (Value.agg #[Value.string (S []), Value.int IntKind.i64 0, Value.int IntKind.i64 0]).cells = #[Value.string (S []), Value.int IntKind.i64 0, Value.int IntKind.i64 0] from rfl, madeCells_F] at h
 exact h
def Strs (W : World) (b : Nat) (l : List (List UInt8)) : Prop := ∀ j (hj : j < l.length), W.cell? ⟨b, j, none⟩ = some (.string (S l[j]))
theorem Strs.later {w w' : World} {b : Nat} {l : List (List UInt8)} (h : Strs w b l) (hb : Below w.heap.size w w') : Strs w' b l := fun j hj => by
 rw [(bcell hb).1 b j (block_lt_of_cell (w := w) (a := ⟨b, j, none⟩) (h j hj))]; exact h j hj
theorem split_any (k : Kd) (hk : k ∈ kinds) (w : World) (hm : MaxCell w) :
  Calls Tryz.prog 146 #[.string (S k.tx), .string (S [44, 32])] w fun e w' => ∃ b, e = .returned (.slice (some ⟨b, 0, none⟩) k.fs.length k.fs.length) ∧ w.heap.size ≤ b ∧ Strs w' b (k.fs.map fieldT) ∧ Below w.heap.size w w' := by
 have hs := spelt_of hk
 obtain ⟨m, hm2⟩ := hm
 have C := Tryz.strings_Split (S k.tx) (S [44, 32]) m _ (by rw [S_size]; have := hs.len; omega) hm2 (by rw [S_size]; decide)
 rw [countB_of hs, splitB_of hs] at C
 refine C.mono ?_
 rintro e w' ⟨rfl, rfl⟩
 refine ⟨_, rfl, Nat.le_refl _, fun j hj => ?_, (Below.refl _ _).alloc (Nat.le_refl _) _⟩
 rw [World.cell?_alloc_mark]
 simp only [List.map_map, List.getElem?_toArray, List.getElem?_map]
 rw [List.getElem?_eq_getElem (by simpa using hj)]
 simp
theorem row_keep {w W : World} {N b : Nat} {C : Array Value} {t : TypeId} (i : Nat) (x0 x1 x2 : Value) (hR : Blk W b C t) (hb : N ≤ b) (hB : Below N w W) :
  Blk (((W.setCell ⟨b, i, none⟩ x0).setCell ⟨b, i + 1, none⟩ x1).setCell ⟨b, i + 2, none⟩ x2) b (((C.setIfInBounds i x0).setIfInBounds (i + 1) x1).setIfInBounds (i + 2) x2) t ∧
  Below N w (((W.setCell ⟨b, i, none⟩ x0).setCell ⟨b, i + 1, none⟩ x1).setCell ⟨b, i + 2, none⟩ x2) :=
 ⟨((hR.set i x0).set (i + 1) x1).set (i + 2) x2, ((hB.setCell (p := ⟨b, i, none⟩) hb _).setCell (p := ⟨b, i + 1, none⟩) hb _).setCell (p := ⟨b, i + 2, none⟩) hb _⟩
set_option maxRecDepth 100000 in
theorem hlist_any (k : Kd) (hk : k ∈ kinds) (hlen : 1 ≤ k.fs.length ∧ k.fs.length ≤ 10) (w : World) (hm : MaxCell w) :
  Calls Tryz.prog 110 #[.agg #[.int .i64 (k.op : Int), .string (S k.nm), .int .i64 (k.fl : Int), .string (S k.tx)]] w (RetFields w k.fs) := by
 have hs := spelt_of hk
 have hmk := fun w => run_make_F w k.fs.length (by omega)
 have hb0 := (Below.refl w.heap.size w).alloc (Nat.le_refl _) (.cells #[.int .i64 (k.op : Int), .string (S k.nm), .int .i64 (k.fl : Int), .string (S k.tx)] 192)
 have C := Lib.hid (split_any k hk _ (hm.later hb0))
 have Hb0 := Lib.hid hb0
 have Hm := Lib.hid hm
 clear hb0 hm
 go_enter Tryz.func110, Tryz.ntmps110
 go_wp2_with fail
 refine C.out.mono ?_
 rintro e w1 ⟨b, rfl, hlb, hst, hb1⟩
 have Hst := Lib.hid hst
 have Hb1 := Lib.hid (below_then Hb0.out hb1)
 have hlt1 : b < w1.heap.size := block_lt_of_cell (w := w1) (a := ⟨b, 0, none⟩) (hst 0 (by rw [List.length_map]; omega))
 clear C hst hb1
 go_wp2_with fail
 go_loopw [21] (fun i wr => ∃ j : Nat, j ≤ k.fs.length ∧ i = .int .i64 j ∧ Blk wr w1.heap.size (cellsF (rowsF k.fs j)) 216 ∧ Below w1.heap.size w1 wr) (fun i _ => k.fs.length - (intOf i).toNat)
 case atStart => exact ⟨0, by omega, rfl, by rw [rowsF_0]; exact Blk.new _ _ _, (Below.refl _ _).alloc (Nat.le_refl _) _⟩
 case round =>
  obtain ⟨j, hj, rfl, hB, hbw⟩ := hrel
  have HB := Lib.hid hB
  have Hbw := Lib.hid hbw
  by_cases hlt : j < k.fs.length
  ·obtain ⟨f, hf⟩ : ∃ f, k.fs[j] = f := ⟨_, rfl⟩
   obtain ⟨s1, s2, s3, s4, s5⟩ := hs.fld f (by rw [← hf]; exact List.getElem_mem _)
   have hc : wr.cell? ⟨b, j, none⟩ = some (.string (S (fieldT f))) := by
    have := (Hst.out.later hbw) j (by rw [List.length_map]; exact hlt)
    rw [this, List.getElem_map, hf]
   have hm1 := (Hm.out.later Hb1.out).later hbw
   have HM := Lib.hid hm1
   have C1 := fun n => Lib.hid (cut_any (fieldT f) f.nm (numT f) (wr.drewN n) (by omega) s1 hm1)
   have C2 := fun n => Lib.hid (cut_any (numT f) (dec2 f.pos) (dec2 f.sz) (wr.drewN n) (by unfold fieldT at s5; simp at s5; omega) s2 hm1)
   have d1 := dec2_len f.pos
   have d2 := dec2_len f.sz
   have N1 := fun w => Lib.hid (hnumber_any (dec2 f.pos) f.pos w (by omega) s3)
   have N2 := fun w => Lib.hid (hnumber_any (dec2 f.sz) f.sz w (by omega) s4)
   have Hf := Lib.hid hf
   clear hm1 hB hbw s1 s2 s3 s4 hf
   go_wp2_with fail
   refine (C1 0).out.mono ?_
   rintro e w2 ⟨rfl, n2, rfl⟩
   go_wp2_with fail
   refine (C2 _).out.mono ?_
   rintro e w3 ⟨rfl, n3, rfl⟩
   go_wp2_with fail
   refine (N1 _).out.mono ?_
   rintro e w4 ⟨rfl, hb4⟩
   have Hb4 := Lib.hid hb4
   clear hb4
   go_wp2_with fail
   refine (N2 _).out.mono ?_
   rintro e w5 ⟨rfl, hb5⟩
   have Hb5 := Lib.hid hb5
   clear hb5
   clear C1 C2 N1 N2
   have hW5 : Below (wr.drewN (n2 + n3)).heap.size (wr.drewN (n2 + n3)) w5 := below_then Hb4.out Hb5.out
   have hsz5 : wr.heap.size ≤ w5.heap.size := hW5.size
   have B5 : Blk w5 w1.heap.size (cellsF (rowsF k.fs j)) 216 := (HB.out.drewN (n2 + n3)).later hW5
   have hjl : j < (rowsF k.fs j).length := by rw [rowsF_len k.fs j hj]; exact hlt
   obtain ⟨q0, q1, q2⟩ := Flds.get B5 j hjl
   have f0 := B5.frozen (j * 3)
   have f1 := B5.frozen (j * 3 + 1)
   have f2 := B5.frozen (j * 3 + 2)
   have hB5 : Below w1.heap.size w1 w5 := (below_drewN Hbw.out (n2 + n3)).trans (hW5.mono Hbw.out.size)
   obtain ⟨g1, g2⟩ := row_keep (j * 3) (.string (S f.nm)) (.int .i64 (f.pos : Int)) (.int .i64 (f.sz : Int)) B5 (Nat.le_refl _) hB5
   rw [cellsF_set _ j hjl] at g1
   have hst := rowsF_step k.fs j hlt
   rw [Hf.out] at hst
   rw [hst] at g1
   have G1 := Lib.hid g1
   have G2 := Lib.hid g2
   clear g1 g2 hst B5 hW5 hB5 Hb4 Hb5
   go_wp2_with fail
   go_roundw
   case rel => exact ⟨j + 1, by omega, by go_num, G1.out, G2.out⟩
   case measure => simp [intOf]; omega
  ·have hjn : j = k.fs.length := by omega
   subst hjn
   go_wp2_with fail
   go_ret
   have h1 := HB.out
   rw [rowsF_all] at h1
   exact ⟨_, rfl, Hb1.out.size, h1, below_then Hb1.out Hbw.out⟩
theorem find_none {op : Int} (h : kindOf op = none) (w : World) : Calls Tryz.prog 108 #[.int .i64 op] w fun e W' => e = .returned (.tuple #[.agg #[.int .i64 0, .string (S []), .int .i64 0, .string (S [])], .iface 56 (.int .i64 1)]) ∧ Below w.heap.size w W' :=
 (find_any op w).mono fun e W' ⟨he, hb⟩ => ⟨by rw [he]; unfold findV; rw [h]; rfl, hb⟩
theorem find_some {op : Int} {k : Kd} (h : kindOf op = some k) (w : World) : Calls Tryz.prog 108 #[.int .i64 op] w fun e W' => e = .returned (.tuple #[.agg #[.int .i64 (k.op : Int), .string (S k.nm), .int .i64 (k.fl : Int), .string (S k.tx)], .nilIface]) ∧ Below w.heap.size w W' :=
 (find_any op w).mono fun e W' ⟨he, hb⟩ => ⟨by rw [he]; unfold findV; rw [h]; rfl, hb⟩
theorem kind_list {op : Int} {k : Kd} (h : kindOf op = some k) (w : World) (hm : MaxCell w) :
  Calls Tryz.prog 110 #[.agg #[.int .i64 (k.op : Int), .string (S k.nm), .int .i64 (k.fl : Int), .string (S k.tx)]] w (RetFields w k.fs) :=
 hlist_any k (kindOf_mem h).1 ⟨(kindFacts h).len0, (kindFacts h).len⟩ w hm
end Go.Proofs.YtjbbbpgcegcbaaaGreatDoor
