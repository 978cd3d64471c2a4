/- LA07: several texts in one. -/
import Derived.BigCall
import Derived.BigGuard
import Derived.BigRegion
import Derived.Laws.Strings3
import Derived.Lib.AppendIntMem
import Derived.ShapedOpen
import Derived.Shelf.Small.Wraps
import Derived.Shelf.Strconv.Itoa3
import Derived.Shelf.Strconv.ToError
import Derived.Shelf.Strconv.ToErrorRange
import Derived.Shelf.Vars
import Derived.Test.YtjbbbpgcegcbaaaGreatDoorProg
import Derived.Test.YtjbbbpgcegcbaaaGreatDoorRows
import Derived.Test.YtjbbbpgcegcbaaaGreatDoorLA01
import Derived.Test.YtjbbbpgcegcbaaaGreatDoorLA04
import Derived.Test.YtjbbbpgcegcbaaaGreatDoorLA06
namespace Go.Proofs.YtjbbbpgcegcbaaaGreatDoor
open Go.RowKit
set_option linter.unusedVariables false
def padI (n : Int) : Int := if n < 0 then 0 else (4 - n % 4) % 4
theorem padI_nat (n : Nat) : padI n = (((4 - n % 4) % 4 : Nat) : Int) := by unfold padI; rw [if_neg (by omega)]; omega
theorem padI_bd (n : Int) : 0 ≤ padI n ∧ padI n ≤ 3 := by unfold padI; split <;> omega
def pad (n : Nat) : Nat := (4 - n % 4) % 4
theorem padI_pad (n : Nat) : padI n = (pad n : Int) := padI_nat n
theorem pad_le (n : Nat) : pad n ≤ 3 := by unfold pad; omega
def padded (l : List UInt8) : List UInt8 := l ++ zs (pad l.length)
end Go.Proofs.YtjbbbpgcegcbaaaGreatDoor
namespace Go.Proofs.YtjbbbpgcegcbaaaGreatDoor
open Go.RowKit
structure Ah where
 k : Int
 d : List UInt8
def sizeA (a : Ah) : Nat := 3 + a.d.length + pad (3 + a.d.length)
def wrA (a : Ah) : List UInt8 := padded (be a.d.length 2 ++ be a.k.toNat 1 ++ a.d)
theorem wrA_len (a : Ah) : (wrA a).length = sizeA a := by
 have e : (be a.d.length 2 ++ be a.k.toNat 1 ++ a.d).length = 3 + a.d.length := by
  simp only [List.length_append, be_len]
 unfold wrA padded sizeA
 rw [List.length_append, zs_len, e]
def wrL (l : List Ah) : List UInt8 := l.flatMap wrA
theorem wrL_nil : wrL [] = [] := rfl
theorem wrL_cons (a : Ah) (l : List Ah) : wrL (a :: l) = wrA a ++ wrL l := rfl
def rightF : Nat → Nat → List Ah → Int × Int
 | _, _, [] => (0, -1)
 | all, i, a :: l => if a.k < 0 ∨ 255 < a.k then (2, (i : Int)) else if 1020 < all + sizeA a then (4, (i : Int)) else rightF (all + sizeA a) (i + 1) l
theorem rightF_cons (all i : Nat) (a : Ah) (l : List Ah) : rightF all i (a :: l) = if a.k < 0 ∨ 255 < a.k then (2, (i : Int)) else if 1020 < all + sizeA a then (4, (i : Int)) else rightF (all + sizeA a) (i + 1) l := rfl
def rightA (l : List Ah) : Int × Int := rightF 0 0 l
def okK (l : List Ah) : Prop := ∀ a ∈ l, 0 ≤ a.k ∧ a.k ≤ 255
theorem rightF_is : ∀ (l : List Ah) (all i : Nat), (rightF all i l).1 = 0 → okK l ∧ (l ≠ [] → all + (wrL l).length ≤ 1020) ∧ rightF all i l = (0, -1)
 | [], _, _, _ => ⟨fun _ h => absurd h List.not_mem_nil, fun h => absurd rfl h, rfl⟩
 | a :: l, all, i, h => by
  unfold rightF at h ⊢
  by_cases h1 : a.k < 0 ∨ 255 < a.k
  ·rw [if_pos h1] at h; exact absurd h (by simp)
  ·rw [if_neg h1] at h ⊢
   by_cases h2 : 1020 < all + sizeA a
   ·rw [if_pos h2] at h; exact absurd h (by simp)
   ·rw [if_neg h2] at h ⊢
    obtain ⟨k1, k2, k3⟩ := rightF_is l _ _ h
    refine ⟨fun b hb => ?_, fun _ => ?_, k3⟩
    ·rcases List.mem_cons.1 hb with rfl | hb
     ·omega
     ·exact k1 b hb
    ·rw [wrL_cons, List.length_append, wrA_len]
     by_cases hl : l = []
     ·subst hl; simp [wrL_nil]; omega
     ·have := k2 hl; omega
theorem rightA_is (l : List Ah) (h : (rightA l).1 = 0) : okK l ∧ (wrL l).length ≤ 1020 ∧ rightA l = (0, -1) := by
 obtain ⟨k1, k2, k3⟩ := rightF_is l 0 0 h
 refine ⟨k1, ?_, k3⟩
 by_cases hl : l = []
 ·subst hl; simp [wrL_nil]
 ·have := k2 hl; omega
end Go.Proofs.YtjbbbpgcegcbaaaGreatDoor
namespace Go.Proofs.YtjbbbpgcegcbaaaGreatDoor
def le (n : Nat) : Nat → List UInt8
 | 0 => []
 | k + 1 => le n k ++ [UInt8.ofNat (n / 2 ^ (8 * k) % 256)]
end Go.Proofs.YtjbbbpgcegcbaaaGreatDoor
namespace Go.Proofs.YtjbbbpgcegcbaaaGreatDoor
open Go.RowKit
structure Pd where
 h : Hd
 a : List Ah
 d : List UInt8
def pd0 : Pd := ⟨hd0, [], []⟩
def onM (m w : Nat) : Bool := decide (m / w % 2 = 1)
def okM (m : Int) : Prop := 0 ≤ m ∧ m ≤ 3
instance (m : Int) : Decidable (okM m) := by unfold okM; infer_instance
def room (m w n : Nat) : Nat := if onM m w = true ∧ n ≠ 0 then 4 else 0
def rightP (p : Pd) : Int := if (rightR p.h).1 ≠ 0 then (rightR p.h).1 else if (rightA p.a).1 ≠ 0 then (rightA p.a).1 else if 100000 < p.d.length then 4 else 0
def eh (s : List UInt8) : Nat := 48 + 4 * readW s
def eg (s : List UInt8) (m : Nat) : Nat := eh s + room m 1 (eh s)
def ed (s : List UInt8) (m : Nat) : Nat := eg s m + readD s + pad (readD s)
def ea (s : List UInt8) (m : Nat) : Nat := ed s m + room m 2 (readD s)
structure RightP (p : Pd) : Prop where
 h : rightR p.h = (0, -1)
 k : okK p.a
 a : (wrL p.a).length ≤ 1020
 r : rightA p.a = (0, -1)
 d : p.d.length ≤ 100000
theorem rightP_is {p : Pd} (h : rightP p = 0) : RightP p := by
 unfold rightP at h
 by_cases h1 : (rightR p.h).1 = 0
 ·rw [if_neg (by simp [h1])] at h
  by_cases h2 : (rightA p.a).1 = 0
  ·rw [if_neg (by simp [h2])] at h
   obtain ⟨k1, k2, k3⟩ := rightA_is _ h2
   refine ⟨rightR_0 h1, k1, k2, k3, ?_⟩
   by_cases h3 : 100000 < p.d.length
   ·rw [if_pos h3] at h; exact absurd h (by decide)
   ·omega
  ·rw [if_pos h2] at h; exact absurd h h2
 ·rw [if_pos h1] at h; exact absurd h h1
def MaxCell (w : World) : Prop := ∃ m : Int, w.cell? ⟨3, 0, none⟩ = some (.int .i64 m)
theorem MaxCell.later {w w' : World} (h : MaxCell w) (hb : Below w.heap.size w w') : MaxCell w' := by
 obtain ⟨m, hm⟩ := h
 exact ⟨m, by rw [(bcell hb).1 _ 0 (block_lt_of_cell (w := w) (a := ⟨_, 0, none⟩) hm)]; exact hm⟩
theorem maxCell_of_shaped {W : World} (h : W.ShapedOpen Tryz.prog) : MaxCell W :=
 Go.Proofs.cell_of_shapedOpen_int (zero := #[.int .i64 0]) (t := 3) h (of_decide_eq_true (by kernel_rfl)) (by kernel_rfl) rfl (by kernel_rfl) (by kernel_rfl) Tryz.underlying3
end Go.Proofs.YtjbbbpgcegcbaaaGreatDoor
namespace Go.Proofs
open Go.Shelf
def Tryz.lays103_ren : Go.Shelf.Ren := ⟨fun | 103 => 174 | 210 => 190 | 206 => 180 | n => n, fun | 9 => 9 | 4 => 4 | 24 => 81 | 3 => 3 | n => n, fun | n => n⟩
theorem Tryz.lays103 : Go.Proofs.Lays.n103 Tryz.prog Tryz.lays103_ren := {
 mixed := by kernel_rfl
 f103 := Tryz.func174.trans (congrArg some (by kernel_rfl))
 f206 := Tryz.func180.trans (congrArg some (by kernel_rfl))
 f210 := Tryz.func190.trans (congrArg some (by kernel_rfl))
 t3 := Tryz.underlying3
 a3 := Tryz.isAgg3
 z3 := Tryz.sizeOf3
 v3 := Tryz.zeroValue3
 t4 := Tryz.underlying4
 a4 := Tryz.isAgg4
 z4 := Tryz.sizeOf4
 v4 := Tryz.zeroValue4
 t9 := Tryz.underlying9
 a9 := Tryz.isAgg9
 z9 := Tryz.sizeOf9
 v9 := Tryz.zeroValue9
 t24 := Tryz.underlying81
 a24 := Tryz.isAgg81
 z24 := Tryz.sizeOf81
 v24 := Tryz.zeroValue81 }
open Go.RowKit in
theorem Tryz.strings_CutPrefix (s p : ByteArray) (w : World) :
  Calls Tryz.prog 174 #[.string s, .string p] w fun e w' => e = .returned (.tuple #[.string ⟨(Lib.trimPrefix s.data.toList p.data.toList).toArray⟩, .bool (Lib.hasPrefix s.data.toList p.data.toList)]) ∧ w' = w := Any.strings_CutPrefix Tryz.lays103 s p w
def Tryz.laysM171_ren : Go.Shelf.Ren := ⟨fun | 171 => 154 | 243 => 177 | 246 => 194 | 283 => 207 | 284 => 208 | 285 => 209 | 286 => 210 | 129 => 214 | 317 => 213 | 318 => 215 | 319 => 216 | 320 => 217 | 337 => 218 | 338 => 219 | n => n, fun | 3 => 3 | 9 => 9 | 2 => 2 | 4 => 4 | 171 => 300 | 0 => 0 | 53 => 77 | 37 => 116 | 5 => 5 | 173 => 303 | 212 => 313 | 51 => 66 | 20 => 20 | 213 => 314 | 46 => 132 | 232 => 321 | 233 => 322 | n => n, fun | 17 => 8 | 18 => 9 | 19 => 10 | n => n⟩
theorem Tryz.laysM171 : Go.Proofs.LaysM.n171 Tryz.prog Tryz.laysM171_ren := {
 mixed := by kernel_rfl
 f129 := Tryz.func214.trans (congrArg some (by kernel_rfl))
 f171 := Tryz.func154.trans (congrArg some (by kernel_rfl))
 f243 := Tryz.func177.trans (congrArg some (by kernel_rfl))
 f246 := Tryz.func194.trans (congrArg some (by kernel_rfl))
 f283 := Tryz.func207.trans (congrArg some (by kernel_rfl))
 f284 := Tryz.func208.trans (congrArg some (by kernel_rfl))
 f285 := Tryz.func209.trans (congrArg some (by kernel_rfl))
 f286 := Tryz.func210.trans (congrArg some (by kernel_rfl))
 f317 := Tryz.func213.trans (congrArg some (by kernel_rfl))
 f318 := Tryz.func215.trans (congrArg some (by kernel_rfl))
 f319 := Tryz.func216.trans (congrArg some (by kernel_rfl))
 f320 := Tryz.func217.trans (congrArg some (by kernel_rfl))
 f337 := Tryz.func218.trans (congrArg some (by kernel_rfl))
 f338 := Tryz.func219.trans (congrArg some (by kernel_rfl))
 t0 := Tryz.underlying0
 a0 := Tryz.isAgg0
 z0 := Tryz.sizeOf0
 v0 := Tryz.zeroValue0
 t2 := Tryz.underlying2
 a2 := Tryz.isAgg2
 z2 := Tryz.sizeOf2
 v2 := Tryz.zeroValue2
 t3 := Tryz.underlying3
 a3 := Tryz.isAgg3
 z3 := Tryz.sizeOf3
 v3 := Tryz.zeroValue3
 t4 := Tryz.underlying4
 a4 := Tryz.isAgg4
 z4 := Tryz.sizeOf4
 v4 := Tryz.zeroValue4
 t5 := Tryz.underlying5
 a5 := Tryz.isAgg5
 z5 := Tryz.sizeOf5
 v5 := Tryz.zeroValue5
 t9 := Tryz.underlying9
 a9 := Tryz.isAgg9
 z9 := Tryz.sizeOf9
 v9 := Tryz.zeroValue9
 t20 := Tryz.underlying20
 a20 := Tryz.isAgg20
 z20 := Tryz.sizeOf20
 v20 := Tryz.zeroValue20
 t37 := Tryz.underlying116
 a37 := Tryz.isAgg116
 z37 := Tryz.sizeOf116
 v37 := Tryz.zeroValue116
 t46 := Tryz.underlying132
 a46 := Tryz.isAgg132
 z46 := Tryz.sizeOf132
 v46 := Tryz.zeroValue132
 t51 := Tryz.underlying66
 a51 := Tryz.isAgg66
 z51 := Tryz.sizeOf66
 v51 := Tryz.zeroValue66
 t53 := Tryz.underlying77
 a53 := Tryz.isAgg77
 z53 := Tryz.sizeOf77
 v53 := Tryz.zeroValue77
 t171 := Tryz.underlying300
 a171 := Tryz.isAgg300
 z171 := Tryz.sizeOf300
 v171 := Tryz.zeroValue300
 t173 := Tryz.underlying303
 a173 := Tryz.isAgg303
 z173 := Tryz.sizeOf303
 v173 := Tryz.zeroValue303
 t212 := Tryz.underlying313
 a212 := Tryz.isAgg313
 z212 := Tryz.sizeOf313
 v212 := Tryz.zeroValue313
 t213 := Tryz.underlying314
 a213 := Tryz.isAgg314
 z213 := Tryz.sizeOf314
 t232 := Tryz.underlying321
 a232 := Tryz.isAgg321
 z232 := Tryz.sizeOf321
 v232 := Tryz.zeroValue321
 t233 := Tryz.underlying322
 a233 := Tryz.isAgg322
 z233 := Tryz.sizeOf322
 v233 := Tryz.zeroValue322
 g17 := by kernel_rfl
 g18 := by kernel_rfl
 g19 := by kernel_rfl
 i0 := by kernel_rfl
 i2 := by kernel_rfl
 i3 := by kernel_rfl
 i4 := by kernel_rfl
 i5 := by kernel_rfl
 i9 := by kernel_rfl
 i20 := by kernel_rfl
 i37 := by kernel_rfl
 i46 := by kernel_rfl
 i51 := by kernel_rfl
 i53 := by kernel_rfl
 i171 := by kernel_rfl
 i173 := by kernel_rfl
 i212 := by kernel_rfl
 i232 := by kernel_rfl
 i233 := by kernel_rfl
 m17 := by kernel_rfl
 m18 := by kernel_rfl
 m19 := by kernel_rfl }
open Go.RowKit Go.Sort Go.Lib in
theorem Tryz.strconv_Itoa (n : Int) (h0 : -9223372036854775808 ≤ n) (h1 : n ≤ 9223372036854775807) (w : World) (htab : Lib.TabIs Tryz.prog w "internal/strconv.uint64pow10" .u64 Lib.pow10Tab) :
  Calls Tryz.prog 154 #[.int .i64 n] w fun e w' => e = .returned (.string ⟨(Lib.itoa n).toArray⟩) ∧ ∃ k os, w' = grow (w.drewN k) os := Any.strconv_Itoa Tryz.laysM171 n h0 h1 w htab
def Tryz.laysC245_ren : Go.Shelf.Ren := ⟨fun | 245 => 189 | 279 => 200 | 280 => 201 | 281 => 202 | 282 => 203 | 316 => 211 | 171 => 154 | 205 => 212 | 243 => 177 | 246 => 194 | 283 => 207 | 284 => 208 | 285 => 209 | 286 => 210 | 129 => 214 | 317 => 213 | 318 => 215 | 319 => 216 | 320 => 217 | 337 => 218 | 338 => 219 | n => n, fun | 9 => 9 | 3 => 3 | 75 => 43 | 167 => 293 | 4 => 4 | 168 => 296 | 210 => 306 | 37 => 116 | 0 => 0 | 127 => 210 | 145 => 319 | 143 => 317 | 2 => 2 | 171 => 300 | 53 => 77 | 5 => 5 | 173 => 303 | 212 => 313 | 51 => 66 | 20 => 20 | 213 => 314 | 46 => 132 | 232 => 321 | 233 => 322 | 80 => 151 | n => n, fun | 15 => 4 | 16 => 5 | 17 => 8 | 18 => 9 | 19 => 10 | n => n⟩
theorem Tryz.laysC245 : Go.Proofs.LaysC.n245 Tryz.prog Tryz.laysC245_ren := {
 mixed := by kernel_rfl
 f129 := Tryz.func214.trans (congrArg some (by kernel_rfl))
 f171 := Tryz.func154.trans (congrArg some (by kernel_rfl))
 f205 := Tryz.func212.trans (congrArg some (by kernel_rfl))
 f243 := Tryz.func177.trans (congrArg some (by kernel_rfl))
 f245 := Tryz.func189.trans (congrArg some (by kernel_rfl))
 f246 := Tryz.func194.trans (congrArg some (by kernel_rfl))
 f279 := Tryz.func200.trans (congrArg some (by kernel_rfl))
 f280 := Tryz.func201.trans (congrArg some (by kernel_rfl))
 f281 := Tryz.func202.trans (congrArg some (by kernel_rfl))
 f282 := Tryz.func203.trans (congrArg some (by kernel_rfl))
 f283 := Tryz.func207.trans (congrArg some (by kernel_rfl))
 f284 := Tryz.func208.trans (congrArg some (by kernel_rfl))
 f285 := Tryz.func209.trans (congrArg some (by kernel_rfl))
 f286 := Tryz.func210.trans (congrArg some (by kernel_rfl))
 f316 := Tryz.func211.trans (congrArg some (by kernel_rfl))
 f317 := Tryz.func213.trans (congrArg some (by kernel_rfl))
 f318 := Tryz.func215.trans (congrArg some (by kernel_rfl))
 f319 := Tryz.func216.trans (congrArg some (by kernel_rfl))
 f320 := Tryz.func217.trans (congrArg some (by kernel_rfl))
 f337 := Tryz.func218.trans (congrArg some (by kernel_rfl))
 f338 := Tryz.func219.trans (congrArg some (by kernel_rfl))
 t0 := Tryz.underlying0
 a0 := Tryz.isAgg0
 z0 := Tryz.sizeOf0
 v0 := Tryz.zeroValue0
 t2 := Tryz.underlying2
 a2 := Tryz.isAgg2
 z2 := Tryz.sizeOf2
 v2 := Tryz.zeroValue2
 t3 := Tryz.underlying3
 a3 := Tryz.isAgg3
 z3 := Tryz.sizeOf3
 v3 := Tryz.zeroValue3
 t4 := Tryz.underlying4
 a4 := Tryz.isAgg4
 z4 := Tryz.sizeOf4
 v4 := Tryz.zeroValue4
 t5 := Tryz.underlying5
 a5 := Tryz.isAgg5
 z5 := Tryz.sizeOf5
 v5 := Tryz.zeroValue5
 t9 := Tryz.underlying9
 a9 := Tryz.isAgg9
 z9 := Tryz.sizeOf9
 v9 := Tryz.zeroValue9
 t20 := Tryz.underlying20
 a20 := Tryz.isAgg20
 z20 := Tryz.sizeOf20
 v20 := Tryz.zeroValue20
 t37 := Tryz.underlying116
 a37 := Tryz.isAgg116
 z37 := Tryz.sizeOf116
 v37 := Tryz.zeroValue116
 t46 := Tryz.underlying132
 a46 := Tryz.isAgg132
 z46 := Tryz.sizeOf132
 v46 := Tryz.zeroValue132
 t51 := Tryz.underlying66
 a51 := Tryz.isAgg66
 z51 := Tryz.sizeOf66
 v51 := Tryz.zeroValue66
 t53 := Tryz.underlying77
 a53 := Tryz.isAgg77
 z53 := Tryz.sizeOf77
 v53 := Tryz.zeroValue77
 t75 := Tryz.underlying43
 a75 := Tryz.isAgg43
 z75 := Tryz.sizeOf43
 v75 := Tryz.zeroValue43
 t127 := Tryz.underlying210
 a127 := Tryz.isAgg210
 z127 := Tryz.sizeOf210
 v127 := Tryz.zeroValue210
 t143 := Tryz.underlying317
 a143 := Tryz.isAgg317
 z143 := Tryz.sizeOf317
 v143 := Tryz.zeroValue317
 t145 := Tryz.underlying319
 a145 := Tryz.isAgg319
 z145 := Tryz.sizeOf319
 v145 := Tryz.zeroValue319
 t167 := Tryz.underlying293
 a167 := Tryz.isAgg293
 z167 := Tryz.sizeOf293
 v167 := Tryz.zeroValue293
 t168 := Tryz.underlying296
 a168 := Tryz.isAgg296
 z168 := Tryz.sizeOf296
 v168 := Tryz.zeroValue296
 t171 := Tryz.underlying300
 a171 := Tryz.isAgg300
 z171 := Tryz.sizeOf300
 v171 := Tryz.zeroValue300
 t173 := Tryz.underlying303
 a173 := Tryz.isAgg303
 z173 := Tryz.sizeOf303
 v173 := Tryz.zeroValue303
 t210 := Tryz.underlying306
 a210 := Tryz.isAgg306
 z210 := Tryz.sizeOf306
 v210 := Tryz.zeroValue306
 t212 := Tryz.underlying313
 a212 := Tryz.isAgg313
 z212 := Tryz.sizeOf313
 v212 := Tryz.zeroValue313
 t213 := Tryz.underlying314
 a213 := Tryz.isAgg314
 z213 := Tryz.sizeOf314
 t232 := Tryz.underlying321
 a232 := Tryz.isAgg321
 z232 := Tryz.sizeOf321
 v232 := Tryz.zeroValue321
 t233 := Tryz.underlying322
 a233 := Tryz.isAgg322
 z233 := Tryz.sizeOf322
 v233 := Tryz.zeroValue322
 g15 := by kernel_rfl
 g16 := by kernel_rfl
 g17 := by kernel_rfl
 g18 := by kernel_rfl
 g19 := by kernel_rfl
 t80 := Tryz.underlying151
 a80 := Tryz.isAgg151
 z80 := Tryz.sizeOf151
 v80 := Tryz.zeroValue151
 i0 := by kernel_rfl
 i2 := by kernel_rfl
 i3 := by kernel_rfl
 i4 := by kernel_rfl
 i5 := by kernel_rfl
 i9 := by kernel_rfl
 i20 := by kernel_rfl
 i37 := by kernel_rfl
 i46 := by kernel_rfl
 i51 := by kernel_rfl
 i53 := by kernel_rfl
 i75 := by kernel_rfl
 i80 := by kernel_rfl
 i127 := by kernel_rfl
 i143 := by kernel_rfl
 i145 := by kernel_rfl
 i167 := by kernel_rfl
 i168 := by kernel_rfl
 i171 := by kernel_rfl
 i173 := by kernel_rfl
 i210 := by kernel_rfl
 i212 := by kernel_rfl
 i232 := by kernel_rfl
 i233 := by kernel_rfl
 m15 := by kernel_rfl
 m16 := by kernel_rfl
 m17 := by kernel_rfl
 m18 := by kernel_rfl
 m19 := by kernel_rfl
 c0 := by kernel_rfl
 c2 := by kernel_rfl
 c3 := by kernel_rfl
 c4 := by kernel_rfl
 c5 := by kernel_rfl
 c9 := by kernel_rfl
 c20 := by kernel_rfl
 c37 := by kernel_rfl
 c46 := by kernel_rfl
 c51 := by kernel_rfl
 c53 := by kernel_rfl
 c75 := by kernel_rfl
 c80 := by kernel_rfl
 c127 := by kernel_rfl
 c143 := by kernel_rfl
 c145 := by kernel_rfl
 c167 := by kernel_rfl
 c168 := by kernel_rfl
 c171 := by kernel_rfl
 c173 := by kernel_rfl
 c210 := by kernel_rfl
 c212 := by kernel_rfl
 c213 := by kernel_rfl
 c232 := by kernel_rfl
 c233 := by kernel_rfl }
open Go.RowKit in
theorem Tryz.strconv_toError_syntax (fn s : ByteArray) (base bits : Int) (ev : Value) (w : World) (hlim : s.size ≤ 281474976710656) (hv : w.cell? ⟨4, 0, none⟩ = some ev) (hev : ev = .nilIface ∨ ∃ te pe, ev = .iface te pe) :
  Calls Tryz.prog 189 #[.string fn, .string s, .int .i64 base, .int .i64 bits, .iface 293 (.int .i64 2)] w fun e w' => ∃ N, e = .returned (.iface 296 (.pointer (some ⟨N, 0, none⟩))) ∧ w.heap.size ≤ N ∧ w'.heap[N]? = some (.cells #[.string fn, .string s, ev] 306 (0, 0)) ∧ Below w.heap.size w w' := Any.strconv_toError_syntax Tryz.laysC245 fn s base bits ev w hlim hv hev
open Go.RowKit in
theorem Tryz.strconv_toError_range (fn s : ByteArray) (base bits : Int) (ev : Value) (w : World) (hlim : s.size ≤ 281474976710656) (hv : w.cell? ⟨5, 0, none⟩ = some ev) (hev : ev = .nilIface ∨ ∃ te pe, ev = .iface te pe) :
  Calls Tryz.prog 189 #[.string fn, .string s, .int .i64 base, .int .i64 bits, .iface 293 (.int .i64 1)] w fun e w' => ∃ N, e = .returned (.iface 296 (.pointer (some ⟨N, 0, none⟩))) ∧ w.heap.size ≤ N ∧ w'.heap[N]? = some (.cells #[.string fn, .string s, ev] 306 (0, 0)) ∧ Below w.heap.size w w' := Any.strconv_toError_range Tryz.laysC245 fn s base bits ev w hlim hv hev
end Go.Proofs
namespace Go.Proofs.YtjbbbpgcegcbaaaGreatDoor
open Go.RowKit
structure Env (w : World) : Prop where
 mc : MaxCell w
 sy : ∃ v, w.cell? ⟨4, 0, none⟩ = some v ∧ (v = .nilIface ∨ ∃ t p, v = .iface t p)
 rg : ∃ v, w.cell? ⟨5, 0, none⟩ = some v ∧ (v = .nilIface ∨ ∃ t p, v = .iface t p)
 tb : Lib.TabIs Tryz.prog w "internal/strconv.uint64pow10" .u64 Lib.pow10Tab
theorem Env.later {w w' : World} (h : Env w) (hb : Below w.heap.size w w') : Env w' := by
 refine ⟨h.mc.later hb, ?_, ?_, Lib.tabBelow_of_tabIs h.tb w' hb⟩
 ·obtain ⟨v, hc, hv⟩ := h.sy
  refine ⟨v, ?_, hv⟩
  exact (by rw [(bcell hb).1 _ 0 (block_lt_of_cell (w := w) (a := ⟨_, 0, none⟩) hc)]; exact hc)
 ·obtain ⟨v, hc, hv⟩ := h.rg
  refine ⟨v, ?_, hv⟩
  exact (by rw [(bcell hb).1 _ 0 (block_lt_of_cell (w := w) (a := ⟨_, 0, none⟩) hc)]; exact hc)
theorem itoa_any (n : Nat) (w : World) (hn : n < 1099511627776) (hE : Env w) : Calls Tryz.prog 154 #[.int .i64 (n : Int)] w fun e w' => e = .returned (.string (S (Lib.decDigits n))) ∧ Below w.heap.size w w' := by
 refine (Tryz.strconv_Itoa (n : Int) (by omega) (by omega) w hE.tb).mono ?_
 rintro e w' ⟨rfl, k, os, rfl⟩
 rw [Lib.itoa_nonneg]
 exact ⟨rfl, Lib.below_grow w.heap.size w (Nat.le_refl _) k os⟩
theorem lower1_any (x e : Nat) (w : World) (h : bits .or .u8 (x : Int) 32 = (e : Int)) :
  Calls Tryz.prog 204 #[.int .u8 x] w fun r w' => r = .returned (.int .u8 e) ∧ w = w' := by
 go_enter Tryz.func204, Tryz.ntmps204
 go_wp2_with fail
 go_ret
 exact ⟨rfl, rfl⟩
def RetPU (w : World) (r : Option Nat) (e : Ending) (w' : World) : Prop :=
 ((∃ n : Nat, r = some n ∧ e = .returned (.tuple #[.int .u64 (n : Int), .nilIface])) ∨ (r = none ∧ ∃ v : Int, e = .returned (.tuple #[.int .u64 v, .iface 293 (.int .i64 1)]) ∨ e = .returned (.tuple #[.int .u64 v, .iface 293 (.int .i64 2)]))) ∧ Below w.heap.size w w'
theorem dig_cases (b : Nat) (c : UInt8) : (48 ≤ c.toNat ∧ c.toNat ≤ 57 ∧ digV c = c.toNat - 48) ∨ (¬ (48 ≤ c.toNat ∧ c.toNat ≤ 57) ∧ c.toNat ≠ 95 ∧ 97 ≤ lowB c ∧ lowB c ≤ 122 ∧ digV c = lowB c - 87) ∨ (¬ (48 ≤ c.toNat ∧ c.toNat ≤ 57) ∧ ¬ (97 ≤ lowB c ∧ lowB c ≤ 122) ∧ isDig b c = false) := by
 by_cases h1 : 48 ≤ c.toNat ∧ c.toNat ≤ 57
 ·exact .inl ⟨h1.1, h1.2, by unfold digV; rw [if_pos h1]⟩
 ·by_cases h2 : 97 ≤ lowB c ∧ lowB c ≤ 122
  ·refine .inr (.inl ⟨h1, fun e => ?_, h2.1, h2.2, by unfold digV; rw [if_neg h1]⟩)
   have hc : c = 95 := UInt8.toNat_inj.1 e
   subst hc
   revert h2; decide
  ·refine .inr (.inr ⟨h1, h2, ?_⟩)
   unfold isDig
   simp only [Bool.and_eq_false_iff, Bool.or_eq_false_iff, decide_eq_false_iff_not]
   omega
theorem isDig_num {b : Nat} {c : UInt8} (hb : 10 ≤ b) (h : 48 ≤ c.toNat ∧ c.toNat ≤ 57) : isDig b c = true := by
 have hd : digV c = c.toNat - 48 := by unfold digV; rw [if_pos h]
 unfold isDig
 rw [hd]
 simp only [Bool.and_eq_true, Bool.or_eq_true, decide_eq_true_eq]
 omega
theorem isDig_let {b : Nat} {c : UInt8} (h : 97 ≤ lowB c ∧ lowB c ≤ 122) : isDig b c = decide (digV c < b) := by
 unfold isDig
 have h1 : ((decide (48 ≤ c.toNat) && decide (c.toNat ≤ 57)) || (decide (97 ≤ lowB c) && decide (lowB c ≤ 122))) = true := by
  simp only [Bool.and_eq_true, Bool.or_eq_true, decide_eq_true_eq]; exact .inr h
 rw [h1, Bool.true_and]
theorem numF_snoc {b n : Nat} {l : List UInt8} {k : Nat} (hk : k < l.length) : numF b n (l.drop k) = if isDig b l[k] = true then (if n * b + digV l[k] < 1099511627776 then numF b (n * b + digV l[k]) (l.drop (k + 1)) else none) else none := by
 rw [List.drop_eq_getElem_cons hk]
 rfl
set_option maxRecDepth 100000 in
set_option maxHeartbeats 4000000 in
theorem parseU10 (l : List UInt8) (w : World) (hl : l.length ≤ 1000000) :
  Calls Tryz.prog 191 #[.string (S l), .int .i64 10, .int .i64 40] w (RetPU w (numU 10 l)) := by
 by_cases he : l = []
 ·subst he
  go_enter Tryz.func191, Tryz.ntmps191
  go_wp2_with fail
  go_ret2
  exact ⟨.inr ⟨rfl, _, .inr rfl⟩, Below.refl _ _⟩
 have hemp : l.isEmpty = false := by cases l with | nil => exact absurd rfl he | cons _ _ => rfl
 have HU := Lib.hid (show numU 10 l = numF 10 0 l by unfold numU; rw [if_neg he])
 obtain ⟨cap, hc1, hc2, hrun⟩ := run_bytes_S (P := Tryz.prog) 9 116 5 Tryz.underlying9 Tryz.underlying116 Tryz.underlying5 w l
 have hB := bytesAt_drew (bytesAt_new w (l ++ List.replicate (cap - l.length) 0) 5 (cap, cap + 1))
 have hbel : Below w.heap.size w (w.alloc (.cells (cells8 (l ++ List.replicate (cap - l.length) 0)) 5 (cap, cap + 1))).drew := ((Below.refl _ _).alloc (Nat.le_refl _) _).drew
 have hc2' := hc2 (by unfold maxLen; omega)
 unfold maxLen at hc2'
 clear hc2
 generalize hW : (w.alloc (.cells (cells8 (l ++ List.replicate (cap - l.length) 0)) 5 (cap, cap + 1))).drew = W at hrun hB hbel
 have HB := Lib.hid hB
 have Hbel := Lib.hid hbel
 clear hB hbel hW he
 have hw1 : IntKind.u64.wrap 1099511627776 = 1099511627776 := by decide +kernel
 go_enter Tryz.func191, Tryz.ntmps191
 go_wp2_with fail
 clear hrun
 go_loopg [12, 13, 101] (l.length + 1) (fun g u v c wr => ∃ (k m : Nat) (a : Int), k ≤ l.length ∧ g + k = l.length + 1 ∧ u = .bool false ∧ c = .int .i64 k ∧ v = .int .u64 a ∧ Hid (a = (m : Int) ∧ m < 1099511627776 ∧ numF 10 m (l.drop k) = numU 10 l) ∧ wr = W)
 case atStart => exact ⟨0, 0, 0, by omega, by omega, rfl, rfl, rfl, Lib.hid ⟨rfl, by decide, HU.out.symm⟩, rfl⟩
 case round =>
  obtain ⟨k, m, a, hk, hg, rfl, rfl, rfl, ha, rfl⟩ := hrel
  have Hg := Lib.hid hg
  clear hg
  by_cases hlt : k < l.length
  ·have hcell := bytesAt_get HB.out k (by simp; omega)
   rw [List.getElem_append_left hlt] at hcell
   obtain ⟨hav, hm, hnum⟩ := ha.out
   rw [numF_snoc hlt] at hnum
   have hor := lowB_or l[k]
   have hlw := lowB_lt l[k]
   have hcs := dig_cases 10 l[k]
   have hi1 := @isDig_num 10 l[k] (by decide)
   have hi2 := @isDig_let 10 l[k]
   have hlt256 := l[k].toNat_lt
   generalize isDig 10 l[k] = ok at hcs hi1 hi2 hnum
   generalize digV l[k] = d at hcs hi2 hnum
   generalize l[k].toNat = c at hcell hor hcs hlt256 hi1
   generalize lowB l[k] = e at hor hlw hcs hi2
   have ha0 : 0 ≤ a := by omega
   have ha1 : a < 1099511627776 := by omega
   rcases hcs with ⟨g1, g2, g3⟩ | ⟨g1, g2, g3, g4, g5⟩ | ⟨g1, g2, g3⟩
   ·rw [hi1 ⟨g1, g2⟩, if_pos rfl] at hnum
    obtain rfl : c = d + 48 := by omega
    have ha2 : a * 10 + (d : Int) < 17592186044672 := by omega
    by_cases hbig : m * 10 + d < 1099511627776
    ·rw [if_pos hbig] at hnum
     have ha3 : a * 10 + (d : Int) < 1099511627776 := by omega
     have HN := Lib.hid (show (a * 10 + (d : Int) = ((m * 10 + d : Nat) : Int)) ∧ m * 10 + d < 1099511627776 ∧ numF 10 (m * 10 + d) (l.drop (k + 1)) = numU 10 l from ⟨by omega, hbig, hnum⟩)
     clear hnum hav ha hor hi1 hi2 g3 hm hbig
     go_wp2_with fail
     go_roundg (gk - 1)
     case measure => have := Hg.out; omega
     case rel => exact ⟨k + 1, m * 10 + d, a * 10 + (d : Int), by omega, by have := Hg.out; omega, rfl, by go_num, by go_num, HN, rfl⟩
    ·rw [if_neg hbig] at hnum
     have ha3 : 1099511627776 ≤ a * 10 + (d : Int) := by omega
     have HN := Lib.hid hnum
     clear hnum hav ha hor hi1 hi2 g3 hm hbig
     go_wp2_with fail
     go_ret2
     exact ⟨.inr ⟨HN.out.symm, _, .inl rfl⟩, Hbel.out⟩
   ·rw [hi2 ⟨g3, g4⟩] at hnum
    obtain rfl : e = d + 87 := by omega
    have hlo := fun W => lower1_any c (d + 87) W hor
    have g6 : c < 48 ∨ 57 < c := by omega
    by_cases hdb : d < 10
    ·rw [decide_eq_true hdb, if_pos rfl] at hnum
     have ha2 : a * 10 + (d : Int) < 17592186044672 := by omega
     by_cases hbig : m * 10 + d < 1099511627776
     ·rw [if_pos hbig] at hnum
      have ha3 : a * 10 + (d : Int) < 1099511627776 := by omega
      have HN := Lib.hid (show (a * 10 + (d : Int) = ((m * 10 + d : Nat) : Int)) ∧ m * 10 + d < 1099511627776 ∧ numF 10 (m * 10 + d) (l.drop (k + 1)) = numU 10 l from ⟨by omega, hbig, hnum⟩)
      clear hnum hav ha hor hi1 hi2 g1 g5 hm hbig
      go_wp2_with (with_reducible refine (hlo _).mono ?_; rintro e w' ⟨rfl, rfl⟩)
      all_goals
       go_roundg (gk - 1)
       case measure => have := Hg.out; omega
       case rel => exact ⟨k + 1, m * 10 + d, a * 10 + (d : Int), by omega, by have := Hg.out; omega, rfl, by go_num, by go_num, HN, rfl⟩
     ·rw [if_neg hbig] at hnum
      have ha3 : 1099511627776 ≤ a * 10 + (d : Int) := by omega
      have HN := Lib.hid hnum
      clear hnum hav ha hor hi1 hi2 g1 g5 hm hbig
      go_wp2_with (with_reducible refine (hlo _).mono ?_; rintro e w' ⟨rfl, rfl⟩)
      all_goals
       go_ret2
       exact ⟨.inr ⟨HN.out.symm, _, .inl rfl⟩, Hbel.out⟩
    ·rw [decide_eq_false hdb, if_neg (by decide)] at hnum
     have hdb' : 10 ≤ d := by omega
     have HN := Lib.hid hnum
     clear hnum hav ha hor hi1 hi2 g1 g5 hm
     go_wp2_with (with_reducible refine (hlo _).mono ?_; rintro e w' ⟨rfl, rfl⟩)
     all_goals
      go_ret2
      exact ⟨.inr ⟨HN.out.symm, _, .inr rfl⟩, Hbel.out⟩
   ·rw [g3, if_neg (by decide)] at hnum
    have hlo := fun W => lower1_any c e W hor
    have g6 : c < 48 ∨ 57 < c := by omega
    have g7 : e < 97 ∨ 122 < e := by omega
    have HN := Lib.hid hnum
    clear hnum hav ha hor hi1 hi2 g1 g2 g3 hm
    by_cases h95 : c = 95
    ·subst h95
     have hlo2 : ∀ W, Calls Tryz.prog 204 #[.int .u8 95] W (fun r w' => r = .returned (.int .u8 e) ∧ W = w') := hlo
     clear hlo
     go_wp2_with (with_reducible refine (hlo2 _).mono ?_; rintro e w' ⟨rfl, rfl⟩)
     all_goals
      go_ret2
      exact ⟨.inr ⟨HN.out.symm, _, .inr rfl⟩, Hbel.out⟩
    ·have h95' : ¬ (c : Int) = 95 := by omega
     go_wp2_with (with_reducible refine (hlo _).mono ?_; rintro e w' ⟨rfl, rfl⟩)
     all_goals
      go_ret2
      exact ⟨.inr ⟨HN.out.symm, _, .inr rfl⟩, Hbel.out⟩
  ·have hkl : k = l.length := by omega
   subst hkl
   obtain ⟨hav, hm, hnum⟩ := ha.out
   rw [List.drop_length, numF_nil] at hnum
   subst hav
   have HN := Lib.hid hnum
   clear hnum ha
   go_wp2_with fail
   go_ret2
   exact ⟨.inl ⟨m, HN.out.symm, rfl⟩, Hbel.out⟩
set_option maxRecDepth 100000 in
set_option maxHeartbeats 4000000 in
theorem parseU16 (l : List UInt8) (w : World) (hl : l.length ≤ 1000000) :
  Calls Tryz.prog 191 #[.string (S l), .int .i64 16, .int .i64 40] w (RetPU w (numU 16 l)) := by
 by_cases he : l = []
 ·subst he
  go_enter Tryz.func191, Tryz.ntmps191
  go_wp2_with fail
  go_ret2
  exact ⟨.inr ⟨rfl, _, .inr rfl⟩, Below.refl _ _⟩
 have hemp : l.isEmpty = false := by cases l with | nil => exact absurd rfl he | cons _ _ => rfl
 have HU := Lib.hid (show numU 16 l = numF 16 0 l by unfold numU; rw [if_neg he])
 obtain ⟨cap, hc1, hc2, hrun⟩ := run_bytes_S (P := Tryz.prog) 9 116 5 Tryz.underlying9 Tryz.underlying116 Tryz.underlying5 w l
 have hB := bytesAt_drew (bytesAt_new w (l ++ List.replicate (cap - l.length) 0) 5 (cap, cap + 1))
 have hbel : Below w.heap.size w (w.alloc (.cells (cells8 (l ++ List.replicate (cap - l.length) 0)) 5 (cap, cap + 1))).drew := ((Below.refl _ _).alloc (Nat.le_refl _) _).drew
 have hc2' := hc2 (by unfold maxLen; omega)
 unfold maxLen at hc2'
 clear hc2
 generalize hW : (w.alloc (.cells (cells8 (l ++ List.replicate (cap - l.length) 0)) 5 (cap, cap + 1))).drew = W at hrun hB hbel
 have HB := Lib.hid hB
 have Hbel := Lib.hid hbel
 clear hB hbel hW he
 have hw1 : IntKind.u64.wrap 1099511627776 = 1099511627776 := by decide +kernel
 go_enter Tryz.func191, Tryz.ntmps191
 go_wp2_with fail
 clear hrun
 go_loopg [12, 13, 101] (l.length + 1) (fun g u v c wr => ∃ (k m : Nat) (a : Int), k ≤ l.length ∧ g + k = l.length + 1 ∧ u = .bool false ∧ c = .int .i64 k ∧ v = .int .u64 a ∧ Hid (a = (m : Int) ∧ m < 1099511627776 ∧ numF 16 m (l.drop k) = numU 16 l) ∧ wr = W)
 case atStart => exact ⟨0, 0, 0, by omega, by omega, rfl, rfl, rfl, Lib.hid ⟨rfl, by decide, HU.out.symm⟩, rfl⟩
 case round =>
  obtain ⟨k, m, a, hk, hg, rfl, rfl, rfl, ha, rfl⟩ := hrel
  have Hg := Lib.hid hg
  clear hg
  by_cases hlt : k < l.length
  ·have hcell := bytesAt_get HB.out k (by simp; omega)
   rw [List.getElem_append_left hlt] at hcell
   obtain ⟨hav, hm, hnum⟩ := ha.out
   rw [numF_snoc hlt] at hnum
   have hor := lowB_or l[k]
   have hlw := lowB_lt l[k]
   have hcs := dig_cases 16 l[k]
   have hi1 := @isDig_num 16 l[k] (by decide)
   have hi2 := @isDig_let 16 l[k]
   have hlt256 := l[k].toNat_lt
   generalize isDig 16 l[k] = ok at hcs hi1 hi2 hnum
   generalize digV l[k] = d at hcs hi2 hnum
   generalize l[k].toNat = c at hcell hor hcs hlt256 hi1
   generalize lowB l[k] = e at hor hlw hcs hi2
   have ha0 : 0 ≤ a := by omega
   have ha1 : a < 1099511627776 := by omega
   rcases hcs with ⟨g1, g2, g3⟩ | ⟨g1, g2, g3, g4, g5⟩ | ⟨g1, g2, g3⟩
   ·rw [hi1 ⟨g1, g2⟩, if_pos rfl] at hnum
    obtain rfl : c = d + 48 := by omega
    have ha2 : a * 16 + (d : Int) < 17592186044672 := by omega
    by_cases hbig : m * 16 + d < 1099511627776
    ·rw [if_pos hbig] at hnum
     have ha3 : a * 16 + (d : Int) < 1099511627776 := by omega
     have HN := Lib.hid (show (a * 16 + (d : Int) = ((m * 16 + d : Nat) : Int)) ∧ m * 16 + d < 1099511627776 ∧ numF 16 (m * 16 + d) (l.drop (k + 1)) = numU 16 l from ⟨by omega, hbig, hnum⟩)
     clear hnum hav ha hor hi1 hi2 g3 hm hbig
     go_wp2_with fail
     go_roundg (gk - 1)
     case measure => have := Hg.out; omega
     case rel => exact ⟨k + 1, m * 16 + d, a * 16 + (d : Int), by omega, by have := Hg.out; omega, rfl, by go_num, by go_num, HN, rfl⟩
    ·rw [if_neg hbig] at hnum
     have ha3 : 1099511627776 ≤ a * 16 + (d : Int) := by omega
     have HN := Lib.hid hnum
     clear hnum hav ha hor hi1 hi2 g3 hm hbig
     go_wp2_with fail
     go_ret2
     exact ⟨.inr ⟨HN.out.symm, _, .inl rfl⟩, Hbel.out⟩
   ·rw [hi2 ⟨g3, g4⟩] at hnum
    obtain rfl : e = d + 87 := by omega
    have hlo := fun W => lower1_any c (d + 87) W hor
    have g6 : c < 48 ∨ 57 < c := by omega
    by_cases hdb : d < 16
    ·rw [decide_eq_true hdb, if_pos rfl] at hnum
     have ha2 : a * 16 + (d : Int) < 17592186044672 := by omega
     by_cases hbig : m * 16 + d < 1099511627776
     ·rw [if_pos hbig] at hnum
      have ha3 : a * 16 + (d : Int) < 1099511627776 := by omega
      have HN := Lib.hid (show (a * 16 + (d : Int) = ((m * 16 + d : Nat) : Int)) ∧ m * 16 + d < 1099511627776 ∧ numF 16 (m * 16 + d) (l.drop (k + 1)) = numU 16 l from ⟨by omega, hbig, hnum⟩)
      clear hnum hav ha hor hi1 hi2 g1 g5 hm hbig
      go_wp2_with (with_reducible refine (hlo _).mono ?_; rintro e w' ⟨rfl, rfl⟩)
      all_goals
       go_roundg (gk - 1)
       case measure => have := Hg.out; omega
       case rel => exact ⟨k + 1, m * 16 + d, a * 16 + (d : Int), by omega, by have := Hg.out; omega, rfl, by go_num, by go_num, HN, rfl⟩
     ·rw [if_neg hbig] at hnum
      have ha3 : 1099511627776 ≤ a * 16 + (d : Int) := by omega
      have HN := Lib.hid hnum
      clear hnum hav ha hor hi1 hi2 g1 g5 hm hbig
      go_wp2_with (with_reducible refine (hlo _).mono ?_; rintro e w' ⟨rfl, rfl⟩)
      all_goals
       go_ret2
       exact ⟨.inr ⟨HN.out.symm, _, .inl rfl⟩, Hbel.out⟩
    ·rw [decide_eq_false hdb, if_neg (by decide)] at hnum
     have hdb' : 16 ≤ d := by omega
     have HN := Lib.hid hnum
     clear hnum hav ha hor hi1 hi2 g1 g5 hm
     go_wp2_with (with_reducible refine (hlo _).mono ?_; rintro e w' ⟨rfl, rfl⟩)
     all_goals
      go_ret2
      exact ⟨.inr ⟨HN.out.symm, _, .inr rfl⟩, Hbel.out⟩
   ·rw [g3, if_neg (by decide)] at hnum
    have hlo := fun W => lower1_any c e W hor
    have g6 : c < 48 ∨ 57 < c := by omega
    have g7 : e < 97 ∨ 122 < e := by omega
    have HN := Lib.hid hnum
    clear hnum hav ha hor hi1 hi2 g1 g2 g3 hm
    by_cases h95 : c = 95
    ·subst h95
     have hlo2 : ∀ W, Calls Tryz.prog 204 #[.int .u8 95] W (fun r w' => r = .returned (.int .u8 e) ∧ W = w') := hlo
     clear hlo
     go_wp2_with (with_reducible refine (hlo2 _).mono ?_; rintro e w' ⟨rfl, rfl⟩)
     all_goals
      go_ret2
      exact ⟨.inr ⟨HN.out.symm, _, .inr rfl⟩, Hbel.out⟩
    ·have h95' : ¬ (c : Int) = 95 := by omega
     go_wp2_with (with_reducible refine (hlo _).mono ?_; rintro e w' ⟨rfl, rfl⟩)
     all_goals
      go_ret2
      exact ⟨.inr ⟨HN.out.symm, _, .inr rfl⟩, Hbel.out⟩
  ·have hkl : k = l.length := by omega
   subst hkl
   obtain ⟨hav, hm, hnum⟩ := ha.out
   rw [List.drop_length, numF_nil] at hnum
   subst hav
   have HN := Lib.hid hnum
   clear hnum ha
   go_wp2_with fail
   go_ret2
   exact ⟨.inl ⟨m, HN.out.symm, rfl⟩, Hbel.out⟩
end Go.Proofs.YtjbbbpgcegcbaaaGreatDoor
