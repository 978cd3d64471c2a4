/- LA15: several texts in one. -/
import Derived.LoopIn
import Derived.LoopNIn
import Derived.Maps.AppendAt
import Derived.Maps.OwnIn
import Derived.OwnWalkIn
import Derived.RangeFuncBound
import Derived.RangeFuncBox
import Derived.RangeFuncCalls
import Derived.RangeFuncLeaves
import Derived.RangeFuncNested
import Derived.Shelf.Abstract
import Derived.Shelf.Slices.Turned
import Derived.TacticsInMore
import Derived.Test.YtjbbbpgcegcbaaaGreatDoorProg
import Derived.Test.YtjbbbpgcegcbaaaGreatDoorLA01
import Derived.Test.YtjbbbpgcegcbaaaGreatDoorLA04
import Derived.Test.YtjbbbpgcegcbaaaGreatDoorLA09
import Derived.Test.YtjbbbpgcegcbaaaGreatDoorLA10
import Derived.Test.YtjbbbpgcegcbaaaGreatDoorLA13
import Derived.Test.YtjbbbpgcegcbaaaGreatDoorLA14
namespace Go.Proofs.YtjbbbpgcegcbaaaGreatDoor
open Go Go.RowKit Go.Shelf Go.Maps
attribute [local go_sem] Oper.semAt_some
theorem keyW (l : List UInt8) (h : l.length ≤ 1000000) : keyOf Tryz.prog 9 (.string (S l)) = some (.string l) := by
 have := Go.WideMaps.keyOf_string_mk (P := Tryz.prog) (k := 9) Tryz.underlying9 (s := S l) (by rw [S_size]; unfold maxLen; omega)
 rw [this]; rfl
theorem abOff_own {β : Type} {lo hi B n₀ B0 : Nat} {t e : TypeId} {size : Nat} (k : β → Nat) (f : β → List Value) (h1 : B0 < lo) (h2 : hi ≤ n₀) : AbOff lo hi B (fun (s : β) W => ∃ v, Boxed W B0 t v ∧ W.ownsRow n₀ e size v (k s) (f s)) := by
 rintro s W W' ⟨v, hv, hr⟩ hk
 refine ⟨v, hk.same _ _ hv (by omega) (.inl rfl), hr.1, ?_⟩
 rcases hr.2 with h0 | ⟨g, cap, cur, hgv, hg0, hgb, rest⟩
 ·exact .inl h0
 ·exact .inr ⟨g, cap, cur, hgv, hg0, hk.same _ _ hgb (by omega) (.inl rfl), rest⟩
theorem BMap.off {k : TypeId} {W W' : World} {lo hi B b n : Nat} {f : Lit → Prop} (h : BMap k W b n f) (hk : Off lo hi B W W') (h1 : ¬ (lo ≤ b ∧ b < hi)) (h2 : b < B) : BMap k W' b n f :=
 h.same (by rw [hk.same b _ (Array.getElem?_eq_getElem h.lt) h1 (.inr h2), Array.getElem?_eq_getElem h.lt])
theorem wpListIn_mapUpdate_b {F : Fence} {n : Nat} {P : Program} {ops : Array Oper} {rest : List Oper} {o : Oper} {a : Act} {w : World} {Q : Exit → Act → World → Prop} (hg : o.guard = none) (m x v : Operand) (t : TypeId) (hop : o.op = Op.mapUpdate t m x v) (w' : World)
  (hrun : (Instr.mapUpdate t (a.eval m) (a.eval x) (a.eval v)).run P w = .ok () w') (hK : wpListIn F n P ops Q rest (a.put o.dst undef) w') : wpListIn F n P ops Q (o :: rest) a w := by
 refine wpListIn_plain hg fun K hK' => ⟨fun f hf' => ?_, ?_⟩
 ·unfold Oper.about at hf'
  rw [hop] at hf'
  cases hf'
 ·rw [Oper.semAt_plain F _ _ (by rw [hop]; intro c hc'; cases hc')]
  unfold execOp
  simp only [hop, Sem.run_bind, hrun, Result.andThen_ok]
  exact hK' _ _ hK
theorem ownsRow_mono {W : World} {base base' : Nat} {e : TypeId} {size : Nat} {v : Value} {k : Nat} {xs : List Value} (h : W.ownsRow base e size v k xs) (hb : base' ≤ base) : W.ownsRow base' e size v k xs := by
 refine ⟨h.1, ?_⟩
 rcases h.2 with h0 | ⟨g, cap, cur, rfl, hbg, rest⟩
 ·exact .inl h0
 ·exact .inr ⟨g, cap, cur, rfl, Nat.le_trans hb hbg, rest⟩
theorem ownsRow_form {W : World} {base : Nat} {e : TypeId} {size : Nat} {v : Value} {k : Nat} {xs : List Value} (h : W.ownsRow base e size v k xs) : ∃ p cap, v = .slice p k cap := by
 rcases h.2 with ⟨rfl, h0⟩ | ⟨g, cap, cur, hv, _⟩
 ·exact ⟨none, 0, by rw [h0]⟩
 ·exact ⟨_, _, hv⟩
theorem ownsRow_ge {W : World} {base : Nat} {e : TypeId} {size : Nat} {v : Value} {k : Nat} {xs : List Value} (h : W.ownsRow base e size v k xs) : ∀ j, v.ownBlock = some j → base ≤ j := fun j hj => (World.ownsRow.lt h j hj).1
theorem Blk.grown {W W' : World} {b : Nat} {C : Array Value} {t : TypeId} {row : Option Nat} (h : Blk W b C t) (hg : W.grownBy W' row) (hne : ∀ k, row = some k → b ≠ k) : Blk W' b C t :=
 (hg.block b h.lt (fun e => hne b e.symm rfl)).trans h
theorem BMap.grown {k : TypeId} {W W' : World} {b n : Nat} {f : Lit → Prop} {row : Option Nat} (h : BMap k W b n f) (hg : W.grownBy W' row) (hne : ∀ j, row = some j → b ≠ j) : BMap k W' b n f :=
 h.same (hg.block b h.lt (fun e => hne b e.symm rfl))
def listN (r : Option (List (List UInt8))) : Int := match r with | some _ => 0 | none => 3
def RetLE1 (w : World) (r : Option (List (List UInt8))) (e : Ending) (w' : World) : Prop :=
 ∃ v, e = .returned (.tuple #[v, errV (listN r)]) ∧ StBuf w.heap.size w' v (r.getD []) ∧ Below w.heap.size w w'
theorem list_world (w : World) (s : List UInt8) : ∃ W0, ((((((((w.alloc (.cells #[.slice none 0 0] 22)).alloc (.cells #[.nilIface] 43)).alloc (.cells #[.slice none 0 0] 22)).alloc (.map #[] 0)).alloc (.cells #[.map (some (w.heap.size + 1 + 1 + 1))] 244)).alloc (.cells #[.string (S s)] 9)).alloc (.cells #[.string (S [44])] 9)).alloc (.cells #[.int .i64 0] 3)) = W0 ∧ W0.heap.size = w.heap.size + 8 ∧ Below w.heap.size w W0 ∧ Blk W0 (w.heap.size) #[.slice none 0 0] 22 ∧ Blk W0 (w.heap.size + 1) #[.nilIface] 43 ∧ Blk W0 (w.heap.size + 1 + 1) #[.slice none 0 0] 22 ∧ BMap 9 W0 (w.heap.size + 1 + 1 + 1) 0 (fun _ => False) ∧ Blk W0 (w.heap.size + 1 + 1 + 1 + 1) #[.map (some (w.heap.size + 1 + 1 + 1))] 244 ∧ Blk W0 (w.heap.size + 1 + 1 + 1 + 1 + 1) #[.string (S s)] 9 ∧ Blk W0 (w.heap.size + 1 + 1 + 1 + 1 + 1 + 1) #[.string (S [44])] 9 ∧ Blk W0 (w.heap.size + 1 + 1 + 1 + 1 + 1 + 1 + 1) #[.int .i64 0] 3 := by
 obtain ⟨w1, h1⟩ : ∃ w1, w.alloc (.cells #[.slice none 0 0] 22) = w1 := ⟨_, rfl⟩
 have z1 : w1.heap.size = w.heap.size + 1 := by rw [← h1, World.size_alloc]
 have b1 : Below w.heap.size w w1 := by rw [← h1]; exact (Below.refl _ w).alloc (by omega) _
 have f0_1 : Blk w1 (w.heap.size) #[.slice none 0 0] 22 := by have := Blk.new w #[.slice none 0 0] 22; rw [h1] at this; exact this
 obtain ⟨w2, h2⟩ : ∃ w2, w1.alloc (.cells #[.nilIface] 43) = w2 := ⟨_, rfl⟩
 have z2 : w2.heap.size = w.heap.size + 1 + 1 := by rw [← h2, World.size_alloc, z1]
 have b2 : Below w.heap.size w w2 := by rw [← h2]; exact (b1).alloc (by omega) _
 have f1_2 : Blk w2 (w.heap.size + 1) #[.nilIface] 43 := by have := Blk.new w1 #[.nilIface] 43; rw [h2, z1] at this; exact this
 have f0_2 := f0_1.alloc (.cells #[.nilIface] 43)
 rw [h2] at f0_2
 obtain ⟨w3, h3⟩ : ∃ w3, w2.alloc (.cells #[.slice none 0 0] 22) = w3 := ⟨_, rfl⟩
 have z3 : w3.heap.size = w.heap.size + 1 + 1 + 1 := by rw [← h3, World.size_alloc, z2]
 have b3 : Below w.heap.size w w3 := by rw [← h3]; exact (b2).alloc (by omega) _
 have f2_3 : Blk w3 (w.heap.size + 1 + 1) #[.slice none 0 0] 22 := by have := Blk.new w2 #[.slice none 0 0] 22; rw [h3, z2] at this; exact this
 have f0_3 := f0_2.alloc (.cells #[.slice none 0 0] 22)
 rw [h3] at f0_3
 have f1_3 := f1_2.alloc (.cells #[.slice none 0 0] 22)
 rw [h3] at f1_3
 obtain ⟨w4, h4⟩ : ∃ w4, w3.alloc (.map #[] 0) = w4 := ⟨_, rfl⟩
 have z4 : w4.heap.size = w.heap.size + 1 + 1 + 1 + 1 := by rw [← h4, World.size_alloc, z3]
 have b4 : Below w.heap.size w w4 := by rw [← h4]; exact (b3).alloc (by omega) _
 have f3_4 : BMap 9 w4 (w.heap.size + 1 + 1 + 1) 0 (fun _ => False) := by have := BMap.made 9 w3; rw [h4, z3] at this; exact this
 have f0_4 := f0_3.alloc (.map #[] 0)
 rw [h4] at f0_4
 have f1_4 := f1_3.alloc (.map #[] 0)
 rw [h4] at f1_4
 have f2_4 := f2_3.alloc (.map #[] 0)
 rw [h4] at f2_4
 obtain ⟨w5, h5⟩ : ∃ w5, w4.alloc (.cells #[.map (some (w.heap.size + 1 + 1 + 1))] 244) = w5 := ⟨_, rfl⟩
 have z5 : w5.heap.size = w.heap.size + 1 + 1 + 1 + 1 + 1 := by rw [← h5, World.size_alloc, z4]
 have b5 : Below w.heap.size w w5 := by rw [← h5]; exact (b4).alloc (by omega) _
 have f4_5 : Blk w5 (w.heap.size + 1 + 1 + 1 + 1) #[.map (some (w.heap.size + 1 + 1 + 1))] 244 := by have := Blk.new w4 #[.map (some (w.heap.size + 1 + 1 + 1))] 244; rw [h5, z4] at this; exact this
 have f0_5 := f0_4.alloc (.cells #[.map (some (w.heap.size + 1 + 1 + 1))] 244)
 rw [h5] at f0_5
 have f1_5 := f1_4.alloc (.cells #[.map (some (w.heap.size + 1 + 1 + 1))] 244)
 rw [h5] at f1_5
 have f2_5 := f2_4.alloc (.cells #[.map (some (w.heap.size + 1 + 1 + 1))] 244)
 rw [h5] at f2_5
 have f3_5 := f3_4.alloc (.cells #[.map (some (w.heap.size + 1 + 1 + 1))] 244)
 rw [h5] at f3_5
 obtain ⟨w6, h6⟩ : ∃ w6, w5.alloc (.cells #[.string (S s)] 9) = w6 := ⟨_, rfl⟩
 have z6 : w6.heap.size = w.heap.size + 1 + 1 + 1 + 1 + 1 + 1 := by rw [← h6, World.size_alloc, z5]
 have b6 : Below w.heap.size w w6 := by rw [← h6]; exact (b5).alloc (by omega) _
 have f5_6 : Blk w6 (w.heap.size + 1 + 1 + 1 + 1 + 1) #[.string (S s)] 9 := by have := Blk.new w5 #[.string (S s)] 9; rw [h6, z5] at this; exact this
 have f0_6 := f0_5.alloc (.cells #[.string (S s)] 9)
 rw [h6] at f0_6
 have f1_6 := f1_5.alloc (.cells #[.string (S s)] 9)
 rw [h6] at f1_6
 have f2_6 := f2_5.alloc (.cells #[.string (S s)] 9)
 rw [h6] at f2_6
 have f3_6 := f3_5.alloc (.cells #[.string (S s)] 9)
 rw [h6] at f3_6
 have f4_6 := f4_5.alloc (.cells #[.string (S s)] 9)
 rw [h6] at f4_6
 obtain ⟨w7, h7⟩ : ∃ w7, w6.alloc (.cells #[.string (S [44])] 9) = w7 := ⟨_, rfl⟩
 have z7 : w7.heap.size = w.heap.size + 1 + 1 + 1 + 1 + 1 + 1 + 1 := by rw [← h7, World.size_alloc, z6]
 have b7 : Below w.heap.size w w7 := by rw [← h7]; exact (b6).alloc (by omega) _
 have f6_7 : Blk w7 (w.heap.size + 1 + 1 + 1 + 1 + 1 + 1) #[.string (S [44])] 9 := by have := Blk.new w6 #[.string (S [44])] 9; rw [h7, z6] at this; exact this
 have f0_7 := f0_6.alloc (.cells #[.string (S [44])] 9)
 rw [h7] at f0_7
 have f1_7 := f1_6.alloc (.cells #[.string (S [44])] 9)
 rw [h7] at f1_7
 have f2_7 := f2_6.alloc (.cells #[.string (S [44])] 9)
 rw [h7] at f2_7
 have f3_7 := f3_6.alloc (.cells #[.string (S [44])] 9)
 rw [h7] at f3_7
 have f4_7 := f4_6.alloc (.cells #[.string (S [44])] 9)
 rw [h7] at f4_7
 have f5_7 := f5_6.alloc (.cells #[.string (S [44])] 9)
 rw [h7] at f5_7
 obtain ⟨w8, h8⟩ : ∃ w8, w7.alloc (.cells #[.int .i64 0] 3) = w8 := ⟨_, rfl⟩
 have z8 : w8.heap.size = w.heap.size + 1 + 1 + 1 + 1 + 1 + 1 + 1 + 1 := by rw [← h8, World.size_alloc, z7]
 have b8 : Below w.heap.size w w8 := by rw [← h8]; exact (b7).alloc (by omega) _
 have f7_8 : Blk w8 (w.heap.size + 1 + 1 + 1 + 1 + 1 + 1 + 1) #[.int .i64 0] 3 := by have := Blk.new w7 #[.int .i64 0] 3; rw [h8, z7] at this; exact this
 have f0_8 := f0_7.alloc (.cells #[.int .i64 0] 3)
 rw [h8] at f0_8
 have f1_8 := f1_7.alloc (.cells #[.int .i64 0] 3)
 rw [h8] at f1_8
 have f2_8 := f2_7.alloc (.cells #[.int .i64 0] 3)
 rw [h8] at f2_8
 have f3_8 := f3_7.alloc (.cells #[.int .i64 0] 3)
 rw [h8] at f3_8
 have f4_8 := f4_7.alloc (.cells #[.int .i64 0] 3)
 rw [h8] at f4_8
 have f5_8 := f5_7.alloc (.cells #[.int .i64 0] 3)
 rw [h8] at f5_8
 have f6_8 := f6_7.alloc (.cells #[.int .i64 0] 3)
 rw [h8] at f6_8
 exact ⟨w8, by rw [h1, h2, h3, h4, h5, h6, h7, h8], by omega, b8, f0_8, f1_8, f2_8, f3_8, f4_8, f5_8, f6_8, f7_8⟩
set_option maxRecDepth 100000 in
set_option maxHeartbeats 2000000 in
theorem list_in (s : List UInt8) (w : World) (hl : s.length ≤ 1000) (hm : MaxCell w) :
  CallsIn Fence.wide 6 Tryz.prog 115 #[.string (S s)] w (RetLE1 w (listR s)) := by
 obtain ⟨i0, hi, hz0, hz1, hz2⟩ := infoSt
 have hmm := @run_makeMap Tryz.prog
 refine callsIn_of_wp_marks Tryz.func115 rfl trivial ?_ rfl
 simp only [Tryz.ntmps115, List.size_toArray, List.length_cons, List.length_nil, Nat.reduceAdd, Nat.reduceSub, Array.replicate_succ, Array.replicate_zero, List.push_toArray, List.append_toArray, List.nil_append, List.cons_append]
 gi_wp2_with fail
 refine ⟨trivial, (callsIn_wide.2 (splitSeq_any 44 s _)).mono ?_⟩
 rintro e w' ⟨rfl, rfl⟩
 unfold seqV
 simp only [World.size_alloc]
 clear hmm
 obtain ⟨W0, hW0, hsz, hB0, b0, b1, bL, bM, bP, s0, s1, s2⟩ := list_world w s
 gi_wp2_with fail
 rw [hW0]
 clear hW0
 have hm0 := hm.later hB0
 have hg := hm.lt
 have hsplit := split1_sum 44 s.length s (Nat.le_refl _)
 refine wpIn_rangeFunc_cell rfl (by decide) (gf := 192) rfl trivial (enters_of Tryz.func192 (by kernel_rfl) rfl)
  (splitSeq_stops 5 (by decide) w.heap.size (w.heap.size + 5) 44 s (by omega) W0 s0 s1 s2 hm0 hg (by omega)) (by omega) (by omega) (fun _ => rfl)
  (fun pre W => ((∃ v, Boxed W (w.heap.size + 1 + 1) 22 v ∧ W.ownsRow (w.heap.size + 8) 9 1 v pre.length (strVs pre)) ∧ Blk W w.heap.size #[.slice none 0 0] 22 ∧ Blk W (w.heap.size + 1) #[.nilIface] 43 ∧ Blk W (w.heap.size + 1 + 1 + 1 + 1) #[.map (some (w.heap.size + 1 + 1 + 1))] 244 ∧ BMap 9 W (w.heap.size + 1 + 1 + 1) pre.length (fun x => ∃ y ∈ pre, x = .string y)) ∧ OkL pre ∧ w.heap.size + 8 ≤ W.heap.size ∧ Below w.heap.size w W)
  (fun c pre W => (c = .ret ∧ ¬ OkL pre ∧ Blk W w.heap.size #[.slice none 0 0] 22 ∧ Blk W (w.heap.size + 1) #[.iface 56 (.int .i64 3)] 43) ∧ Below w.heap.size w W)
  (by
   rintro pre W W' ⟨⟨h1, h2, h3, h4, h5⟩, h6, hz, h7⟩ hk
   exact ⟨⟨abOff_own (β := List (List UInt8)) (fun pre => pre.length) (fun pre => strVs pre) (by omega) (by omega) pre W W' h1 hk, h2.off hk (by omega), h3.off hk (by omega), h4.off hk (by omega), h5.off hk (by omega) (by omega)⟩, h6, Nat.le_trans hz hk.size, abOff_below (β := Unit) (by omega) (by omega) (Nat.le_refl _) () W W' h7 hk⟩)
  (by
   rintro c pre W W' ⟨⟨h1, h2, h3, h4⟩, h7⟩ hk
   exact ⟨⟨h1, h2, h3.off hk (by omega), h4.off hk (by omega)⟩, abOff_below (β := Unit) (by omega) (by omega) (Nat.le_refl _) () W W' h7 hk⟩)
  ⟨⟨⟨_, bL, World.ownsRow_nil _ _ _ _⟩, b0, b1, bP, bM.as (fun x => by simp)⟩, okL_nil, by omega, hB0⟩
  (fun x => { tmps := #[.string (S s), undef, .pointer (some ⟨w.heap.size, 0, none⟩), .pointer (some ⟨w.heap.size + 1, 0, none⟩), .pointer (some ⟨w.heap.size + 1 + 1, 0, none⟩), .pointer (some ⟨w.heap.size + 1 + 1 + 1 + 1, 0, none⟩), .string (S x), .map (some (w.heap.size + 1 + 1 + 1)), .string (S s), seqV (w.heap.size + 5), .string (S x), undef, undef, undef, undef, undef, undef, undef, undef, undef, undef, undef, undef, undef, undef, undef], defers := [] })
  ?assign ?body ?done ?stop
 case assign =>
  intro l x W K hK
  gi_wp2
  exact hK
 case body =>
  rintro l pre x W ⟨⟨⟨v, hv, hrow⟩, b0, b1, bP, bM⟩, hok, hz, hB⟩ hpx
  have hpl := hpx.length_le
  rw [List.length_append, List.length_singleton] at hpl
  have hxl : x.length ≤ 1000 := Nat.le_trans (hsplit.1 x (hpx.subset (by simp))) hl
  have hkx := keyW x (by omega)
  have c0 := b0.one
  have f0 := b0.frozen 0
  have c1 := b1.one
  have f1 := b1.frozen 0
  have cP := bP.one
  have cL := hv.cell
  by_cases hx : x = []
  ·subst hx
   gi_wp2_with fail
   refine ⟨((KeepsOthers.setCell _ _ _).trans (KeepsOthers.setCell _ _ _)).from _, ⟨rfl, fun h => h.1 [] (by simp) rfl, ?_, ?_⟩, ?_⟩
   ·exact (b0.set 0 _).other (by omega) _
   ·exact (b1.other (by omega) _).set 0 _
   ·exact (hB.setCell (p := ⟨w.heap.size, 0, none⟩) (Nat.le_refl _) _).setCell (p := ⟨w.heap.size + 1, 0, none⟩) (Nat.le_succ _) _
  ·have hxe : x.isEmpty = false := by cases x with | nil => exact absurd rfl hx | cons _ _ => rfl
   by_cases hmem : x ∈ pre
   ·have hlook := (bM.look keyedS Tryz.underlying244 hkx).1 ⟨x, hmem, rfl⟩
    gi_wp2_with fail
    refine ⟨((KeepsOthers.setCell _ _ _).trans (KeepsOthers.setCell _ _ _)).from _, ⟨rfl, fun h => ?_, ?_, ?_⟩, ?_⟩
    ·exact ((okL_snoc hok).1 h).2 hmem
    ·exact (b0.set 0 _).other (by omega) _
    ·exact (b1.other (by omega) _).set 0 _
    ·exact (hB.setCell (p := ⟨w.heap.size, 0, none⟩) (Nat.le_refl _) _).setCell (p := ⟨w.heap.size + 1, 0, none⟩) (Nat.le_succ _) _
   ·have hlook := (bM.look keyedS Tryz.underlying244 hkx).2 (fun ⟨y, hy, e⟩ => hmem (by cases e; exact hy))
    obtain ⟨wm, hrun, bM', hgm⟩ := bM.put keyedS Tryz.underlying244 (by omega) hkx (by trivial)
    have hgmr : ∀ j, some (w.heap.size + 1 + 1 + 1) = some j → w.heap.size + 1 + 1 + 1 = j := fun j e => Option.some.inj e
    have hvm : Boxed wm (w.heap.size + 1 + 1) 22 v := hv.kept hgm (fun e => by have := Option.some.inj e; omega)
    have hrowm : wm.ownsRow (w.heap.size + 8) 9 1 v pre.length (strVs pre) := hrow.kept hgm (.inr (fun e => by have := ownsRow_ge hrow _ e; omega))
    have b0m := b0.grown hgm (fun k e => by have := hgmr k e; omega)
    have b1m := b1.grown hgm (fun k e => by have := hgmr k e; omega)
    have bPm := bP.grown hgm (fun k e => by have := hgmr k e; omega)
    have cLm := hvm.cell
    have hzm : w.heap.size + 8 ≤ wm.heap.size := Nat.le_trans hz hgm.size
    have K1 : KeptIn w.heap.size (w.heap.size + 5) (w.heap.size + 5 + 3) W wm := (KeptIn.refl _ _ _ _).grown hgm (by omega) (by omega) (fun k e => by have := hgmr k e; omega)
    have F1 : KeepsFrom W0.heap.size W wm := KeepsFrom.of_grownBy hgm (fun j e => by have := hgmr j e; omega)
    have B1 := hB.grown hgm hB.size (fun k e => by have := hgmr k e; omega)
    obtain ⟨HA1, HA2, HA3, HA4, HA5⟩ := appS_sides x wm wm.heap.size pre.length (w.heap.size + 8) rfl (by omega) hzm
    gi_wp2_with (first
     | (gi_at_mapUpdate; refine wpListIn_mapUpdate_b rfl _ _ _ _ rfl wm hrun ?_)
     | (gi_at_builtin; refine wpListIn_append_own _ rfl _ _ 22 rfl (w.heap.size + 8) 9 i0 (.string (S [])) 1 16 Tryz.underlying22 hi hz0 hz1 hz2 rfl (by decide) _ _ _ rfl (hrowm.alloc _) ⟨wm.heap.size, 0, none⟩ 1 1 [.string (S x)] rfl rfl HA1.out HA2.out HA3.out HA4.out HA5.out ?_; intro v' w1 hown' hgrow _; obtain ⟨g', cap', rfl⟩ := ownsRow_succ hown'; obtain ⟨hv1, hv2, hr2, hk2, hb2⟩ := hvm.appended (n₀ := w.heap.size) (by decide) (ownsRow_mono hrowm (by omega)) (by omega) (by omega) (ownsRow_mono hown' (by omega)) hgrow; have hc1 := hv1.cell; have hf1 := hv1.frozen))
    have hrg : ∀ k, v.ownBlock = some k → w.heap.size + 8 ≤ k := ownsRow_ge hrowm
    have K3 := (K1.trans (KeptIn.of_below ((Below.refl _ wm).alloc (Nat.le_refl _) (.cells #[.string (S x)] 9)) (by omega) (by omega))).grown hgrow (by simp; omega) (by simp; omega) (fun k e => by have := hrg k e; omega)
    refine ⟨F1.trans (hk2.from _), K3.trans (KeptIn.set _ _ (by omega) (.inl (by omega))), ⟨⟨_, hv2, ?_⟩, ?_, ?_, ?_, ?_⟩, (okL_snoc hok).2 ⟨hx, hmem⟩, Nat.le_trans hzm hb2.size, B1.trans hb2⟩
    ·have h3 := hown'.kept (grownBy_setCell' w1 (w.heap.size + 1 + 1) (.slice (some ⟨g', 0, none⟩) (pre.length + 1) cap')) (.inr (hv1.not_row (by decide) hown').symm)
     rw [List.length_append, strVs_app]
     exact h3
    ·exact ((b0m.alloc _).grown hgrow (fun k e => by have := hrg k e; omega)).other (by omega) _
    ·exact ((b1m.alloc _).grown hgrow (fun k e => by have := hrg k e; omega)).other (by omega) _
    ·exact ((bPm.alloc _).grown hgrow (fun k e => by have := hrg k e; omega)).other (by omega) _
    ·rw [List.length_append]
     exact (((bM'.alloc _).grown hgrow (fun k e => by have := hrg k e; omega)).same (setCell_heap_other (by omega) _)).as (fun y => ⟨fun h => by
      rcases h with rfl | ⟨z, hz, rfl⟩
      ·exact ⟨x, by simp, rfl⟩
      ·exact ⟨z, List.mem_append_left _ hz, rfl⟩, fun ⟨z, hz, e⟩ => by
      rcases List.mem_append.1 hz with hz | hz
      ·exact .inr ⟨z, hz, e⟩
      ·rw [List.mem_singleton.1 hz] at e; exact .inl e⟩)
 case done =>
  rintro D xs W hD rfl ⟨⟨⟨v, hv, hrow⟩, b0, b1, bP, bM⟩, hok, hz, hB⟩ hK
  have c0 := b0.one
  have f0 := b0.frozen 0
  have c1 := b1.one
  have f1 := b1.frozen 0
  have cL := hv.cell
  obtain ⟨p, cap, rfl⟩ := ownsRow_form hrow
  gi_wp2
  have k1 : KeepsOthers W ((W.setCell ⟨w.heap.size, 0, none⟩ (.slice p (split1 44 s).length cap)).setCell ⟨w.heap.size + 1, 0, none⟩ .nilIface) := (KeepsOthers.setCell _ _ _).trans (KeepsOthers.setCell _ _ _)
  have g1 : Blk ((W.setCell ⟨w.heap.size, 0, none⟩ (.slice p (split1 44 s).length cap)).setCell ⟨w.heap.size + 1, 0, none⟩ .nilIface) w.heap.size #[.slice p (split1 44 s).length cap] 22 := (b0.set 0 _).other (by omega) _
  have g2 : Blk ((W.setCell ⟨w.heap.size, 0, none⟩ (.slice p (split1 44 s).length cap)).setCell ⟨w.heap.size + 1, 0, none⟩ .nilIface) (w.heap.size + 1) #[.nilIface] 43 := (b1.other (by omega) _).set 0 _
  have hb2 := (hB.setCell (p := ⟨w.heap.size, 0, none⟩) (Nat.le_refl _) (.slice p (split1 44 s).length cap)).setCell (p := ⟨w.heap.size + 1, 0, none⟩) (Nat.le_succ _) .nilIface
  have hr1 := hrow.kept (grownBy_setCell' W w.heap.size (.slice p (split1 44 s).length cap)) (.inr (fun e => by have := ownsRow_ge hrow _ e; omega))
  have hr2 := hr1.kept (grownBy_setCell' _ (w.heap.size + 1) .nilIface) (.inr (fun e => by have := ownsRow_ge hr1 _ e; omega))
  have hK' := k1.same D _ hK rfl
  refine ⟨by simp, .inl ⟨_, _, rfl, run_takeDeferred hK', ?_⟩⟩
  have q0 := (g1.put (.deferred none) (show w.heap.size ≠ D by omega)).one
  have q1 := (g2.put (.deferred none) (show w.heap.size + 1 ≠ D by omega)).one
  have hr3 := ownsRow_putObj hr2 (.deferred none) hK' rfl
  have hb3 := hb2.trans (belowK_b (w := w) (Nat.le_refl _) _ D _ (.deferred none) (by omega) hK' rfl rfl)
  refine ⟨.tuple #[.slice p (split1 44 s).length cap, .nilIface], ?_, .slice p (split1 44 s).length cap, ?_, ?_, hb3⟩
  ·clear hr3 hb3 hr2 hr1 hb2 g1 g2 k1 hK' c0 c1 f0 f1 cL
   simp [results, Tryz.results115, go_sem, q0, q1]
  ·unfold listR
   rw [if_pos hok]
   rfl
  ·unfold listR
   rw [if_pos hok]
   exact ownsRow_mono hr3 (by omega)
 case stop =>
  rintro D c pre W hD hp ⟨⟨rfl, hno, b0, b1⟩, hB⟩ hK
  have hnot : listR s = none := by
   unfold listR
   rw [if_neg (fun h => hno (okL_prefix h hp))]
  gi_wp2
  refine ⟨by simp, .inl ⟨_, _, rfl, run_takeDeferred hK, ?_⟩⟩
  have q0 := (b0.put (.deferred none) (show w.heap.size ≠ D by omega)).one
  have q1 := (b1.put (.deferred none) (show w.heap.size + 1 ≠ D by omega)).one
  have hb3 := hB.trans (belowK_b (w := w) (Nat.le_refl _) _ D _ (.deferred none) (by omega) hK rfl rfl)
  refine ⟨.tuple #[.slice none 0 0, .iface 56 (.int .i64 3)], ?_, .slice none 0 0, ?_, ?_, hb3⟩
  ·simp [results, Tryz.results115, go_sem, q0, q1]
  ·rw [hnot]
   rfl
  ·rw [hnot]
   exact World.ownsRow_nil _ _ _ _
theorem list_any (s : List UInt8) (w : World) (hl : s.length ≤ 1000) (hm : MaxCell w) : Calls Tryz.prog 115 #[.string (S s)] w (RetLE1 w (listR s)) :=
 (callsIn_wide (n := 6)).1 (list_in s w hl hm)
end Go.Proofs.YtjbbbpgcegcbaaaGreatDoor
namespace Go.Proofs
open Go.Shelf
def Tryz.lays110_ren : Go.Shelf.Ren := ⟨fun | 110 => 46 | 109 => 76 | n => n, fun | 31 => 22 | 9 => 9 | 4 => 4 | 3 => 3 | 0 => 0 | n => n, fun | n => n⟩
theorem Tryz.lays110 : Go.Proofs.Lays.n110 Tryz.prog Tryz.lays110_ren := {
 mixed := by kernel_rfl
 f109 := Tryz.func76.trans (congrArg some (by kernel_rfl))
 f110 := Tryz.func46.trans (congrArg some (by kernel_rfl))
 t0 := Tryz.underlying0
 a0 := Tryz.isAgg0
 z0 := Tryz.sizeOf0
 v0 := Tryz.zeroValue0
 t3 := Tryz.underlying3
 a3 := Tryz.isAgg3
 z3 := Tryz.sizeOf3
 v3 := Tryz.zeroValue3
 t4 := Tryz.underlying4
 a4 := Tryz.isAgg4
 z4 := Tryz.sizeOf4
 v4 := Tryz.zeroValue4
 t9 := Tryz.underlying9
 a9 := Tryz.isAgg9
 z9 := Tryz.sizeOf9
 v9 := Tryz.zeroValue9
 t31 := Tryz.underlying22
 a31 := Tryz.isAgg22
 z31 := Tryz.sizeOf22
 v31 := Tryz.zeroValue22 }
open Go.Lib in
theorem Tryz.slices_Contains_string (b off n c : Nat) (zs : List ByteArray) (x : ByteArray) (w : World) (hz : n ≤ zs.length) (hbig : n ≤ 9223372036854775807) (hc : ∀ j, j < zs.length → w.cell? ⟨b, off + j, none⟩ = some (.string (zs.getD j ByteArray.empty))) :
  Calls Tryz.prog 46 #[.slice (some ⟨b, off, none⟩) n c, .string x] w fun e w' => e = .returned (.bool (Lib.containsS (zs.take n) x)) ∧ w' = w := Any.slices_Contains_string Tryz.lays110 b off n c zs x w hz hbig hc
open Go.Lib in
theorem Tryz.slices_Contains_string_empty (a : Option Addr) (c : Nat) (x : ByteArray) (w : World) :
  Calls Tryz.prog 46 #[.slice a 0 c, .string x] w fun e w' => e = .returned (.bool false) ∧ w' = w := Any.slices_Contains_string_empty Tryz.lays110 a c x w
end Go.Proofs
namespace Go.Proofs.YtjbbbpgcegcbaaaGreatDoor
open Go.RowKit
theorem containsS_any (l : List (List UInt8)) (v : Value) (x : List UInt8) (w : World) (hv : StrV w v l) (hl : l.length ≤ 140737488355328) :
  Calls Tryz.prog 46 #[v, .string (S x)] w fun e w' => e = .returned (.bool (decide (x ∈ l))) ∧ w = w' := by
 obtain ⟨p, c, rfl, hc⟩ := hv
 cases l with
 | nil =>
  refine (Tryz.slices_Contains_string_empty p c (S x) w).mono ?_
  rintro e w' ⟨rfl, rfl⟩
  exact ⟨by simp, rfl⟩
 | cons y l =>
  obtain ⟨b, o, rfl, hcell⟩ := hc (by simp)
  refine (Tryz.slices_Contains_string b o (y :: l).length c ((y :: l).map S) (S x) w (by simp) (by simp at hl ⊢; omega) (fun j hj => ?_)).mono ?_
  ·have hj' : j < (y :: l).length := by simpa using hj
   rw [hcell j hj', List.getD_eq_getElem?_getD, List.getElem?_map, List.getElem?_eq_getElem hj']
   rfl
  ·rintro e w' ⟨rfl, rfl⟩
   refine ⟨?_, rfl⟩
   have h : Lib.containsS (((y :: l).map S).take (y :: l).length) (S x) = decide (x ∈ y :: l) := by
    rw [List.take_of_length_le (by simp), Bool.eq_iff_iff, Lib.containsS_iff, decide_eq_true_iff, List.mem_map]
    exact ⟨fun ⟨z, hz, e⟩ => by rw [← S_inj e]; exact hz, fun h => ⟨x, h, rfl⟩⟩
   rw [h]
end Go.Proofs.YtjbbbpgcegcbaaaGreatDoor
namespace Go.Proofs.YtjbbbpgcegcbaaaGreatDoor
open Go.RowKit
set_option linter.unusedVariables false
def thrown (why : Int) : Ending := .panicked [{ v := .iface 165 (.int .i64 why), recovered := false }]
theorem needY (why : Int) (w : World) : Calls Tryz.prog 127 #[.bool true, .int .i64 why] w fun e w' => e = .returned (.tuple #[]) ∧ w = w' := by
 go_enter Tryz.func127, Tryz.ntmps127
 go_wp2_with fail
 go_end0
 exact ⟨rfl, rfl⟩
theorem needN (why : Int) (w : World) : Calls Tryz.prog 127 #[.bool false, .int .i64 why] w fun e w' => e = thrown why ∧ w = w' := by
 unfold thrown
 go_enter Tryz.func127, Tryz.ntmps127
 go_wp2_with fail
 exact ⟨rfl, rfl, rfl⟩
theorem field_any (p : Pd) (vv va : Value) (n : List UInt8) (w : World) (hp : PduAt w p vv va) (hm : MaxCell w) (hl : p.h.vs.length ≤ 9223372036854775807) :
  Calls Tryz.prog 58 #[pduV p vv va, .string (S n)] w fun e w' => e = .returned (.int .u64 (hv p.h n : Nat)) ∧ Below w.heap.size w w' := by
 have hb0 := (Below.refl w.heap.size w).alloc (Nat.le_refl _) (.cells (cells6 p vv va) 41)
 have hK := Blk.new w (cells6 p vv va) 41
 have V := value_any p.h vv n _ (hm.later hb0) (hp.v.later hb0) hl
 unfold cells6 at hK hb0 V
 unfold RetNE headV at V
 obtain ⟨k0, k1, k2, k3, k4, k5⟩ := hK.six
 have V := Lib.hid V
 have Hb := Lib.hid hb0
 clear hb0 hK
 unfold pduV
 go_enter Tryz.func58, Tryz.ntmps58
 go_wp2_with fail
 refine V.out.mono ?_
 rintro e w' ⟨ev, rfl, he, hb⟩
 go_wp2_with fail
 go_ret
 exact ⟨rfl, below_then Hb.out hb⟩
theorem holdsL_in (v x : List UInt8) : decide (x ∈ (listR v).getD []) = holdsL v x := by
 unfold holdsL
 cases listR v with
 | none => simp
 | some l => rfl
theorem lhas_any (v x : List UInt8) (w : World) (hl : v.length ≤ 1000) (hm : MaxCell w) :
  Calls Tryz.prog 166 #[.string (S v), .string (S x)] w fun e w' => e = .returned (.bool (holdsL v x)) ∧ Below w.heap.size w w' := by
 have L := list_any v w hl hm
 have hll : ((listR v).getD []).length ≤ 140737488355328 := by
  unfold listR
  split
  ·have := (split1_sum 44 v.length v (Nat.le_refl _)).2
   simp only [Option.getD_some]; omega
  ·simp
 rw [← holdsL_in]
 unfold RetLE1 at L
 generalize (listR v).getD [] = l at L hll ⊢
 have L := Lib.hid L
 have Hl := Lib.hid hll
 clear hm hll
 go_enter Tryz.func166, Tryz.ntmps166
 go_wp2_with fail
 refine L.out.mono ?_
 rintro e w1 ⟨v1, rfl, hs, hb1⟩
 have C := Lib.hid (containsS_any l v1 x w1 hs.strs Hl.out)
 have Hb1 := Lib.hid hb1
 obtain ⟨p1, c1, rfl⟩ := hs.form
 clear hs hb1 L
 go_wp2_with fail
 refine C.out.mono ?_
 rintro e w2 ⟨rfl, rfl⟩
 go_wp2_with fail
 go_ret
 exact ⟨rfl, Hb1.out⟩
section
variable {w : World} {B lb : Nat} {m : LgM} {c : Cf} {d : Dw} {q : Lq}
theorem grd_any (h : LogIn w B lb m c d q) : Calls Tryz.prog 164 #[.pointer (some ⟨lb, 0, none⟩)] w fun e w' => e = .returned (.bool (grdQ c)) ∧ w = w' := by
 have q3 := (pcells h.blk).q3
 obtain ⟨p, k, hf⟩ := h.us.form
 rw [hf] at q3
 unfold grdQ
 clear hf h
 cases hu : c.us with
 | nil =>
  rw [hu] at q3
  simp only [List.length_nil] at q3
  simp only [ne_eq, not_true, decide_false]
  clear hu
  go_enter Tryz.func164, Tryz.ntmps164
  go_wp2_with fail
  go_ret
  exact ⟨rfl, rfl⟩
 | cons u l =>
  rw [hu] at q3
  have h0 : (0 : Int) < ((u :: l).length : Int) := by simp only [List.length_cons]; omega
  have h1 : 0 < (u :: l).length := by simp
  have e : decide (u :: l ≠ []) = true := by simp
  rw [e]
  generalize (u :: l).length = n at q3 h0 h1
  clear hu e
  go_enter Tryz.func164, Tryz.ntmps164
  go_wp2_with fail
  go_ret
  exact ⟨by simp, rfl⟩
theorem disc_any (h : LogIn w B lb m c d q) : Calls Tryz.prog 61 #[.pointer (some ⟨lb, 0, none⟩)] w fun e w' => e = .returned (.bool (dscQ q)) ∧ w = w' := by
 have q18 := (pcells h.blk).q18
 have L := (h.who.look Tryz.underlying93 kSes (by decide)).2
 have e : whoF q kSes = q.wS := by unfold whoF; rw [if_neg (by decide), if_neg (by decide), if_pos rfl]
 rw [e] at L
 unfold dscQ
 generalize q.wS.getD [] = x at L ⊢
 have e2 : decide (x = vDis) = (x == [68, 105, 115, 99, 111, 118, 101, 114, 121]) := by rw [Bool.eq_iff_iff, beq_iff_eq]; exact decide_eq_true_iff
 rw [e2]
 unfold kSes at L
 clear h e e2
 go_enter Tryz.func61, Tryz.ntmps61
 go_wp2_with fail
 go_ret
 exact ⟨rfl, rfl⟩
theorem knw_any (h : LogIn w B lb m c d q) : Calls Tryz.prog 167 #[.pointer (some ⟨lb, 0, none⟩)] w fun e w' => e = .returned (.bool (knwQ c q)) ∧ w = w' := by
 have q18 := (pcells h.blk).q18
 have L := (h.who.look Tryz.underlying93 kCN (by decide)).2
 have e : whoF q kCN = q.wN := by unfold whoF; rw [if_pos rfl]
 rw [e] at L
 have G := Lib.hid (grd_any h)
 unfold knwQ
 generalize q.wN.getD [] = x at L ⊢
 unfold kCN at L
 clear h e
 cases hg : grdQ c with
 | false =>
  rw [hg] at G
  simp only [Bool.not_false, Bool.true_or]
  clear hg
  go_enter Tryz.func167, Tryz.ntmps167
  go_wp2_with fail
  refine G.out.mono ?_
  rintro e w1 ⟨rfl, rfl⟩
  go_wp2_with fail
  go_ret
  exact ⟨rfl, rfl⟩
 | true =>
  rw [hg] at G
  simp only [Bool.not_true, Bool.false_or]
  clear hg
  cases x with
  | nil =>
   simp only [ne_eq, not_true, decide_false]
   go_enter Tryz.func167, Tryz.ntmps167
   go_wp2_with fail
   refine G.out.mono ?_
   rintro e w1 ⟨rfl, rfl⟩
   go_wp2_with fail
   go_ret
   exact ⟨rfl, rfl⟩
  | cons x0 x =>
   have e3 : decide (x0 :: x ≠ []) = true := by simp
   rw [e3]
   clear e3
   go_enter Tryz.func167, Tryz.ntmps167
   go_wp2_with fail
   refine G.out.mono ?_
   rintro e w1 ⟨rfl, rfl⟩
   go_wp2_with fail
   go_ret
   exact ⟨rfl, rfl⟩
end
end Go.Proofs.YtjbbbpgcegcbaaaGreatDoor
namespace Go.Proofs.YtjbbbpgcegcbaaaGreatDoor
open Go.RowKit
def findR (r : Option (List UInt8)) : Value := match r with
 | some v => .tuple #[.string (S v), .bool true]
 | none => .tuple #[.string (S []), .bool false]
set_option maxRecDepth 100000 in
theorem find_prs (l : List Pr) (key : List UInt8) (v : Value) (w : World) (hv : PrsV w v l) (hl : l.length ≤ 140737488355328) :
  Calls Tryz.prog 33 #[v, .string (S key)] w fun e w' => e = .returned (findR (prFind l key)) ∧ Below w.heap.size w w' := by
 obtain ⟨p, c, rfl, _, hc⟩ := hv
 have Hc := Lib.hid hc
 clear hc
 go_enter Tryz.func33, Tryz.ntmps33
 go_wp2_with fail
 go_loopw [10] (fun i wr => ∃ j : Nat, j ≤ l.length ∧ i = .int .i64 j ∧ prFind (l.drop j) key = prFind l key ∧ Below w.heap.size w wr) (fun i _ => l.length - (intOf i).toNat)
 case atStart => exact ⟨0, by omega, rfl, rfl, Below.refl _ _⟩
 case round =>
  obtain ⟨j, hj, rfl, hr, hb⟩ := hrel
  have Hb := Lib.hid hb
  by_cases hlt : j < l.length
  ·obtain ⟨b, o, rfl, hcl⟩ := Hc.out (by omega)
   obtain ⟨h1, h2⟩ := hcl j hlt
   rw [← (bcell hb).1 b (o + j * 2) (block_lt_of_cell (w := w) (a := ⟨b, o + j * 2, none⟩) h1)] at h1
   rw [← (bcell hb).1 b (o + j * 2 + 1) (block_lt_of_cell (w := w) (a := ⟨b, o + j * 2 + 1, none⟩) h2)] at h2
   obtain ⟨a, ha⟩ : ∃ a, l[j] = a := ⟨_, rfl⟩
   rw [List.drop_eq_getElem_cons hlt] at hr
   rw [ha] at h1 h2 hr
   obtain ⟨k, d⟩ := a
   simp only at h1 h2
   have Hb1 := Lib.hid (hb.alloc hb.size (.cells #[.string (S k), .string (S d)] 60))
   have e0 : prFind (⟨k, d⟩ :: l.drop (j + 1)) key = if k = key then some d else prFind (l.drop (j + 1)) key := rfl
   rw [e0] at hr
   have Hr := Lib.hid hr
   clear hr hcl hb ha e0
   by_cases hk : k = key
   ·rw [if_pos hk] at Hr
    subst hk
    go_wp2_with fail
    go_ret2
    rw [← Hr.out]
    exact ⟨rfl, Hb1.out⟩
   ·rw [if_neg hk] at Hr
    have hS : (k == key) = false := by
     rw [beq_eq_false_iff_ne]
     exact hk
    go_wp2_with fail
    go_roundw
    case rel => exact ⟨j + 1, by omega, by go_num, Hr.out, Hb1.out⟩
    case measure => simp [intOf]; omega
  ·obtain rfl : j = l.length := by omega
   have Hr := Lib.hid hr
   clear hr hb
   go_wp2_with fail
   go_ret2
   rw [← Hr.out, List.drop_length]
   exact ⟨rfl, Hb.out⟩
end Go.Proofs.YtjbbbpgcegcbaaaGreatDoor
