/- Several texts in one: The table of keys as cells of a block. No function of the program is walked here.  | ref.known: 11.1's rows, as the reference has them.  | ref.KeyOf: what is known of a key, as the reference has it.  -/
import Derived.Test.YtikcgnalcchlpaaGreatDoorKeyTab
import Derived.Test.YtikcgnalcchlpaaGreatDoorBlk
import Derived.Test.YtikcgnalcchlpaaGreatDoorRows
import Derived.Laws.Tables
import Derived.Great.BuildSlice
import Derived.BigFrame
import Derived.Deep.Cut
import Derived.Test.YtikcgnalcchlpaaGreatDoorKOf
import Derived.LoopN
namespace Go.Proofs.YtikcgnalcchlpaaGreatDoor
open Go.RowKit
theorem flatK_get : ∀ (ks : List Ke) (j : Nat) (hj : j < ks.length) (i : Nat), i < 7 → (ks.flatMap keC).toArray[j * 7 + i]? = (keC ks[j])[i]?
  | [], j, hj, _, _ => by simp at hj
  | k :: ks, j, hj, i, hi => by
    simp only [List.flatMap_cons, List.getElem?_toArray]
    cases j with
    | zero => rw [List.getElem?_append_left (by simp [keC]; omega)]; simp
    | succ j =>
      rw [List.getElem?_append_right (by simp [keC]; omega)]
      have h := flatK_get ks j (by simpa using hj) i hi
      simp only [List.getElem?_toArray] at h
      rw [show (j + 1) * 7 + i - (keC k).length = j * 7 + i from by simp [keC]; omega, h]
      simp
theorem keRows_len : keRows.length = 18 := by kernel_rfl
/-- a block that holds the rows -/
structure KeB (w : World) (b : Nat) (W : World) : Prop where
  blk : Blk W b keRowsC 56
  low : Below w.heap.size w W
theorem KeB.later {w W W' : World} {b : Nat} (h : KeB w b W) (hb : Below W.heap.size W W') : KeB w b W' := ⟨h.blk.later hb, below_then h.low hb⟩
theorem KeB.get {w W : World} {b : Nat} (h : KeB w b W) (j : Nat) (hj : j < keRows.length) :
    W.cell? ⟨b, j * 7, none⟩ = some (.string (S keRows[j].nm)) ∧ W.cell? ⟨b, j * 7 + 1, none⟩ = some (.int .i64 (keRows[j].kd : Int)) ∧ W.cell? ⟨b, j * 7 + 2, none⟩ = some (.int .i64 (keRows[j].lo : Int)) ∧
    W.cell? ⟨b, j * 7 + 3, none⟩ = some (.int .i64 (keRows[j].hi : Int)) ∧ W.cell? ⟨b, j * 7 + 4, none⟩ = some (.string (S keRows[j].df)) ∧ W.cell? ⟨b, j * 7 + 5, none⟩ = some (.bool keRows[j].no) ∧ W.cell? ⟨b, j * 7 + 6, none⟩ = some (.bool keRows[j].lg) := by
  have g := fun i hi => (h.blk.cell (j * 7 + i)).trans (flatK_get keRows j hj i hi)
  exact ⟨g 0 (by decide), g 1 (by decide), g 2 (by decide), g 3 (by decide), g 4 (by decide), g 5 (by decide), g 6 (by decide)⟩
theorem rowOf_at {s : List UInt8} {j : Nat} (hj : j < keRows.length) (hq : ∀ i (hi : i < j), keRows[i].nm ≠ s) (hk : keRows[j].nm = s) : rowOf s = some keRows[j] := by
  refine rowOf_prefix (q := keRows.take j) (k := keRows[j]) ?_ ?_ hk
  · rw [← List.take_succ_eq_append_getElem hj]; exact List.take_prefix _ _
  · intro k hm
    obtain ⟨i, hi, rfl⟩ := List.mem_iff_getElem.1 hm
    rw [List.getElem_take]
    exact hq i (by simp at hi; omega)
theorem rowOf_no {s : List UInt8} (hq : ∀ i (hi : i < keRows.length), keRows[i].nm ≠ s) : rowOf s = none :=
  rowOf_none (fun k hm => by
    obtain ⟨i, hi, rfl⟩ := List.mem_iff_getElem.1 hm
    exact hq i hi)
/-- what ref.KeyOf returns -/
def keyT (s : List UInt8) : Value := match rowOf s with
  | some k => .tuple #[.agg (keC k).toArray, .int .i64 0]
  | none => .tuple #[.agg #[.string (S []), .int .i64 0, .int .i64 0, .int .i64 0, .string (S []), .bool false, .bool false], .int .i64 5]
end Go.Proofs.YtikcgnalcchlpaaGreatDoor
namespace Go.Proofs.YtikcgnalcchlpaaGreatDoor
open Go Go.RowKit
theorem wpList_buildAs {P : Program} {ops : Array Oper} {rest : List Oper} {o : Oper} {a : Act} {w : World} {Q : Exit → Act → World → Prop} (hg : o.guard = none) (t : TypeId) (parts : Array (Nat × Operand)) (ho : o.op = .build t parts)
    (d : Option Tmp) (hd : o.dst = d) (cells : Array Value) (hf : P.built t (parts.map fun (i, x) => (i, a.eval x)).toList = some cells)
    (h : wpList P ops Q rest (a.put d (.agg cells)) w) : wpList P ops Q (o :: rest) a w := by
  subst hd
  exact wpList_build hg t parts ho (by rw [hf]; rfl) (by rw [hf]; exact h)
theorem wpList_moveTo {P : Program} {ops : Array Oper} {rest : List Oper} {o : Oper} {a : Act} {w : World} {Q : Exit → Act → World → Prop} (hg : o.guard = none) (x : Operand) (ho : o.op = .move x)
    (d : Option Tmp) (hd : o.dst = d) (h : wpList P ops Q rest (a.put d (a.eval x)) w) : wpList P ops Q (o :: rest) a w := by
  subst hd
  exact wpList_plain hg fun K hK => BigFrame.wp_move x ho (hK _ _ h)
theorem wpList_buildSliceTo {P : Program} {ops : Array Oper} {rest : List Oper} {o : Oper} {a : Act} {w : World} {Q : Exit → Act → World → Prop} (hg : o.guard = none) (t e : TypeId) (len : Nat) (parts : Array (Nat × Operand)) (ho : o.op = .buildSlice t len parts)
    (d : Option Tmp) (hd : o.dst = d) (cells : Array Value) (hu : P.underlying t = some (.slice e))
    (hf : ((P.info? e).bind fun ie => ie.zero.bind fun z => if 0 < len * ie.size ∧ len * ie.size ≤ 2 ^ 24 then Instr.fill (fun i => some (i * ie.size, ie.size)) ((Array.range (len * ie.size)).map (z.cells[· % z.cells.size]!)) (parts.map fun (i, x) => (i, a.eval x)).toList else none) = some cells)
    (h : wpList P ops Q rest (a.put d (.slice (some ⟨w.heap.size, 0, none⟩) len len)) (w.alloc (.cells cells e))) : wpList P ops Q (o :: rest) a w := by
  subst hd
  cases hie : P.info? e with
  | none => rw [hie] at hf; cases hf
  | some ie =>
    rw [hie, Option.bind_some] at hf
    cases hz : ie.zero with
    | none => rw [hz] at hf; cases hf
    | some z =>
      rw [hz, Option.bind_some] at hf
      split at hf
      · rename_i hc
        exact wpList_buildSlice hg t e len parts ho cells ie z hu hie hz (by omega) (by omega) hf h
      · cases hf
/-- the rows are returned in a block of their own -/
def RetKnown (w : World) (e : Ending) (w' : World) : Prop := ∃ b, e = .returned (.slice (some ⟨b, 0, none⟩) 18 18) ∧ KeB w b w'
set_option maxRecDepth 100000 in
theorem known_any (w : World) : Calls Tryz.prog 37 #[] w (RetKnown w) := by
  have HR := Lib.hid (show RetKnown w (.returned (.slice (some ⟨w.heap.size, 0, none⟩) 18 18)) (w.alloc (.cells keRowsC 56)) from ⟨w.heap.size, rfl, Blk.new w _ _, (Below.refl _ _).alloc (Nat.le_refl _) _⟩)
  go_enter Tryz.func37, Tryz.ntmps37
  go_upto_region 2 with (fail)
  repeat (first | apply wp_block | (apply wp_seq_k; intro _ _) | apply wp_region_lit)
  refine wpList_buildAs rfl 56 _ rfl (some 2) rfl (keC ke0).toArray (by as_aux_lemma => kernel_rfl) ?_
  refine wpList_buildAs rfl 56 _ rfl (some 3) rfl (keC ke1).toArray (by as_aux_lemma => kernel_rfl) ?_
  refine wpList_buildAs rfl 56 _ rfl (some 4) rfl (keC ke2).toArray (by as_aux_lemma => kernel_rfl) ?_
  refine wpList_buildAs rfl 56 _ rfl (some 5) rfl (keC ke3).toArray (by as_aux_lemma => kernel_rfl) ?_
  refine wpList_buildAs rfl 56 _ rfl (some 6) rfl (keC ke4).toArray (by as_aux_lemma => kernel_rfl) ?_
  refine wpList_buildAs rfl 56 _ rfl (some 7) rfl (keC ke5).toArray (by as_aux_lemma => kernel_rfl) ?_
  refine wpList_moveTo rfl _ rfl (some 8) rfl ?_
  refine wpList_buildAs rfl 56 _ rfl (some 9) rfl (keC ke6).toArray (by as_aux_lemma => kernel_rfl) ?_
  refine wpList_moveTo rfl _ rfl (some 10) rfl ?_
  refine wpList_buildAs rfl 56 _ rfl (some 11) rfl (keC ke7).toArray (by as_aux_lemma => kernel_rfl) ?_
  refine wpList_moveTo rfl _ rfl (some 12) rfl ?_
  refine wpList_buildAs rfl 56 _ rfl (some 13) rfl (keC ke8).toArray (by as_aux_lemma => kernel_rfl) ?_
  refine wpList_buildAs rfl 56 _ rfl (some 14) rfl (keC ke9).toArray (by as_aux_lemma => kernel_rfl) ?_
  refine wpList_buildAs rfl 56 _ rfl (some 15) rfl (keC ke10).toArray (by as_aux_lemma => kernel_rfl) ?_
  refine wpList_buildAs rfl 56 _ rfl (some 16) rfl (keC ke11).toArray (by as_aux_lemma => kernel_rfl) ?_
  refine wpList_buildAs rfl 56 _ rfl (some 17) rfl (keC ke12).toArray (by as_aux_lemma => kernel_rfl) ?_
  refine wpList_buildAs rfl 56 _ rfl (some 18) rfl (keC ke13).toArray (by as_aux_lemma => kernel_rfl) ?_
  refine wpList_buildAs rfl 56 _ rfl (some 19) rfl (keC ke14).toArray (by as_aux_lemma => kernel_rfl) ?_
  refine wpList_buildAs rfl 56 _ rfl (some 20) rfl (keC ke15).toArray (by as_aux_lemma => kernel_rfl) ?_
  refine wpList_buildAs rfl 56 _ rfl (some 21) rfl (keC ke16).toArray (by as_aux_lemma => kernel_rfl) ?_
  refine wpList_buildAs rfl 56 _ rfl (some 22) rfl (keC ke17).toArray (by as_aux_lemma => kernel_rfl) ?_
  refine wpList_buildSliceTo rfl 86 56 18 _ rfl (some 23) rfl keRowsC rfl (by as_aux_lemma => kernel_rfl) ?_
  go_wp2_with fail
  go_ret
  exact HR.out
end Go.Proofs.YtikcgnalcchlpaaGreatDoor
namespace Go.Proofs.YtikcgnalcchlpaaGreatDoor
open Go.RowKit
set_option linter.unusedVariables false
def RetKeyT (w : World) (s : List UInt8) (e : Ending) (w' : World) : Prop := e = .returned (keyT s) ∧ Below w.heap.size w w'
theorem seven_put {W : World} {b : Nat} {o0 o1 o2 o3 o4 o5 o6 : Value} {t : TypeId} (x0 x1 x2 x3 x4 x5 x6 : Value) (hR : Blk W b #[o0, o1, o2, o3, o4, o5, o6] t) :
    Blk (((((((W.setCell ⟨b, 0, none⟩ x0).setCell ⟨b, 1, none⟩ x1).setCell ⟨b, 2, none⟩ x2).setCell ⟨b, 3, none⟩ x3).setCell ⟨b, 4, none⟩ x4).setCell ⟨b, 5, none⟩ x5).setCell ⟨b, 6, none⟩ x6) b #[x0, x1, x2, x3, x4, x5, x6] t := by
  have r0 : Blk (W.setCell ⟨b, 0, none⟩ x0) b #[x0, o1, o2, o3, o4, o5, o6] t := hR.set 0 x0
  have r1 : Blk ((W.setCell ⟨b, 0, none⟩ x0).setCell ⟨b, 1, none⟩ x1) b #[x0, x1, o2, o3, o4, o5, o6] t := r0.set 1 x1
  have r2 : Blk (((W.setCell ⟨b, 0, none⟩ x0).setCell ⟨b, 1, none⟩ x1).setCell ⟨b, 2, none⟩ x2) b #[x0, x1, x2, o3, o4, o5, o6] t := r1.set 2 x2
  have r3 : Blk ((((W.setCell ⟨b, 0, none⟩ x0).setCell ⟨b, 1, none⟩ x1).setCell ⟨b, 2, none⟩ x2).setCell ⟨b, 3, none⟩ x3) b #[x0, x1, x2, x3, o4, o5, o6] t := r2.set 3 x3
  have r4 : Blk (((((W.setCell ⟨b, 0, none⟩ x0).setCell ⟨b, 1, none⟩ x1).setCell ⟨b, 2, none⟩ x2).setCell ⟨b, 3, none⟩ x3).setCell ⟨b, 4, none⟩ x4) b #[x0, x1, x2, x3, x4, o5, o6] t := r3.set 4 x4
  have r5 : Blk ((((((W.setCell ⟨b, 0, none⟩ x0).setCell ⟨b, 1, none⟩ x1).setCell ⟨b, 2, none⟩ x2).setCell ⟨b, 3, none⟩ x3).setCell ⟨b, 4, none⟩ x4).setCell ⟨b, 5, none⟩ x5) b #[x0, x1, x2, x3, x4, x5, o6] t := r4.set 5 x5
  have r6 : Blk (((((((W.setCell ⟨b, 0, none⟩ x0).setCell ⟨b, 1, none⟩ x1).setCell ⟨b, 2, none⟩ x2).setCell ⟨b, 3, none⟩ x3).setCell ⟨b, 4, none⟩ x4).setCell ⟨b, 5, none⟩ x5).setCell ⟨b, 6, none⟩ x6) b #[x0, x1, x2, x3, x4, x5, x6] t := r5.set 6 x6
  exact r6
theorem seven_low {N : Nat} {w W : World} {b : Nat} (x0 x1 x2 x3 x4 x5 x6 : Value) (h : Below N w W) (hb : N ≤ b) :
    Below N w (((((((W.setCell ⟨b, 0, none⟩ x0).setCell ⟨b, 1, none⟩ x1).setCell ⟨b, 2, none⟩ x2).setCell ⟨b, 3, none⟩ x3).setCell ⟨b, 4, none⟩ x4).setCell ⟨b, 5, none⟩ x5).setCell ⟨b, 6, none⟩ x6) :=
  ((((((h.setCell (p := ⟨b, 0, none⟩) hb x0).setCell (p := ⟨b, 1, none⟩) hb x1).setCell (p := ⟨b, 2, none⟩) hb x2).setCell (p := ⟨b, 3, none⟩) hb x3).setCell (p := ⟨b, 4, none⟩) hb x4).setCell (p := ⟨b, 5, none⟩) hb x5).setCell (p := ⟨b, 6, none⟩) hb x6
set_option maxRecDepth 100000 in
set_option maxHeartbeats 1000000 in
theorem refKeyOf_any (s : List UInt8) (w : World) : Calls Tryz.prog 21 #[.string (S s)] w (RetKeyT w s) := by
  obtain ⟨W0, hW0⟩ : ∃ W0, w.alloc (.cells #[.string (S []), .int .i64 0, .int .i64 0, .int .i64 0, .string (S []), .bool false, .bool false] 56) = W0 := ⟨_, rfl⟩
  have hR0 : Blk W0 w.heap.size #[.string (S []), .int .i64 0, .int .i64 0, .int .i64 0, .string (S []), .bool false, .bool false] 56 := by rw [← hW0]; exact Blk.new w _ _
  have hb0 : Below w.heap.size w W0 := by rw [← hW0]; exact (Below.refl _ _).alloc (Nat.le_refl _) _
  have HR0 := Lib.hid hR0
  have Hb0 := Lib.hid hb0
  have KA := Lib.hid (known_any W0)
  clear hR0 hb0
  go_enter Tryz.func21, Tryz.ntmps21
  go_wp2_with fail
  refine KA.out.mono ?_
  rintro e w1 ⟨b, rfl, hk⟩
  have HK := Lib.hid hk
  have HR1 := Lib.hid (HR0.out.later hk.low)
  clear hk
  go_wp2_with fail
  go_loopw [8] (fun i wr => ∃ j : Nat, j ≤ 18 ∧ i = .int .i64 j ∧ (∀ i (hi : i < j) (hk : i < keRows.length), keRows[i].nm ≠ s) ∧ KeB W0 b wr ∧ Blk wr w.heap.size #[.string (S []), .int .i64 0, .int .i64 0, .int .i64 0, .string (S []), .bool false, .bool false] 56) (fun i _ => 18 - (intOf i).toNat)
  case atStart => exact ⟨0, by omega, rfl, fun i hi => absurd hi (Nat.not_lt_zero _), HK.out, HR1.out⟩
  case round =>
    obtain ⟨j, hj, rfl, hpre, hkb, hr⟩ := hrel
    have HKB := Lib.hid hkb
    have Hpre := Lib.hid hpre
    have HR := Lib.hid hr
    clear hkb hpre hr
    by_cases hlt : j < 18
    · have hjk : j < keRows.length := by rw [keRows_len]; exact hlt
      have hji : (j : Int) < 18 := by omega
      obtain ⟨q0, q1, q2, q3, q4, q5, q6⟩ := HKB.out.get j hjk
      have hke := fun h => rowOf_at (s := s) hjk (fun i hi => Hpre.out i hi (by rw [keRows_len]; omega)) h
      have hkn := fun (h : keRows[j].nm ≠ s) i (hi : i < j + 1) (hk : i < keRows.length) => (show keRows[i].nm ≠ s from by
        by_cases e : i = j
        · subst e; exact h
        · exact Hpre.out i (by omega) hk)
      obtain ⟨k, hk⟩ : ∃ k, keRows[j] = k := ⟨_, rfl⟩
      rw [hk] at q0 q1 q2 q3 q4 q5 q6 hke hkn
      obtain ⟨w2, hw2⟩ : ∃ w2, wr.alloc (.cells #[.string (S k.nm), .int .i64 (k.kd : Int), .int .i64 (k.lo : Int), .int .i64 (k.hi : Int), .string (S k.df), .bool k.no, .bool k.lg] 56) = w2 := ⟨_, rfl⟩
      have hbn : Below wr.heap.size wr w2 := by rw [← hw2]; exact (Below.refl wr.heap.size wr).alloc (Nat.le_refl _) _
      have hnb : Blk w2 wr.heap.size #[.string (S k.nm), .int .i64 (k.kd : Int), .int .i64 (k.lo : Int), .int .i64 (k.hi : Int), .string (S k.df), .bool k.no, .bool k.lg] 56 := by rw [← hw2]; exact Blk.new wr _ _
      have HKB2 := Lib.hid (HKB.out.later hbn)
      have HR2 := Lib.hid (HR.out.later hbn)
      have Hke := Lib.hid hke
      have Hkn := Lib.hid hkn
      obtain ⟨x0, x1, x2, x3, x4, x5, x6⟩ := hnb.seven
      clear hbn hke hkn hk hjk
      by_cases ho : k.nm = s
      · have hb : (k.nm == s) = true := by simpa using ho
        have hr2 := HR2.out
        obtain ⟨c0, c1, c2, c3, c4, c5, c6⟩ := hr2.seven
        have f0 := hr2.frozen 0
        have f1 := hr2.frozen 1
        have f2 := hr2.frozen 2
        have f3 := hr2.frozen 3
        have f4 := hr2.frozen 4
        have f5 := hr2.frozen 5
        have f6 := hr2.frozen 6
        have HZ := Lib.hid (seven_put (.string (S k.nm)) (.int .i64 (k.kd : Int)) (.int .i64 (k.lo : Int)) (.int .i64 (k.hi : Int)) (.string (S k.df)) (.bool k.no) (.bool k.lg) hr2)
        have HL := Lib.hid (seven_low (.string (S k.nm)) (.int .i64 (k.kd : Int)) (.int .i64 (k.lo : Int)) (.int .i64 (k.hi : Int)) (.string (S k.df)) (.bool k.no) (.bool k.lg) (below_then Hb0.out HKB2.out.low) (Nat.le_refl _))
        have HT := Lib.hid (show keyT s = .tuple #[.agg #[.string (S k.nm), .int .i64 (k.kd : Int), .int .i64 (k.lo : Int), .int .i64 (k.hi : Int), .string (S k.df), .bool k.no, .bool k.lg], .int .i64 0] from by unfold keyT; rw [Hke.out ho]; rfl)
        clear hr2 ho
        go_wp2_with fail
        obtain ⟨z0, z1, z2, z3, z4, z5, z6⟩ := HZ.out.seven
        clear c0 c1 c2 c3 c4 c5 c6 f0 f1 f2 f3 f4 f5 f6 x0 x1 x2 x3 x4 x5 x6 q0 q1 q2 q3 q4 q5 q6 hnb hw2
        refine bodyPost_ret (v := .tuple #[.agg #[.string (S k.nm), .int .i64 (k.kd : Int), .int .i64 (k.lo : Int), .int .i64 (k.hi : Int), .string (S k.df), .bool k.no, .bool k.lg], .int .i64 0]) (by simp [results, Tryz.results21, go_sem, z0, z1, z2, z3, z4, z5, z6]) rfl ?_
        exact ⟨by rw [HT.out], HL.out⟩
      · have hb : (k.nm == s) = false := by simpa using ho
        have Ho := Lib.hid ho
        clear ho
        go_wp2_with fail
        go_roundw
        case rel => exact ⟨j + 1, by omega, by go_num, Hkn.out Ho.out, HKB2.out, HR2.out⟩
        case measure => simp [intOf]; omega
    · have hj18 : j = 18 := by omega
      subst hj18
      have hno := rowOf_no (s := s) (fun i hi => Hpre.out i (by rw [keRows_len] at hi; exact hi) hi)
      have HT := Lib.hid (show keyT s = .tuple #[.agg #[.string (S []), .int .i64 0, .int .i64 0, .int .i64 0, .string (S []), .bool false, .bool false], .int .i64 5] from by unfold keyT; rw [hno])
      have hr2 := HR.out
      obtain ⟨c0, c1, c2, c3, c4, c5, c6⟩ := hr2.seven
      have f0 := hr2.frozen 0
      have f1 := hr2.frozen 1
      have f2 := hr2.frozen 2
      have f3 := hr2.frozen 3
      have f4 := hr2.frozen 4
      have f5 := hr2.frozen 5
      have f6 := hr2.frozen 6
      have HZ := Lib.hid (seven_put (.string (S [])) (.int .i64 0) (.int .i64 0) (.int .i64 0) (.string (S [])) (.bool false) (.bool false) hr2)
      have HL := Lib.hid (seven_low (.string (S [])) (.int .i64 0) (.int .i64 0) (.int .i64 0) (.string (S [])) (.bool false) (.bool false) (below_then Hb0.out HKB.out.low) (Nat.le_refl _))
      clear hr2 hno hlt
      go_wp2_with fail
      obtain ⟨z0, z1, z2, z3, z4, z5, z6⟩ := HZ.out.seven
      clear c0 c1 c2 c3 c4 c5 c6 f0 f1 f2 f3 f4 f5 f6
      refine bodyPost_ret (v := .tuple #[.agg #[.string (S []), .int .i64 0, .int .i64 0, .int .i64 0, .string (S []), .bool false, .bool false], .int .i64 5]) (by simp [results, Tryz.results21, go_sem, z0, z1, z2, z3, z4, z5, z6]) rfl ?_
      exact ⟨by rw [HT.out], HL.out⟩
end Go.Proofs.YtikcgnalcchlpaaGreatDoor
