/- LA14: several texts in one. -/
import Derived.LoopNIn
import Derived.OwnWalkIn
import Derived.RangeFuncBound
import Derived.RangeFuncCalls
import Derived.RangeFuncLeaves
import Derived.RangeFuncWrites
import Derived.Shelf.Abstract
import Derived.Shelf.RegionOpen
import Derived.Shelf.Strings.Search3
import Derived.Sort.LoopGhostIn
import Derived.TacticsInMore
import Derived.Test.YtjbbbpgcegcbaaaGreatDoorProg
import Derived.Test.YtjbbbpgcegcbaaaGreatDoorLA04
import Derived.Test.YtjbbbpgcegcbaaaGreatDoorLA07
import Derived.Test.YtjbbbpgcegcbaaaGreatDoorLA08
namespace Go.Proofs.YtjbbbpgcegcbaaaGreatDoor
open Go Go.RowKit
structure Off (lo hi B : Nat) (W W' : World) : Prop where
 os : W'.os = W.os
 tape : W'.tape = W.tape
 output : W'.output = W.output
 size : W.heap.size ≤ W'.heap.size
 same : ∀ (k : Nat) (o : Obj), W.heap[k]? = some o → ¬ (lo ≤ k ∧ k < hi) → (o.isCells = true ∨ k < B) → W'.heap[k]? = some o
structure StepI (lo hi : Nat) (W W' : World) : Prop where
 os : W'.os = W.os
 tape : W'.tape = W.tape
 output : W'.output = W.output
 size : W.heap.size ≤ W'.heap.size
 same : ∀ (k : Nat) (o : Obj), W.heap[k]? = some o → ¬ (lo ≤ k ∧ k < hi) → W'.heap[k]? = some o
theorem StepI.off {lo hi : Nat} {W W' : World} (h : StepI lo hi W W') (B : Nat) : Off lo hi B W W' := ⟨h.os, h.tape, h.output, h.size, fun k o hk hn _ => h.same k o hk hn⟩
theorem StepI.of_below {lo hi : Nat} {W W' : World} (h : Below W.heap.size W W') : StepI lo hi W W' :=
 ⟨h.os, h.tape, h.output, h.size, fun k _ hk _ => (h.block k (Array.getElem?_eq_some_iff.1 hk).1).trans hk⟩
theorem StepI.set {lo hi b : Nat} (W : World) (v : Value) (h1 : lo ≤ b) (h2 : b < hi) : StepI lo hi W (W.setCell ⟨b, 0, none⟩ v) :=
 ⟨rfl, rfl, rfl, by simp [World.setCell], fun k _ hk hn => (setCell_heap_other (fun e => hn (by subst e; exact ⟨h1, h2⟩)) v).trans hk⟩
theorem off_put {lo hi B : Nat} {W : World} {l : Nat} {o : Obj} (o' : Obj) (hB : B ≤ l) (hl : W.heap[l]? = some o) (ho : o.isCells = false) : Off lo hi B W (W.putObj l o') := by
 have hg := grownBy_putObj' W l o'
 refine ⟨hg.os, hg.tape, hg.output, hg.size, fun k p hk _ hp => ?_⟩
 by_cases e : k = l
 ·subst e
  rw [hl] at hk
  cases hk
  rcases hp with hp | hp
  ·rw [ho] at hp; cases hp
  ·omega
 ·exact (World.putObj_heap_other e).trans hk
theorem off_alloc (lo hi B : Nat) (W : World) (o : Obj) : Off lo hi B W (W.alloc o) := (StepI.of_below ((Below.refl _ W).alloc (Nat.le_refl _) o)).off B
def AbOff {β : Type} (lo hi B : Nat) (I : β → World → Prop) : Prop := ∀ s W W', I s W → Off lo hi B W W' → I s W'
theorem abOff_below {β : Type} {lo hi B n₀ : Nat} {w₀ : World} (h1 : n₀ ≤ lo) (h2 : n₀ ≤ B) (h3 : n₀ ≤ w₀.heap.size) : AbOff lo hi B (fun (_ : β) W => Below n₀ w₀ W) := fun _ W W' hs hk =>
 hs.trans ⟨hk.os, hk.tape, hk.output, hk.size, fun k hlt => by
  have hlt' : k < W.heap.size := Nat.lt_of_lt_of_le hlt (Nat.le_trans h3 hs.size)
  rw [hk.same k _ (Array.getElem?_eq_getElem hlt') (fun h => absurd h.1 (by omega)) (.inr (by omega)), Array.getElem?_eq_getElem hlt']⟩
theorem Blk.off {W W' : World} {lo hi B b : Nat} {C : Array Value} {t : TypeId} (h : Blk W b C t) (hk : Off lo hi B W W') (hb : ¬ (lo ≤ b ∧ b < hi)) : Blk W' b C t := hk.same b _ h hb (.inl rfl)
structure KeptIn (n₀ lo hi : Nat) (W W' : World) : Prop where
 size : W.heap.size ≤ W'.heap.size
 same : ∀ k, (k < n₀ ∨ (lo ≤ k ∧ k < hi)) → W'.heap[k]? = W.heap[k]?
theorem KeptIn.refl (n₀ lo hi : Nat) (W : World) : KeptIn n₀ lo hi W W := ⟨Nat.le_refl _, fun _ _ => rfl⟩
theorem KeptIn.trans {n₀ lo hi : Nat} {X Y Z : World} (h : KeptIn n₀ lo hi X Y) (k : KeptIn n₀ lo hi Y Z) : KeptIn n₀ lo hi X Z := ⟨Nat.le_trans h.size k.size, fun i h1 => (k.same i h1).trans (h.same i h1)⟩
theorem KeptIn.put {n₀ lo hi : Nat} (W : World) (l : Nat) (o' : Obj) (h0 : n₀ ≤ l) (h : hi ≤ l) : KeptIn n₀ lo hi W (W.putObj l o') := ⟨(grownBy_putObj' W l o').size, fun k h2 => World.putObj_heap_other (by omega)⟩
theorem KeptIn.set {n₀ lo hi b : Nat} (W : World) (v : Value) (h0 : n₀ ≤ b) (h : b < lo ∨ hi ≤ b) : KeptIn n₀ lo hi W (W.setCell ⟨b, 0, none⟩ v) := ⟨by simp [World.setCell], fun k h2 => setCell_heap_other (by omega) v⟩
theorem KeptIn.grown {n₀ lo hi : Nat} {X Y Z : World} (h : KeptIn n₀ lo hi X Y) {row : Option Nat} (hg : Y.grownBy Z row) (h0 : n₀ ≤ Y.heap.size) (h1 : hi ≤ Y.heap.size) (hr : ∀ k, row = some k → n₀ ≤ k ∧ (k < lo ∨ hi ≤ k)) : KeptIn n₀ lo hi X Z :=
 ⟨Nat.le_trans h.size hg.size, fun k hk => (hg.block k (by omega) (fun e => by have := hr k e.symm; omega)).trans (h.same k hk)⟩
theorem KeptIn.of_below {n₀ lo hi : Nat} {W W' : World} (h : Below W.heap.size W W') (h0 : n₀ ≤ W.heap.size) (h1 : hi ≤ W.heap.size) : KeptIn n₀ lo hi W W' := ⟨h.size, fun k hk => h.block k (by omega)⟩
theorem Blk.keptIn {n₀ lo hi : Nat} {W W' : World} {b : Nat} {C : Array Value} {t : TypeId} (h : Blk W b C t) (hk : KeptIn n₀ lo hi W W') (hb : b < n₀ ∨ (lo ≤ b ∧ b < hi)) : Blk W' b C t := (hk.same b hb).trans h
theorem cell_same {W W' : World} {b : Nat} (h : W'.heap[b]? = W.heap[b]?) (i : Nat) : W'.cell? ⟨b, i, none⟩ = W.cell? ⟨b, i, none⟩ := by
 unfold World.cell?
 simp only [h]
def SeqCell {α : Type} (F : Fence) (n : Nat) (P : Program) (g : Nat) (lb : Array Value) (encs : α → Array Value) (n₀ lo hi : Nat) (S Sp : List α → Prop) (w : World) : Prop :=
 ∀ (l : Nat) (J Jx : List α → World → Prop) (W : World), Below w.heap.size w W → (∀ s X Y, J s X → StepI lo hi X Y → J s Y) →
  (∀ pre x W1, J pre W1 → Sp (pre ++ [x]) → YieldAt F (n - 1) P l (encs x) W1 fun e W' =>
   (e = .returned (.bool true) ∧ J (pre ++ [x]) W' ∧ KeptIn n₀ lo hi W1 W') ∨ (e = .returned (.bool false) ∧ Jx (pre ++ [x]) W')) →
  J [] W →
  CallsIn F n P g (#[.func (.yield l) #[] #[]] ++ lb) W fun e W' => (∃ v, e = .returned v) ∧ ((∃ xs, S xs ∧ J xs W') ∨ (∃ pre, Sp pre ∧ Jx pre W'))
def cellPost {α : Type} (n₀ lo hi B : Nat) (I : List α → World → Prop) (Ix : Code → List α → World → Prop) (xs : List α) (W : World) : Exit → Act → World → Prop
 | .normal, _, W' => KeepsFrom B W W' ∧ KeptIn n₀ lo hi W W' ∧ I xs W'
 | .ret, _, W' => KeepsFrom B W W' ∧ Ix .ret xs W'
 | .exit id, _, W' => KeepsFrom B W W' ∧ Ix (.exit id) xs W'
 | .goto t, _, W' => KeepsFrom B W W' ∧ Ix (.goto t) xs W'
 | .panic _, _, _ => False
 | .outgrown, _, _ => False
variable {F : Fence} {n : Nat} {P : Program}
set_option linter.unusedVariables false in
theorem wpIn_rangeFunc_cell {α : Type} {g : Operand} {ps : Array Tmp} {assign body : Code} {Q : Exit → Act → World → Prop} {a : Act} {w : World}
  (hro : F.round = none) (h1 : 1 ≤ n) {gf : Nat} {lb : Array Value} (hg : a.eval g = .func (.func gf) #[] lb) (hFg : F.fn gf) (eg : ∀ args w, (callFunc gf args).run P w = .ok (.enter gf args) w)
  {encs : α → Array Value} {n₀ lo hi : Nat} {S Sp : List α → Prop} (hseq : SeqCell F (n - 1) P gf lb encs n₀ lo hi S Sp w) (hn₀ : n₀ ≤ w.heap.size) (hhi : hi ≤ w.heap.size) (hps : ∀ x, (encs x).size = ps.size)
  (I : List α → World → Prop) (Ix : Code → List α → World → Prop) (hI : AbOff lo hi w.heap.size I) (hIx : ∀ c, AbOff lo hi w.heap.size (Ix c)) (h0 : I [] w) (a₁ : α → Act)
  (hassign : ∀ (l : Nat) (x : α) (W : World) (K : Act → World → Prop), K (a₁ x) W →
   assign.wpIn (F.inRound l) (n - 1 - 1) P (Exit.then K (fun _ _ _ => False)) { tmps := (ps.zip (encs x)).foldl (fun t (p, v) => t.setIfInBounds p v) a.tmps, defers := [] } W)
  (hbody : ∀ (l : Nat) (pre : List α) (x : α) (W : World), I pre W → Sp (pre ++ [x]) → body.wpIn (F.inRound l) (n - 1 - 1) P (cellPost n₀ lo hi w.heap.size I Ix (pre ++ [x]) W) (a₁ x) W)
  (hdone : ∀ (D : Nat) (xs : List α) (W : World), w.heap.size ≤ D → S xs → I xs W → W.heap[D]? = some (.deferred (some [])) → Q .normal { a with defers := { target := .collected D, args := #[] } :: a.defers } W)
  (hstop : ∀ (D : Nat) (c : Code) (pre : List α) (W : World), w.heap.size ≤ D → Sp pre → Ix c pre W → W.heap[D]? = some (.deferred (some [])) → c.wpIn F n P Q { a with defers := { target := .collected D, args := #[] } :: a.defers } W) :
  (Code.rangeFunc g ps assign body).wpIn F n P Q a w := by
 refine wpIn_rangeFunc ?_
 intro fn hfn
 rw [hro]
 obtain ⟨rec, hrec⟩ : ∃ rec : LoopState → Option Code → Loop, rec = fun st pe => { state := st, pending := pe, fn, tmps := a.tmps, params := ps, assign, body, defers := w.heap.size } := ⟨_, rfl⟩
 obtain ⟨W1, hW1⟩ : ∃ W1, (w.alloc (.deferred (some []))).alloc (.loop (rec .ready none)) = W1 := ⟨_, rfl⟩
 have hL1 : W1.heap[w.heap.size + 1]? = some (.loop (rec .ready none)) := by
  rw [← hW1]
  have := World.alloc_heap_new (w.alloc (.deferred (some []))) (.loop (rec .ready none))
  rwa [World.size_alloc] at this
 have hK1 : W1.heap[w.heap.size]? = some (.deferred (some [])) := by
  rw [← hW1]
  exact (Below.heap_alloc _ _ _ (by simp)).trans (World.alloc_heap_new w _)
 have hI1 : I [] W1 := by
  rw [← hW1]
  exact hI _ _ _ (hI _ _ _ h0 (off_alloc _ _ _ _ _)) (off_alloc _ _ _ _ _)
 have hb1 : Below w.heap.size w W1 := by
  rw [← hW1]
  exact ((Below.refl _ w).alloc (Nat.le_refl _) _).alloc (by simp) _
 refine ⟨w.heap.size + 1, [{ target := .collected w.heap.size, args := #[] }], W1, { target := .fn (.func gf) lb, args := #[.func (.yield (w.heap.size + 1)) #[] #[]] }, W1, gf,
  #[.func (.yield (w.heap.size + 1)) #[] #[]] ++ lb, W1, ?_, ?_, ?_, ?_, fun _ => h1, ?_⟩
 ·rw [← hW1, hrec]
  exact run_enterLoop_outer _ _ _ _ _
 ·simp only [resolve, hg]
  simp [go_sem]
 ·intro f' hf'
  simp [Target.leads] at hf'
  subst hf'
  exact hFg
 ·simp [invoke, go_sem, eg]
 ·refine (hseq (w.heap.size + 1)
   (fun pre W => I pre W ∧ W.heap[w.heap.size + 1]? = some (.loop (rec .ready none)) ∧ W.heap[w.heap.size]? = some (.deferred (some [])))
   (fun pre W => ∃ c, Ix c pre W ∧ W.heap[w.heap.size + 1]? = some (.loop (rec .done (some c))) ∧ W.heap[w.heap.size]? = some (.deferred (some [])))
   W1 hb1
   (fun s X Y hs hk => ⟨hI s X Y hs.1 (hk.off _), hk.same _ _ hs.2.1 (by omega), hk.same _ _ hs.2.2 (by omega)⟩)
   ?_ ⟨hI1, hL1, hK1⟩).mono ?_
  ·rintro pre x W ⟨hi', hl, hk⟩ hlen
   have hlt : w.heap.size + 1 < W.heap.size := (Array.getElem?_eq_some_iff.1 hl).1
   have hy := run_yield (P := P) (args := encs x) hl (by rw [hrec]; exact hps x)
   rw [hrec] at hy
   refine ⟨fn, _, assign, body, hy, roundIn_of_wpIn hfn (hassign _ x W _ ⟨_, run_beginRound hl (by rw [hrec]), ?_⟩)⟩
   have hl2 : (W.putObj (w.heap.size + 1) (.loop { rec .ready none with state := .busy })).heap[w.heap.size + 1]? = some (.loop { rec .ready none with state := .busy }) := World.putObj_heap_same hlt
   have hk2 : (W.putObj (w.heap.size + 1) (.loop { rec .ready none with state := .busy })).heap[w.heap.size]? = some (.deferred (some [])) := (World.putObj_heap_other (by omega)).trans hk
   have hw2 : KeptIn n₀ lo hi W (W.putObj (w.heap.size + 1) (.loop { rec .ready none with state := .busy })) := KeptIn.put _ _ _ (by omega) (by omega)
   refine wpIn_mono (hbody _ pre x _ (hI _ _ _ hi' (off_put _ (by omega) hl rfl)) hlen) ?_
   have fin : ∀ (jump : Option Code) (W3 : World), KeepsFrom w.heap.size (W.putObj (w.heap.size + 1) (.loop { rec .ready none with state := .busy })) W3 →
     (Instr.endRound (w.heap.size + 1) jump).run P W3 = .ok (.bool jump.isNone) (W3.putObj (w.heap.size + 1) (.loop (rec (if jump.isNone then .ready else .done) jump))) ∧
     W3.heap[w.heap.size + 1]? = some (.loop { rec .ready none with state := .busy }) ∧
     (W3.putObj (w.heap.size + 1) (.loop (rec (if jump.isNone then .ready else .done) jump))).heap[w.heap.size + 1]? = some (.loop (rec (if jump.isNone then .ready else .done) jump)) ∧
     (W3.putObj (w.heap.size + 1) (.loop (rec (if jump.isNone then .ready else .done) jump))).heap[w.heap.size]? = some (.deferred (some [])) := fun jump W3 hk3 => by
    have hl3 := hk3.same _ _ (by omega) hl2 rfl
    have := run_endRound (P := P) jump hl3
    rw [hrec] at this ⊢
    exact ⟨this, by rw [hrec] at hl3; exact hl3, World.putObj_heap_same (Array.getElem?_eq_some_iff.1 hl3).1, (World.putObj_heap_other (by omega)).trans (hk3.same _ _ (Nat.le_refl _) hk2 rfl)⟩
   rintro e a3 W3 hp
   cases e with
   | normal =>
    obtain ⟨hk3, hkp3, hi3⟩ := hp
    obtain ⟨hr, hl3, hl4, hk4⟩ := fin none W3 hk3
    exact ⟨_, _, hr, .inl ⟨rfl, ⟨hI _ _ _ hi3 (off_put _ (by omega) hl3 rfl), hl4, hk4⟩, (hw2.trans hkp3).trans (KeptIn.put _ _ _ (by omega) (by omega))⟩⟩
   | ret =>
    obtain ⟨hk3, hi3⟩ := hp
    obtain ⟨hr, hl3, hl4, hk4⟩ := fin (some .ret) W3 hk3
    exact ⟨_, _, hr, .inr ⟨rfl, .ret, hIx _ _ _ _ hi3 (off_put _ (by omega) hl3 rfl), hl4, hk4⟩⟩
   | exit id =>
    obtain ⟨hk3, hi3⟩ := hp
    obtain ⟨hr, hl3, hl4, hk4⟩ := fin (some (.exit id)) W3 hk3
    exact ⟨_, _, hr, .inr ⟨rfl, .exit id, hIx _ _ _ _ hi3 (off_put _ (by omega) hl3 rfl), hl4, hk4⟩⟩
   | goto t =>
    obtain ⟨hk3, hi3⟩ := hp
    obtain ⟨hr, hl3, hl4, hk4⟩ := fin (some (.goto t)) W3 hk3
    exact ⟨_, _, hr, .inr ⟨rfl, .goto t, hIx _ _ _ _ hi3 (off_put _ (by omega) hl3 rfl), hl4, hk4⟩⟩
   | panic ch => exact hp.elim
   | outgrown => exact hp.elim
  ·rintro e W2 ⟨⟨v, rfl⟩, (⟨xs, hS, hi', hl, hk⟩ | ⟨pre, hSp, c, hi', hl, hk⟩)⟩
   ·exact ⟨none, _, by have := run_endLoop (P := P) hl (by rw [hrec]; simp); rw [hrec] at this; exact this, hdone _ xs _ (Nat.le_refl _) hS (hI _ _ _ hi' (off_put _ (by omega) hl rfl)) ((World.putObj_heap_other (by omega)).trans hk)⟩
   ·exact ⟨some c, _, by have := run_endLoop (P := P) hl (by rw [hrec]; simp); rw [hrec] at this; exact this, hstop _ c pre _ (Nat.le_refl _) hSp (hIx _ _ _ _ hi' (off_put _ (by omega) hl rfl)) ((World.putObj_heap_other (by omega)).trans hk)⟩
end Go.Proofs.YtjbbbpgcegcbaaaGreatDoor
namespace Go.Proofs
open Go.Shelf
def Tryz.lays143_ren : Go.Shelf.Ren := ⟨fun | 143 => 187 | 219 => 169 | 217 => 141 | 225 => 182 | 224 => 183 | 267 => 184 | 266 => 171 | 314 => 196 | n => n, fun | 9 => 9 | 3 => 3 | 4 => 4 | 5 => 5 | 46 => 132 | 146 => 282 | 51 => 66 | n => n, fun | 1 => 3 | n => n⟩
theorem Tryz.lays143 : Go.Proofs.Lays.n143 Tryz.prog Tryz.lays143_ren := {
 mixed := by kernel_rfl
 f143 := Tryz.func187.trans (congrArg some (by kernel_rfl))
 f217 := Tryz.func141.trans (congrArg some (by kernel_rfl))
 f219 := Tryz.func169.trans (congrArg some (by kernel_rfl))
 f224 := Tryz.func183.trans (congrArg some (by kernel_rfl))
 f225 := Tryz.func182.trans (congrArg some (by kernel_rfl))
 f266 := Tryz.func171.trans (congrArg some (by kernel_rfl))
 f267 := Tryz.func184.trans (congrArg some (by kernel_rfl))
 f314 := Tryz.func196.trans (congrArg some (by kernel_rfl))
 t3 := Tryz.underlying3
 a3 := Tryz.isAgg3
 z3 := Tryz.sizeOf3
 v3 := Tryz.zeroValue3
 t4 := Tryz.underlying4
 a4 := Tryz.isAgg4
 z4 := Tryz.sizeOf4
 v4 := Tryz.zeroValue4
 t5 := Tryz.underlying5
 a5 := Tryz.isAgg5
 z5 := Tryz.sizeOf5
 v5 := Tryz.zeroValue5
 t9 := Tryz.underlying9
 a9 := Tryz.isAgg9
 z9 := Tryz.sizeOf9
 v9 := Tryz.zeroValue9
 t46 := Tryz.underlying132
 a46 := Tryz.isAgg132
 z46 := Tryz.sizeOf132
 v46 := Tryz.zeroValue132
 t51 := Tryz.underlying66
 a51 := Tryz.isAgg66
 z51 := Tryz.sizeOf66
 v51 := Tryz.zeroValue66
 t146 := Tryz.underlying282
 a146 := Tryz.isAgg282
 z146 := Tryz.sizeOf282
 v146 := Tryz.zeroValue282
 g1 := by kernel_rfl }
open Go.RowKit Go.Lib in
theorem Tryz.strings_Index (s sub : ByteArray) (m : Int) (w : World) (hs : s.size < 4294967281) (hm : w.cell? ⟨3, 0, none⟩ = some (.int .i64 m)) :
  Calls Tryz.prog 187 #[.string s, .string sub] w fun e w' => e = .returned (.int .i64 (Lib.index s.data.toList sub.data.toList)) ∧ w' = w := Any.strings_Index Tryz.lays143 s sub m w hs hm
end Go.Proofs
namespace Go.Proofs.YtjbbbpgcegcbaaaGreatDoor
open Go Go.RowKit Go.Shelf
attribute [local go_sem] Oper.semAt_some
theorem MaxCell.same {W W' : World} (h : MaxCell W) (e : W'.heap[3]? = W.heap[3]?) : MaxCell W' := by
 obtain ⟨m, hm⟩ := h
 exact ⟨m, (cell_same e 0).trans hm⟩
theorem MaxCell.lt {W : World} (h : MaxCell W) : 3 < W.heap.size := by
 obtain ⟨m, hm⟩ := h
 exact block_lt_of_cell (w := W) (a := ⟨_, 0, none⟩) hm
theorem idx_any (c : UInt8) (s : List UInt8) (w : World) (hl : s.length ≤ 1000000) (hm : MaxCell w) :
  Calls Tryz.prog 187 #[.string (S s), .string (S [c])] w fun e w' => e = .returned (.int .i64 (match cut1 c s with
   | none => -1
   | some (a, _) => (a.length : Int))) ∧ w = w' := by
 obtain ⟨m, hm⟩ := hm
 have C := Tryz.strings_Index (S s) (S [c]) m w (by rw [S_size]; omega) hm
 have e1 : (S s).data.toList = s := by simp [S]
 have e2 : (S [c]).data.toList = [c] := by simp [S]
 rw [e1, e2, index_one] at C
 refine C.mono ?_
 rintro e w' ⟨rfl, rfl⟩
 refine ⟨?_, rfl⟩
 cases cut1 c s with
 | none => rfl
 | some q => obtain ⟨a, b⟩ := q; rfl
theorem idx_none {c : UInt8} {s : List UInt8} (w : World) (hl : s.length ≤ 1000000) (hm : MaxCell w) (h : cut1 c s = none) :
  Calls Tryz.prog 187 #[.string (S s), .string (S [c])] w fun e w' => e = .returned (.int .i64 (-1)) ∧ w = w' := by
 have C := idx_any c s w hl hm
 rw [h] at C
 exact C
theorem idx_some {c : UInt8} {s a b : List UInt8} (w : World) (hl : s.length ≤ 1000000) (hm : MaxCell w) (h : cut1 c s = some (a, b)) :
  Calls Tryz.prog 187 #[.string (S s), .string (S [c])] w fun e w' => e = .returned (.int .i64 (a.length : Int)) ∧ w = w' := by
 have C := idx_any c s w hl hm
 rw [h] at C
 exact C
set_option maxRecDepth 100000 in
set_option maxHeartbeats 1000000 in
theorem splitSeq1_in (n : Nat) (hn : 1 ≤ n) (l n₀ b : Nat) (c : UInt8) (s : List UInt8) (hl : s.length ≤ 1000000) (J Jx : List (List UInt8) → World → Prop)
  (hJ : ∀ s X Y, J s X → StepI b (b + 3) X Y → J s Y)
  (hY : ∀ pre x W1, J pre W1 → pre ++ [x] <+: split1 c s → YieldAt Fence.wide (n - 1) Tryz.prog l #[.string (S x)] W1 fun e W' =>
   (e = .returned (.bool true) ∧ J (pre ++ [x]) W' ∧ KeptIn n₀ b (b + 3) W1 W') ∨ (e = .returned (.bool false) ∧ Jx (pre ++ [x]) W'))
  (W : World) (hB0 : Blk W b #[.string (S s)] 9) (hB1 : Blk W (b + 1) #[.string (S [c])] 9) (hB2 : Blk W (b + 2) #[.int .i64 0] 3) (hm : MaxCell W) (hg : 3 < n₀) (hnb : n₀ ≤ b) (h0 : J [] W) :
  CallsIn Fence.wide n Tryz.prog 192 #[.func (.yield l) #[] #[], .pointer (some ⟨b + 1, 0, none⟩), .pointer (some ⟨b, 0, none⟩), .pointer (some ⟨b + 2, 0, none⟩)] W fun e W' => (∃ v, e = .returned v) ∧
   ((∃ ys, ys = split1 c s ∧ J ys W') ∨ (∃ pre, pre <+: split1 c s ∧ Jx pre W')) := by
 refine callsIn_of_wp Tryz.func192 rfl trivial ?_ rfl
 simp only [Tryz.ntmps192, List.size_toArray, List.length_cons, List.length_nil, Nat.reduceAdd, Nat.reduceSub, Array.replicate_succ, Array.replicate_zero, List.push_toArray, List.append_toArray, List.nil_append, List.cons_append]
 have q1 := hB1.one
 gi_wp2
 gi_loopg [] s.length (fun g wr => ∃ pre r, split1 c s = pre ++ split1 c r ∧ r.length ≤ g ∧ pre.length + r.length ≤ s.length ∧ Blk wr b #[.string (S r)] 9 ∧ Blk wr (b + 1) #[.string (S [c])] 9 ∧ Blk wr (b + 2) #[.int .i64 0] 3 ∧ MaxCell wr ∧ J pre wr)
 case atStart => exact ⟨[], s, rfl, Nat.le_refl _, by simp, hB0, hB1, hB2, hm, h0⟩
 case round =>
  clear q1
  obtain ⟨pre, r, hsp, hg0, hlen, b0, b1, b2, hmr, hJs⟩ := hrel
  have q0 := b0.one
  have q1 := b1.one
  have q2 := b2.one
  cases h : cut1 c r with
  | none =>
   have C := Lib.hid (idx_none wr (by omega) hmr h)
   rw [split1_none h] at hsp
   obtain ⟨fn, tmps, assign, body, hy, hR⟩ := hY pre r wr hJs (by rw [hsp]; exact List.prefix_refl _)
   have HR := Lib.hid hR
   clear hR hY hJ
   gi_wp2_with fail
   refine ⟨trivial, (callsIn_wide.2 C.out).mono ?_⟩
   rintro e w' ⟨rfl, rfl⟩
   clear C
   gi_wp2_with fail
   refine HR.out.mono ?_
   clear HR hy
   rintro e W3 (⟨rfl, hJ3, hk3⟩ | ⟨rfl, hJx3⟩)
   ·gi_wp2
    go_end0
    exact ⟨⟨_, rfl⟩, .inl ⟨pre ++ [r], hsp.symm, hJ3⟩⟩
   ·gi_wp2
    go_end0
    exact ⟨⟨_, rfl⟩, .inr ⟨pre ++ [r], by rw [hsp]; exact List.prefix_refl _, hJx3⟩⟩
  | some q =>
   obtain ⟨a, r'⟩ := q
   have C := Lib.hid (idx_some wr (by omega) hmr h)
   obtain ⟨hr, hca⟩ := cut1_some h
   have hrl := congrArg List.length hr
   rw [List.length_append, List.length_cons] at hrl
   rw [split1_some h, List.append_cons] at hsp
   obtain ⟨fn, tmps, assign, body, hy, hR⟩ := hY pre a wr hJs (by rw [hsp]; exact List.prefix_append _ _)
   have HJ := Lib.hid hJ
   have HR := Lib.hid hR
   have Hr := Lib.hid hr
   have e1 : List.take a.length r = a := by rw [Hr.out]; simp
   have e2 : List.drop (a.length + 1) r = r' := by rw [Hr.out]; simp
   have l1 : (a.length : Int) ≤ (r.length : Int) := by omega
   have l2 : (a.length : Int) + 1 ≤ (r.length : Int) := by omega
   have l3 : r.length ≤ 1000000 := by omega
   have Hsp := Lib.hid hsp
   have Hrl := Lib.hid hrl
   clear hR hY hr hsp hrl hJ
   gi_wp2_with fail
   refine ⟨trivial, (callsIn_wide.2 C.out).mono ?_⟩
   rintro e w' ⟨rfl, rfl⟩
   clear C
   gi_wp2_with fail
   refine HR.out.mono ?_
   clear HR hy
   rintro e W3 (⟨rfl, hJ3, hk3⟩ | ⟨rfl, hJx3⟩)
   ·have c0 := b0.keptIn hk3 (by omega)
    have c1 := b1.keptIn hk3 (by omega)
    have c2 := b2.keptIn hk3 (by omega)
    have hm3 := hmr.same (hk3.same _ (.inl hg))
    have p0 := c0.one
    have p1 := c1.one
    have p2 := c2.one
    have f0 := c0.frozen 0
    have e3 : List.take (r.length - (a.length + 1)) r' = r' := List.take_of_length_le (by have := Hrl.out; omega)
    have hJ4 := HJ.out _ _ _ hJ3 (StepI.set W3 (.string (S r')) (Nat.le_refl b) (by omega))
    have d0 := c0.set 0 (.string (S r'))
    have d1 := c1.other (b' := b) (i := 0) (by omega) (.string (S r'))
    have d2 := c2.other (b' := b) (i := 0) (by omega) (.string (S r'))
    have hm4 := hm3.same (setCell_heap_other (i := 0) (show 3 ≠ b by omega) (.string (S r')))
    clear hm3 hJ3 hk3 hmr b0 b1 b2 q0 q1 q2
    gi_wp2_with fail
    gi_roundg r'.length
    case measure => have := Hrl.out; omega
    case rel => exact ⟨pre ++ [a], r', Hsp.out, Nat.le_refl _, by have := Hrl.out; simp; omega, d0, d1, d2, hm4, hJ4⟩
   ·gi_wp2
    refine bodyPost_ret (results_none rfl _ _ _) rfl ?_
    exact ⟨⟨_, rfl⟩, .inr ⟨pre ++ [a], by rw [Hsp.out]; exact List.prefix_append _ _, hJx3⟩⟩
theorem splitSeq_stops (n : Nat) (hn : 1 ≤ n) (n₀ b : Nat) (c : UInt8) (s : List UInt8) (hl : s.length ≤ 1000000) (w : World) (hB0 : Blk w b #[.string (S s)] 9) (hB1 : Blk w (b + 1) #[.string (S [c])] 9) (hB2 : Blk w (b + 2) #[.int .i64 0] 3) (hm : MaxCell w) (hg : 3 < n₀) (hnb : n₀ ≤ b) :
  SeqCell Fence.wide n Tryz.prog 192 #[.pointer (some ⟨b + 1, 0, none⟩), .pointer (some ⟨b, 0, none⟩), .pointer (some ⟨b + 2, 0, none⟩)] (fun x : List UInt8 => #[.string (S x)]) n₀ b (b + 3) (fun ys => ys = split1 c s) (fun pre => pre <+: split1 c s) w := fun l J Jx W hW hJ hY h0 =>
 splitSeq1_in n hn l n₀ b c s hl J Jx hJ hY W (hB0.later hW) (hB1.later hW) (hB2.later hW) (hm.later hW) hg hnb h0
def seqV (N : Nat) : Value := .func (.func 192) #[] #[.pointer (some ⟨N + 1, 0, none⟩), .pointer (some ⟨N, 0, none⟩), .pointer (some ⟨N + 2, 0, none⟩)]
theorem splitSeq_any (c : UInt8) (s : List UInt8) (w : World) :
  Calls Tryz.prog 150 #[.string (S s), .string (S [c])] w fun e w' => e = .returned (seqV w.heap.size) ∧ w' = ((w.alloc (.cells #[.string (S s)] 9)).alloc (.cells #[.string (S [c])] 9)).alloc (.cells #[.int .i64 0] 3) := by
 go_enter Tryz.func150, Tryz.ntmps150
 go_wp2
 go_ret
 exact ⟨rfl, rfl⟩
end Go.Proofs.YtjbbbpgcegcbaaaGreatDoor
