/- Several texts in one: An error value told by its number and its place.  | A block known whole: its cells, not frozen. No program stands in it.  | Slices of pairs: how they read, and those of the call's own. No function of the program is walked here.  | More plain vocabulary: blocks of bytes in any world.  | Bytes that a call collects in a slice of its own: append from any source, make, read, turn into a string. No program stands in it.  | A world without some blocks: what is said there is said of all others; what keeps all others. No function of the program is walked here.  | Pairs that lie apart from a block of two cells. No function of the program is walked here.  | Pairs, and errors, that lie outside of some blocks, lie there. No function of the program is walked here.  | The cell of internal/bytealg.MaxLen.  | The first pairs of a slice of pairs. No function of the program is walked here.  | An append of a pair to pairs of a call's own: in which block the new ones lie. No function of the program is walked here.  | A call within a region that draws its order, by a contract; an append whose run is told. No program stands in it.  | A region that draws, operation by operation: one that yields is taken at once, one that isn't wanted too; a call by its contract. No program stands in it.  | slices.Clone of pairs.  | slices.Equal of two slices of the same pairs.  | Appends of pairs to pairs of a call's own, by the run equation.  -/
import Derived.Test.YtlcadichpcdgpaaGreatDoorRows
import Derived.Test.YtlcadichpcdgpaaGreatDoorGA
import Derived.RangeFuncNested
import Derived.RangeFuncBound
import Derived.Laws.AppendOwn
import Derived.Laws.OwnMore
import Derived.Deep.RegionHeld3
import Derived.Deep.AppendSrc
import Derived.Laws.MakeOwn
import Derived.StillTailTactics
import Derived.Deep.RegionLaw
import Derived.Shelf.Vars
import Derived.ShapedOpen
import Derived.Lib.AppendZeros
import Derived.BigFrame
import Derived.OrdersHeld
import Derived.Below
import Derived.BigRegion
import Derived.Deep.QuietTactic
import Derived.BigQuiet
import Derived.Lib.SliceRun
import Derived.Laws.StructEq
namespace Go.Proofs.YtlcadichpcdgpaaGreatDoor
open Go.RowKit
/-- the error v, in world W, has this number (0: nil) at this place (-1: none) -/
inductive ErrIs (W : World) : Value → Int → Int → Prop
  | good : ErrIs W .nilIface 0 (-1)
  | bare (n : Int) (hn : n ≠ 0) : ErrIs W (.iface 42 (.int .i64 n)) n (-1)
  | placed (b : Nat) (n p : Int) (hn : n ≠ 0) (h0 : W.cell? ⟨b, 0, none⟩ = some (.int .i64 n)) (h1 : W.cell? ⟨b, 1, none⟩ = some (.int .i64 p)) : ErrIs W (.iface 72 (.pointer (some ⟨b, 0, none⟩))) n p
theorem ErrIs.later {w w' : World} {v : Value} {n p : Int} (h : ErrIs w v n p) (hb : Below w.heap.size w w') : ErrIs w' v n p := by
  cases h with
  | good => exact .good
  | bare _ hn => exact .bare _ hn
  | placed b _ _ hn h0 h1 =>
    have hlt := block_lt_of_cell (w := w) (a := ⟨b, 0, none⟩) h0
    exact .placed b _ _ hn (by rw [(bcell hb).1 b 0 hlt]; exact h0) (by rw [(bcell hb).1 b 1 hlt]; exact h1)
theorem ErrIs.drawn {w : World} {v : Value} {n p : Int} (h : ErrIs w v n p) (k : Nat) : ErrIs (w.drewN k) v n p := by
  cases h with
  | good => exact .good
  | bare _ hn => exact .bare _ hn
  | placed b _ _ hn h0 h1 => exact .placed b _ _ hn h0 h1
theorem ErrIs.zero {w : World} {v : Value} {p : Int} (h : ErrIs w v 0 p) : v = .nilIface := by
  generalize hn : (0 : Int) = n at h
  cases h with
  | good => rfl
  | bare _ h => exact absurd hn.symm h
  | placed _ _ _ h => exact absurd hn.symm h
theorem ErrIs.iface {W : World} {v : Value} {n p : Int} (h : ErrIs W v n p) (hn : n ≠ 0) : ∃ t x, v = .iface t x := by
  cases h with
  | good => exact absurd rfl hn
  | bare => exact ⟨_, _, rfl⟩
  | placed => exact ⟨_, _, rfl⟩
def I64 (n : Int) : Prop := -9223372036854775808 ≤ n ∧ n ≤ 9223372036854775807
/-- an error is returned; memory grows -/
def RetE (w : World) (r : Int × Int) (e : Ending) (w' : World) : Prop := ∃ v, e = .returned v ∧ ErrIs w' v r.1 r.2 ∧ Below w.heap.size w w'
/-- a string and an error are returned; memory grows -/
def RetSE (w : World) (r : List UInt8 × Int × Int) (e : Ending) (w' : World) : Prop :=
  ∃ v, e = .returned (.tuple #[.string (S r.1), v]) ∧ ErrIs w' v r.2.1 r.2.2 ∧ Below w.heap.size w w'
end Go.Proofs.YtlcadichpcdgpaaGreatDoor
namespace Go.Proofs.YtlcadichpcdgpaaGreatDoor
open Go.RowKit
def Blk (W : World) (b : Nat) (C : Array Value) (t : TypeId) : Prop := W.heap[b]? = some (.cells C t (0, 0))
theorem Blk.new (w : World) (C : Array Value) (t : TypeId) : Blk (w.alloc (.cells C t)) w.heap.size C t := World.alloc_heap_new w _
theorem Blk.lt {W : World} {b : Nat} {C : Array Value} {t : TypeId} (h : Blk W b C t) : b < W.heap.size := (Array.getElem?_eq_some_iff.1 h).1
theorem Blk.cell {W : World} {b : Nat} {C : Array Value} {t : TypeId} (h : Blk W b C t) (i : Nat) : W.cell? ⟨b, i, none⟩ = C[i]? := by
  have h' : W.heap[b]? = some (.cells C t (0, 0)) := h
  unfold World.cell?
  simp [h']
theorem Blk.frozen {W : World} {b : Nat} {C : Array Value} {t : TypeId} (h : Blk W b C t) (i : Nat) : W.frozen? ⟨b, i, none⟩ = false := by
  have h' : W.heap[b]? = some (.cells C t (0, 0)) := h
  unfold World.frozen?
  simp [h']
theorem Blk.later {W W' : World} {b : Nat} {C : Array Value} {t : TypeId} (h : Blk W b C t) (hb : Below W.heap.size W W') : Blk W' b C t := (hb.block b h.lt).trans h
theorem Blk.below {B : Nat} {W W' : World} {b : Nat} {C : Array Value} {t : TypeId} (h : Blk W b C t) (hb : Below B W W') (hlt : b < B) : Blk W' b C t := (hb.block b hlt).trans h
theorem Blk.alloc {W : World} {b : Nat} {C : Array Value} {t : TypeId} (h : Blk W b C t) (o : Obj) : Blk (W.alloc o) b C t := h.later ((Below.refl _ _).alloc (Nat.le_refl _) _)
theorem Blk.drew {W : World} {b : Nat} {C : Array Value} {t : TypeId} (h : Blk W b C t) : Blk W.drew b C t := h
theorem Blk.drewN {W : World} {b : Nat} {C : Array Value} {t : TypeId} (h : Blk W b C t) (n : Nat) : Blk (W.drewN n) b C t := h
theorem setCell_heap_same {w : World} {b i : Nat} {C : Array Value} {t : TypeId} {fr : Nat × Nat} (h : w.heap[b]? = some (.cells C t fr)) (v : Value) : (w.setCell ⟨b, i, none⟩ v).heap[b]? = some (.cells (C.setIfInBounds i v) t fr) := by
  have hlt : b < w.heap.size := (Array.getElem?_eq_some_iff.1 h).1
  have hv : w.heap[b] = .cells C t fr := (Array.getElem?_eq_some_iff.1 h).2
  unfold World.setCell
  show (w.heap.modify b _)[b]? = _
  rw [Array.getElem?_eq_getElem (by simpa using hlt), Array.getElem_modify]
  simp [hv]
theorem setCell_heap_other {w : World} {b i k : Nat} (hne : k ≠ b) (v : Value) : (w.setCell ⟨b, i, none⟩ v).heap[k]? = w.heap[k]? := by
  unfold World.setCell
  show (w.heap.modify b _)[k]? = _
  simp [Array.getElem?_modify, Ne.symm hne]
theorem Blk.set {W : World} {b : Nat} {C : Array Value} {t : TypeId} (h : Blk W b C t) (i : Nat) (v : Value) : Blk (W.setCell ⟨b, i, none⟩ v) b (C.setIfInBounds i v) t := setCell_heap_same h v
theorem Blk.other {W : World} {b b' i : Nat} {C : Array Value} {t : TypeId} (h : Blk W b C t) (hne : b ≠ b') (v : Value) : Blk (W.setCell ⟨b', i, none⟩ v) b C t := (setCell_heap_other hne v).trans h
theorem Blk.put {W : World} {b D : Nat} {C : Array Value} {t : TypeId} (h : Blk W b C t) (o : Obj) (hne : b ≠ D) : Blk (W.putObj D o) b C t := (World.putObj_heap_other (fun e => hne e)).trans h
theorem Blk.own {β : Type} (b : Nat) (f : β → Array Value) (t : TypeId) : Own (fun s W => Blk W b (f s) t) := fun s X Y row hs hg hrow => by
  have hs' : X.heap[b]? = some (.cells (f s) t (0, 0)) := hs
  refine (hg.block b (Array.getElem?_eq_some_iff.1 hs').1 (fun e => ?_)).trans hs'
  obtain ⟨o, ho, hc⟩ := hrow b e.symm
  rw [hs'] at ho
  cases ho
  cases hc
theorem own_const {β : Type} (p : β → Prop) : Own (fun s (_ : World) => p s) := fun _ _ _ _ h _ _ => h
theorem Blk.one {W : World} {b : Nat} {x : Value} {t : TypeId} (h : Blk W b #[x] t) : W.cell? ⟨b, 0, none⟩ = some x := h.cell 0
theorem Blk.two {W : World} {b : Nat} {x y : Value} {t : TypeId} (h : Blk W b #[x, y] t) : W.cell? ⟨b, 0, none⟩ = some x ∧ W.cell? ⟨b, 1, none⟩ = some y := ⟨h.cell 0, h.cell 1⟩
theorem Blk.three {W : World} {b : Nat} {x y z : Value} {t : TypeId} (h : Blk W b #[x, y, z] t) : W.cell? ⟨b, 0, none⟩ = some x ∧ W.cell? ⟨b, 1, none⟩ = some y ∧ W.cell? ⟨b, 2, none⟩ = some z := ⟨h.cell 0, h.cell 1, h.cell 2⟩
theorem Blk.four {W : World} {b : Nat} {x y z u : Value} {t : TypeId} (h : Blk W b #[x, y, z, u] t) : W.cell? ⟨b, 0, none⟩ = some x ∧ W.cell? ⟨b, 1, none⟩ = some y ∧ W.cell? ⟨b, 2, none⟩ = some z ∧ W.cell? ⟨b, 3, none⟩ = some u := ⟨h.cell 0, h.cell 1, h.cell 2, h.cell 3⟩
theorem Blk.seven {W : World} {b : Nat} {x0 x1 x2 x3 x4 x5 x6 : Value} {t : TypeId} (h : Blk W b #[x0, x1, x2, x3, x4, x5, x6] t) : W.cell? ⟨b, 0, none⟩ = some x0 ∧ W.cell? ⟨b, 1, none⟩ = some x1 ∧ W.cell? ⟨b, 2, none⟩ = some x2 ∧ W.cell? ⟨b, 3, none⟩ = some x3 ∧ W.cell? ⟨b, 4, none⟩ = some x4 ∧ W.cell? ⟨b, 5, none⟩ = some x5 ∧ W.cell? ⟨b, 6, none⟩ = some x6 :=
  ⟨h.cell 0, h.cell 1, h.cell 2, h.cell 3, h.cell 4, h.cell 5, h.cell 6⟩
end Go.Proofs.YtlcadichpcdgpaaGreatDoor
namespace Go.Proofs.YtlcadichpcdgpaaGreatDoor
open Go.RowKit
/-- the slice value v reads as these pairs in W -/
def PrsV (W : World) (v : Value) (l : List Pr) : Prop := ∃ p c, v = .slice p l.length c ∧ l.length ≤ c ∧ (0 < l.length → ∃ b o, p = some ⟨b, o, none⟩ ∧ ∀ j (hj : j < l.length), W.cell? ⟨b, o + j * 2, none⟩ = some (.string (S l[j].k)) ∧ W.cell? ⟨b, o + j * 2 + 1, none⟩ = some (.string (S l[j].v)))
theorem PrsV.later {W W' : World} {v : Value} {l : List Pr} (h : PrsV W v l) (hb : Below W.heap.size W W') : PrsV W' v l := by
  obtain ⟨p, c, hv, hlc, hc⟩ := h
  refine ⟨p, c, hv, hlc, fun hl => ?_⟩
  obtain ⟨b, o, hp, hcell⟩ := hc hl
  refine ⟨b, o, hp, fun j hj => ?_⟩
  obtain ⟨h1, h2⟩ := hcell j hj
  rw [(bcell hb).1 b (o + j * 2) (block_lt_of_cell (w := W) (a := ⟨b, o + j * 2, none⟩) h1), (bcell hb).1 b (o + j * 2 + 1) (block_lt_of_cell (w := W) (a := ⟨b, o + j * 2 + 1, none⟩) h2)]
  exact ⟨h1, h2⟩
theorem PrsV.drewN {W : World} {v : Value} {l : List Pr} (h : PrsV W v l) (n : Nat) : PrsV (W.drewN n) v l := h
theorem PrsV.nil (W : World) : PrsV W (.slice none 0 0) [] := ⟨none, 0, rfl, Nat.le_refl _, fun h => absurd h (by decide)⟩
theorem PrsV.form {W : World} {v : Value} {l : List Pr} (h : PrsV W v l) : ∃ p c, v = .slice p l.length c := by obtain ⟨p, c, h, _⟩ := h; exact ⟨p, c, h⟩
theorem PrsV.cell {W : World} {p : Option Addr} {c : Nat} {l : List Pr} (h : PrsV W (.slice p l.length c) l) {j : Nat} (hj : j < l.length) : ∃ b o, p = some ⟨b, o, none⟩ ∧ W.cell? ⟨b, o + j * 2, none⟩ = some (.string (S l[j].k)) ∧ W.cell? ⟨b, o + j * 2 + 1, none⟩ = some (.string (S l[j].v)) := by
  obtain ⟨p0, c0, hv, _, hc⟩ := h
  obtain ⟨rfl, rfl⟩ : p = p0 ∧ c = c0 := by simpa using hv
  obtain ⟨b, o, rfl, hcell⟩ := hc (by omega)
  exact ⟨b, o, rfl, hcell j hj⟩
/-- all that they have is no more than memory has -/
def fitPs (l : List Pr) : Prop := l.length ≤ 140737488355328 ∧ ∀ p ∈ l, p.k.length ≤ 140737488355328 ∧ p.v.length ≤ 140737488355328
/-- pairs that a call collects in a slice of its own -/
def prsVs (l : List Pr) : List Value := l.flatMap fun p => [.string (S p.k), .string (S p.v)]
theorem prsVs_len : ∀ l : List Pr, (prsVs l).length = l.length * 2
  | [] => rfl
  | a :: l => by
    have := prsVs_len l
    unfold prsVs at *
    simp only [List.flatMap_cons, List.length_append, List.length_cons, List.length_nil] at *
    omega
theorem prsVs_app (l m : List Pr) : prsVs (l ++ m) = prsVs l ++ prsVs m := by simp [prsVs]
theorem prsVs_one (l : List Pr) : ∀ u ∈ prsVs l, u.oneCell' = true := by
  intro u hu
  unfold prsVs at hu
  obtain ⟨a, _, h⟩ := List.mem_flatMap.1 hu
  rcases List.mem_cons.1 h with rfl | h
  · rfl
  · rw [List.mem_singleton.1 h]; rfl
theorem prsVs_get : ∀ (l : List Pr) (j : Nat) (hj : j < l.length), (prsVs l)[j * 2]? = some (.string (S l[j].k)) ∧ (prsVs l)[j * 2 + 1]? = some (.string (S l[j].v))
  | [], j, hj => by simp at hj
  | a :: l, 0, _ => ⟨rfl, rfl⟩
  | a :: l, j + 1, hj => by
    obtain ⟨h1, h2⟩ := prsVs_get l j (by simpa using hj)
    have e : prsVs (a :: l) = .string (S a.k) :: .string (S a.v) :: prsVs l := rfl
    rw [e, show (j + 1) * 2 = j * 2 + 1 + 1 by omega, List.getElem?_cons_succ, List.getElem?_cons_succ, h1, show j * 2 + 1 + 1 + 1 = (j * 2 + 1) + 1 + 1 by omega, List.getElem?_cons_succ, List.getElem?_cons_succ, h2]
    exact ⟨rfl, rfl⟩
def PrBuf (base : Nat) (W : World) (v : Value) (l : List Pr) : Prop := W.ownsRow base 40 2 v l.length (prsVs l)
theorem PrBuf.nil (base : Nat) (W : World) : PrBuf base W (.slice none 0 0) [] := World.ownsRow_nil W base 40 2
theorem PrBuf.alloc {base : Nat} {W : World} {v : Value} {l : List Pr} (h : PrBuf base W v l) (o : Obj) : PrBuf base (W.alloc o) v l := World.ownsRow.alloc h o
theorem PrBuf.drew {base : Nat} {W : World} {v : Value} {l : List Pr} (h : PrBuf base W v l) : PrBuf base W.drew v l := h
theorem PrBuf.drewN {base : Nat} {W : World} {v : Value} {l : List Pr} (h : PrBuf base W v l) (n : Nat) : PrBuf base (W.drewN n) v l := h
theorem PrBuf.later {base : Nat} {W W' : World} {v : Value} {l : List Pr} (h : PrBuf base W v l) (hb : Below W.heap.size W W') : PrBuf base W' v l := by
  refine World.ownsRow.kept (row := none) h ⟨hb.os, hb.tape, hb.output, hb.size, fun k hk _ => hb.block k hk⟩ ?_
  cases hv : v.ownBlock with
  | none => exact .inl rfl
  | some k => exact .inr (by simp)
theorem PrBuf.form {base : Nat} {W : World} {v : Value} {l : List Pr} (h : PrBuf base W v l) : ∃ p cap, v = .slice p l.length cap := by
  rcases h.2 with ⟨rfl, h0⟩ | ⟨g, cap, cur, hv, _⟩
  · exact ⟨none, 0, by rw [h0]⟩
  · exact ⟨_, _, hv⟩
theorem PrBuf.prs {base : Nat} {W : World} {v : Value} {l : List Pr} (h : PrBuf base W v l) : PrsV W v l := by
  rcases h.2 with ⟨rfl, h0⟩ | ⟨g, cap, cur, rfl, hbg, hg, hnc, hcm, hcs, htake⟩
  · obtain rfl : l = [] := List.eq_nil_of_length_eq_zero h0
    exact PrsV.nil W
  · refine ⟨_, _, rfl, hnc, fun _ => ⟨g, 0, rfl, fun j hj => ?_⟩⟩
    obtain ⟨g1, g2⟩ := prsVs_get l j hj
    have h1 := World.ownsRow.cells h (g := g) rfl (j * 2) _ g1
    have h2 := World.ownsRow.cells h (g := g) rfl (j * 2 + 1) _ g2
    have e1 : (⟨g, 0, none⟩ : Addr).add (j * 2) = ⟨g, 0 + j * 2, none⟩ := by simp only [Addr.add]; split <;> simp_all
    have e2 : (⟨g, 0, none⟩ : Addr).add (j * 2 + 1) = ⟨g, 0 + j * 2 + 1, none⟩ := by simp only [Addr.add]; split <;> simp_all <;> omega
    rw [e1] at h1
    rw [e2] at h2
    exact ⟨h1, h2⟩
theorem PrBuf.ne {base : Nat} {W : World} {v : Value} {l : List Pr} (h : PrBuf base W v l) {b : Nat} (hb : W.heap.size ≤ b) : ∀ k, v.ownBlock = some k → b ≠ k := fun k hk => by
  have := (World.ownsRow.lt h k hk).2
  omega
theorem PrBuf.ge {base : Nat} {W : World} {v : Value} {l : List Pr} (h : PrBuf base W v l) : ∀ k, v.ownBlock = some k → base ≤ k := fun k hk => (World.ownsRow.lt h k hk).1
theorem Blk.grownP {W W' : World} {b : Nat} {C : Array Value} {t : TypeId} {row : Option Nat} (h : Blk W b C t) (hg : W.grownBy W' row) (hne : ∀ k, row = some k → b ≠ k) : Blk W' b C t :=
  (hg.block b h.lt (fun e => hne b e.symm rfl)).trans h
theorem infoPr : ∃ i, Tryz.prog.info? 40 = some i ∧ i.zero = some (.agg #[.string (S []), .string (S [])]) ∧ i.size = 2 ∧ i.bytes = 32 := info_parts (show (Tryz.prog.info? 40).map (fun i => (i.zero, i.size, i.bytes)) = some (some (.agg #[.string (S []), .string (S [])]), 2, 32) by kernel_rfl)
/-- what an append of one pair asks -/
theorem appP_sides (k v : List UInt8) (wu : World) (N n base : Nat) (hN : wu.heap.size = N) (hn : n ≤ 5000) (hb : base ≤ N) :
    Hid (∀ j u, ([.string (S k), .string (S v)] : List Value)[j]? = some u → (wu.alloc (.cells #[.string (S k), .string (S v)] 40)).cell? ((⟨N, 0, none⟩ : Addr).add j) = some u) ∧ Hid (∀ u ∈ ([.string (S k), .string (S v)] : List Value), u.oneCell' = true) ∧ Hid (n + 1 ≤ maxLen) ∧ Hid ((n + 1) * 32 ≤ 140737488355328) ∧ Hid (base ≤ (wu.alloc (.cells #[.string (S k), .string (S v)] 40)).heap.size) := by
  subst hN
  refine ⟨Lib.hid ?_, Lib.hid ?_, Lib.hid (by unfold maxLen; omega), Lib.hid (by omega), Lib.hid (by simp; omega)⟩
  · intro j u h
    have hb := (Blk.new wu #[.string (S k), .string (S v)] 40).cell j
    have e1 : (⟨wu.heap.size, 0, none⟩ : Addr).add j = ⟨wu.heap.size, j, none⟩ := by simp only [Addr.add]; split <;> simp_all
    rw [e1, hb]
    simpa using h
  · exact prsVs_one [⟨k, v⟩]
/-- a literal of pairs in a new block -/
theorem prs_new (w : World) (l : List Pr) (t : TypeId) : PrsV (w.alloc (.cells (prsVs l).toArray t)) (.slice (some ⟨w.heap.size, 0, none⟩) l.length l.length) l :=
  ⟨_, _, rfl, Nat.le_refl _, fun _ => ⟨w.heap.size, 0, rfl, fun j hj => by
    obtain ⟨g1, g2⟩ := prsVs_get l j hj
    have hb := Blk.new w (prsVs l).toArray t
    rw [hb.cell, hb.cell]
    simp only [Nat.zero_add, List.getElem?_toArray]
    exact ⟨g1, g2⟩⟩⟩
/-- pairs and an error are returned; memory grows -/
def RetPE (w : World) (r : List Pr × Int × Int) (e : Ending) (w' : World) : Prop := ∃ v ev, e = .returned (.tuple #[v, ev]) ∧ PrsV w' v r.1 ∧ ErrIs w' ev r.2.1 r.2.2 ∧ Below w.heap.size w w'
/-- pairs and a fault are returned -/
def RetPF (w : World) (r : List Pr × Int × Int) (e : Ending) (w' : World) : Prop := ∃ v, e = .returned (.tuple #[v, .agg #[.int .i64 r.2.1, .int .i64 r.2.2]]) ∧ PrsV w' v r.1 ∧ Below w.heap.size w w'
end Go.Proofs.YtlcadichpcdgpaaGreatDoor
namespace Go.Proofs.YtlcadichpcdgpaaGreatDoor
open Go.RowKit
/-- block b holds these bytes -/
def BytesAt (W : World) (b : Nat) (l : List UInt8) : Prop := ∀ j, W.cell? ⟨b, j, none⟩ = (cells8 l)[j]?
theorem bytesAt_new (w : World) (l : List UInt8) (t : TypeId) (fr : Nat × Nat) : BytesAt (w.alloc (.cells (cells8 l) t fr)) w.heap.size l := fun j => World.cell?_alloc_mark w _ t fr j
theorem bytesAt_drew {W : World} {b : Nat} {l : List UInt8} (h : BytesAt W b l) : BytesAt W.drew b l := h
theorem bytesAt_drewN {W : World} {b : Nat} {l : List UInt8} (h : BytesAt W b l) (n : Nat) : BytesAt (W.drewN n) b l := h
theorem bytesAt_later {W W' : World} {b : Nat} {l : List UInt8} (h : BytesAt W b l) (hb : Below W.heap.size W W') (hlt : b < W.heap.size) : BytesAt W' b l := fun j => by
  rw [(bcell hb).1 b j hlt]; exact h j
theorem bytesAt_get {W : World} {b : Nat} {l : List UInt8} (h : BytesAt W b l) (j : Nat) (hj : j < l.length) : W.cell? ⟨b, j, none⟩ = some (.int .u8 (l[j].toNat : Int)) := by
  rw [h j, cells8_get l j hj]
theorem run_string_cells {P : Program} (src dst e : TypeId) (hs : P.underlying src = some (.slice e)) (he : P.underlying e = some (.int .u8)) (hd : P.underlying dst = some .string)
    {W : World} {b : Nat} {l : List UInt8} (h : BytesAt W b l) (n c : Nat) (hn : n ≤ l.length) :
    (convert src dst (.slice (some ⟨b, 0, none⟩) n c)).run P W = .ok (.string (S (l.take n))) W := by
  have hl : (l.take n).length = n := by simp; omega
  have h := run_convert_bytes_back (P := P) W src dst e ⟨b, 0, none⟩ c (l.take n) hs he hd (fun j hj => by
    have hj' : j < l.length := by omega
    have e1 : (⟨b, 0, none⟩ : Addr).add j = ⟨b, j, none⟩ := by simp [Addr.add]; omega
    rw [e1, bytesAt_get h j hj']
    simp [List.getElem_take])
  rw [hl] at h
  exact h
end Go.Proofs.YtlcadichpcdgpaaGreatDoor
namespace Go.Proofs.YtlcadichpcdgpaaGreatDoor
open Go.RowKit
def byteV (b : UInt8) : Value := .int .u8 (b.toNat : Int)
def bytesV (l : List UInt8) : List Value := l.map byteV
theorem bytesV_len (l : List UInt8) : (bytesV l).length = l.length := by simp [bytesV]
theorem bytesV_app (a b : List UInt8) : bytesV (a ++ b) = bytesV a ++ bytesV b := by simp [bytesV]
theorem bytesV_one (l : List UInt8) : ∀ u ∈ bytesV l, u.oneCell' = true := fun u hu => by
  simp [bytesV] at hu; obtain ⟨b, _, rfl⟩ := hu; rfl
theorem bytesV_cells (l : List UInt8) : (cells8 l).toList = bytesV l := by simp [cells8, bytesV, byteV]
/-- the slice v holds these bytes, in a block from base on -/
def Buf (E : TypeId) (base : Nat) (W : World) (v : Value) (l : List UInt8) : Prop := W.ownsRow base E 1 v l.length (bytesV l)
theorem buf_nil (E : TypeId) (base : Nat) (W : World) : Buf E base W (.slice none 0 0) [] := World.ownsRow_nil W base E 1
theorem Buf.alloc {E : TypeId} {base : Nat} {W : World} {v : Value} {l : List UInt8} (h : Buf E base W v l) (o : Obj) : Buf E base (W.alloc o) v l := World.ownsRow.alloc h o
theorem Buf.drew {E : TypeId} {base : Nat} {W : World} {v : Value} {l : List UInt8} (h : Buf E base W v l) : Buf E base W.drew v l := h
theorem Buf.drewN {E : TypeId} {base : Nat} {W : World} {v : Value} {l : List UInt8} (h : Buf E base W v l) (n : Nat) : Buf E base (W.drewN n) v l := h
theorem Buf.later {E : TypeId} {base : Nat} {W W' : World} {v : Value} {l : List UInt8} (h : Buf E base W v l) (hb : Below W.heap.size W W') : Buf E base W' v l := by
  refine World.ownsRow.kept (row := none) h ⟨hb.os, hb.tape, hb.output, hb.size, fun k hk _ => hb.block k hk⟩ ?_
  cases hv : v.ownBlock with
  | none => exact .inl rfl
  | some k => exact .inr (by simp)
theorem Buf.form {E : TypeId} {base : Nat} {W : World} {v : Value} {l : List UInt8} (h : Buf E base W v l) : ∃ p cap, v = .slice p l.length cap := by
  rcases h.2 with ⟨rfl, h0⟩ | ⟨g, cap, cur, hv, _⟩
  · exact ⟨none, 0, by rw [h0]⟩
  · exact ⟨_, _, hv⟩
theorem run_string_buf {P : Program} (src dst e : TypeId) (hs : P.underlying src = some (.slice e)) (he : P.underlying e = some (.int .u8)) (hd : P.underlying dst = some .string)
    {E : TypeId} {base : Nat} {W : World} {v : Value} {l : List UInt8} (h : Buf E base W v l) : (convert src dst v).run P W = .ok (.string (S l)) W := by
  rcases h.2 with ⟨rfl, h0⟩ | ⟨g, cap, cur, rfl, hbg, hg, hnc, hcm, hcs, htake⟩
  · have : l = [] := List.eq_nil_of_length_eq_zero h0
    subst this
    have hn := run_convert_bytes_nil (P := P) W src e hs he 0 0
    have hc := run_convert_bytes_back (P := P) W src dst e ⟨0, 0, none⟩ 0 [] hs he hd (fun j hj => absurd hj (by simp))
    simp [convert, run_underlying hs, run_underlying he, run_underlying hd] at hn hc ⊢
    first | exact hn | exact hc | rfl
  · exact run_convert_bytes_back (P := P) W src dst e ⟨g, 0, none⟩ cap l hs he hd (fun j hj => by
      have h2 := World.ownsRow.cells h (g := g) rfl j (byteV l[j]) (by simp [bytesV, List.getElem?_eq_getElem hj])
      exact h2)
theorem run_append_buf {P : Program} (w : World) (t tx ty e : TypeId) (i : TypeInfo) (ht : P.underlying t = some (.slice e)) (hi : P.info? e = some i) (hz : i.zero = some (.int .u8 0)) (hsize : i.size = 1) (hby : i.bytes = 1)
    (base : Nat) (hbase : base ≤ w.heap.size) (v : Value) (l : List UInt8) (hbuf : Buf e base w v l) (x : Value) (news : List UInt8) (hsrc : Src P 1 tx x news.length (bytesV news) w)
    (hlen : l.length + news.length ≤ 140737488355328) :
    ∃ v' w', (Builtin.append_ #[t, tx] ty #[v, x]).run P w = .ok v' w' ∧ Buf e base w' v' (l ++ news) ∧ w.grownBy w' v.ownBlock ∧ Below base w w' ∧ w.heap.size ≤ w'.heap.size := by
  have hm : maxLen = 9223372036854775807 := rfl
  have hlenV : (bytesV (l ++ news)).length = (l ++ news).length * 1 := by rw [bytesV_len]; omega
  have grown : ∀ (old : Nat), old < l.length + news.length → ∀ (row : Option Nat),
      Buf e base (w.drew.alloc (.cells ((bytesV l ++ bytesV news).toArray ++ Builtin.zeroCells (Value.int .u8 0).cells (grownCap w (l.length + news.length) old e - (l.length + news.length))) e))
        (.slice (some ⟨w.heap.size, 0, none⟩) (l.length + news.length) (grownCap w (l.length + news.length) old e)) (l ++ news) ∧
      w.grownBy (w.drew.alloc (.cells ((bytesV l ++ bytesV news).toArray ++ Builtin.zeroCells (Value.int .u8 0).cells (grownCap w (l.length + news.length) old e - (l.length + news.length))) e)) row := by
    intro old ho row
    have hge := grownCap_ge w (l.length + news.length) old e
    have hcm : grownCap w (l.length + news.length) old e ≤ maxLen := grownCap_le_maxLen w (l.length + news.length) old e (by omega)
    refine ⟨⟨hlenV, .inr ⟨w.heap.size, _, _, by rw [List.length_append], hbase, heap_alloc_new w.drew _, by rw [List.length_append]; exact hge, hcm, ?_, ?_⟩⟩, ⟨rfl, rfl, rfl, by simp, fun k hk _ => heap_alloc_old w.drew _ hk⟩⟩
    · simp only [Array.size_append, List.size_toArray, size_zeroCells, List.length_append, bytesV_len]
      have : (Value.int .u8 0).cells.size = 1 := rfl
      rw [this]; omega
    · simp only [Array.toList_append]
      rw [← bytesV_app, ← hlenV]
      exact List.take_left
  have below : ∀ w' : World, w.grownBy w' v.ownBlock → Below base w w' := fun w' hg =>
    (Below.refl _ _).grown hg hbase (fun k hk => (World.ownsRow.lt hbuf k hk).1)
  have fin : ∀ v' w', (Builtin.append_ #[t, tx] ty #[v, x]).run P w = .ok v' w' → Buf e base w' v' (l ++ news) → w.grownBy w' v.ownBlock →
      ∃ v' w', (Builtin.append_ #[t, tx] ty #[v, x]).run P w = .ok v' w' ∧ Buf e base w' v' (l ++ news) ∧ w.grownBy w' v.ownBlock ∧ Below base w w' ∧ w.heap.size ≤ w'.heap.size :=
    fun v' w' h1 h2 h3 => ⟨v', w', h1, h2, h3, below w' h3, h3.size⟩
  rcases hbuf.2 with ⟨rfl, h0⟩ | ⟨g, cap, cur, rfl, hbg, hg, hnc, hcm, hcs, htake⟩
  · obtain rfl : l = [] := List.eq_nil_of_length_eq_zero h0
    by_cases hm0 : news.length = 0
    · obtain rfl : news = [] := List.eq_nil_of_length_eq_zero hm0
      refine fin (.slice none 0 0) w ?_ (buf_nil e base w) ⟨rfl, rfl, rfl, Nat.le_refl _, fun _ _ _ => rfl⟩
      have hc : (Builtin.firstCells 1 0 x).run P w = .ok #[] w := hsrc.cells
      have hl : ∀ w' : World, (Builtin.lenOf x).run P w' = .ok 0 w' := hsrc.len
      rcases hsrc.kind with ⟨e', hk⟩ | hk <;> simp [Builtin.append_, run_underlying ht, run_underlying hk, sizeOf, typeInfo, hi, hsize, hl, hc]
    · have hr := run_append_grow_src (P := P) w t tx ty e i (.int .u8 0) ht hi hz none 0 0 [] (by rw [hsize]; exact run_firstCells_none w.drew 1 0 0 0) x news.length (bytesV news) (by rw [hsize]; exact hsrc) (by omega) (by omega)
        (by rw [hby]; exact growslice_fits (by omega) (by omega))
      have hgr := grown 0 (by simp only [List.length_nil]; omega) (Value.ownBlock (.slice none 0 0))
      simp only [List.length_nil, Nat.zero_add, List.nil_append, bytesV, List.map_nil] at hgr hr ⊢
      exact fin _ _ hr hgr.1 hgr.2
  · by_cases hroom : l.length + news.length ≤ cap
    · have hcell : ∀ j, j < cap → w.cell? ⟨g, j, none⟩ = cur[j]? := fun j _ => cell_of_row w g j cur e (0, 0) hg
      have hfro : ∀ j, w.frozen? ⟨g, j, none⟩ = false := fun j => World.ownsRow.frozenAt hbuf j
      have hr := run_append_room_src (P := P) w t tx ty e i ht hi g 0 l.length cap x news.length (bytesV news) (by rw [hsize]; exact hsrc) hroom
        (fun j hj => by
          rw [bytesV_len] at hj
          have h1 := hcell (0 + l.length * i.size + j) (by rw [hsize]; omega)
          rw [h1, Array.getElem?_eq_getElem (by rw [hcs, hsize]; omega)]
          rfl) (fun j _ => hfro _)
      have hset : w.setCells g (0 + l.length * i.size) (bytesV news) = w.setRow g ((cur.toList.take l.length ++ bytesV news ++ cur.toList.drop (l.length + news.length)).toArray) := by
        have hst := run_storeCells_at P g (l.length * 1) e (bytesV news) 0 cur w hg (by rw [bytesV_len]; omega) (bytesV_one news)
        have hst2 := run_storeCells_cells (P := P) g (0 + l.length * i.size) (bytesV news) 0 w
          (fun j hj => by
            rw [bytesV_len] at hj
            have h1 := hcell (0 + l.length * i.size + 0 + j) (by rw [hsize]; omega)
            rw [h1, Array.getElem?_eq_getElem (by rw [hcs, hsize]; omega)]
            rfl) (fun j _ => hfro _) (bytesV_one news)
        simp only [Nat.add_zero, Nat.mul_one, Nat.zero_add, hsize, bytesV_len] at hst hst2
        rw [hst] at hst2
        have := Result.ok.inj hst2
        rw [hsize]
        simpa using this.2.symm
      rw [hset] at hr
      refine fin _ _ hr ⟨hlenV, .inr ⟨g, cap, _, by rw [List.length_append], hbg, setRow_heap w g cur _ e _ hg, by rw [List.length_append]; exact hroom, hcm, ?_, ?_⟩⟩
        ⟨rfl, rfl, rfl, by simp, fun k _ hk => setRow_other w g k _ (fun e => hk (by simp [Value.ownBlock, e]))⟩
      · simp only [List.size_toArray, List.length_append, List.length_take, List.length_drop, Array.length_toList, bytesV_len]
        omega
      · have ht2 : cur.toList.take l.length = bytesV l := by simpa using htake
        rw [ht2, ← bytesV_app]
        rw [List.length_append, ← List.length_append, ← hlenV]
        exact List.take_left
    · have holds : ∀ j u, (bytesV l)[j]? = some u → w.cell? ((⟨g, 0, none⟩ : Addr).add j) = some u := World.ownsRow.cells hbuf (g := g) rfl
      have hr := run_append_grow_src (P := P) w t tx ty e i (.int .u8 0) ht hi hz (some ⟨g, 0, none⟩) l.length cap (bytesV l)
        (by rw [hsize]; exact run_firstCells_some w.drew 1 l.length ⟨g, 0, none⟩ l.length cap (bytesV l) (by rw [bytesV_len]; omega) (by simpa using holds)) x news.length (bytesV news) (by rw [hsize]; exact hsrc) (by omega) (by omega)
        (by rw [hby]; exact growslice_fits (by omega) (by omega))
      have hgr := grown cap (by omega) (Value.ownBlock (.slice (some ⟨g, 0, none⟩) l.length cap))
      exact fin _ _ hr hgr.1 hgr.2
theorem wp_append_buf {P : Program} {w : World} {o : Oper} {a : Act} {K : Act → World → Prop} {Q : Exit → Act → World → Prop} (s x : Operand) (t tx : TypeId)
    (ho : o.op = .call { callee := .builtin .append, args := #[s, x], argTypes := #[t, tx] })
    (e : TypeId) (i : TypeInfo) (ht : P.underlying t = some (.slice e)) (hi : P.info? e = some i) (hz : i.zero = some (.int .u8 0)) (hsize : i.size = 1) (hby : i.bytes = 1)
    (base : Nat) (v : Value) (l : List UInt8) (hs : a.eval s = v) (hbuf : Buf e base w v l) (hbase : base ≤ w.heap.size) (xv : Value) (news : List UInt8) (hx : a.eval x = xv) (hsrc : Src P 1 tx xv news.length (bytesV news) w)
    (hlen : l.length + news.length ≤ 140737488355328)
    (h : ∀ v' w', Buf e base w' v' (l ++ news) → Below base w w' → w.heap.size ≤ w'.heap.size → w.grownBy w' v.ownBlock → K (a.put o.dst v') w') : o.wp P a w K Q := by
  obtain ⟨v', w', hr, h2, h3, h4, h5⟩ := run_append_buf (P := P) w t tx o.type e i ht hi hz hsize hby base hbase v l hbuf xv news hsrc hlen
  unfold Oper.wp execOp
  simp only [ho, resolve, invoke, builtin, Sem.run_bind, Sem.run_pure, Result.andThen_ok, List.map_toArray, List.map_cons, List.map_nil, hs, hx, hr]
  exact h v' w' h2 h4 h5 h3
theorem wpList_append_buf {P : Program} {w : World} {ops : Array Oper} {rest : List Oper} {o : Oper} {a : Act} {Q : Exit → Act → World → Prop} (hgd : o.guard = none) (s x : Operand) (t tx : TypeId)
    (ho : o.op = .call { callee := .builtin .append, args := #[s, x], argTypes := #[t, tx] })
    (e : TypeId) (i : TypeInfo) (ht : P.underlying t = some (.slice e)) (hi : P.info? e = some i) (hz : i.zero = some (.int .u8 0)) (hsize : i.size = 1) (hby : i.bytes = 1)
    (base : Nat) (v : Value) (l : List UInt8) (hs : a.eval s = v) (hbuf : Buf e base w v l) (hbase : base ≤ w.heap.size) (xv : Value) (news : List UInt8) (hx : a.eval x = xv) (hsrc : Src P 1 tx xv news.length (bytesV news) w)
    (hlen : l.length + news.length ≤ 140737488355328)
    (h : ∀ v' w', Buf e base w' v' (l ++ news) → Below base w w' → w.heap.size ≤ w'.heap.size → w.grownBy w' v.ownBlock → wpList P ops Q rest (a.put o.dst v') w') : wpList P ops Q (o :: rest) a w :=
  wpList_plain hgd fun _ hK => wp_append_buf s x t tx ho e i ht hi hz hsize hby base v l hs hbuf hbase xv news hx hsrc hlen fun v' w' h2 h3 h4 h5 => hK _ _ (h v' w' h2 h3 h4 h5)
theorem step_append_buf {P : Program} {w : World} {ops : Array Oper} {o : Oper} {a : Act} {K : Act → World → Prop} {Q : Exit → Act → World → Prop} {E : Prop} (hgd : o.guard = none) (s x : Operand) (t tx : TypeId)
    (ho : o.op = .call { callee := .builtin .append, args := #[s, x], argTypes := #[t, tx] })
    (e : TypeId) (i : TypeInfo) (ht : P.underlying t = some (.slice e)) (hi : P.info? e = some i) (hz : i.zero = some (.int .u8 0)) (hsize : i.size = 1) (hby : i.bytes = 1)
    (base : Nat) (v : Value) (l : List UInt8) (hs : a.eval s = v) (hbuf : Buf e base w v l) (hbase : base ≤ w.heap.size) (xv : Value) (news : List UInt8) (hx : a.eval x = xv) (hsrc : Src P 1 tx xv news.length (bytesV news) w)
    (hlen : l.length + news.length ≤ 140737488355328)
    (h : ∀ v' w', Buf e base w' v' (l ++ news) → Below base w w' → w.heap.size ≤ w'.heap.size → w.grownBy w' v.ownBlock → K (a.put o.dst v') w') :
    if Region.wanted o (yielded ops a.tmps) = true then Oper.wp P o a w K Q else E := by
  have hw : Region.wanted o (yielded ops a.tmps) = true := by simp [Region.wanted, hgd]
  rw [if_pos hw]
  exact wp_append_buf s x t tx ho e i ht hi hz hsize hby base v l hs hbuf hbase xv news hx hsrc hlen h
/-- what is appended: a string's bytes; a slice literal in a new block; a slice of bytes in any block -/
theorem src_string {P : Program} {tx : TypeId} (hk : P.underlying tx = some .string) (l : List UInt8) (w : World) : Src P 1 tx (.string (S l)) l.length (bytesV l) w := by
  have h := Src.ofString (P := P) (w := w) hk (S l)
  rw [S_size] at h
  have e : byteCells (S l) = bytesV l := by simp [byteCells, S, bytesV, byteV]
  rw [e] at h; exact h
theorem src_block {P : Program} {tx e' : TypeId} (hk : P.underlying tx = some (.slice e')) {w : World} {b : Nat} {l : List UInt8} (h : BytesAt w b l) (n c : Nat) (hn : n ≤ l.length) :
    Src P 1 tx (.slice (some ⟨b, 0, none⟩) n c) (l.take n).length (bytesV (l.take n)) w := by
  have hl : (l.take n).length = n := by simp; omega
  rw [hl]
  refine Src.ofSlice (w := w) hk ⟨b, 0, none⟩ n c (bytesV (l.take n)) (by rw [bytesV_len]; omega) (fun j u hu => ?_) (bytesV_one _)
  have e1 : (⟨b, 0, none⟩ : Addr).add j = ⟨b, j, none⟩ := by simp [Addr.add]; omega
  have hj : j < (l.take n).length := by
    rcases Nat.lt_or_ge j (l.take n).length with h | h
    · exact h
    · rw [List.getElem?_eq_none (by rw [bytesV_len]; exact h)] at hu; cases hu
  rw [e1, bytesAt_get h j (by omega)]
  have hu2 : (bytesV (l.take n))[j]? = some (byteV (l.take n)[j]) := by unfold bytesV; rw [List.getElem?_map, List.getElem?_eq_getElem hj]; rfl
  rw [hu2] at hu
  rw [← Option.some.inj hu]
  simp [byteV]
theorem src_lit {P : Program} {tx e' : TypeId} (hk : P.underlying tx = some (.slice e')) (w : World) (l : List UInt8) (t : TypeId) (fr : Nat × Nat) (n c : Nat) (hn : n = l.length) :
    Src P 1 tx (.slice (some ⟨w.heap.size, 0, none⟩) n c) l.length (bytesV l) (w.alloc (.cells (cells8 l) t fr)) := by
  have h := src_block (P := P) hk (bytesAt_new w l t fr) n c (by omega)
  rw [List.take_of_length_le (by omega)] at h
  exact h
/-- make([]byte, 0, n) -/
theorem run_make_buf {P : Program} (w : World) (t e : TypeId) (i : TypeInfo) (ht : P.underlying t = some (.slice e)) (hi : P.info? e = some i) (hz : i.zero = some (.int .u8 0)) (hsize : i.size = 1) (hby : i.bytes = 1)
    (kl kc : IntKind) (c : Nat) (hc : c ≤ 140737488355328) :
    (Instr.makeSlice t (.int kl 0) (.int kc (c : Int))).run P w = .ok (.slice (some ⟨w.heap.size, 0, none⟩) 0 c) (w.alloc (.cells (madeCells #[.int .u8 0] c) e)) := by
  have h := run_make (P := P) w t e i (.int .u8 0) ht hi hz kl kc 0 c (Int.le_refl _) (by omega) (by rw [hby]; omega) (by omega)
  simp only [Int.toNat_zero, Int.toNat_natCast, hsize, Nat.mul_one] at h
  exact h
theorem buf_made (w : World) (e : TypeId) (c : Nat) (hc : c ≤ 140737488355328) (base : Nat) (hb : base ≤ w.heap.size) :
    Buf e base (w.alloc (.cells (madeCells #[.int .u8 0] c) e)) (.slice (some ⟨w.heap.size, 0, none⟩) 0 c) [] :=
  World.ownsRow_made w _ c hb (by unfold maxLen; omega) (by rw [size_madeCells, Nat.mul_one])
/-- make([]byte, n) -/
theorem run_make_bytes {P : Program} (w : World) (t e : TypeId) (i : TypeInfo) (ht : P.underlying t = some (.slice e)) (hi : P.info? e = some i) (hz : i.zero = some (.int .u8 0)) (hsize : i.size = 1) (hby : i.bytes = 1)
    (kl kc : IntKind) (c : Nat) (hc : c ≤ 140737488355328) :
    (Instr.makeSlice t (.int kl (c : Int)) (.int kc (c : Int))).run P w = .ok (.slice (some ⟨w.heap.size, 0, none⟩) c c) (w.alloc (.cells (cells8 (List.replicate c 0)) e)) := by
  have h := run_make (P := P) w t e i (.int .u8 0) ht hi hz kl kc c c (by omega) (Int.le_refl _) (by rw [hby]; omega) (by omega)
  simp only [Int.toNat_natCast, hsize, Nat.mul_one] at h
  have e1 : madeCells (Value.int .u8 0).cells c = cells8 (List.replicate c 0) := by
    apply Array.ext'
    rw [show (Value.int .u8 0).cells = #[Value.int .u8 0] from rfl, toList_madeCells_one]
    simp [cells8]
  rw [e1] at h
  exact h
theorem buf_block (w : World) (e : TypeId) (l : List UInt8) (n : Nat) (hn : n = l.length) (hc : l.length ≤ 140737488355328) (base : Nat) (hb : base ≤ w.heap.size) :
    Buf e base (w.alloc (.cells (cells8 l) e)) (.slice (some ⟨w.heap.size, 0, none⟩) n n) l := by
  subst hn
  have h := World.ownsRow_lit (base := base) (e := e) (size := 1) w (cells8 l) l.length hb (by unfold maxLen; omega) (by rw [cells8_size, Nat.mul_one])
  rw [bytesV_cells] at h
  exact h
end Go.Proofs.YtlcadichpcdgpaaGreatDoor
namespace Go.Proofs.YtlcadichpcdgpaaGreatDoor
open Go.RowKit
set_option linter.unusedVariables false
/-! a world without some blocks: what is said there is said of all others -/
open Classical in
noncomputable def offW (H : Nat → Prop) (W : World) : World := { W with heap := W.heap.mapIdx fun i o => if H i then .cells #[] 0 (1, 1) else o }
theorem off_size (H : Nat → Prop) (W : World) : (offW H W).heap.size = W.heap.size := by simp [offW]
theorem off_in {H : Nat → Prop} {W : World} {k : Nat} (h : H k) (hk : k < W.heap.size) : (offW H W).heap[k]? = some (.cells #[] 0 (1, 1)) := by
  unfold offW
  simp only [Array.getElem?_mapIdx]
  rw [Array.getElem?_eq_getElem hk]
  simp [h]
theorem off_out {H : Nat → Prop} {W : World} {k : Nat} (h : ¬ H k) : (offW H W).heap[k]? = W.heap[k]? := by
  unfold offW
  simp only [Array.getElem?_mapIdx]
  cases hk : W.heap[k]? with
  | none => rfl
  | some o => simp [h]
theorem off_cell {H : Nat → Prop} {W : World} {a : Addr} {v : Value} (h : (offW H W).cell? a = some v) : W.cell? a = some v := by
  have hlt : a.block < W.heap.size := by have := block_lt_of_cell h; rwa [off_size] at this
  by_cases hH : H a.block
  · unfold World.cell? at h
    rw [off_in hH hlt] at h
    simp at h
  · rw [← h]
    exact (World.cell?_of_block (w := W) (off_out hH)).symm
theorem off_cellout {H : Nat → Prop} {W : World} {a : Addr} {v : Value} (h : (offW H W).cell? a = some v) : ¬ H a.block := by
  have hlt : a.block < W.heap.size := by have := block_lt_of_cell h; rwa [off_size] at this
  intro hH
  unfold World.cell? at h
  rw [off_in hH hlt] at h
  simp at h
theorem off_to {H : Nat → Prop} {W : World} {a : Addr} (hH : ¬ H a.block) : (offW H W).cell? a = W.cell? a := World.cell?_of_block (w := W) (off_out hH)
theorem off_below {H : Nat → Prop} {B : Nat} {W W' : World} (h : Below B W W') : Below B (offW H W) (offW H W') :=
  ⟨h.os, h.tape, h.output, by rw [off_size, off_size]; exact h.size, fun k hk => by
    by_cases hH : H k
    · have e := h.block k hk
      cases hw : W.heap[k]? with
      | none =>
        rw [hw] at e
        have h1 : W.heap.size ≤ k := by simpa using hw
        have h2 : W'.heap.size ≤ k := by simpa using e
        rw [Array.getElem?_eq_none (by rw [off_size]; exact h2), Array.getElem?_eq_none (by rw [off_size]; exact h1)]
      | some o =>
        rw [hw] at e
        rw [off_in hH (Array.getElem?_eq_some_iff.1 hw).1, off_in hH (Array.getElem?_eq_some_iff.1 e).1]
    · rw [off_out hH, off_out hH]; exact h.block k hk⟩
theorem off_drewN (H : Nat → Prop) (W : World) (n : Nat) : offW H (W.drewN n) = (offW H W).drewN n := rfl
theorem off_drew (H : Nat → Prop) (W : World) : offW H W.drew = (offW H W).drew := rfl
theorem off_two (H K : Nat → Prop) (W : World) : offW H (offW K W) = offW (fun k => H k ∨ K k) W := by
  unfold offW
  congr 1
  apply Array.ext
  · simp
  · intro i h1 h2
    simp only [Array.getElem_mapIdx]
    by_cases hh : H i
    · simp [hh]
    · by_cases hk : K i <;> simp [hh, hk]
theorem off_row {H : Nat → Prop} {W : World} {base : Nat} {e : TypeId} {size : Nat} {v : Value} {n : Nat} {xs : List Value} (h : (offW H W).ownsRow base e size v n xs) : W.ownsRow base e size v n xs ∧ ∀ k, v.ownBlock = some k → ¬ H k := by
  rcases h.2 with ⟨rfl, h0⟩ | ⟨g, cap, cur, rfl, hb, hg, rest⟩
  · exact ⟨⟨h.1, .inl ⟨rfl, h0⟩⟩, fun k hk => by simp [Value.ownBlock] at hk⟩
  · have hlt : g < W.heap.size := by have := (Array.getElem?_eq_some_iff.1 hg).1; rwa [off_size] at this
    have hH : ¬ H g := fun hH => by rw [off_in hH hlt] at hg; simp at hg
    rw [off_out hH] at hg
    exact ⟨⟨h.1, .inr ⟨g, cap, cur, rfl, hb, hg, rest⟩⟩, fun k hk => by simp [Value.ownBlock] at hk; subst hk; exact hH⟩
theorem row_off {H : Nat → Prop} {W : World} {base : Nat} {e : TypeId} {size : Nat} {v : Value} {n : Nat} {xs : List Value} (h : W.ownsRow base e size v n xs) (hH : ∀ k, v.ownBlock = some k → ¬ H k) : (offW H W).ownsRow base e size v n xs := by
  rcases h.2 with ⟨rfl, h0⟩ | ⟨g, cap, cur, rfl, hb, hg, rest⟩
  · exact ⟨h.1, .inl ⟨rfl, h0⟩⟩
  · exact ⟨h.1, .inr ⟨g, cap, cur, rfl, hb, by rw [off_out (hH g rfl)]; exact hg, rest⟩⟩
/-- all but the blocks H below N are as they were; H may have grown by what is new -/
structure Keeps (N : Nat) (w w' : World) (H H' : Nat → Prop) : Prop where
  os : w'.os = w.os
  tape : w'.tape = w.tape
  output : w'.output = w.output
  size : w.heap.size ≤ w'.heap.size
  block : ∀ k, k < N → ¬ H k → w'.heap[k]? = w.heap[k]?
  more : ∀ k, H k → H' k
  old : ∀ k, H' k → H k ∨ N ≤ k
theorem Keeps.of {N : Nat} {w w' : World} (h : Below N w w') (H : Nat → Prop) : Keeps N w w' H H := ⟨h.os, h.tape, h.output, h.size, fun k hk _ => h.block k hk, fun _ h => h, fun _ h => .inl h⟩
theorem Keeps.refl (N : Nat) (w : World) (H : Nat → Prop) : Keeps N w w H H := .of (Below.refl _ _) H
theorem Keeps.trans {N N' : Nat} {w w1 w2 : World} {H H1 H2 : Nat → Prop} (h : Keeps N w w1 H H1) (k : Keeps N' w1 w2 H1 H2) (hN : N ≤ N') : Keeps N w w2 H H2 :=
  ⟨k.os.trans h.os, k.tape.trans h.tape, k.output.trans h.output, Nat.le_trans h.size k.size, fun i hi hH => by
    have h1 : ¬ H1 i := fun hc => by rcases h.old i hc with hc | hc <;> first | exact hH hc | omega
    exact (k.block i (by omega) h1).trans (h.block i hi hH),
   fun i hi => k.more i (h.more i hi), fun i hi => by
    rcases k.old i hi with hc | hc
    · exact h.old i hc
    · exact .inr (by omega)⟩
theorem Keeps.then {w0 w w2 : World} {H0 H H2 : Nat → Prop} (h : Keeps w0.heap.size w0 w H0 H) (k : Keeps w.heap.size w w2 H H2) : Keeps w0.heap.size w0 w2 H0 H2 := h.trans k h.size
theorem Keeps.off {N : Nat} {w w' : World} {H H' : Nat → Prop} (h : Keeps N w w' H H') (hN : N ≤ w.heap.size) : Below N (offW H w) (offW H' w') :=
  ⟨h.os, h.tape, h.output, by rw [off_size, off_size]; exact h.size, fun k hk => by
    have hs := h.size
    by_cases hH : H k
    · rw [off_in hH (by omega), off_in (h.more k hH) (by omega)]
    · have hH' : ¬ H' k := fun hc => by rcases h.old k hc with hc | hc <;> first | exact hH hc | omega
      rw [off_out hH, off_out hH']
      exact h.block k hk hH⟩
theorem Keeps.off' {w w' : World} {H H' : Nat → Prop} (h : Keeps w.heap.size w w' H H') : Below (offW H w).heap.size (offW H w) (offW H' w') := by
  rw [off_size]; exact h.off (Nat.le_refl _)
theorem Keeps.below {N B : Nat} {w w' : World} {H H' : Nat → Prop} (h : Keeps N w w' H H') (hB : B ≤ N) (hH : ∀ k, H k → B ≤ k) : Below B w w' :=
  ⟨h.os, h.tape, h.output, h.size, fun k hk => h.block k (by omega) (fun hc => by have := hH k hc; omega)⟩
end Go.Proofs.YtlcadichpcdgpaaGreatDoor
namespace Go.Proofs.YtlcadichpcdgpaaGreatDoor
open Go.RowKit
set_option linter.unusedVariables false
theorem two_cell {W : World} {gb j : Nat} {x y : Value} {t : TypeId} (h : Blk W gb #[x, y] t) {v : Value} (hc : W.cell? ⟨gb, j, none⟩ = some v) : (j = 0 ∧ v = x) ∨ (j = 1 ∧ v = y) := by
  rw [h.cell j] at hc
  obtain rfl | rfl | ho : j = 0 ∨ j = 1 ∨ 2 ≤ j := by omega
  · simp at hc; exact .inl ⟨rfl, hc.symm⟩
  · simp at hc; exact .inr ⟨rfl, hc.symm⟩
  · rw [Array.getElem?_eq_none (by simpa using ho)] at hc
    cases hc
theorem PrsV.setInts {W : World} {v : Value} {l : List Pr} {b : Nat} {t : TypeId} {x y : Int} (h : PrsV W v l) (hb : Blk W b #[.int .i64 x, .int .i64 y] t) (i : Nat) (u : Value) : PrsV (W.setCell ⟨b, i, none⟩ u) v l := by
  obtain ⟨p, c, hv, hlc, hc⟩ := h
  refine ⟨p, c, hv, hlc, fun hl => ?_⟩
  obtain ⟨g, o, hp, hcell⟩ := hc hl
  have hne : g ≠ b := fun e => by
    have h0 := (hcell 0 hl).1
    rw [e] at h0
    rcases two_cell hb h0 with ⟨_, h⟩ | ⟨_, h⟩ <;> cases h
  exact ⟨g, o, hp, fun j hj => ⟨(World.cell?_of_block (w := W) (a := ⟨g, o + j * 2, none⟩) (setCell_heap_other hne u)).trans (hcell j hj).1, (World.cell?_of_block (w := W) (a := ⟨g, o + j * 2 + 1, none⟩) (setCell_heap_other hne u)).trans (hcell j hj).2⟩⟩
/-- no pairs lie in a block of two slices: what keeps all others keeps them -/
theorem PrsV.keepsR {W W' : World} {v : Value} {l : List Pr} {b N : Nat} {t : TypeId} {p q : Option Addr} {n m c d : Nat} (h : PrsV W v l) (hb : Blk W b #[.slice p n c, .slice q m d] t) (hN : W.heap.size ≤ N) (hk : Keeps N W W' (fun k => k = b) (fun k => k = b)) : PrsV W' v l := by
  obtain ⟨p0, c0, hv, hlc, hc⟩ := h
  refine ⟨p0, c0, hv, hlc, fun hl => ?_⟩
  obtain ⟨g, o, hp, hcell⟩ := hc hl
  have hne : g ≠ b := fun e => by
    have h0 := (hcell 0 hl).1
    rw [e] at h0
    rcases two_cell hb h0 with ⟨_, h⟩ | ⟨_, h⟩ <;> cases h
  have hlt : g < W.heap.size := block_lt_of_cell (w := W) (a := ⟨g, o + 0 * 2, none⟩) (hcell 0 hl).1
  have hsame := hk.block g (by omega) hne
  exact ⟨g, o, hp, fun j hj => ⟨(World.cell?_of_block (w := W) (a := ⟨g, o + j * 2, none⟩) hsame).trans (hcell j hj).1, (World.cell?_of_block (w := W) (a := ⟨g, o + j * 2 + 1, none⟩) hsame).trans (hcell j hj).2⟩⟩
theorem Keeps.setNew {N : Nat} {w w1 : World} {H H1 : Nat → Prop} (h : Keeps N w w1 H H1) {b : Nat} (hb : N ≤ b) (i : Nat) (v : Value) : Keeps N w (w1.setCell ⟨b, i, none⟩ v) H H1 :=
  ⟨h.os, h.tape, h.output, by simp [World.setCell]; exact h.size, fun k hk hH => (setCell_heap_other (by omega) v).trans (h.block k hk hH), h.more, h.old⟩
theorem Keeps.put1 {N : Nat} {w : World} {H : Nat → Prop} {b : Nat} (hf : H b) (i : Nat) (v : Value) : Keeps N w (w.setCell ⟨b, i, none⟩ v) H H :=
  ⟨rfl, rfl, rfl, by simp [World.setCell], fun k _ hH => setCell_heap_other (fun e => hH (by rw [e]; exact hf)) v, fun _ h => h, fun _ h => .inl h⟩
theorem grownBy_cell (W : World) (b i : Nat) (v : Value) : W.grownBy (W.setCell ⟨b, i, none⟩ v) (some b) :=
  ⟨rfl, rfl, rfl, by simp [World.setCell], fun k _ hne => setCell_heap_other (fun e => hne (by rw [e])) v⟩
end Go.Proofs.YtlcadichpcdgpaaGreatDoor
namespace Go.Proofs.YtlcadichpcdgpaaGreatDoor
open Go.RowKit
set_option linter.unusedVariables false
theorem PrsV.off {H : Nat → Prop} {W : World} {v : Value} {l : List Pr} (h : PrsV (offW H W) v l) : PrsV W v l := by
  obtain ⟨p, c, hv, hlc, hc⟩ := h
  exact ⟨p, c, hv, hlc, fun hl => by obtain ⟨b, o, hp, hcell⟩ := hc hl; exact ⟨b, o, hp, fun j hj => ⟨off_cell (hcell j hj).1, off_cell (hcell j hj).2⟩⟩⟩
theorem ErrIs.off {H : Nat → Prop} {W : World} {v : Value} {n p : Int} (h : ErrIs (offW H W) v n p) : ErrIs W v n p := by
  cases h with
  | good => exact .good
  | bare _ hn => exact .bare _ hn
  | placed b _ _ hn h0 h1 => exact .placed b _ _ hn (off_cell h0) (off_cell h1)
end Go.Proofs.YtlcadichpcdgpaaGreatDoor
namespace Go.Proofs.YtlcadichpcdgpaaGreatDoor
open Go.RowKit
/-- the cell of internal/bytealg.MaxLen -/
def MaxCell (w : World) : Prop := ∃ m : Int, w.cell? ⟨2, 0, none⟩ = some (.int .i64 m)
theorem MaxCell.later {w w' : World} (h : MaxCell w) (hb : Below w.heap.size w w') : MaxCell w' := by
  obtain ⟨m, hm⟩ := h
  exact ⟨m, by rw [(bcell hb).1 _ 0 (block_lt_of_cell (w := w) (a := ⟨_, 0, none⟩) hm)]; exact hm⟩
theorem maxCell_of_shaped {W : World} (h : W.ShapedOpen Tryz.prog) : MaxCell W :=
  Go.Proofs.cell_of_shapedOpen_int (zero := #[.int .i64 0]) (t := 3) h (of_decide_eq_true (by kernel_rfl)) (by kernel_rfl) rfl (by kernel_rfl) (by kernel_rfl) Tryz.underlying3
end Go.Proofs.YtlcadichpcdgpaaGreatDoor
namespace Go.Proofs.YtlcadichpcdgpaaGreatDoor
open Go.RowKit
set_option linter.unusedVariables false
theorem PrsV.take {W : World} {p : Option Addr} {c n : Nat} {l : List Pr} (h : PrsV W (.slice p l.length c) l) (hn : n ≤ l.length) : PrsV W (.slice p n c) (l.take n) := by
  obtain ⟨p0, c0, hv, hlc, hc⟩ := h
  obtain ⟨rfl, rfl⟩ : p = p0 ∧ c = c0 := by simpa using hv
  refine ⟨p, c, by rw [List.length_take, Nat.min_eq_left hn], by rw [List.length_take]; omega, fun hl => ?_⟩
  rw [List.length_take] at hl
  obtain ⟨b, o, hp, hcell⟩ := hc (by omega)
  refine ⟨b, o, hp, fun j hj => ?_⟩
  rw [List.length_take] at hj
  rw [List.getElem_take]
  exact hcell j (by omega)
end Go.Proofs.YtlcadichpcdgpaaGreatDoor
namespace Go.Proofs.YtlcadichpcdgpaaGreatDoor
open Go Go.RowKit
set_option linter.unusedVariables false
theorem appP_own {base : Nat} {v : Value} {l : List Pr} {x : Pr} {w : World} {a : Addr} (h : PrBuf base w v l) (ha : ∀ j u, ([.string (S x.k), .string (S x.v)] : List Value)[j]? = some u → w.cell? (a.add j) = some u) (hl : l.length ≤ 1000) (hb : base ≤ w.heap.size) :
    ∃ v' w', (Builtin.append_ #[27, 27] 27 #[v, .slice (some a) 1 1]).run Tryz.prog w = .ok v' w' ∧ PrBuf base w' v' (l ++ [x]) ∧ w.grownBy w' v.ownBlock ∧ ∀ k, v'.ownBlock = some k → v.ownBlock = some k ∨ w.heap.size ≤ k := by
  obtain ⟨i0, hi, hz0, hz1, hz2⟩ := infoPr
  obtain ⟨v5, w5, hrun, hown, hgrow, _⟩ := run_append_own (P := Tryz.prog) (w := w) base 27 27 40 i0 (.agg #[.string (S []), .string (S [])]) 2 32 Tryz.underlying27 hi hz0 hz1 hz2 rfl (by decide) v l.length (prsVs l) h a 1 1 [.string (S x.k), .string (S x.v)] rfl ha (prsVs_one [x]) (by unfold maxLen; omega) (by omega) hb
  refine ⟨v5, w5, hrun, ?_, hgrow, fun k hk => ?_⟩
  · unfold PrBuf
    rw [prsVs_app, List.length_append]
    exact hown
  · have h' := h
    rcases h'.2 with ⟨rfl, h0⟩ | ⟨g, cap, cur, rfl, hbg, hg, hnc, hcm, hcs, htake⟩
    · obtain ⟨v6, w6, hrun6, hown6, _, _⟩ := run_append_own (P := Tryz.prog) (w := w) w.heap.size 27 27 40 i0 (.agg #[.string (S []), .string (S [])]) 2 32 Tryz.underlying27 hi hz0 hz1 hz2 rfl (by decide) (.slice none 0 0) 0 [] (World.ownsRow_nil _ _ _ _) a 1 1 [.string (S x.k), .string (S x.v)] rfl ha (prsVs_one [x]) (by unfold maxLen; omega) (by omega) (Nat.le_refl _)
      rw [hrun] at hrun6
      obtain ⟨rfl, rfl⟩ : v5 = v6 ∧ w5 = w6 := by injection hrun6 with h1 h2; exact ⟨h1, h2⟩
      exact .inr (World.ownsRow.lt hown6 k hk).1
    · have hsrc : Src Tryz.prog i0.size 27 (.slice (some a) 1 1) 1 [.string (S x.k), .string (S x.v)] w := by
        rw [hz1]
        exact Src.ofSlice w Tryz.underlying27 a 1 1 [.string (S x.k), .string (S x.v)] rfl ha (prsVs_one [x])
      by_cases hroom : l.length + 1 ≤ cap
      · have hr := run_append_room_src (P := Tryz.prog) (w := w) 27 27 27 40 i0 Tryz.underlying27 hi g 0 l.length cap (.slice (some a) 1 1) 1 [.string (S x.k), .string (S x.v)] hsrc hroom
          (fun j hj => by
            have hj0 : j = 0 ∨ j = 1 := by simp at hj; omega
            rw [cell_of_row w g _ cur 40 (0, 0) hg, hz1, Array.getElem?_eq_getElem (by rcases hj0 with rfl | rfl <;> omega)]
            rfl)
          (fun j hj => by
            unfold World.frozen?
            rw [hg]
            simp)
        rw [hrun] at hr
        have hv : v5 = .slice (some ⟨g, 0, none⟩) (l.length + 1) cap := by injection hr
        rw [hv] at hk
        exact .inl hk
      · have hr := run_append_grow_src (P := Tryz.prog) (w := w) 27 27 27 40 i0 (.agg #[.string (S []), .string (S [])]) Tryz.underlying27 hi hz0 (some ⟨g, 0, none⟩) l.length cap (prsVs l)
          (by rw [hz1]; exact run_firstCells_some w.drew 2 l.length ⟨g, 0, none⟩ l.length cap (prsVs l) (prsVs_len l) (fun j u hu => World.ownsRow.cells h (g := g) rfl j u hu)) (.slice (some a) 1 1) 1 [.string (S x.k), .string (S x.v)] hsrc (by omega) (by omega)
          (by
            rw [hz2]
            have := nextslicecap_le (need := l.length + 1) (old := cap) (by omega)
            omega)
        rw [hrun] at hr
        have hv : v5 = .slice (some ⟨w.heap.size, 0, none⟩) (l.length + 1) (grownCap w (l.length + 1) cap 40) := by injection hr
        rw [hv] at hk
        have : w.heap.size = k := by simpa [Value.ownBlock] using hk
        exact .inr (by omega)
theorem wpList_append_ran {P : Program} (w : World) {ops : Array Oper} {rest : List Oper} {o : Oper} {a : Act} {Q : Exit → Act → World → Prop} (hw : Region.wanted o (yielded ops a.tmps) = true) (s x : Operand) (t tn : TypeId)
    (ho : o.op = .call { callee := .builtin .append, args := #[s, x], argTypes := #[t, tn] }) (vs vx : Value) (hs : a.eval s = vs) (hx : a.eval x = vx)
    (v' : Value) (w' : World) (hr : (Builtin.append_ #[t, tn] o.type #[vs, vx]).run P w = .ok v' w') (h : wpList P ops Q rest (a.put o.dst v') w') : wpList P ops Q (o :: rest) a w :=
  BigFrame.wpList_want hw fun _ hK => Lib.wp_append_run w s x t tn ho vs vx hs hx v' w' hr (hK _ _ h)
/-- pairs lie apart from others of a call's own -/
def ApartP (o r : Value) : Prop := ∀ g, o.ownBlock = some g → ∀ p n c, r = .slice (some p) n c → 0 < n → p.block ≠ g
theorem ApartP.nil (r : Value) : ApartP (.slice none 0 0) r := fun g h => by simp [Value.ownBlock] at h
/-- what grows in a block that they lie apart from leaves them as they were -/
theorem PrsV.grown {W W' : World} {v o : Value} {l : List Pr} (h : PrsV W v l) (hg : W.grownBy W' o.ownBlock) (ha : ApartP o v) : PrsV W' v l := by
  obtain ⟨p, c, hv, hlc, hc⟩ := h
  refine ⟨p, c, hv, hlc, fun hl => ?_⟩
  obtain ⟨b, q, hp, hcell⟩ := hc hl
  have hlt : b < W.heap.size := block_lt_of_cell (w := W) (a := ⟨b, q + 0 * 2, none⟩) (hcell 0 hl).1
  have hne : o.ownBlock ≠ some b := fun e => ha b e ⟨b, q, none⟩ l.length c (by rw [hv, hp]) hl rfl
  have hsame := hg.block b hlt (fun e => hne e.symm)
  exact ⟨b, q, hp, fun j hj => ⟨(World.cell?_of_block (w := W) (a := ⟨b, q + j * 2, none⟩) hsame).trans (hcell j hj).1, (World.cell?_of_block (w := W) (a := ⟨b, q + j * 2 + 1, none⟩) hsame).trans (hcell j hj).2⟩⟩
end Go.Proofs.YtlcadichpcdgpaaGreatDoor
namespace Go.Proofs.YtlcadichpcdgpaaGreatDoor
open Go Go.RowKit
theorem step_call {P : Program} {ops : Array Oper} {o : Oper} {a : Act} {w : World} {f : FuncId} {fn : Func} {x : Operand} {args : Array Operand} {ts : Array TypeId} {K : Act → World → Prop} {Q : Exit → Act → World → Prop} {E : Prop} {post : Ending → World → Prop} {vs : Array Value}
    (hgd : o.guard = none) (ho : o.op = .call { callee := .value x, args := args, argTypes := ts }) (hf : P.funcs[f]? = some fn) (hname : (fn.name == "runtime.NumGoroutine") = false) (hb : fn.body.isNone = false)
    (hx : a.eval x = .func (.func f) #[] #[]) (hvs : args.map a.eval = vs) (hC : Calls P f vs w post) (h : ∀ e w', post e w' → ∃ v, e = .returned v ∧ K (a.put o.dst v) w') :
    if Region.wanted o (yielded ops a.tmps) = true then Oper.wp P o a w K Q else E := by
  have hw : Region.wanted o (yielded ops a.tmps) = true := by simp [Region.wanted, hgd]
  rw [if_pos hw]
  have hrun : (execOp a.eval o).run P w = .ok (.enter f (args.map a.eval)) w := by
    have h1 : fn.name ≠ "runtime.NumGoroutine" := by simpa using hname
    have h2 : fn.body ≠ none := fun h => by rw [h] at hb; cases hb
    unfold execOp
    rw [ho]
    simp [resolve, invoke, hx, Deferred.ofValue, callFunc, run_program, hf, h1, h2]
  unfold Oper.wp
  rw [hrun, hvs, Oper.upon_enter]
  refine hC.mono ?_
  intro e w' hp
  obtain ⟨v, rfl, hK⟩ := h e w' hp
  exact hK
/-- of an operation that is guarded, and wanted: 'refine step_wanted ?_ ?_; rfl; refine call_in ..' -/
theorem step_wanted {P : Program} {ops : Array Oper} {o : Oper} {a : Act} {w : World} {K : Act → World → Prop} {Q : Exit → Act → World → Prop} {E : Prop} (hw : Region.wanted o (yielded ops a.tmps) = true) (h : Oper.wp P o a w K Q) :
    if Region.wanted o (yielded ops a.tmps) = true then Oper.wp P o a w K Q else E := by rw [if_pos hw]; exact h
theorem call_in {P : Program} {o : Oper} {a : Act} {w : World} {f : FuncId} {fn : Func} {x : Operand} {args : Array Operand} {ts : Array TypeId} {K : Act → World → Prop} {Q : Exit → Act → World → Prop} {post : Ending → World → Prop} {vs : Array Value}
    (ho : o.op = .call { callee := .value x, args := args, argTypes := ts }) (hf : P.funcs[f]? = some fn) (hname : (fn.name == "runtime.NumGoroutine") = false) (hb : fn.body.isNone = false)
    (hx : a.eval x = .func (.func f) #[] #[]) (hvs : args.map a.eval = vs) (hC : Calls P f vs w post) (h : ∀ e w', post e w' → ∃ v, e = .returned v ∧ K (a.put o.dst v) w') :
    Oper.wp P o a w K Q := by
  have hrun : (execOp a.eval o).run P w = .ok (.enter f (args.map a.eval)) w := by
    have h1 : fn.name ≠ "runtime.NumGoroutine" := by simpa using hname
    have h2 : fn.body ≠ none := fun h => by rw [h] at hb; cases hb
    unfold execOp
    rw [ho]
    simp [resolve, invoke, hx, Deferred.ofValue, callFunc, run_program, hf, h1, h2]
  unfold Oper.wp
  rw [hrun, hvs, Oper.upon_enter]
  refine hC.mono ?_
  intro e w' hp
  obtain ⟨v, rfl, hK⟩ := h e w' hp
  exact hK
theorem step_append_run {P : Program} {ops : Array Oper} {o : Oper} {a : Act} {w w' : World} {K : Act → World → Prop} {Q : Exit → Act → World → Prop} {E : Prop} {v x v' : Value} {s y : Operand} {t u : TypeId}
    (hgd : o.guard = none) (ho : o.op = .call { callee := .builtin .append, args := #[s, y], argTypes := #[t, u] }) (hs : a.eval s = v) (hy : a.eval y = x)
    (hrun : (Builtin.append_ #[t, u] o.type #[v, x]).run P w = .ok v' w') (hK : K (a.put o.dst v') w') :
    if Region.wanted o (yielded ops a.tmps) = true then Oper.wp P o a w K Q else E := by
  have hw : Region.wanted o (yielded ops a.tmps) = true := by simp [Region.wanted, hgd]
  rw [if_pos hw]
  unfold Oper.wp
  simp [execOp, ho, resolve, invoke, builtin, hs, hy, hrun, Result.andThen]
  exact hK
end Go.Proofs.YtlcadichpcdgpaaGreatDoor
namespace Go.Proofs.YtlcadichpcdgpaaGreatDoor
open Go Go.RowKit
variable {ops : Array Oper} {S : World → Prop} {o : Oper} {a : Act}
theorem takeN {P : Program} {Q : Exit → Act → World → Prop} {md : Region.Mode} {i : Nat} {oi : Oper} (v : Value) {fuel : Nat} {listed : Array Bool} {w : World} (d : Option Tmp) (hi : ops[i]? = some oi) (hd : oi.dst = d)
    (hs : Region.noSelect ops = true) (hf : Region.free md ops listed i = true) (hr : (Region.ready md ops listed).contains i = true)
    (hQ : ∀ c a w, Q (.panic c) (a.put d v) w → Q (.panic c) a w) (hy : YieldsIf P ops S oi v a) (hS : S w)
    (h : wpAnyH P md ops Q S fuel (listed.setIfInBounds i true) (a.put d v) w) : wpAnyH P md ops Q S (fuel + 1) listed a w := by
  subst hd
  exact wpAnyH_take hi hs hf hr hQ hy hS h
theorem wantN {P : Program} {Q : Exit → Act → World → Prop} {i : Nat} {K : Act → World → Prop} {w : World} (hi : ops[i]? = some o) (hg : Region.wanted o (yielded ops a.tmps) = true) (h : Oper.wp P o a w K Q) : wpOp P ops Q i K a w := by
  unfold wpOp
  simp only [hi]
  rw [if_pos hg]
  exact .inl h
theorem callN {P : Program} {Q : Exit → Act → World → Prop} {w : World} {f : FuncId} {fn : Func} {x : Operand} {args : Array Operand} {ts : Array TypeId} {K : Act → World → Prop} (d : Option Tmp) (hd : o.dst = d) (hf : P.funcs[f]? = some fn) (hname : (fn.name == "runtime.NumGoroutine") = false) (hb : fn.body.isNone = false)
    (ho : o.op = .call { callee := .value x, args := args, argTypes := ts }) (hx : a.eval x = .func (.func f) #[] #[])
    (hC : Calls P f (args.map a.eval) w fun e w' => ∃ v, e = .returned v ∧ K (a.put d v) w') : Oper.wp P o a w K Q := by
  subst hd
  exact call_in ho hf hname hb hx rfl hC (fun _ _ h => h)
end Go.Proofs.YtlcadichpcdgpaaGreatDoor
namespace Go.Proofs.YtlcadichpcdgpaaGreatDoor
open Go Go.RowKit
set_option linter.unusedVariables false
def RetPB (w : World) (l : List Pr) (e : Ending) (w' : World) : Prop := ∃ v, e = .returned v ∧ PrBuf w.heap.size w' v l ∧ Below w.heap.size w w'
set_option maxRecDepth 100000 in
theorem cloneP_any (l : List Pr) (v : Value) (w : World) (hv : PrsV w v l) (hl : l.length * 32 ≤ 140737488351232) :
    Calls Tryz.prog 48 #[v] w (RetPB w l) := by
  obtain ⟨i0, hi, hz0, hz1, hz2⟩ := infoPr
  have EN : ∀ (p : Option Addr) (n c : Nat) (W : World), (binOp .eql 27 (.slice p n c) (.slice none 0 0)).run Tryz.prog W = .ok (.bool p.isNone) W := fun p n c W => by
    exact Lib.run_eql_slice_nil W 27 40 p n c 0 0 Tryz.underlying27
  obtain ⟨p, c, rfl, hlc, hc⟩ := hv
  cases p with
  | none =>
    have h0 : l = [] := by
      rcases Nat.eq_zero_or_pos l.length with h | h
      · exact List.eq_nil_of_length_eq_zero h
      · obtain ⟨b, o, hp, _⟩ := hc h; cases hp
    subst h0
    clear hc
    go_enter Tryz.func48, Tryz.ntmps48
    go_wp2_with fail
    go_ret
    exact ⟨_, rfl, PrBuf.nil _ _, Below.refl _ _⟩
  | some a =>
    have hb0 := (Below.refl w.heap.size w).alloc (Nat.le_refl _) (.cells #[] 40)
    have hbuf : PrBuf w.heap.size (w.alloc (.cells #[] 40)) (.slice (some ⟨w.heap.size, 0, none⟩) 0 0) [] :=
      ⟨rfl, .inr ⟨w.heap.size, 0, #[], rfl, Nat.le_refl _, heap_alloc_new w _, Nat.le_refl _, Nat.zero_le _, rfl, rfl⟩⟩
    have HB := Lib.hid hbuf
    have Hb0 := Lib.hid hb0
    have h1 : ∀ j u, (prsVs l)[j]? = some u → (w.alloc (.cells #[] 40)).cell? (a.add j) = some u := fun j u hu => by
      have hlt : j < (prsVs l).length := by
        rcases Nat.lt_or_ge j (prsVs l).length with h | h
        · exact h
        · rw [List.getElem?_eq_none h] at hu; cases hu
      rw [prsVs_len] at hlt
      obtain ⟨b, o, hp, hcell⟩ := hc (by omega)
      cases hp
      obtain ⟨i, q, rfl, hq⟩ : ∃ i q, j = i * 2 + q ∧ q < 2 := ⟨j / 2, j % 2, by omega, by omega⟩
      obtain ⟨g0, g1⟩ := prsVs_get l i (by omega)
      obtain ⟨c0, c1⟩ := hcell i (by omega)
      have e0 : (⟨b, o, none⟩ : Addr).add (i * 2 + q) = ⟨b, o + i * 2 + q, none⟩ := by rw [Addr.add_lit, Nat.add_assoc]
      rw [e0]
      have hq' : q = 0 ∨ q = 1 := by omega
      rcases hq' with rfl | rfl
      · rw [Nat.add_zero] at hu ⊢
        rw [g0] at hu
        rw [hb0.cell (p := ⟨b, o + i * 2, none⟩) (block_lt_of_cell c0), c0]; exact hu
      · rw [g1] at hu
        rw [hb0.cell (p := ⟨b, o + i * 2 + 1, none⟩) (block_lt_of_cell c1), c1]; exact hu
    have H1 := Lib.hid h1
    have H2 := Lib.hid (prsVs_one l)
    have H3 := Lib.hid (show 0 + l.length ≤ maxLen by unfold maxLen; omega)
    have H4 := Lib.hid (show (0 + l.length) * 32 ≤ 140737488355328 by omega)
    have H5 := Lib.hid (show w.heap.size ≤ (w.alloc (.cells #[] 40)).heap.size by simp)
    have H6 := Lib.hid (prsVs_len l)
    clear hb0 hbuf h1 hc hl
    go_enter Tryz.func48, Tryz.ntmps48
    go_wp2_with (at_builtin; refine wpList_append_own _ rfl _ _ 27 rfl w.heap.size 40 i0 (.agg #[.string (S []), .string (S [])]) 2 32 Tryz.underlying27 hi hz0 hz1 hz2 rfl (by decide) (.slice (some ⟨w.heap.size, 0, none⟩) 0 0) 0 [] rfl HB.out a l.length c (prsVs l) rfl H6.out H1.out H2.out H3.out H4.out H5.out ?_)
    intro v' wa hown hgrow hnil
    have hown' : PrBuf w.heap.size wa v' l := by
      unfold PrBuf
      exact hown
    have Hlow := Lib.hid (Hb0.out.grown hgrow (by simp) (fun k hk => by simp [Value.ownBlock] at hk; omega))
    have Hown := Lib.hid hown'
    clear hown hown' hgrow hnil
    go_wp2_with fail
    go_ret
    exact ⟨_, rfl, Hown.out, Hlow.out⟩
end Go.Proofs.YtlcadichpcdgpaaGreatDoor
namespace Go.Proofs.YtlcadichpcdgpaaGreatDoor
open Go.RowKit
theorem pr_same (w : World) (k d : List UInt8) : (binOp .neq 40 (.agg #[.string (S k), .string (S d)]) (.agg #[.string (S k), .string (S d)])).run Tryz.prog w = .ok (.bool false) w := by
  have hS : Tryz.prog.underlying 40 = some (.struct (Tryz.prog.fieldsOf 40)) := by kernel_rfl
  have hp : Tryz.prog.stoodInHeld 40 = false := by kernel_rfl
  rw [run_neq_struct, show (10000 : Nat) = 9999 + 1 from rfl, run_equalIn_agg w 9999 40 _ _ hS hp]
  simp only [Program.fieldsOf, Tryz.underlying40]
  go_simp
set_option maxRecDepth 100000 in
theorem equalP_same (l : List Pr) (v v' : Value) (w : World) (hl : l.length ≤ 140737488355328) (hv : PrsV w v l) (hv' : PrsV w v' l) :
    Calls Tryz.prog 13 #[v, v'] w fun e w' => e = .returned (.bool true) ∧ Below w.heap.size w w' := by
  obtain ⟨p, c, rfl, _, hc⟩ := hv
  obtain ⟨p', c', rfl, _, hc'⟩ := hv'
  have hne : ((l.length : Int) != (l.length : Int)) = false := by simp
  have Hc := Lib.hid hc
  have Hc' := Lib.hid hc'
  clear hc hc'
  go_enter Tryz.func13, Tryz.ntmps13
  go_wp2_with fail
  go_loopw [13] (fun i wr => ∃ j : Nat, j ≤ l.length ∧ i = .int .i64 j ∧ Below w.heap.size w wr) (fun i _ => l.length - (intOf i).toNat)
  case atStart => exact ⟨0, by omega, rfl, Below.refl _ _⟩
  case round =>
    obtain ⟨j, hj, rfl, hb⟩ := hrel
    have Hb := Lib.hid hb
    by_cases hlt : j < l.length
    · obtain ⟨b, o, rfl, hcl⟩ := Hc.out (by omega)
      obtain ⟨b', o', rfl, hcl'⟩ := Hc'.out (by omega)
      obtain ⟨q0, q1⟩ := hcl j hlt
      obtain ⟨r0, r1⟩ := hcl' j hlt
      rw [← (bcell hb).1 b (o + j * 2) (block_lt_of_cell (w := w) (a := ⟨b, o + j * 2, none⟩) q0)] at q0
      rw [← (bcell hb).1 b (o + j * 2 + 1) (block_lt_of_cell (w := w) (a := ⟨b, o + j * 2 + 1, none⟩) q1)] at q1
      rw [← (bcell hb).1 b' (o' + j * 2) (block_lt_of_cell (w := w) (a := ⟨b', o' + j * 2, none⟩) r0)] at r0
      rw [← (bcell hb).1 b' (o' + j * 2 + 1) (block_lt_of_cell (w := w) (a := ⟨b', o' + j * 2 + 1, none⟩) r1)] at r1
      obtain ⟨⟨k, d⟩, ha⟩ : ∃ a, l[j] = a := ⟨_, rfl⟩
      rw [ha] at q0 q1 r0 r1
      simp only at q0 q1 r0 r1
      have hj0 : (0 : Int) ≤ (j : Int) := by omega
      have E2 := fun w => pr_same w k d
      clear hb hcl hcl' ha
      go_wp2_with fail
      go_quiet (fail)
      go_wp2_with fail
      go_roundw
      case rel => exact ⟨j + 1, by omega, by go_num, below_drewN Hb.out _⟩
      case measure => simp [intOf]; omega
    · clear hb
      go_wp2_with fail
      go_ret
      exact ⟨rfl, Hb.out⟩
end Go.Proofs.YtlcadichpcdgpaaGreatDoor
namespace Go.Proofs.YtlcadichpcdgpaaGreatDoor
open Go Go.RowKit
set_option linter.unusedVariables false
theorem prs_cells {W : World} {v : Value} {l : List Pr} (h : PrsV W v l) (h0 : 0 < l.length) : ∃ a c, v = .slice (some a) l.length c ∧ ∀ j u, (prsVs l)[j]? = some u → W.cell? (a.add j) = some u := by
  obtain ⟨p, c, rfl, hlc, hc⟩ := h
  obtain ⟨b, o, rfl, hcell⟩ := hc h0
  refine ⟨⟨b, o, none⟩, c, rfl, fun j u hu => ?_⟩
  have hlt : j < (prsVs l).length := by
    rcases Nat.lt_or_ge j (prsVs l).length with h | h
    · exact h
    · rw [List.getElem?_eq_none h] at hu; cases hu
  rw [prsVs_len] at hlt
  obtain ⟨i, q, rfl, hq⟩ : ∃ i q, j = i * 2 + q ∧ q < 2 := ⟨j / 2, j % 2, by omega, by omega⟩
  obtain ⟨g0, g1⟩ := prsVs_get l i (by omega)
  obtain ⟨c0, c1⟩ := hcell i (by omega)
  have e0 : (⟨b, o, none⟩ : Addr).add (i * 2 + q) = ⟨b, o + i * 2 + q, none⟩ := by rw [Addr.add_lit, Nat.add_assoc]
  rw [e0]
  have hq' : q = 0 ∨ q = 1 := by omega
  rcases hq' with rfl | rfl
  · rw [Nat.add_zero] at hu ⊢
    rw [g0] at hu
    rw [c0]; exact hu
  · rw [g1] at hu
    rw [c1]; exact hu
theorem src_prs {W : World} {v : Value} {l : List Pr} (h : PrsV W v l) : Src Tryz.prog 2 27 v l.length (prsVs l) W := by
  by_cases h0 : 0 < l.length
  · obtain ⟨a, c, rfl, hcell⟩ := prs_cells h h0
    exact Src.ofSlice W Tryz.underlying27 a l.length c (prsVs l) (prsVs_len l) hcell (prsVs_one l)
  · obtain rfl : l = [] := List.eq_nil_of_length_eq_zero (by omega)
    obtain ⟨p, c, rfl, _⟩ := h
    refine ⟨.inl ⟨_, Tryz.underlying27⟩, fun _ => rfl, ?_, ?_, rfl, fun _ h => by cases h⟩
    · cases p with
      | none => exact run_firstCells_none W 2 0 0 c
      | some a => exact run_firstCells_some W 2 0 a 0 c [] rfl (fun j u hu => by simp at hu)
    · cases p with
      | none => exact run_firstCells_none W.drew 2 0 0 c
      | some a => exact run_firstCells_some W.drew 2 0 a 0 c [] rfl (fun j u hu => by simp at hu)
/-- an append of pairs to pairs of a call's own -/
theorem run_append_prs {W : World} {base : Nat} {v x : Value} {l m : List Pr} (h : PrBuf base W v l) (hx : PrsV W x m) (hl : l.length ≤ 100000) (hm : m.length ≤ 100000) (hb : base ≤ W.heap.size) :
    ∃ v' W', (Builtin.append_ #[27, 27] 27 #[v, x]).run Tryz.prog W = .ok v' W' ∧ PrBuf base W' v' (l ++ m) ∧ W.grownBy W' v.ownBlock := by
  obtain ⟨i0, hi, hz0, hz1, hz2⟩ := infoPr
  by_cases h0 : 0 < m.length
  · obtain ⟨a, c, rfl, hcell⟩ := prs_cells hx h0
    obtain ⟨v5, w5, hrun, hown, hgrow, _⟩ := run_append_own (P := Tryz.prog) (w := W) base 27 27 40 i0 (.agg #[.string (S []), .string (S [])]) 2 32 Tryz.underlying27 hi hz0 hz1 hz2 rfl (by decide) v l.length (prsVs l) h a m.length c (prsVs m) (prsVs_len m) hcell (prsVs_one m) (by unfold maxLen; omega) (by omega) hb
    refine ⟨v5, w5, hrun, ?_, hgrow⟩
    unfold PrBuf
    rw [prsVs_app, List.length_append]
    exact hown
  · obtain rfl : m = [] := List.eq_nil_of_length_eq_zero (by omega)
    have hsrc := src_prs hx
    refine ⟨v, W, ?_, by rw [List.append_nil]; exact h, ⟨rfl, rfl, rfl, Nat.le_refl _, fun _ _ _ => rfl⟩⟩
    have hcl : (Builtin.firstCells 2 0 x).run Tryz.prog W = .ok #[] W := hsrc.cells
    have hlx : ∀ w' : World, (Builtin.lenOf x).run Tryz.prog w' = .ok 0 w' := hsrc.len
    rcases h.2 with ⟨rfl, h0⟩ | ⟨g, cap, cur, rfl, hbg, hg, hnc, hcm, hcs, htake⟩
    · simp [Builtin.append_, run_underlying Tryz.underlying27, sizeOf, typeInfo, hi, hz1, hlx, hcl]
    · have hr := run_append_room_src (P := Tryz.prog) W 27 27 27 40 i0 Tryz.underlying27 hi g 0 l.length cap x 0 (prsVs []) (by rw [hz1]; exact hsrc) (by omega)
        (fun j hj => absurd hj (by simp [prsVs])) (fun j hj => absurd hj (by simp [prsVs]))
      rw [hr]
      simp [prsVs, World.setCells]
end Go.Proofs.YtlcadichpcdgpaaGreatDoor
