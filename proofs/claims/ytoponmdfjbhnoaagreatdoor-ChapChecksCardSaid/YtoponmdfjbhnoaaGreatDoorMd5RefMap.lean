/- A map literal: stores into a map of the call's own. ref's turns. -/
import Derived.Test.YtoponmdfjbhnoaaGreatDoorRows
import Derived.Test.YtoponmdfjbhnoaaGreatDoorMd5RefMath
import Derived.Test.YtoponmdfjbhnoaaGreatDoorMd5All
import Derived.Maps.Own
import Derived.Maps.OwnOps
namespace Go.Proofs.YtoponmdfjbhnoaaGreatDoor
open Go.RowKit Go.Maps
theorem wpList_insert_own {H : Type} {P : Program} (w : World) {ops : Array Oper} {rest : List Oper} {o : Oper} {a : Act} {Q : Exit → Act → World → Prop}
    (hg : o.guard = none) (m x v : Operand) (t : TypeId) (hop : o.op = Op.insert t m x v)
    (k e : TypeId) (K : Keyed P k) (ht : P.underlying t = some (.map k e)) (R : Value → Option (DataW H × List MemPlace)) (b n : Nat) (D : DataW H)
    (hm : a.eval m = .map (some b)) (hown : w.ownsMap P k R b n D) (hn : n < maxLen) (key val : Value) (kl : Lit) (hx : a.eval x = key) (hv : a.eval v = val) (hkey : keyOf P k key = some kl)
    (d : DataW H) (ps : List MemPlace) (hval : R val = some (d, ps))
    (hK : ∀ w', w'.ownsMap P k R b (n + 1) (D.put kl d) → w.grownBy w' (some b) → wpList P ops Q rest (a.put o.dst undef) w') :
    wpList P ops Q (o :: rest) a w := by
  refine wpList_plain hg fun K' hK' => ?_
  obtain ⟨w', hrun, r1, r2⟩ := hown.update K ht hn hkey hval
  unfold Oper.wp
  simp [execOp, hop, hm, hx, hv, hrun, Result.andThen]
  exact hK' _ _ (hK w' r1 r2)
theorem keyedInt : Keyed Tryz.prog 3 := int_keyed Tryz.underlying3
theorem zeroInt (w : World) : (zeroValue 3).run Tryz.prog w = .ok (.int .i64 0) w := by kernel_rfl
def turnRows : List (Int × Int) := [(0, 7), (1, 12), (2, 17), (3, 22), (16, 5), (17, 9), (18, 14), (19, 20), (32, 4), (33, 11), (34, 16), (35, 23), (48, 6), (49, 10), (50, 15), (51, 21)]
def turnsD : DataW Unit := turnRows.foldl (fun D p => D.put (.int .i64 p.1) (.lit (.int .i64 p.2))) (.map [])
theorem turnsD_at (i : Nat) (h : i < 64) : turnsD.atKey (.int .i64 ((i / 16 * 16 + i % 4 : Nat) : Int)) (.lit (.int .i64 0)) = .lit (.int .i64 ((mS i : Nat) : Int)) := by
  have : (List.range 64).map (fun i => turnsD.atKey (.int .i64 ((i / 16 * 16 + i % 4 : Nat) : Int)) (.lit (.int .i64 0))) = (List.range 64).map (fun i => .lit (.int .i64 ((mS i : Nat) : Int))) := by kernel_rfl
  have h2 := congrArg (·[i]?) this
  simp only [List.getElem?_map, List.getElem?_range h, Option.map_some] at h2
  exact Option.some.inj h2
theorem turnKey (i : Nat) (h : i < 64) : keyOf Tryz.prog 3 (.int .i64 ((i : Int) / 16 * 16 + (i : Int) % 4)) = some (.int .i64 ((i / 16 * 16 + i % 4 : Nat) : Int)) := by
  have e : ((i : Int) / 16 * 16 + (i : Int) % 4) = ((i / 16 * 16 + i % 4 : Nat) : Int) := by omega
  rw [e]
  have : ∀ k : Fin 64, (Lit.int .i64 ((k.1 / 16 * 16 + k.1 % 4 : Nat) : Int)).wf = true := by decide
  exact keyOf_int_mk Tryz.underlying3 (this ⟨i, h⟩)
theorem turnsD_val (i r : Nat) (h : i < 64) (hr : mS i = r) (c : Int) (hat : turnsD.atKey (.int .i64 ((i / 16 * 16 + i % 4 : Nat) : Int)) (.lit (.int .i64 0)) = .lit (.int .i64 c)) : c = (r : Int) := by
  rw [turnsD_at i h, hr] at hat
  injection hat with e
  injection e with _ e
  exact e.symm
/-- in world W the map in block b is the turns -/
def Turns (b : Nat) (W : World) : Prop := W.ownsMap Tryz.prog 3 (plainElem (H := Unit) Tryz.prog 3) b 16 turnsD
theorem Turns.later {b : Nat} {W W' : World} (h : Turns b W) (hb : Below W.heap.size W W') : Turns b W' := by
  obtain ⟨es, clock, h1, h2, h3, h4⟩ := h
  have hlt : b < W.heap.size := by
    obtain ⟨hl, _⟩ := Array.getElem?_eq_some_iff.1 h1
    exact hl
  exact ⟨es, clock, by rw [hb.block b hlt]; exact h1, h2, h3, h4⟩
theorem Turns.stored {b : Nat} {W : World} (h : Turns b W) (p : Addr) (v : Value) (hp : b ≠ p.block) : Turns b (W.setCell p v) := by
  obtain ⟨es, clock, h1, h2, h3, h4⟩ := h
  exact ⟨es, clock, by rw [Below.heap_setCell W p v b hp]; exact h1, h2, h3, h4⟩
/-- the block holds these four words, in a row of their own type -/
def Row4 (W : World) (b : Nat) (s : St) : Prop := W.heap[b]? = some (.cells (st4 s) 55 (0, 0))
theorem Row4.cells {W : World} {b : Nat} {s : St} (h : Row4 W b s) : W.cell? ⟨b, 0, none⟩ = some (.int .u32 (s.1 : Int)) ∧ W.cell? ⟨b, 1, none⟩ = some (.int .u32 (s.2.1 : Int)) ∧ W.cell? ⟨b, 2, none⟩ = some (.int .u32 (s.2.2.1 : Int)) ∧ W.cell? ⟨b, 3, none⟩ = some (.int .u32 (s.2.2.2 : Int)) := by
  refine ⟨?_, ?_, ?_, ?_⟩ <;> (rw [cell_of_row W b _ _ _ _ h]; rfl)
theorem Row4.frozen {W : World} {b : Nat} {s : St} (h : Row4 W b s) : ∀ j, W.frozen? ⟨b, j, none⟩ = false := fun j => by
  unfold World.frozen?
  rw [h]
  simp
theorem Row4.later {W W' : World} {b : Nat} {s : St} (h : Row4 W b s) (hb : Below W.heap.size W W') : Row4 W' b s := by
  have hlt : b < W.heap.size := block_lt_of_cell h.cells.1
  unfold Row4 at *
  rw [hb.block b hlt]; exact h
theorem Row4.stored {W : World} {b : Nat} {s : St} (h : Row4 W b s) (a0 a1 a2 a3 : Nat) :
    Row4 ((((W.setCell ⟨b, 0, none⟩ (.int .u32 (a0 : Int))).setCell ⟨b, 1, none⟩ (.int .u32 (a1 : Int))).setCell ⟨b, 2, none⟩ (.int .u32 (a2 : Int))).setCell ⟨b, 3, none⟩ (.int .u32 (a3 : Int))) b (a0, a1, a2, a3) := by
  have hlt : b < W.heap.size := block_lt_of_cell h.cells.1
  unfold Row4 at *
  simp only [World.setCell, Array.getElem?_modify, h]
  simp [st4]
/-- what the reference's loop over blocks works on: the padded text in block g, the words in hb, the turns in mb -/
structure RefSt (w : World) (p : List UInt8) (g hb mb : Nat) (s : St) (W : World) : Prop where
  bytes : ∀ j (hj : j < p.length), W.cell? ⟨g, j, none⟩ = some (.int .u8 (p[j].toNat : Int))
  row : Row4 W hb s
  turns : Turns mb W
  low : Below w.heap.size w W
  ghb : g ≠ hb
  mhb : mb ≠ hb
  base : w.heap.size ≤ hb
theorem RefSt.later {w : World} {p : List UInt8} {g hb mb : Nat} {s : St} {W W' : World} (h : RefSt w p g hb mb s W) (b : Below W.heap.size W W') : RefSt w p g hb mb s W' :=
  ⟨fun j hj => keepcell b (h.bytes j hj), h.row.later b, h.turns.later b, below_then h.low b, h.ghb, h.mhb, h.base⟩
theorem RefSt.stored {w : World} {p : List UInt8} {g hb mb : Nat} {s : St} {W : World} (h : RefSt w p g hb mb s W) (a0 a1 a2 a3 : Nat) :
    RefSt w p g hb mb (a0, a1, a2, a3) ((((W.setCell ⟨hb, 0, none⟩ (.int .u32 (a0 : Int))).setCell ⟨hb, 1, none⟩ (.int .u32 (a1 : Int))).setCell ⟨hb, 2, none⟩ (.int .u32 (a2 : Int))).setCell ⟨hb, 3, none⟩ (.int .u32 (a3 : Int))) := by
  refine ⟨fun j hj => ?_, h.row.stored a0 a1 a2 a3, (((h.turns.stored _ _ h.mhb).stored _ _ h.mhb).stored _ _ h.mhb).stored _ _ h.mhb, ((((h.low).setCell (p := ⟨hb, 0, none⟩) h.base _).setCell (p := ⟨hb, 1, none⟩) h.base _).setCell (p := ⟨hb, 2, none⟩) h.base _).setCell (p := ⟨hb, 3, none⟩) h.base _, h.ghb, h.mhb, h.base⟩
  rw [World.cell?_setCell_far _ _ _ _ (by exact h.ghb.symm), World.cell?_setCell_far _ _ _ _ (by exact h.ghb.symm), World.cell?_setCell_far _ _ _ _ (by exact h.ghb.symm), World.cell?_setCell_far _ _ _ _ (by exact h.ghb.symm)]
  exact h.bytes j hj
theorem RefSt.word {w : World} {q : List UInt8} {g hb mb : Nat} {s : St} {W : World} (h : RefSt w q g hb mb s W) (j G : Nat) (hj : 64 * j + 64 ≤ q.length) (hG : G < 16) :
    ∃ x0 x1 x2 x3 : Nat, x0 < 256 ∧ x1 < 256 ∧ x2 < 256 ∧ x3 < 256 ∧ W.cell? ⟨g, 64 * j + 4 * G, none⟩ = some (.int .u8 (x0 : Int)) ∧ W.cell? ⟨g, 64 * j + (4 * G + 1), none⟩ = some (.int .u8 (x1 : Int)) ∧ W.cell? ⟨g, 64 * j + (4 * G + 2), none⟩ = some (.int .u8 (x2 : Int)) ∧ W.cell? ⟨g, 64 * j + (4 * G + 3), none⟩ = some (.int .u8 (x3 : Int)) ∧
      (wordsL ((q.drop (64 * j)).take 64)).getD G 0 = x0 + x1 * 256 + x2 * 65536 + x3 * 16777216 := by
  have hl : ((q.drop (64 * j)).take 64).length = 64 := by simp; omega
  have he : ∀ t (ht : t < 64), ((q.drop (64 * j)).take 64)[t]'(by omega) = q[64 * j + t]'(by omega) := fun t ht => by simp
  refine ⟨_, _, _, _, (q[64 * j + 4 * G]'(by omega)).toNat_lt, (q[64 * j + (4 * G + 1)]'(by omega)).toNat_lt, (q[64 * j + (4 * G + 2)]'(by omega)).toNat_lt, (q[64 * j + (4 * G + 3)]'(by omega)).toNat_lt, h.bytes _ _, h.bytes _ _, h.bytes _ _, h.bytes _ _, ?_⟩
  rw [wordsL_at _ G hG hl, he _ (by omega), he _ (by omega), he _ (by omega), he _ (by omega)]
theorem refSt_start {w wr Wf : World} {q : List UInt8} {gb : Nat} {D : DataW Unit} (hc : ∀ j (hj : j < q.length), wr.cell? ⟨gb, j, none⟩ = some (.int .u8 (q[j].toNat : Int))) (hlo : Below w.heap.size w wr) (hg : gb < wr.heap.size)
    (hown : Wf.ownsMap Tryz.prog 3 (plainElem (H := Unit) Tryz.prog 3) (wr.heap.size + 1) 16 D) (hD : D = turnsD)
    (hgr : ((wr.alloc (.cells #[.int .u32 1732584193, .int .u32 4023233417, .int .u32 2562383102, .int .u32 271733878] 55)).alloc (.map #[] 0)).grownBy Wf (some (wr.heap.size + 1))) :
    RefSt w q gb wr.heap.size (wr.heap.size + 1) mInit Wf := by
  subst hD
  have hs : ((wr.alloc (.cells #[.int .u32 1732584193, .int .u32 4023233417, .int .u32 2562383102, .int .u32 271733878] 55)).alloc (.map #[] 0)).heap.size = wr.heap.size + 2 := by simp
  refine ⟨fun j hj => ?_, ?_, hown, ?_, by omega, by omega, hlo.size⟩
  · refine hgr.cell ?_ (by simp; omega)
    unfold World.cell?
    rw [heap_alloc_old _ _ (by simp; omega), heap_alloc_old _ _ hg]
    exact hc j hj
  · unfold Row4
    rw [hgr.block _ (by rw [hs]; omega) (by simp), heap_alloc_old _ _ (by simp)]
    exact heap_alloc_new wr _
  · exact ((hlo.alloc hlo.size _).alloc (by have := hlo.size; simp; omega) _).grown hgr (by have := hlo.size; rw [hs]; omega) (fun k hk => by cases hk; have := hlo.size; omega)
end Go.Proofs.YtoponmdfjbhnoaaGreatDoor
