/- A block of numbers; four stores to a head's block. -/
import Derived.Test.YtffdlchoaaakdaaGreatDoorRight2
namespace Go.Proofs.YtffdlchoaaakdaaGreatDoor
open Go.RowKit
def cellsU (l : List Nat) : Array Value := (l.map fun (x : Nat) => Value.int .u64 (x : Int)).toArray
theorem cellsU_size (l : List Nat) : (cellsU l).size = l.length := by simp [cellsU]
theorem cellsU_set (l : List Nat) (i x : Nat) : (cellsU l).setIfInBounds i (.int .u64 (x : Int)) = cellsU (l.set i x) := by simp [cellsU, List.map_set]
theorem cellsU_get (l : List Nat) (i : Nat) (h : i < l.length) : (cellsU l)[i]? = some (.int .u64 (l[i] : Int)) := by simp [cellsU, List.getElem?_eq_getElem h]
theorem run_make_U (w : World) (n : Nat) (hn : n ≤ 100) : (Instr.makeSlice 22 (.int .i64 (n : Int)) (.int .i64 (n : Int))).run Tryz.prog w = .ok (.slice (some ⟨w.heap.size, 0, none⟩) n n) (w.alloc (.cells (cellsU (List.replicate n 0)) 37)) := by
  obtain ⟨i, hi, hz, hs, hb⟩ := info_parts (show (Tryz.prog.info? 37).map (fun i => (i.zero, i.size, i.bytes)) = some (some (.int .u64 0), 1, 8) by kernel_rfl)
  have h := run_make (P := Tryz.prog) w 22 37 i _ Tryz.underlying22 hi hz .i64 .i64 n n (by omega) (Int.le_refl _) (by rw [hb]; omega) (by omega)
  simp only [Int.toNat_natCast, hs, Nat.mul_one] at h
  have e : madeCells (Value.int .u64 0).cells n = cellsU (List.replicate n 0) := by
    apply Array.ext'
    rw [show (Value.int IntKind.u64 0).cells = #[Value.int .u64 0] from rfl, toList_madeCells_one]
    simp [cellsU]
  rw [e] at h
  exact h
/-- a block of numbers -/
def Nums (W : World) (b : Nat) (l : List Nat) : Prop := Blk W b (cellsU l) 37
theorem Nums.vals {W : World} {b : Nat} {l : List Nat} (h : Nums W b l) (hx : ∀ x ∈ l, x < 2 ^ 64) : Vals W (.slice (some ⟨b, 0, none⟩) l.length l.length) l :=
  ⟨_, _, rfl, hx, fun _ => ⟨b, 0, rfl, fun j hj => by rw [Nat.zero_add, Blk.cell h j, cellsU_get l j hj]⟩⟩
theorem vals_nil (W : World) : Vals W (.slice none 0 0) [] := ⟨none, 0, rfl, ⟨fun _ h => absurd h (List.not_mem_nil), fun h => absurd h (by decide)⟩⟩
theorem four_stored {w W : World} {N b : Nat} {o0 o1 o2 o3 : Value} {t : TypeId} (x0 x1 x2 x3 : Value) (hR : Blk W b #[o0, o1, o2, o3] t) (hb : N ≤ b) (hB : Below N w W) :
    Blk ((((W.setCell ⟨b, 0, none⟩ x0).setCell ⟨b, 1, none⟩ x1).setCell ⟨b, 2, none⟩ x2).setCell ⟨b, 3, none⟩ x3) b #[x0, x1, x2, x3] t ∧
    Below N w ((((W.setCell ⟨b, 0, none⟩ x0).setCell ⟨b, 1, none⟩ x1).setCell ⟨b, 2, none⟩ x2).setCell ⟨b, 3, none⟩ x3) :=
  ⟨(((hR.set 0 x0).set 1 x1).set 2 x2).set 3 x3, (((hB.setCell (p := ⟨b, 0, none⟩) hb _).setCell (p := ⟨b, 1, none⟩) hb _).setCell (p := ⟨b, 2, none⟩) hb _).setCell (p := ⟨b, 3, none⟩) hb _⟩
/-- numbers in a block are there behind stores to another one -/
theorem vals_set4 {W : World} {p c n : Nat} {l : List Nat} (h : Vals W (.slice (some ⟨p, 0, none⟩) n c) l) (b : Nat) (hb : b < p) {x0 x1 x2 x3 : Value} :
    Vals ((((W.setCell ⟨b, 0, none⟩ x0).setCell ⟨b, 1, none⟩ x1).setCell ⟨b, 2, none⟩ x2).setCell ⟨b, 3, none⟩ x3) (.slice (some ⟨p, 0, none⟩) n c) l := by
  obtain ⟨q, c', hv, hx, hc⟩ := h
  refine ⟨q, c', hv, hx, fun hl => ?_⟩
  obtain ⟨b', o, hp, hcell⟩ := hc hl
  refine ⟨b', o, hp, fun j hj => ?_⟩
  have hbp : b' = p := by
    have : some (⟨p, 0, none⟩ : Addr) = some ⟨b', o, none⟩ := by rw [← hp]; injection hv
    injection this with this
    injection this with h1
    exact h1.symm
  subst hbp
  have hne : b' ≠ b := by omega
  have hh : ((((W.setCell ⟨b, 0, none⟩ x0).setCell ⟨b, 1, none⟩ x1).setCell ⟨b, 2, none⟩ x2).setCell ⟨b, 3, none⟩ x3).heap[b']? = W.heap[b']? := by
    rw [setCell_heap_other hne, setCell_heap_other hne, setCell_heap_other hne, setCell_heap_other hne]
  have := hcell j hj
  unfold World.cell? at this ⊢
  simp only [hh]
  exact this
end Go.Proofs.YtffdlchoaaakdaaGreatDoor
