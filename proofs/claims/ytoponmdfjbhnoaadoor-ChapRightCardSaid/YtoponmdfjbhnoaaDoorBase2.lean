/- More plain vocabulary: blocks of bytes in any world. -/
import Derived.Test.YtoponmdfjbhnoaaDoorBase
namespace Go.Proofs.YtoponmdfjbhnoaaDoor
open Go.RowKit
/-- block b holds these bytes -/
def BytesAt (W : World) (b : Nat) (l : List UInt8) : Prop := ∀ j, W.cell? ⟨b, j, none⟩ = (cells8 l)[j]?
theorem bytesAt_new (w : World) (l : List UInt8) (t : TypeId) (fr : Nat × Nat) : BytesAt (w.alloc (.cells (cells8 l) t fr)) w.heap.size l := fun j => World.cell?_alloc_mark w _ t fr j
theorem bytesAt_drew {W : World} {b : Nat} {l : List UInt8} (h : BytesAt W b l) : BytesAt W.drew b l := h
theorem bytesAt_drewN {W : World} {b : Nat} {l : List UInt8} (h : BytesAt W b l) (n : Nat) : BytesAt (W.drewN n) b l := h
theorem bytesAt_later {W W' : World} {b : Nat} {l : List UInt8} (h : BytesAt W b l) (hb : Below W.heap.size W W') (hlt : b < W.heap.size) : BytesAt W' b l := fun j => by
  rw [(bcell hb).1 b j hlt]; exact h j
theorem bytesAt_get {W : World} {b : Nat} {l : List UInt8} (h : BytesAt W b l) (j : Nat) (hj : j < l.length) : W.cell? ⟨b, j, none⟩ = some (.int .u8 (l[j].toNat : Int)) := by
  rw [h j, cells8_get l j hj]
theorem run_string_cells {P : Program} (src dst e : TypeId) (hs : P.underlying src = some (.slice e)) (he : P.underlying e = some (.int .u8)) (hd : P.underlying dst = some .string)
    {W : World} {b : Nat} {l : List UInt8} (h : BytesAt W b l) (n c : Nat) (hn : n ≤ l.length) :
    (convert src dst (.slice (some ⟨b, 0, none⟩) n c)).run P W = .ok (.string (S (l.take n))) W := by
  have hl : (l.take n).length = n := by simp; omega
  have h := run_convert_bytes_back (P := P) W src dst e ⟨b, 0, none⟩ c (l.take n) hs he hd (fun j hj => by
    have hj' : j < l.length := by omega
    have e1 : (⟨b, 0, none⟩ : Addr).add j = ⟨b, j, none⟩ := by simp [Addr.add]; omega
    rw [e1, bytesAt_get h j hj']
    simp [List.getElem_take])
  rw [hl] at h
  exact h
end Go.Proofs.YtoponmdfjbhnoaaDoor
