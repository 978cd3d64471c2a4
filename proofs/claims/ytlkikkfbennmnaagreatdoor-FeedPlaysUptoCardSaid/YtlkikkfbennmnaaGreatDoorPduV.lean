/- PDUs in memory. No function of the program is walked here. -/
import Derived.Test.YtlkikkfbennmnaaGreatDoorPduMath
import Derived.Test.YtlkikkfbennmnaaGreatDoorGD
import Derived.Test.YtlkikkfbennmnaaGreatDoorGE
namespace Go.Proofs.YtlkikkfbennmnaaGreatDoor
open Go.RowKit
/-- a PDU whose head's values lie at vv, its additional headers at va -/
def pduV (p : Pd) (vv va : Value) : Value := .agg #[.int .i64 p.h.op, .bool p.h.now, .int .i64 p.h.fl, vv, va, .string (S p.d)]
/-- the values and the additional headers read as the PDU's in W -/
structure PduAt (W : World) (p : Pd) (vv va : Value) : Prop where
  v : Vals W vv p.h.vs
  a : AhsV W va p.a
theorem PduAt.later {W W' : World} {p : Pd} {vv va : Value} (h : PduAt W p vv va) (hb : Below W.heap.size W W') : PduAt W' p vv va := ⟨h.v.later hb, h.a.later hb⟩
theorem PduAt.drewN {W : World} {p : Pd} {vv va : Value} (h : PduAt W p vv va) (n : Nat) : PduAt (W.drewN n) p vv va := ⟨h.v.drewN n, h.a.drewN n⟩
theorem pdu0_at (W : World) : PduAt W pd0 (.slice none 0 0) (.slice none 0 0) := ⟨⟨none, 0, rfl, ⟨fun _ h => absurd h (List.not_mem_nil), fun h => absurd h (by decide)⟩⟩, AhsV.nil W⟩
/-- no more than memory has -/
structure FitP (p : Pd) : Prop where
  fl : I64 p.h.fl
  vs : p.h.vs.length ≤ 9223372036854775807
  a : fitA p.a
  d : p.d.length ≤ 140737488351232
def cells6 (p : Pd) (vv va : Value) : Array Value := #[.int .i64 p.h.op, .bool p.h.now, .int .i64 p.h.fl, vv, va, .string (S p.d)]
theorem Blk.six {W : World} {b : Nat} {x y z u v s : Value} {t : TypeId} (h : Blk W b #[x, y, z, u, v, s] t) : W.cell? ⟨b, 0, none⟩ = some x ∧ W.cell? ⟨b, 1, none⟩ = some y ∧ W.cell? ⟨b, 2, none⟩ = some z ∧ W.cell? ⟨b, 3, none⟩ = some u ∧ W.cell? ⟨b, 4, none⟩ = some v ∧ W.cell? ⟨b, 5, none⟩ = some s := ⟨h.cell 0, h.cell 1, h.cell 2, h.cell 3, h.cell 4, h.cell 5⟩
theorem six_stored {w W : World} {N b : Nat} {o0 o1 o2 o3 o4 o5 : Value} {t : TypeId} (x0 x1 x2 x3 x4 x5 : Value) (hR : Blk W b #[o0, o1, o2, o3, o4, o5] t) (hb : N ≤ b) (hB : Below N w W) :
    Blk ((((((W.setCell ⟨b, 0, none⟩ x0).setCell ⟨b, 1, none⟩ x1).setCell ⟨b, 2, none⟩ x2).setCell ⟨b, 3, none⟩ x3).setCell ⟨b, 4, none⟩ x4).setCell ⟨b, 5, none⟩ x5) b #[x0, x1, x2, x3, x4, x5] t ∧
    Below N w ((((((W.setCell ⟨b, 0, none⟩ x0).setCell ⟨b, 1, none⟩ x1).setCell ⟨b, 2, none⟩ x2).setCell ⟨b, 3, none⟩ x3).setCell ⟨b, 4, none⟩ x4).setCell ⟨b, 5, none⟩ x5) :=
  ⟨(((((hR.set 0 x0).set 1 x1).set 2 x2).set 3 x3).set 4 x4).set 5 x5,
   (((((hB.setCell (p := ⟨b, 0, none⟩) hb x0).setCell (p := ⟨b, 1, none⟩) hb x1).setCell (p := ⟨b, 2, none⟩) hb x2).setCell (p := ⟨b, 3, none⟩) hb x3).setCell (p := ⟨b, 4, none⟩) hb x4).setCell (p := ⟨b, 5, none⟩) hb x5⟩
theorem six_apartV {W : World} {b : Nat} {o0 o2 : Int} {o1 : Bool} {o5 : ByteArray} {p3 p4 : Option Addr} {n3 n4 c3 c4 : Nat} {t : TypeId} (hk : Blk W b #[.int .i64 o0, .bool o1, .int .i64 o2, .slice p3 n3 c3, .slice p4 n4 c4, .string o5] t) {b' o : Nat} {x : Int} (h : W.cell? ⟨b', o, none⟩ = some (.int .u64 x)) : b' ≠ b := by
  rintro rfl
  rw [hk.cell o] at h
  obtain rfl | rfl | rfl | rfl | rfl | rfl | ho : o = 0 ∨ o = 1 ∨ o = 2 ∨ o = 3 ∨ o = 4 ∨ o = 5 ∨ 6 ≤ o := by omega
  all_goals first | (simp at h; done) | skip
  rw [Array.getElem?_eq_none (by simpa using ho)] at h
  cases h
theorem six_apartA {W : World} {b : Nat} {o0 o2 : Int} {o1 : Bool} {o5 : ByteArray} {p3 p4 : Option Addr} {n3 n4 c3 c4 : Nat} {t : TypeId} (hk : Blk W b #[.int .i64 o0, .bool o1, .int .i64 o2, .slice p3 n3 c3, .slice p4 n4 c4, .string o5] t) {b' o : Nat} {x : Int} {s : ByteArray} (h : W.cell? ⟨b', o, none⟩ = some (.int .i64 x)) (h1 : W.cell? ⟨b', o + 1, none⟩ = some (.string s)) : b' ≠ b := by
  rintro rfl
  rw [hk.cell o] at h
  rw [hk.cell (o + 1)] at h1
  obtain rfl | rfl | rfl | rfl | rfl | rfl | ho : o = 0 ∨ o = 1 ∨ o = 2 ∨ o = 3 ∨ o = 4 ∨ o = 5 ∨ 6 ≤ o := by omega
  all_goals first | (simp at h; done) | (simp at h1; done) | skip
  rw [Array.getElem?_eq_none (by simpa using ho)] at h
  cases h
theorem PduAt.set6 {W : World} {p : Pd} {vv va : Value} (h : PduAt W p vv va) {b : Nat} {o0 o2 : Int} {o1 : Bool} {o5 : ByteArray} {p3 p4 : Option Addr} {n3 n4 c3 c4 : Nat} {t : TypeId} (hk : Blk W b #[.int .i64 o0, .bool o1, .int .i64 o2, .slice p3 n3 c3, .slice p4 n4 c4, .string o5] t) (x0 x1 x2 x3 x4 x5 : Value) :
    PduAt ((((((W.setCell ⟨b, 0, none⟩ x0).setCell ⟨b, 1, none⟩ x1).setCell ⟨b, 2, none⟩ x2).setCell ⟨b, 3, none⟩ x3).setCell ⟨b, 4, none⟩ x4).setCell ⟨b, 5, none⟩ x5) p vv va := by
  have hh : ∀ b', b' ≠ b → ∀ o, ((((((W.setCell ⟨b, 0, none⟩ x0).setCell ⟨b, 1, none⟩ x1).setCell ⟨b, 2, none⟩ x2).setCell ⟨b, 3, none⟩ x3).setCell ⟨b, 4, none⟩ x4).setCell ⟨b, 5, none⟩ x5).cell? ⟨b', o, none⟩ = W.cell? ⟨b', o, none⟩ := fun b' hne o => by
    have e : ((((((W.setCell ⟨b, 0, none⟩ x0).setCell ⟨b, 1, none⟩ x1).setCell ⟨b, 2, none⟩ x2).setCell ⟨b, 3, none⟩ x3).setCell ⟨b, 4, none⟩ x4).setCell ⟨b, 5, none⟩ x5).heap[b']? = W.heap[b']? := by
      rw [setCell_heap_other hne, setCell_heap_other hne, setCell_heap_other hne, setCell_heap_other hne, setCell_heap_other hne, setCell_heap_other hne]
    unfold World.cell?
    simp only [e]
  obtain ⟨⟨q, c, hv, hx, hc⟩, ⟨qa, ca, ha, hla, hca⟩⟩ := h
  refine ⟨⟨q, c, hv, hx, fun hl => ?_⟩, ⟨qa, ca, ha, hla, fun hl => ?_⟩⟩
  · obtain ⟨b', o, hq, hcell⟩ := hc hl
    have hne := six_apartV hk (hcell 0 hl)
    exact ⟨b', o, hq, fun j hj => by rw [hh b' hne]; exact hcell j hj⟩
  · obtain ⟨b', o, hq, hcell⟩ := hca hl
    obtain ⟨g0, g1⟩ := hcell 0 hl
    have hne := six_apartA hk g0 g1
    exact ⟨b', o, hq, fun j hj => by rw [hh b' hne, hh b' hne]; exact hcell j hj⟩
end Go.Proofs.YtlkikkfbennmnaaGreatDoor
