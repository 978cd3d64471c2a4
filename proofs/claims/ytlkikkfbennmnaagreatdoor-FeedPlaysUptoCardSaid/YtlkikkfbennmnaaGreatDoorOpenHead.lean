/- A head that came in, opened. -/
import Derived.Test.YtlkikkfbennmnaaGreatDoorGD
import Derived.Lib.SmallJoins
import Derived.ChangeSlices
import Derived.Shelf.Vars
import Derived.Test.YtlkikkfbennmnaaGreatDoorGB
namespace Go.Proofs.YtlkikkfbennmnaaGreatDoor
open Go.RowKit Go.ChangeShapes
theorem maxCell_of_shaped {W : World} (h : W.ShapedOpen Tryz.prog) : MaxCell W :=
  Go.Proofs.cell_of_shapedOpen_int (zero := #[.int .i64 0]) (t := 3) h (of_decide_eq_true (by kernel_rfl)) (by kernel_rfl) rfl (by kernel_rfl) (by kernel_rfl) Tryz.underlying3
theorem I64_of_wf {n : Int} (h : (Lit.int .i64 n).wf = true) : I64 n := by
  simp [Lit.wf, IntKind.min, IntKind.max, IntKind.signed, IntKind.bits] at h
  unfold I64; omega
theorem U64_of_wf {n : Int} (h : (Lit.int .u64 n).wf = true) : 0 ≤ n ∧ n.toNat < 2 ^ 64 := by
  simp [Lit.wf, IntKind.min, IntKind.max, IntKind.signed, IntKind.bits] at h
  omega
theorem spot_none {w : World} {a : Addr} {v : Value} (h : w.cell? a = some v) : a = ⟨a.block, a.off, none⟩ := by
  obtain ⟨b, o, sp⟩ := a
  unfold World.cell? at h
  cases sp with
  | none => rfl
  | some x => simp at h; split at h <;> simp at h
theorem open_nums {H : Type} {enc : TypeId × Value → H} {W : World} {n : Nat} {c : Value} {y : DataW H × List MemPlace} (hy : DataW.trod enc Tryz.prog W 0 (fun _ => true) true n 40 [c] = some y) :
    ∃ vs : List Nat, Vals W c vs ∧ vs.length ≤ 9223372036854775807 := by
  rcases open_ints Tryz.underlying40 Tryz.underlying105 (by kernel_rfl) hy with ⟨hcs, _⟩ | ⟨a, len, cap, zs, hcs, _, hl, hm, hz, _, hcell, hwz⟩
  · obtain rfl : c = .slice none 0 0 := by simpa using hcs
    exact ⟨[], ⟨none, 0, rfl, fun _ h => absurd h (List.not_mem_nil), fun h => absurd h (by decide)⟩, by decide⟩
  · obtain rfl : c = .slice (some a) len cap := by simpa using hcs
    simp only [if_true] at hz
    have hlz : len ≤ zs.length := by omega
    refine ⟨(zs.take len).map Int.toNat, ⟨some a, cap, by simp [List.length_take, Nat.min_eq_left hlz], fun x hx => ?_, fun h0 => ?_⟩, ?_⟩
    · obtain ⟨z, hz, rfl⟩ := List.mem_map.1 hx
      exact (U64_of_wf (hwz z (List.mem_of_mem_take hz))).2
    · have hlen0 : 0 < len := by simpa [List.length_take, Nat.min_eq_left hlz] using h0
      have h1 := hcell 0 (by omega)
      rw [show a.add 0 = a from rfl] at h1
      refine ⟨a.block, a.off, by rw [← spot_none h1], fun j hj => ?_⟩
      have hj' : j < len := by simpa [List.length_take, Nat.min_eq_left hlz] using hj
      have hc := hcell j (by omega)
      have ea : a.add j = ⟨a.block, a.off + j, none⟩ := by
        unfold Addr.add
        split
        · rename_i h; rw [h]; exact spot_none h1
        · rfl
      rw [ea] at hc
      rw [hc]
      have hjz : j < zs.length := by omega
      have hw := (U64_of_wf (hwz (zs[j]) (List.getElem_mem hjz))).1
      have e1 : zs.getD j 0 = zs[j] := by rw [List.getD_eq_getElem?_getD, List.getElem?_eq_getElem hjz]; rfl
      have e2 : (((zs.take len).map Int.toNat)[j]'hj : Nat) = (zs[j]).toNat := by simp
      rw [e1, e2, Int.toNat_of_nonneg hw]
    · have : ((zs.take len).map Int.toNat).length = len := by simp [List.length_take, Nat.min_eq_left hlz]
      rw [this]
      unfold maxLen at hm
      omega
set_option maxRecDepth 100000 in
theorem open_head {H : Type} {enc : TypeId × Value → H} {W : World} {base : Nat} {v : Value} {d : DataW H} {p : List MemPlace} (hval : Value.okWide Tryz.prog W .any base 42 v)
    (h : DataW.Trod enc Tryz.prog W 0 (fun _ => true) true 42 v d p) :
    ∃ (hh : Hd) (vv : Value), v = headV hh vv ∧ Vals W vv hh.vs ∧ I64 hh.fl ∧ I64 hh.op ∧ hh.vs.length ≤ 9223372036854775807 := by
  obtain ⟨v0, v1, v2, v3, y0, y1, y2, y3, n, rfl, rfl, rfl, h0, h1, h2, h3⟩ := Joins.open_agg4 Tryz.underlying42 (by kernel_rfl) (by kernel_rfl) hval h
  obtain ⟨a0, e0, _, w0⟩ := DataW.trod_int Tryz.underlying3 h0
  obtain ⟨a1, e1, _⟩ := DataW.trod_bool Tryz.underlying4 h1
  obtain ⟨a2, e2, _, w2⟩ := DataW.trod_int Tryz.underlying3 h2
  obtain ⟨vs, hv, hl⟩ := open_nums h3
  obtain rfl : v0 = .int .i64 a0 := by simpa using e0
  obtain rfl : v1 = .bool a1 := by simpa using e1
  obtain rfl : v2 = .int .i64 a2 := by simpa using e2
  exact ⟨⟨a0, a1, a2, vs⟩, v3, rfl, hv, I64_of_wf w2, I64_of_wf w0, hl⟩
end Go.Proofs.YtlkikkfbennmnaaGreatDoor
