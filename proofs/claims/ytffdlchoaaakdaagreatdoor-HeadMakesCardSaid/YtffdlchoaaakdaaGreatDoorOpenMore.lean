/- Slices of numbers and of texts that came in, opened, with their reach. -/
import Derived.Test.YtffdlchoaaakdaaGreatDoorOpenHead
import Derived.Test.YtffdlchoaaakdaaGreatDoorMake
import Derived.SliceStrings
import Derived.SizedLaws
import Derived.WideShapes
namespace Go.Proofs.YtffdlchoaaakdaaGreatDoor
open Go.RowKit Go.ChangeShapes
set_option maxRecDepth 100000 in
theorem open_u64s {H : Type} {enc : TypeId × Value → H} {W : World} {base : Nat} {ts : List TypeId} {ds : List (DataW H)} {v : Value} {d : DataW H} {p : List MemPlace} (hsz : (DataW.weightsEach Tryz.prog ts ds).all (· ≤ reachBytes) = true) {j : Nat} (hts : ts[j]? = some 22) (hds : ds[j]? = some d)
    (hval : Value.okWide Tryz.prog W .any base 22 v) (h : DataW.Trod enc Tryz.prog W 0 (fun _ => true) true 22 v d p) : ∃ l : List Nat, Vals W v l ∧ l.length ≤ 140737488355328 := by
  obtain ⟨a0, len, cap, rfl⟩ := Go.WideShapes.okWide_slice Tryz.underlying22 hval
  obtain ⟨fuel, hf⟩ := h
  have hf' := hf
  rw [show (Value.slice a0 len cap).cells.toList = [.slice a0 len cap] from rfl] at hf'
  obtain ⟨l, hV, _⟩ := open_nums hf'
  refine ⟨l, hV, ?_⟩
  have hl : len = l.length := by obtain ⟨_, _, e, _⟩ := hV; injection e
  rcases open_ints Tryz.underlying22 Tryz.underlying37 (by kernel_rfl) hf' with ⟨hcs, _⟩ | ⟨a, len', cap', zs, hcs, _, hl1, hm, hz, hx, hcell, hwz⟩
  · simp at hcs
    omega
  · simp at hcs
    obtain ⟨rfl, rfl, rfl⟩ := hcs
    simp only [Prod.mk.injEq] at hx
    obtain ⟨rfl, _⟩ := hx
    have hs := sized_slice hsz hts hds Tryz.underlying22
    rw [show Tryz.prog.bytesOf 37 = 8 by kernel_rfl] at hs
    have hr := reachBytes_lt
    simp only [if_true] at hz
    have he : (lits (H := H) IntKind.u64 (zs.take len)).length = len := by simp [lits]; omega
    rw [he] at hs
    omega
set_option maxRecDepth 100000 in
theorem open_strs {H : Type} {enc : TypeId × Value → H} {W : World} {base : Nat} {ts : List TypeId} {ds : List (DataW H)} {v : Value} {d : DataW H} {p : List MemPlace} (hsz : (DataW.weightsEach Tryz.prog ts ds).all (· ≤ reachBytes) = true) {j : Nat} (hts : ts[j]? = some 52) (hds : ds[j]? = some d)
    (hval : Value.okWide Tryz.prog W .any base 52 v) (h : DataW.Trod enc Tryz.prog W 0 (fun _ => true) true 52 v d p) : ∃ l : List (List UInt8), StrV W v l ∧ l.length ≤ 140737488355328 := by
  obtain ⟨a0, len, cap, rfl⟩ := Go.WideShapes.okWide_slice Tryz.underlying52 hval
  obtain ⟨fuel, hf⟩ := h
  have hf' := hf
  rw [show (Value.slice a0 len cap).cells.toList = [.slice a0 len cap] from rfl] at hf'
  rcases open_strings Tryz.underlying52 Tryz.underlying9 (by kernel_rfl) hf' with ⟨hcs, _⟩ | ⟨a, len', cap', ss, hcs, _, hl1, hm, hz, hx, hcell, hws⟩
  · simp at hcs
    obtain ⟨rfl, rfl, rfl⟩ := hcs
    exact ⟨[], strV_nil W, by decide⟩
  · simp at hcs
    obtain ⟨rfl, rfl, rfl⟩ := hcs
    simp only [Prod.mk.injEq] at hx
    obtain ⟨rfl, _⟩ := hx
    have hs := sized_slice hsz hts hds Tryz.underlying52
    rw [show Tryz.prog.bytesOf 9 = 16 by kernel_rfl] at hs
    have hr := reachBytes_lt
    simp only [if_true] at hz
    have hlen : ((ss.take len).map fun s => s.data.toList).length = len := by simp; omega
    refine ⟨(ss.take len).map fun s => s.data.toList, ⟨some a, cap, by rw [hlen], fun h0 => ?_⟩, ?_⟩
    · rw [hlen] at h0
      have h1 := hcell 0 (by omega)
      rw [show a.add 0 = a from rfl] at h1
      refine ⟨a.block, a.off, by rw [← spot_none h1], fun i hi => ?_⟩
      rw [hlen] at hi
      have hc := hcell i (by omega)
      have ea : a.add i = ⟨a.block, a.off + i, none⟩ := by
        unfold Addr.add
        split
        · rename_i h; rw [h]; exact spot_none h1
        · rfl
      rw [ea] at hc
      rw [hc]
      have his : i < ss.length := by omega
      simp [List.getD_eq_getElem?_getD, List.getElem?_eq_getElem his, S]
    · rw [hlen]
      have he : (strs (H := H) (ss.take len)).length = len := by simp [strs]; omega
      rw [he] at hs
      omega
end Go.Proofs.YtffdlchoaaakdaaGreatDoor
