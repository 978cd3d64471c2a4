/- slices.Contains of texts. -/
import Derived.Test.YtbllnelnajfjgaaDoorStrV
import Derived.Test.YtbllnelnajfjgaaDoorShCon
namespace Go.Proofs.YtbllnelnajfjgaaDoor
open Go.RowKit
theorem containsS_any (l : List (List UInt8)) (v : Value) (x : List UInt8) (w : World) (hv : StrV w v l) (hl : l.length ≤ 1000000) :
    Calls Tryd.prog 22 #[v, .string (S x)] w fun e w' => e = .returned (.bool (decide (x ∈ l))) ∧ w = w' := by
  obtain ⟨p, c, rfl, hc⟩ := hv
  cases l with
  | nil =>
    refine (Tryd.slices_Contains_string_empty p c (S x) w).mono ?_
    rintro e w' ⟨rfl, rfl⟩
    exact ⟨by simp, rfl⟩
  | cons y l =>
    obtain ⟨b, o, rfl, hcell⟩ := hc (by simp)
    refine (Tryd.slices_Contains_string b o (y :: l).length c ((y :: l).map S) (S x) w (by simp) (by simp at hl ⊢; omega) (fun j hj => ?_)).mono ?_
    · have hj' : j < (y :: l).length := by simpa using hj
      rw [hcell j hj', List.getD_eq_getElem?_getD, List.getElem?_map, List.getElem?_eq_getElem hj']
      rfl
    · rintro e w' ⟨rfl, rfl⟩
      refine ⟨?_, rfl⟩
      have h : Lib.containsS (((y :: l).map S).take (y :: l).length) (S x) = decide (x ∈ y :: l) := by
        rw [List.take_of_length_le (by simp), Bool.eq_iff_iff, Lib.containsS_iff, decide_eq_true_iff, List.mem_map]
        exact ⟨fun ⟨z, hz, e⟩ => by rw [← S_inj e]; exact hz, fun h => ⟨x, h, rfl⟩⟩
      rw [h]
end Go.Proofs.YtbllnelnajfjgaaDoor
