/- A PDU that is right has no more than memory has. -/
import Derived.Test.YtlkikkfbennmnaaGreatDoorPduV
namespace Go.Proofs.YtlkikkfbennmnaaGreatDoor
open Go.RowKit
theorem wrL_ge : ∀ l : List Ah, l.length ≤ (wrL l).length
  | [] => Nat.le_refl _
  | a :: l => by
    have := wrL_ge l
    have := sizeA_pos a
    rw [wrL_cons, List.length_append, wrA_len, List.length_cons]; omega
theorem RightP.fit {p : Pd} (h : RightP p) : FitP p := by
  obtain ⟨k, hk, _, hfl, _, _⟩ := rightR_good h.h
  have hb := flOk_bd (kindFacts hk).fl hfl
  have ha := h.a
  have hg := wrL_ge p.a
  have hd := h.d
  have hv := h.vs
  exact ⟨⟨by omega, by omega⟩, by omega, ⟨by omega, fun a ha' => by have := data_lt h.a a ha'; omega⟩, by omega⟩
end Go.Proofs.YtlkikkfbennmnaaGreatDoor
