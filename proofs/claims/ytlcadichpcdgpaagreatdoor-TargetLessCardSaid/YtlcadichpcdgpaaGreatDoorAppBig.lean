/- What an append of one pair asks, in any order of a region. No function of the program is walked here. -/
import Derived.Test.YtlcadichpcdgpaaGreatDoorGB
import Derived.Test.YtlcadichpcdgpaaGreatDoorGO
import Derived.Test.YtlcadichpcdgpaaGreatDoorStepOwn
namespace Go.Proofs.YtlcadichpcdgpaaGreatDoor
open Go Go.RowKit
set_option linter.unusedVariables false
/-- what an append of one pair asks, however many there are -/
theorem appP_big (k v : List UInt8) (wu WB : World) (n base : Nat) (hWB : wu.alloc (.cells #[.string (S k), .string (S v)] 40) = WB) (hn : n * 32 ≤ 140737488351232) (hb : base ≤ wu.heap.size) :
    Hid (∀ j u, ([.string (S k), .string (S v)] : List Value)[j]? = some u → WB.cell? ((⟨wu.heap.size, 0, none⟩ : Addr).add j) = some u) ∧ Hid (∀ u ∈ ([.string (S k), .string (S v)] : List Value), u.oneCell' = true) ∧ Hid (n + 1 ≤ maxLen) ∧ Hid ((n + 1) * 32 ≤ 140737488355328) ∧ Hid (base ≤ WB.heap.size) := by
  subst hWB
  refine ⟨Lib.hid ?_, Lib.hid ?_, Lib.hid (by unfold maxLen; omega), Lib.hid (by omega), Lib.hid (by simp; omega)⟩
  · intro j u h
    have hb := (Blk.new wu #[.string (S k), .string (S v)] 40).cell j
    have e1 : (⟨wu.heap.size, 0, none⟩ : Addr).add j = ⟨wu.heap.size, j, none⟩ := by simp only [Addr.add]; split <;> simp_all
    rw [e1, hb]
    simpa using h
  · exact prsVs_one [⟨k, v⟩]
theorem below_undrew {w W : World} (h : Below w.drew.heap.size w.drew W) : Below w.heap.size w W := ⟨h.os, h.tape, h.output, h.size, h.block⟩
theorem buf_prs {base : Nat} {W : World} {v : Value} {l : List Pr} {k d : List UInt8} (h : W.ownsRow base 40 2 v (l.length + 1) (prsVs l ++ [.string (S k), .string (S d)])) : PrBuf base W v (l ++ [⟨k, d⟩]) := by
  unfold PrBuf
  rw [prsVs_app, List.length_append]
  exact h
theorem PrBuf.mono {base base' : Nat} {W : World} {v : Value} {l : List Pr} (h : PrBuf base W v l) (hb : base' ≤ base) : PrBuf base' W v l := by
  refine ⟨h.1, ?_⟩
  rcases h.2 with ⟨rfl, h0⟩ | ⟨g, cap, cur, rfl, hbg, rest⟩
  · exact .inl ⟨rfl, h0⟩
  · exact .inr ⟨g, cap, cur, rfl, Nat.le_trans hb hbg, rest⟩
end Go.Proofs.YtlcadichpcdgpaaGreatDoor
