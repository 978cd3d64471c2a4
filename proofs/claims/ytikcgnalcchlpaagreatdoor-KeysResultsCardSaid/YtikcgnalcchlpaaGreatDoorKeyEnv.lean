/- The listed variables that keys' functions read, as a world's cells. -/
import Derived.Test.YtikcgnalcchlpaaGreatDoorMaxCell
import Derived.Test.YtikcgnalcchlpaaGreatDoorShNum
import Derived.Lib.AppendIntMem
namespace Go.Proofs.YtikcgnalcchlpaaGreatDoor
open Go.RowKit
structure Env (w : World) : Prop where
  mc : MaxCell w
  sy : ∃ v, w.cell? ⟨3, 0, none⟩ = some v ∧ (v = .nilIface ∨ ∃ t p, v = .iface t p)
  rg : ∃ v, w.cell? ⟨4, 0, none⟩ = some v ∧ (v = .nilIface ∨ ∃ t p, v = .iface t p)
  tb : Lib.TabIs Tryz.prog w "internal/strconv.uint64pow10" .u64 Lib.pow10Tab
theorem Env.later {w w' : World} (h : Env w) (hb : Below w.heap.size w w') : Env w' := by
  refine ⟨h.mc.later hb, ?_, ?_, Lib.tabBelow_of_tabIs h.tb w' hb⟩
  · obtain ⟨v, hc, hv⟩ := h.sy
    refine ⟨v, ?_, hv⟩
    exact (by rw [(bcell hb).1 _ 0 (block_lt_of_cell (w := w) (a := ⟨_, 0, none⟩) hc)]; exact hc)
  · obtain ⟨v, hc, hv⟩ := h.rg
    refine ⟨v, ?_, hv⟩
    exact (by rw [(bcell hb).1 _ 0 (block_lt_of_cell (w := w) (a := ⟨_, 0, none⟩) hc)]; exact hc)
/-- strconv.Itoa of a number that is none below 0 -/
theorem itoa_any (n : Nat) (w : World) (hn : n < 1099511627776) (hE : Env w) : Calls Tryz.prog 22 #[.int .i64 (n : Int)] w fun e w' => e = .returned (.string (S (Lib.decDigits n))) ∧ Below w.heap.size w w' := by
  refine (Tryz.strconv_Itoa (n : Int) (by omega) (by omega) w hE.tb).mono ?_
  rintro e w' ⟨rfl, k, os, rfl⟩
  rw [Lib.itoa_nonneg]
  exact ⟨rfl, Lib.below_grow w.heap.size w (Nat.le_refl _) k os⟩
end Go.Proofs.YtikcgnalcchlpaaGreatDoor
