/- The laws' pair; an append of pairs, however many there are. -/
import Derived.Test.YteapbjeapnmloaaGreatDoorConcatP
namespace Go.Proofs.YteapbjeapnmloaaGreatDoor
open Go Go.RowKit
set_option linter.unusedVariables false
theorem pair_any (k d : List UInt8) (w : World) : Calls Tryz.prog 39 #[.string (S k), .string (S d)] w fun e w' => e = .returned (.agg #[.string (S k), .string (S d)]) ∧ Below w.heap.size w w' := by
  have hb0 := (Below.refl w.heap.size w).alloc (Nat.le_refl _) (.cells #[.string (S k), .string (S d)] 35)
  have hP := Blk.new w #[.string (S k), .string (S d)] 35
  obtain ⟨x0, x1⟩ := hP.two
  have Hb0 := Lib.hid hb0
  clear hb0 hP
  go_enter Tryz.func39, Tryz.ntmps39
  go_wp2_with fail
  refine bodyPost_ret (v := .agg #[.string (S k), .string (S d)]) (by simp [results, Tryz.results39, go_sem]) rfl ⟨rfl, Hb0.out⟩
theorem run_append_wide {W : World} {base : Nat} {v : Value} {l m : List Pr} {a : Addr} {c : Nat} (h : PrBuf base W v l) (hx : PrsV W (.slice (some a) m.length c) m) (hm : 0 < m.length) (hl : (l.length + m.length) * 32 ≤ 140737488355328) (hb : base ≤ W.heap.size) :
    ∃ v' W', (Builtin.append_ #[22, 22] 22 #[v, .slice (some a) m.length c]).run Tryz.prog W = .ok v' W' ∧ PrBuf base W' v' (l ++ m) ∧ W.grownBy W' v.ownBlock := by
  obtain ⟨i0, hi, hz0, hz1, hz2⟩ := infoPr
  obtain ⟨a', c', e, hcell⟩ := prs_cells hx hm
  obtain ⟨rfl, rfl⟩ : a = a' ∧ c = c' := by simpa using e
  obtain ⟨v5, w5, hrun, hown, hgrow, _⟩ := run_append_own (P := Tryz.prog) (w := W) base 22 22 35 i0 (.agg #[.string (S []), .string (S [])]) 2 32 Tryz.underlying22 hi hz0 hz1 hz2 rfl (by decide) v l.length (prsVs l) h a m.length c (prsVs m) (prsVs_len m) hcell (prsVs_one m) (by unfold maxLen; omega) hl hb
  refine ⟨v5, w5, hrun, ?_, hgrow⟩
  unfold PrBuf
  rw [prsVs_app, List.length_append]
  exact hown
end Go.Proofs.YteapbjeapnmloaaGreatDoor
