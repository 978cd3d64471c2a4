/- The laws' quiet head, nop. -/
import Derived.Test.YtlkikkfbennmnaaGreatDoorGD
namespace Go.Proofs.YtlkikkfbennmnaaGreatDoor
open Go.RowKit
theorem Vals.form {W : World} {v : Value} {l : List Nat} (h : Vals W v l) : ∃ p c, v = .slice p l.length c := by obtain ⟨p, c, hv, _⟩ := h; exact ⟨p, c, hv⟩
def nopH : Hd := ⟨0, true, 128, [0, 7, 4294967295, 3, 4]⟩
def nopB : List UInt8 := [64, 128, 0, 0, 1, 0, 0, 5, 0, 0, 0, 0, 0, 0, 0, 0, 0, 0, 0, 7, 255, 255, 255, 255, 0, 0, 0, 3, 0, 0, 0, 4, 0, 0, 0, 0, 0, 0, 0, 0, 0, 0, 0, 0, 0, 0, 0, 0]
theorem nop_right : rightR nopH = (0, -1) := by decide +kernel
theorem nop_bytes : headB nopH 1 5 = nopB := by decide +kernel
theorem nop_write : writeR nopH 1 5 = (nopB, 0, -1) := by rw [← nop_bytes]; decide +kernel
theorem nop_read : readR nopB = (nopH, 1, 5, 0) := by rw [← nop_bytes]; exact read_write nop_right (by decide) (by decide)
theorem nop_any (w : World) : Calls Tryz.prog 30 #[] w fun e w' => ∃ v, e = .returned (headV nopH v) ∧ Vals w' v nopH.vs ∧ Below w.heap.size w w' := by
  go_enter Tryz.func30, Tryz.ntmps30
  go_wp2_with fail
  have hN := Blk.new (w.alloc (.cells #[.int .i64 0, .bool true, .int .i64 128, .slice (some ⟨w.heap.size + 1, 0, none⟩) 5 5] 42)) (cellsU nopH.vs) 105
  rw [World.size_alloc] at hN
  refine bodyPost_ret (v := headV nopH (.slice (some ⟨w.heap.size + 1, 0, none⟩) 5 5)) (by simp [results, Tryz.results30, go_sem, headV, nopH]) rfl ⟨_, rfl, Nums.vals hN (by decide), ?_⟩
  exact ((Below.refl _ _).alloc (Nat.le_refl _) _).alloc (by simp) _
theorem nop_agg (w : World) : Calls Tryz.prog 30 #[] w fun e w' => ∃ v, e = .returned (.agg #[.int .i64 0, .bool true, .int .i64 128, v]) ∧ Vals w' v nopH.vs ∧ Below w.heap.size w w' := nop_any w
end Go.Proofs.YtlkikkfbennmnaaGreatDoor
