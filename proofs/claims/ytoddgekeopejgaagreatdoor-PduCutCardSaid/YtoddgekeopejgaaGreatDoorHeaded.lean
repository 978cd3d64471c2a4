/- The laws' fact headed. -/
import Derived.Test.YtoddgekeopejgaaGreatDoorGD
import Derived.Deep.RegionHeld3
namespace Go.Proofs.YtoddgekeopejgaaGreatDoor
open Go.RowKit
theorem Vals.form {W : World} {v : Value} {l : List Nat} (h : Vals W v l) : ∃ p c, v = .slice p l.length c := by obtain ⟨p, c, hv, _⟩ := h; exact ⟨p, c, hv⟩
def nopH : Hd := ⟨0, true, 128, [0, 7, 4294967295, 3, 4]⟩
def nopB : List UInt8 := [64, 128, 0, 0, 1, 0, 0, 5, 0, 0, 0, 0, 0, 0, 0, 0, 0, 0, 0, 7, 255, 255, 255, 255, 0, 0, 0, 3, 0, 0, 0, 4, 0, 0, 0, 0, 0, 0, 0, 0, 0, 0, 0, 0, 0, 0, 0, 0]
theorem nop_right : rightR nopH = (0, -1) := by decide +kernel
theorem nop_bytes : headB nopH 1 5 = nopB := by decide +kernel
theorem nop_write : writeR nopH 1 5 = (nopB, 0, -1) := by rw [← nop_bytes]; decide +kernel
theorem nop_read : readR nopB = (nopH, 1, 5, 0) := by rw [← nop_bytes]; exact read_write nop_right (by decide) (by decide)
theorem nop_any (w : World) : Calls Tryz.prog 56 #[] w fun e w' => ∃ v, e = .returned (headV nopH v) ∧ Vals w' v nopH.vs ∧ Below w.heap.size w w' := by
  go_enter Tryz.func56, Tryz.ntmps56
  go_wp2_with fail
  have hN := Blk.new (w.alloc (.cells #[.int .i64 0, .bool true, .int .i64 128, .slice (some ⟨w.heap.size + 1, 0, none⟩) 5 5] 24)) (cellsU nopH.vs) 89
  rw [World.size_alloc] at hN
  refine bodyPost_ret (v := headV nopH (.slice (some ⟨w.heap.size + 1, 0, none⟩) 5 5)) (by simp [results, Tryz.results56, go_sem, headV, nopH]) rfl ⟨_, rfl, Nums.vals hN (by decide), ?_⟩
  exact ((Below.refl _ _).alloc (Nat.le_refl _) _).alloc (by simp) _
def HKeep (W4 : World) (p3 : Option Addr) (c3 : Nat) (w' : World) : Prop := Below W4.heap.size W4 w' ∧ Vals w' (.slice p3 5 c3) nopH.vs
theorem hkeep {W4 : World} {B : Nat} {p3 : Option Addr} {c3 : Nat} {w w' : World} (h : HKeep W4 p3 c3 w ∧ w.cell? ⟨B, 0, none⟩ = some (.int .i64 0) ∧ w.cell? ⟨B, 1, none⟩ = some (.bool true) ∧ w.cell? ⟨B, 2, none⟩ = some (.int .i64 128) ∧ w.cell? ⟨B, 3, none⟩ = some (.slice p3 5 c3))
    (hb : Below w.heap.size w w') : HKeep W4 p3 c3 w' ∧ w'.cell? ⟨B, 0, none⟩ = some (.int .i64 0) ∧ w'.cell? ⟨B, 1, none⟩ = some (.bool true) ∧ w'.cell? ⟨B, 2, none⟩ = some (.int .i64 128) ∧ w'.cell? ⟨B, 3, none⟩ = some (.slice p3 5 c3) := by
  obtain ⟨⟨h1, h2⟩, q0, q1, q2, q3⟩ := h
  have hlt := block_lt_of_cell (w := w) (a := ⟨B, 0, none⟩) q0
  have hc := (bcell hb).1
  exact ⟨⟨below_then h1 hb, h2.later hb⟩, (hc B 0 hlt).trans q0, (hc B 1 hlt).trans q1, (hc B 2 hlt).trans q2, (hc B 3 hlt).trans q3⟩
theorem held_vals {W4 : World} {p3 : Option Addr} {c3 : Nat} {w : World} {R : Prop} (h : HKeep W4 p3 c3 w ∧ R) : Vals w (.slice p3 5 c3) nopH.vs := h.1.2
theorem nop_agg (w : World) : Calls Tryz.prog 56 #[] w fun e w' => ∃ v, e = .returned (.agg #[.int .i64 0, .bool true, .int .i64 128, v]) ∧ Vals w' v nopH.vs ∧ Below w.heap.size w w' := nop_any w
theorem sameK_nop (v v' : Value) (w : World) (hv : Vals w v nopH.vs) (hv' : Vals w v' nopH.vs) :
    Calls Tryz.prog 34 #[.agg #[.int .i64 0, .bool true, .int .i64 128, v], .agg #[.int .i64 0, .bool true, .int .i64 128, v']] w fun e w' => e = .returned (.bool true) ∧ Below w.heap.size w w' := sameK_same nopH v v' w hv hv' (by decide)
set_option maxRecDepth 100000 in
set_option maxHeartbeats 1000000 in
theorem headed_any (w : World) (hm : MaxCell w) : Calls Tryz.prog 32 #[] w fun e w' => e = .returned (.bool true) ∧ Below w.heap.size w w' := by
  have Hm := Lib.hid hm
  have nbl : nopB.length = 48 := rfl
  have nb1 : (List.take 8 nopB == [64, 128, 0, 0, 1, 0, 0, 5]) = true := by decide +kernel
  have nb2 : (List.take 8 (List.drop 16 nopB) == [0, 0, 0, 7, 255, 255, 255, 255]) = true := by decide +kernel
  obtain ⟨nb, hnb⟩ : ∃ l, nopB = l := ⟨_, rfl⟩
  have hW := nop_write
  have hR := nop_read
  rw [hnb] at nbl nb1 nb2 hW hR
  have nblI : ((nb.length : Int) == 48) = true := by rw [nbl]; rfl
  have n8 : (8 : Int) ≤ (nb.length : Int) := by omega
  have n16 : (16 : Int) ≤ (nb.length : Int) := by omega
  have n24 : (24 : Int) ≤ (nb.length : Int) := by omega
  have HW := Lib.hid hW
  have HR := Lib.hid hR
  have Hnbl := Lib.hid nbl
  clear hm hnb hW hR nbl
  go_enter Tryz.func32, Tryz.ntmps32
  go_wp2_with fail
  refine (nop_any _).mono ?_
  rintro e w1 ⟨v1, rfl, hv1, hb1⟩
  have C := write_any nopH v1 1 5 w1 (by unfold I64 nopH; decide) (Hm.out.later hb1) hv1 (by decide)
  rw [HW.out] at C
  have C1 := Lib.hid C
  have Hb1 := Lib.hid hb1
  clear hb1 C hv1
  unfold headV nopH
  go_wp2_with fail
  refine C1.out.mono ?_
  rintro e w2 ⟨ev, rfl, he, hb2⟩
  obtain rfl := he.zero
  have Hb2 := Lib.hid (below_then Hb1.out hb2)
  have R := read_any nb w2 (by rw [Hnbl.out]; decide) (Hm.out.later Hb2.out)
  rw [HR.out] at R
  have R1 := Lib.hid R
  clear hb2 he R C1
  go_wp2_with fail
  refine R1.out.mono ?_
  rintro e w3 ⟨v3, ev3, rfl, hv3, he3, hb3⟩
  obtain rfl := he3.zero
  obtain ⟨p3, c3, rfl⟩ := hv3.form
  have Hv3 := Lib.hid hv3
  have Hb3 := Lib.hid (below_then Hb2.out hb3)
  unfold headV nopH
  simp only
  clear he3 hb3 R1 hv3
  go_wp2_with fail
  have hq := (Blk.new w3 #[.int .i64 0, .bool true, .int .i64 128, .slice p3 5 c3] 24).four
  have hv4 : Vals (w3.alloc (.cells #[.int .i64 0, .bool true, .int .i64 128, .slice p3 5 c3] 24)) (.slice p3 5 c3) nopH.vs := Hv3.out.later ((Below.refl _ _).alloc (Nat.le_refl _) _)
  have Hb4 := Lib.hid (Hb3.out.alloc Hb3.out.size (.cells #[.int .i64 0, .bool true, .int .i64 128, .slice p3 5 c3] 24))
  generalize w3.alloc (.cells #[.int .i64 0, .bool true, .int .i64 128, .slice p3 5 c3] 24) = W4 at hq hv4 Hb4 ⊢
  obtain ⟨q0, q1, q2, q3⟩ := hq
  go_region_held3 (fun w' => HKeep W4 p3 c3 w' ∧ w'.cell? ⟨w3.heap.size, 0, none⟩ = some (.int .i64 0) ∧ w'.cell? ⟨w3.heap.size, 1, none⟩ = some (.bool true) ∧ w'.cell? ⟨w3.heap.size, 2, none⟩ = some (.int .i64 128) ∧ w'.cell? ⟨w3.heap.size, 3, none⟩ = some (.slice p3 5 c3))
    (first | assumption | exact ⟨⟨Below.refl _ _, hv4⟩, q0, q1, q2, q3⟩ | exact ⟨⟨(Below.refl _ _).drew, hv4⟩, q0, q1, q2, q3⟩ | exact hkeep (by assumption) hb')
    (first | ((with_reducible refine (nop_agg _).mono ?_); rintro e w' ⟨v5, rfl, hv5, hb'⟩) | ((with_reducible refine (sameK_nop _ _ _ ?_ ?_).mono ?_); exact held_vals ‹HKeep W4 p3 c3 _ ∧ _›; (first | assumption | exact (‹Vals _ v5 _›).drewN _); rintro e w' ⟨rfl, hb'⟩))
  have hk : HKeep W4 p3 c3 w' := (‹HKeep W4 p3 c3 w' ∧ _›).1
  clear q0 q1 q2 q3 hv4
  go_wp2_with fail
  go_ret
  exact ⟨rfl, below_then Hb4.out hk.1⟩
end Go.Proofs.YtoddgekeopejgaaGreatDoor
