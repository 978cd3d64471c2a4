/- Md5Known: as the standard has it. -/
import Derived.Test.YtoheabcohfjknaaDoorMd5Sum
import Derived.Test.YtoheabcohfjknaaDoorHex
import Derived.Test.YtoheabcohfjknaaDoorPick
import Derived.Test.YtoheabcohfjknaaDoorGuard
namespace Go.Proofs.YtoheabcohfjknaaDoor
open Go.RowKit
def mdTests : List (List UInt8 × List UInt8) := [([], [100, 52, 49, 100, 56, 99, 100, 57, 56, 102, 48, 48, 98, 50, 48, 52, 101, 57, 56, 48, 48, 57, 57, 56, 101, 99, 102, 56, 52, 50, 55, 101]), ([97], [48, 99, 99, 49, 55, 53, 98, 57, 99, 48, 102, 49, 98, 54, 97, 56, 51, 49, 99, 51, 57, 57, 101, 50, 54, 57, 55, 55, 50, 54, 54, 49]), ([97, 98, 99], [57, 48, 48, 49, 53, 48, 57, 56, 51, 99, 100, 50, 52, 102, 98, 48, 100, 54, 57, 54, 51, 102, 55, 100, 50, 56, 101, 49, 55, 102, 55, 50]), ([109, 101, 115, 115, 97, 103, 101, 32, 100, 105, 103, 101, 115, 116], [102, 57, 54, 98, 54, 57, 55, 100, 55, 99, 98, 55, 57, 51, 56, 100, 53, 50, 53, 97, 50, 102, 51, 49, 97, 97, 102, 49, 54, 49, 100, 48]), ([97, 98, 99, 100, 101, 102, 103, 104, 105, 106, 107, 108, 109, 110, 111, 112, 113, 114, 115, 116, 117, 118, 119, 120, 121, 122], [99, 51, 102, 99, 100, 51, 100, 55, 54, 49, 57, 50, 101, 52, 48, 48, 55, 100, 102, 98, 52, 57, 54, 99, 99, 97, 54, 55, 101, 49, 51, 98]), ([65, 66, 67, 68, 69, 70, 71, 72, 73, 74, 75, 76, 77, 78, 79, 80, 81, 82, 83, 84, 85, 86, 87, 88, 89, 90, 97, 98, 99, 100, 101, 102, 103, 104, 105, 106, 107, 108, 109, 110, 111, 112, 113, 114, 115, 116, 117, 118, 119, 120, 121, 122, 48, 49, 50, 51, 52, 53, 54, 55, 56, 57], [100, 49, 55, 52, 97, 98, 57, 56, 100, 50, 55, 55, 100, 57, 102, 53, 97, 53, 54, 49, 49, 99, 50, 99, 57, 102, 52, 49, 57, 100, 57, 102]), ([49, 50, 51, 52, 53, 54, 55, 56, 57, 48, 49, 50, 51, 52, 53, 54, 55, 56, 57, 48, 49, 50, 51, 52, 53, 54, 55, 56, 57, 48, 49, 50, 51, 52, 53, 54, 55, 56, 57, 48, 49, 50, 51, 52, 53, 54, 55, 56, 57, 48, 49, 50, 51, 52, 53, 54, 55, 56, 57, 48, 49, 50, 51, 52, 53, 54, 55, 56, 57, 48, 49, 50, 51, 52, 53, 54, 55, 56, 57, 48], [53, 55, 101, 100, 102, 52, 97, 50, 50, 98, 101, 51, 99, 57, 53, 53, 97, 99, 52, 57, 100, 97, 50, 101, 50, 49, 48, 55, 98, 54, 55, 97])]
def mdText (k : Nat) : List UInt8 := (mdTests.getD k ([], [])).1
def mdHex (k : Nat) : List UInt8 := (mdTests.getD k ([], [])).2
theorem mdTests_ok (k : Nat) (h : k < 7) : hexL (md5L (mdText k)) = 48 :: 120 :: mdHex k := by
  have : ∀ k : Fin 7, hexL (md5L (mdText k.1)) = 48 :: 120 :: mdHex k.1 := by decide +kernel
  exact this ⟨k, h⟩
theorem mdText_len (k : Nat) (h : k < 7) : (mdText k).length ≤ 100 ∧ (mdHex k).length = 32 := by
  have : ∀ k : Fin 7, (mdText k.1).length ≤ 100 ∧ (mdHex k.1).length = 32 := by decide +kernel
  exact this ⟨k, h⟩
theorem md5L_len (l : List UInt8) : (md5L l).length = 16 := by unfold md5L outM; simp [le4]
theorem keep2 {Wb W W1 : World} {b : Nat} {v0 v1 : Value} (h : Below Wb.heap.size Wb W ∧ W.cell? ⟨b, 0, none⟩ = some v0 ∧ W.cell? ⟨b, 1, none⟩ = some v1) (hb : Below W.heap.size W W1) :
    Below Wb.heap.size Wb W1 ∧ W1.cell? ⟨b, 0, none⟩ = some v0 ∧ W1.cell? ⟨b, 1, none⟩ = some v1 :=
  ⟨below_then h.1 hb, keepcell hb h.2.1, keepcell hb h.2.2⟩
set_option maxRecDepth 100000 in
set_option maxHeartbeats 4000000 in
theorem md5Known_short (x : Int) (l : List UInt8) (w : World) (_hx : (Lit.int .i64 x).wf = true) (hl : l.length ≤ 140737488351232) (ht : MdTabs w) (h5 : ¬ 500 < l.length) :
    Calls Tryd.prog 4 #[.int .i64 x, .string (S l)] w fun e w' => e = .returned (.bool true) ∧ Below w.heap.size w w' := by
  have Ht := Lib.hid ht
  clear ht
  obtain ⟨k, hk⟩ : ∃ k, pickI x 7 = k := ⟨_, rfl⟩
  have hk7 : k < 7 := by rw [← hk]; exact pickI_lt x 7 (by decide)
  have hki : (k : Int) < 7 := by omega
  have P := Lib.hid (fun W => pick_any x 7 W (by decide) (by decide))
  rw [hk] at P
  clear hk
  go_enter Tryd.func4, Tryd.ntmps4
  go_wp2_with fail
  refine (P.out _).mono ?_
  rintro e w' ⟨rfl, rfl⟩
  generalize hW : w.alloc _ = W1
  have hlow : Below w.heap.size w W1 := by rw [← hW]; exact (Below.refl _ _).alloc (Nat.le_refl _) _
  have hq : ∀ j, j < 7 → W1.cell? ⟨w.heap.size, j * 2, none⟩ = some (.string (S (mdText j))) ∧ W1.cell? ⟨w.heap.size, j * 2 + 1, none⟩ = some (.string (S (mdHex j))) := by
    rw [← hW]
    intro j hj
    rw [World.cell?_alloc_mark, World.cell?_alloc_mark]
    match j, hj with
    | 0, _ => exact ⟨rfl, rfl⟩
    | 1, _ => exact ⟨rfl, rfl⟩
    | 2, _ => exact ⟨rfl, rfl⟩
    | 3, _ => exact ⟨rfl, rfl⟩
    | 4, _ => exact ⟨rfl, rfl⟩
    | 5, _ => exact ⟨rfl, rfl⟩
    | 6, _ => exact ⟨rfl, rfl⟩
  obtain ⟨q0, q1⟩ := hq k hk7
  clear hW hq
  have Hlow := Lib.hid hlow
  clear hlow
  go_wp2_with fail
  generalize (Value.agg #[Value.string (S []), Value.string (S [100, 52, 49, 100, 56, 99, 100, 57, 56, 102, 48, 48, 98, 50, 48, 52, 101, 57, 56, 48, 48, 57, 57, 56, 101, 99, 102, 56, 52, 50, 55, 101])]) = z0
  generalize (Value.agg #[Value.string (S [97]), Value.string (S [48, 99, 99, 49, 55, 53, 98, 57, 99, 48, 102, 49, 98, 54, 97, 56, 51, 49, 99, 51, 57, 57, 101, 50, 54, 57, 55, 55, 50, 54, 54, 49])]) = z1
  generalize (Value.agg #[Value.string (S [97, 98, 99]), Value.string (S [57, 48, 48, 49, 53, 48, 57, 56, 51, 99, 100, 50, 52, 102, 98, 48, 100, 54, 57, 54, 51, 102, 55, 100, 50, 56, 101, 49, 55, 102, 55, 50])]) = z2
  generalize (Value.agg #[Value.string (S [109, 101, 115, 115, 97, 103, 101, 32, 100, 105, 103, 101, 115, 116]), Value.string (S [102, 57, 54, 98, 54, 57, 55, 100, 55, 99, 98, 55, 57, 51, 56, 100, 53, 50, 53, 97, 50, 102, 51, 49, 97, 97, 102, 49, 54, 49, 100, 48])]) = z3
  generalize (Value.agg #[Value.string (S [97, 98, 99, 100, 101, 102, 103, 104, 105, 106, 107, 108, 109, 110, 111, 112, 113, 114, 115, 116, 117, 118, 119, 120, 121, 122]), Value.string (S [99, 51, 102, 99, 100, 51, 100, 55, 54, 49, 57, 50, 101, 52, 48, 48, 55, 100, 102, 98, 52, 57, 54, 99, 99, 97, 54, 55, 101, 49, 51, 98])]) = z4
  generalize (Value.agg #[Value.string (S [65, 66, 67, 68, 69, 70, 71, 72, 73, 74, 75, 76, 77, 78, 79, 80, 81, 82, 83, 84, 85, 86, 87, 88, 89, 90, 97, 98, 99, 100, 101, 102, 103, 104, 105, 106, 107, 108, 109, 110, 111, 112, 113, 114, 115, 116, 117, 118, 119, 120, 121, 122, 48, 49, 50, 51, 52, 53, 54, 55, 56, 57]), Value.string (S [100, 49, 55, 52, 97, 98, 57, 56, 100, 50, 55, 55, 100, 57, 102, 53, 97, 53, 54, 49, 49, 99, 50, 99, 57, 102, 52, 49, 57, 100, 57, 102])]) = z5
  generalize (Value.agg #[Value.string (S [49, 50, 51, 52, 53, 54, 55, 56, 57, 48, 49, 50, 51, 52, 53, 54, 55, 56, 57, 48, 49, 50, 51, 52, 53, 54, 55, 56, 57, 48, 49, 50, 51, 52, 53, 54, 55, 56, 57, 48, 49, 50, 51, 52, 53, 54, 55, 56, 57, 48, 49, 50, 51, 52, 53, 54, 55, 56, 57, 48, 49, 50, 51, 52, 53, 54, 55, 56, 57, 48, 49, 50, 51, 52, 53, 54, 55, 56, 57, 48]), Value.string (S [53, 55, 101, 100, 102, 52, 97, 50, 50, 98, 101, 51, 99, 57, 53, 53, 97, 99, 52, 57, 100, 97, 50, 101, 50, 49, 48, 55, 98, 54, 55, 97])]) = z6
  generalize hW : W1.alloc _ = W2
  obtain ⟨b2, hb2⟩ : ∃ b, W1.heap.size = b := ⟨_, rfl⟩
  have r0 : W2.cell? ⟨b2, 0, none⟩ = some (.string (S (mdText k))) := by rw [← hW, ← hb2, World.cell?_alloc_mark]; rfl
  have r1 : W2.cell? ⟨b2, 1, none⟩ = some (.string (S (mdHex k))) := by rw [← hW, ← hb2, World.cell?_alloc_mark]; rfl
  have hlow2 : Below w.heap.size w W2 := by rw [← hW]; exact Hlow.out.alloc Hlow.out.size _
  rw [hb2]
  clear hW hb2 q0 q1
  have Hlow2 := Lib.hid hlow2
  have Ht2 := Lib.hid (Ht.out.later hlow2)
  clear hlow2
  obtain ⟨hl1, hl2⟩ := mdText_len k hk7
  have d1 := fun W hW => md5Sum_any (mdText k) W (by omega) hW
  have h1 := fun W => hex_any (md5L (mdText k)) W (by rw [md5L_len]; omega)
  rw [mdTests_ok k hk7] at h1
  generalize md5L (mdText k) = m1 at d1 h1
  generalize mdText k = tx at *
  generalize mdHex k = hx at *
  have D1 := Lib.hid d1
  have H1 := Lib.hid h1
  clear d1 h1
  have n1 : ¬ 9223372036854775807 < hx.length + 2 := by omega
  have n2 : ¬ 9223372036854775807 < 2 + hx.length := by omega
  have h5i : (l.length : Int) ≤ 500 := by omega
  have h5d : decide ((500 : Int) < (l.length : Int)) = false := by simp; omega
  have d2 := fun W hW => md5Sum_any l W (by omega) hW
  have l2 := md5L_len l
  generalize md5L l = m2 at d2 l2
  have D2 := Lib.hid d2
  have l2i : (m2.length : Int) = 16 := by omega
  clear d2 l2
  go_region_held3 (fun w' => Below W2.heap.size W2 w' ∧ w'.cell? ⟨b2, 0, none⟩ = some (.string (S tx)) ∧ w'.cell? ⟨b2, 1, none⟩ = some (.string (S hx))) (first | assumption | exact ⟨Below.refl _ _, r0, r1⟩ | exact ⟨(Below.refl _ _).drew, r0, r1⟩ | exact keep2 (by assumption) hb') (first | ((with_reducible refine (D1.out _ (Ht2.out.later (by first | assumption | exact (‹Below W2.heap.size W2 _ ∧ _›).1))).mono ?_); rintro e w' ⟨rfl, hb'⟩) | ((with_reducible refine (H1.out _).mono ?_); rintro e w' ⟨rfl, hb'⟩) | ((with_reducible refine (D2.out _ (Ht2.out.later (by first | assumption | exact (‹Below W2.heap.size W2 _ ∧ _›).1))).mono ?_); rintro e w' ⟨rfl, hb'⟩))
  all_goals
    go_wp2_with fail
    go_ret
    exact ⟨rfl, below_then Hlow2.out (by first | assumption | exact (‹Below W2.heap.size W2 _ ∧ _›).1)⟩
attribute [local irreducible] yielded
set_option maxRecDepth 100000 in
set_option maxHeartbeats 4000000 in
theorem md5Known_long (x : Int) (l : List UInt8) (w : World) (_hx : (Lit.int .i64 x).wf = true) (hl : l.length ≤ 140737488351232) (ht : MdTabs w) (h5 : 500 < l.length) :
    Calls Tryd.prog 4 #[.int .i64 x, .string (S l)] w fun e w' => e = .returned (.bool true) ∧ Below w.heap.size w w' := by
  have Ht := Lib.hid ht
  clear ht
  obtain ⟨k, hk⟩ : ∃ k, pickI x 7 = k := ⟨_, rfl⟩
  have hk7 : k < 7 := by rw [← hk]; exact pickI_lt x 7 (by decide)
  have hki : (k : Int) < 7 := by omega
  have P := Lib.hid (fun W => pick_any x 7 W (by decide) (by decide))
  rw [hk] at P
  clear hk
  go_enter Tryd.func4, Tryd.ntmps4
  go_wp2_with fail
  refine (P.out _).mono ?_
  rintro e w' ⟨rfl, rfl⟩
  generalize hW : w.alloc _ = W1
  have hlow : Below w.heap.size w W1 := by rw [← hW]; exact (Below.refl _ _).alloc (Nat.le_refl _) _
  have hq : ∀ j, j < 7 → W1.cell? ⟨w.heap.size, j * 2, none⟩ = some (.string (S (mdText j))) ∧ W1.cell? ⟨w.heap.size, j * 2 + 1, none⟩ = some (.string (S (mdHex j))) := by
    rw [← hW]
    intro j hj
    rw [World.cell?_alloc_mark, World.cell?_alloc_mark]
    match j, hj with
    | 0, _ => exact ⟨rfl, rfl⟩
    | 1, _ => exact ⟨rfl, rfl⟩
    | 2, _ => exact ⟨rfl, rfl⟩
    | 3, _ => exact ⟨rfl, rfl⟩
    | 4, _ => exact ⟨rfl, rfl⟩
    | 5, _ => exact ⟨rfl, rfl⟩
    | 6, _ => exact ⟨rfl, rfl⟩
  obtain ⟨q0, q1⟩ := hq k hk7
  clear hW hq
  have Hlow := Lib.hid hlow
  clear hlow
  go_wp2_with fail
  generalize (Value.agg #[Value.string (S []), Value.string (S [100, 52, 49, 100, 56, 99, 100, 57, 56, 102, 48, 48, 98, 50, 48, 52, 101, 57, 56, 48, 48, 57, 57, 56, 101, 99, 102, 56, 52, 50, 55, 101])]) = z0
  generalize (Value.agg #[Value.string (S [97]), Value.string (S [48, 99, 99, 49, 55, 53, 98, 57, 99, 48, 102, 49, 98, 54, 97, 56, 51, 49, 99, 51, 57, 57, 101, 50, 54, 57, 55, 55, 50, 54, 54, 49])]) = z1
  generalize (Value.agg #[Value.string (S [97, 98, 99]), Value.string (S [57, 48, 48, 49, 53, 48, 57, 56, 51, 99, 100, 50, 52, 102, 98, 48, 100, 54, 57, 54, 51, 102, 55, 100, 50, 56, 101, 49, 55, 102, 55, 50])]) = z2
  generalize (Value.agg #[Value.string (S [109, 101, 115, 115, 97, 103, 101, 32, 100, 105, 103, 101, 115, 116]), Value.string (S [102, 57, 54, 98, 54, 57, 55, 100, 55, 99, 98, 55, 57, 51, 56, 100, 53, 50, 53, 97, 50, 102, 51, 49, 97, 97, 102, 49, 54, 49, 100, 48])]) = z3
  generalize (Value.agg #[Value.string (S [97, 98, 99, 100, 101, 102, 103, 104, 105, 106, 107, 108, 109, 110, 111, 112, 113, 114, 115, 116, 117, 118, 119, 120, 121, 122]), Value.string (S [99, 51, 102, 99, 100, 51, 100, 55, 54, 49, 57, 50, 101, 52, 48, 48, 55, 100, 102, 98, 52, 57, 54, 99, 99, 97, 54, 55, 101, 49, 51, 98])]) = z4
  generalize (Value.agg #[Value.string (S [65, 66, 67, 68, 69, 70, 71, 72, 73, 74, 75, 76, 77, 78, 79, 80, 81, 82, 83, 84, 85, 86, 87, 88, 89, 90, 97, 98, 99, 100, 101, 102, 103, 104, 105, 106, 107, 108, 109, 110, 111, 112, 113, 114, 115, 116, 117, 118, 119, 120, 121, 122, 48, 49, 50, 51, 52, 53, 54, 55, 56, 57]), Value.string (S [100, 49, 55, 52, 97, 98, 57, 56, 100, 50, 55, 55, 100, 57, 102, 53, 97, 53, 54, 49, 49, 99, 50, 99, 57, 102, 52, 49, 57, 100, 57, 102])]) = z5
  generalize (Value.agg #[Value.string (S [49, 50, 51, 52, 53, 54, 55, 56, 57, 48, 49, 50, 51, 52, 53, 54, 55, 56, 57, 48, 49, 50, 51, 52, 53, 54, 55, 56, 57, 48, 49, 50, 51, 52, 53, 54, 55, 56, 57, 48, 49, 50, 51, 52, 53, 54, 55, 56, 57, 48, 49, 50, 51, 52, 53, 54, 55, 56, 57, 48, 49, 50, 51, 52, 53, 54, 55, 56, 57, 48, 49, 50, 51, 52, 53, 54, 55, 56, 57, 48]), Value.string (S [53, 55, 101, 100, 102, 52, 97, 50, 50, 98, 101, 51, 99, 57, 53, 53, 97, 99, 52, 57, 100, 97, 50, 101, 50, 49, 48, 55, 98, 54, 55, 97])]) = z6
  generalize hW : W1.alloc _ = W2
  obtain ⟨b2, hb2⟩ : ∃ b, W1.heap.size = b := ⟨_, rfl⟩
  have r0 : W2.cell? ⟨b2, 0, none⟩ = some (.string (S (mdText k))) := by rw [← hW, ← hb2, World.cell?_alloc_mark]; rfl
  have r1 : W2.cell? ⟨b2, 1, none⟩ = some (.string (S (mdHex k))) := by rw [← hW, ← hb2, World.cell?_alloc_mark]; rfl
  have hlow2 : Below w.heap.size w W2 := by rw [← hW]; exact Hlow.out.alloc Hlow.out.size _
  rw [hb2]
  clear hW hb2 q0 q1
  have Hlow2 := Lib.hid hlow2
  have Ht2 := Lib.hid (Ht.out.later hlow2)
  clear hlow2
  obtain ⟨hl1, hl2⟩ := mdText_len k hk7
  have d1 := fun W hW => md5Sum_any (mdText k) W (by omega) hW
  have h1 := fun W => hex_any (md5L (mdText k)) W (by rw [md5L_len]; omega)
  rw [mdTests_ok k hk7] at h1
  generalize md5L (mdText k) = m1 at d1 h1
  generalize mdText k = tx at *
  generalize mdHex k = hx at *
  have D1 := Lib.hid d1
  have H1 := Lib.hid h1
  clear d1 h1
  have n1 : ¬ 9223372036854775807 < hx.length + 2 := by omega
  have n2 : ¬ 9223372036854775807 < 2 + hx.length := by omega
  have h5i : (500 : Int) < (l.length : Int) := by omega
  first | (go_region_with ((first
    | (go_at_call 10; have hmd : MdTabs W2.drew := Ht2.out; (with_reducible refine (D1.out _ hmd).mono ?_); clear hmd; rintro e v1 ⟨rfl, hv1⟩; have g1 := keepcell (W := W2.drew) hv1 r1)
    | (go_at_call 13; (with_reducible refine (H1.out _).mono ?_); rintro e v2 ⟨rfl, hv2⟩; have g1 := keepcell hv2 (keepcell (W := W2.drew) hv1 r1))))) | fail
  all_goals
    go_wp2_with fail
    go_ret
    exact ⟨rfl, below_then Hlow2.out (below_then (((Below.refl _ _).drew).trans hv1) hv2)⟩
theorem md5Known_any (x : Int) (l : List UInt8) (w : World) (hx : (Lit.int .i64 x).wf = true) (hl : l.length ≤ 140737488351232) (ht : MdTabs w) :
    Calls Tryd.prog 4 #[.int .i64 x, .string (S l)] w fun e w' => e = .returned (.bool true) ∧ Below w.heap.size w w' := by
  by_cases h5 : 500 < l.length
  · exact md5Known_long x l w hx hl ht h5
  · exact md5Known_short x l w hx hl ht h5
end Go.Proofs.YtoheabcohfjknaaDoor
