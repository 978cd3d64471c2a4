/- ref.HeadWrite: a head in 48 bytes, as the reference has it: what can't be written. -/
import Derived.Test.YtffdlchoaaakdaaGreatDoorRefRight2
import Derived.Test.YtffdlchoaaakdaaGreatDoorHBase
import Derived.Test.YtffdlchoaaakdaaGreatDoorFlowB
import Derived.Test.YtffdlchoaaakdaaGreatDoorShRep
namespace Go.Proofs.YtffdlchoaaakdaaGreatDoor
open Go.RowKit
theorem isF_good (p : Int) (w : World) : Calls Tryz.prog 30 #[.agg #[.int .i64 0, .int .i64 p]] w fun e w' => e = .returned (.bool true) ∧ Below w.heap.size w w' := by
  go_enter Tryz.func30, Tryz.ntmps30
  go_wp2_with fail
  go_ret
  exact ⟨rfl, (Below.refl _ _).alloc (Nat.le_refl _) _⟩
theorem isF_bad (n p : Int) (w : World) (hn : n ≠ 0) : Calls Tryz.prog 30 #[.agg #[.int .i64 n, .int .i64 p]] w fun e w' => e = .returned (.bool false) ∧ Below w.heap.size w w' := by
  have hb : (n == 0) = false := by simpa using hn
  go_enter Tryz.func30, Tryz.ntmps30
  go_wp2_with fail
  go_ret
  exact ⟨rfl, (Below.refl _ _).alloc (Nat.le_refl _) _⟩
theorem refWrite_bad (h : Hd) (v : Value) (words data : Int) (w : World) (hfl : I64 h.fl) (hv : Vals w v h.vs) (hll : h.vs.length ≤ 9223372036854775807) (hr : (rightR h).1 ≠ 0) :
    Calls Tryz.prog 20 #[headV h v, .int .i64 words, .int .i64 data] w (RetSF w ([], rightR h)) := by
  have C : ∀ W, Vals W v h.vs → Calls Tryz.prog 16 #[headV h v] W (RetF W (rightR h)) := fun W hv => refRight_any h v W hfl hv hll
  obtain ⟨⟨r1, r2⟩, hrr⟩ : ∃ r, rightR h = r := ⟨_, rfl⟩
  rw [hrr] at hr C
  rw [hrr]
  clear hrr
  obtain ⟨op, now, fl, vs⟩ := h
  unfold headV at *
  simp only at *
  have hb0 := ((Below.refl w.heap.size w).alloc (Nat.le_refl _) (.cells #[.int .i64 op, .bool now, .int .i64 fl, v] 24)).alloc (by simp) (.cells #[.int .i64 0, .int .i64 0] 49)
  have hC0 := cell2_new (w.alloc (.cells #[.int .i64 op, .bool now, .int .i64 fl, v] 24))
  rw [World.size_alloc] at hC0
  have C0 := Lib.hid (C _ (hv.later hb0))
  have HI := Lib.hid (fun W => isF_bad r1 r2 W hr)
  have Hb0 := Lib.hid hb0
  have HC0 := Lib.hid hC0
  clear hb0 C hC0 hv hr
  go_enter Tryz.func20, Tryz.ntmps20
  go_wp2_with fail
  refine C0.out.mono ?_
  rintro e w1 ⟨rfl, hb⟩
  have Hb1 := Lib.hid (below_then Hb0.out hb)
  have HC1 := Lib.hid (HC0.out.later hb)
  unfold faultV
  simp only
  clear hb
  go_wp2_with fail
  have hN : Cell2 (w1.alloc (.cells #[.int .i64 r1, .int .i64 r2] 49)) w1.heap.size r1 r2 := heap_alloc_new w1 _
  have hbn := (Below.refl w1.heap.size w1).alloc (Nat.le_refl _) (.cells #[.int .i64 r1, .int .i64 r2] 49)
  have HC2 := Lib.hid (HC1.out.later hbn)
  have Hb2 := Lib.hid (below_then Hb1.out hbn)
  have HN := Lib.hid hN
  clear hN hbn
  refine (HI.out _).mono ?_
  rintro e w2 ⟨rfl, hb⟩
  obtain ⟨q0, q1⟩ := (HN.out.later hb).cells
  obtain ⟨d0, d1⟩ := (HC2.out.later hb).cells
  have f0 := (HC2.out.later hb).frozen 0
  have f1 := (HC2.out.later hb).frozen 1
  have Hb3 := Lib.hid (below_then Hb2.out hb)
  clear hb
  go_wp2_with fail
  go_region
  all_goals
    go_wp2_with fail
    refine bodyPost_ret (v := .tuple #[.string (S []), .agg #[.int .i64 r1, .int .i64 r2]]) (by simp [results, Tryz.results20, go_sem, d0, d1]) rfl ⟨rfl, ?_⟩
    exact (Hb3.out.drew.setCell (by simp) _).setCell (by simp) _
theorem refWrite_limit (h : Hd) (v : Value) (words data : Int) (w : World) (hfl : I64 h.fl) (hv : Vals w v h.vs) (hll : h.vs.length ≤ 9223372036854775807) (hr : rightR h = (0, -1))
    (hl : words < 0 ∨ 255 < words ∨ data < 0 ∨ 16777215 < data) :
    Calls Tryz.prog 20 #[headV h v, .int .i64 words, .int .i64 data] w (RetSF w ([], 4, -1)) := by
  have C : ∀ W, Vals W v h.vs → Calls Tryz.prog 16 #[headV h v] W (RetF W (rightR h)) := fun W hv => refRight_any h v W hfl hv hll
  rw [hr] at C
  clear hr
  obtain ⟨op, now, fl, vs⟩ := h
  unfold headV at *
  simp only at *
  have hb0 := ((Below.refl w.heap.size w).alloc (Nat.le_refl _) (.cells #[.int .i64 op, .bool now, .int .i64 fl, v] 24)).alloc (by simp) (.cells #[.int .i64 0, .int .i64 0] 49)
  have hC0 := cell2_new (w.alloc (.cells #[.int .i64 op, .bool now, .int .i64 fl, v] 24))
  rw [World.size_alloc] at hC0
  have C0 := Lib.hid (C _ (hv.later hb0))
  have Hb0 := Lib.hid hb0
  have HC0 := Lib.hid hC0
  have hcase : (words < 0 ∨ 255 < words) ∨ ((0 ≤ words ∧ words ≤ 255) ∧ (data < 0 ∨ 16777215 < data)) := by omega
  clear hb0 C hC0 hv hl
  rcases hcase with hw | ⟨hw, hd⟩
  · have W1 := Lib.hid (fun W => within_false words 0 255 W hw)
    clear hw
    go_enter Tryz.func20, Tryz.ntmps20
    go_wp2_with fail
    refine C0.out.mono ?_
    rintro e w1 ⟨rfl, hb⟩
    have Hb1 := Lib.hid (below_then Hb0.out hb)
    have HC1 := Lib.hid (HC0.out.later hb)
    unfold faultV
    simp only
    clear hb
    go_wp2_with fail
    have hbn := (Below.refl w1.heap.size w1).alloc (Nat.le_refl _) (.cells #[.int .i64 0, .int .i64 (-1)] 49)
    have HC2 := Lib.hid (HC1.out.later hbn)
    have Hb2 := Lib.hid (below_then Hb1.out hbn)
    clear hbn
    refine (isF_good _ _).mono ?_
    rintro e w2 ⟨rfl, hb⟩
    have HC3 := Lib.hid (HC2.out.later hb)
    have Hb3 := Lib.hid (below_then Hb2.out hb)
    clear hb
    go_wp2_with fail
    refine (W1.out _).mono ?_
    rintro e w3 ⟨rfl, rfl⟩
    go_wp2_with fail
    refine (bareF 4 _).mono ?_
    rintro e w4 ⟨rfl, hb⟩
    have HC4 := HC3.out.later hb
    obtain ⟨d0, d1⟩ := HC4.cells
    have f0 := HC4.frozen 0
    have f1 := HC4.frozen 1
    have Hb4 := Lib.hid (below_then Hb3.out hb)
    clear hb HC4
    go_wp2_with fail
    refine bodyPost_ret (v := .tuple #[.string (S []), .agg #[.int .i64 4, .int .i64 (-1)]]) (by simp [results, Tryz.results20, go_sem, d0, d1]) rfl ⟨rfl, ?_⟩
    exact (Hb4.out.setCell (by simp) _).setCell (by simp) _
  · have W1 := Lib.hid (fun W => within_true words 0 255 W hw.1 hw.2)
    have W2 := Lib.hid (fun W => within_false data 0 16777215 W hd)
    clear hw hd
    go_enter Tryz.func20, Tryz.ntmps20
    go_wp2_with fail
    refine C0.out.mono ?_
    rintro e w1 ⟨rfl, hb⟩
    have Hb1 := Lib.hid (below_then Hb0.out hb)
    have HC1 := Lib.hid (HC0.out.later hb)
    unfold faultV
    simp only
    clear hb
    go_wp2_with fail
    have hbn := (Below.refl w1.heap.size w1).alloc (Nat.le_refl _) (.cells #[.int .i64 0, .int .i64 (-1)] 49)
    have HC2 := Lib.hid (HC1.out.later hbn)
    have Hb2 := Lib.hid (below_then Hb1.out hbn)
    clear hbn
    refine (isF_good _ _).mono ?_
    rintro e w2 ⟨rfl, hb⟩
    have HC3 := Lib.hid (HC2.out.later hb)
    have Hb3 := Lib.hid (below_then Hb2.out hb)
    clear hb
    go_wp2_with fail
    refine (W1.out _).mono ?_
    rintro e w3 ⟨rfl, rfl⟩
    go_wp2_with fail
    refine (W2.out _).mono ?_
    rintro e w3 ⟨rfl, rfl⟩
    go_wp2_with fail
    refine (bareF 4 _).mono ?_
    rintro e w4 ⟨rfl, hb⟩
    have HC4 := HC3.out.later hb
    obtain ⟨d0, d1⟩ := HC4.cells
    have f0 := HC4.frozen 0
    have f1 := HC4.frozen 1
    have Hb4 := Lib.hid (below_then Hb3.out hb)
    clear hb HC4
    go_wp2_with fail
    refine bodyPost_ret (v := .tuple #[.string (S []), .agg #[.int .i64 4, .int .i64 (-1)]]) (by simp [results, Tryz.results20, go_sem, d0, d1]) rfl ⟨rfl, ?_⟩
    exact (Hb4.out.setCell (by simp) _).setCell (by simp) _
end Go.Proofs.YtffdlchoaaakdaaGreatDoor
