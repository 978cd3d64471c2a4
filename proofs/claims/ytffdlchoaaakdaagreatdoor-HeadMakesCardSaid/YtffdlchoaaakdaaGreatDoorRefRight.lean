/- ref.HeadRight: what is wrong with a head, as the reference has it. -/
import Derived.Test.YtffdlchoaaakdaaGreatDoorRefKind
import Derived.Test.YtffdlchoaaakdaaGreatDoorRefNum
import Derived.Test.YtffdlchoaaakdaaGreatDoorRefFault
import Derived.Test.YtffdlchoaaakdaaGreatDoorRight2
namespace Go.Proofs.YtffdlchoaaakdaaGreatDoor
open Go.RowKit
def RetF (w : World) (r : Int × Int) (e : Ending) (w' : World) : Prop := e = .returned (faultV r.1 r.2) ∧ Below w.heap.size w w'
theorem refRight_none (h : Hd) (v : Value) (w : World) (hk : kindOf h.op = none) : Calls Tryz.prog 16 #[headV h v] w (RetF w (1, -1)) := by
  unfold headV
  have hb0 := ((Below.refl w.heap.size w).alloc (Nat.le_refl _) (.cells #[.int .i64 h.op, .bool h.now, .int .i64 h.fl, v] 24)).alloc (by simp) (.cells #[.int .i64 0, .int .i64 0] 49)
  have hC0 := cell2_new (w.alloc (.cells #[.int .i64 h.op, .bool h.now, .int .i64 h.fl, v] 24))
  rw [World.size_alloc] at hC0
  have C := refKind_any h.op ((w.alloc (.cells #[.int .i64 h.op, .bool h.now, .int .i64 h.fl, v] 24)).alloc (.cells #[.int .i64 0, .int .i64 0] 49))
  rw [hk] at C
  have HC := Lib.hid C
  have Hb0 := Lib.hid hb0
  have HC0 := Lib.hid hC0
  clear hk hb0 C hC0
  go_enter Tryz.func16, Tryz.ntmps16
  go_wp2_with fail
  refine HC.out.mono ?_
  rintro e w1 ⟨rfl, hb⟩
  have Hb := Lib.hid (below_then Hb0.out hb)
  have HC1 := Lib.hid (HC0.out.later hb)
  clear hb
  go_wp2_with fail
  refine (bareF 1 _).mono ?_
  rintro e w2 ⟨rfl, hb⟩
  have Hb2 := Lib.hid (below_then Hb.out hb)
  have HC2 := HC1.out.later hb
  obtain ⟨q0, q1⟩ := HC2.cells
  have f0 := HC2.frozen 0
  have f1 := HC2.frozen 1
  clear hb HC2
  go_wp2_with fail
  refine bodyPost_ret (v := faultV 1 (-1)) (by simp [results, Tryz.results16, go_sem, q0, q1, faultV]) rfl ⟨rfl, ?_⟩
  exact (Hb2.out.setCell (by simp) _).setCell (by simp) _
theorem refRight_form (h : Hd) (v : Value) (k : Kd) (w : World) (hk : kindOf h.op = some k) (hfl : I64 h.fl)
    (hbad : (h.now && decide (32 ≤ h.op)) = true ∨ flOk h.fl k.fl = false) : Calls Tryz.prog 16 #[headV h v] w (RetF w (3, -1)) := by
  obtain ⟨op, now, fl, vs⟩ := h
  unfold headV
  simp only at *
  have F := kindFacts hk
  have hb0 := ((Below.refl w.heap.size w).alloc (Nat.le_refl _) (.cells #[.int .i64 op, .bool now, .int .i64 fl, v] 24)).alloc (by simp) (.cells #[.int .i64 0, .int .i64 0] 49)
  have hC0 := cell2_new (w.alloc (.cells #[.int .i64 op, .bool now, .int .i64 fl, v] 24))
  rw [World.size_alloc] at hC0
  have hH0 := (Blk.new w #[.int .i64 op, .bool now, .int .i64 fl, v] 24).alloc (.cells #[.int .i64 0, .int .i64 0] 49)
  have C := refKind_any op ((w.alloc (.cells #[.int .i64 op, .bool now, .int .i64 fl, v] 24)).alloc (.cells #[.int .i64 0, .int .i64 0] 49))
  rw [hk] at C
  have HC := Lib.hid C
  have Hb0 := Lib.hid hb0
  have HC0 := Lib.hid hC0
  have HH0 := Lib.hid hH0
  have hcase : (now = true ∧ 32 ≤ op) ∨ (now = true ∧ op < 32 ∧ fl < 0) ∨ (now = true ∧ op < 32 ∧ 0 ≤ fl ∧ (bits .or .i64 fl (k.fl : Int) != k.fl) = true) ∨ (now = false ∧ fl < 0) ∨ (now = false ∧ 0 ≤ fl ∧ (bits .or .i64 fl (k.fl : Int) != k.fl) = true) := by
    have hno : ¬ (now = true ∧ 32 ≤ op) → 0 ≤ fl → (bits .or .i64 fl (k.fl : Int) != k.fl) = true := fun hn h0 => or_no fl k.fl F.fl h0 hfl.2 (hbad.resolve_left (by simpa using hn))
    cases now with
    | true =>
      by_cases h1 : 32 ≤ op
      · exact .inl ⟨rfl, h1⟩
      · by_cases h2 : fl < 0
        · exact .inr (.inl ⟨rfl, by omega, h2⟩)
        · exact .inr (.inr (.inl ⟨rfl, by omega, by omega, hno (fun h => h1 h.2) (by omega)⟩))
    | false =>
      by_cases h2 : fl < 0
      · exact .inr (.inr (.inr (.inl ⟨rfl, h2⟩)))
      · exact .inr (.inr (.inr (.inr ⟨rfl, by omega, hno (fun h => by cases h.1) (by omega)⟩)))
  clear hk hb0 C hC0 hH0 hbad hfl F
  rcases hcase with ⟨rfl, h1⟩ | ⟨rfl, h1, h2⟩ | ⟨rfl, h1, h2, h3⟩ | ⟨rfl, h2⟩ | ⟨rfl, h2, h3⟩
  all_goals
    go_enter Tryz.func16, Tryz.ntmps16
    go_wp2_with fail
    refine HC.out.mono ?_
    rintro e w1 ⟨bf, rfl, hF, hb⟩
    obtain ⟨q0, q1, q2, q3⟩ := (Blk.later HH0.out hb).four
    have hz : w.heap.size + 1 < w1.heap.size := by have := hb.size; simp at this; omega
    have Hb := Lib.hid (below_then Hb0.out hb)
    have HC1 := Lib.hid (HC0.out.later hb)
    have HH1 := Lib.hid (Blk.later HH0.out hb)
    have HF := Lib.hid hF
    clear hb hF
    go_wp2_with fail
    refine (bareF 3 _).mono ?_
    rintro e w2 ⟨rfl, hb⟩
    have Hb2 := Lib.hid (below_then Hb.out hb)
    have HC2 := HC1.out.later hb
    obtain ⟨c0, c1⟩ := HC2.cells
    have f0 := HC2.frozen 0
    have f1 := HC2.frozen 1
    clear hb HC2 q0 q1 q2 q3
    go_wp2_with fail
    refine bodyPost_ret (v := faultV 3 (-1)) (by simp [results, Tryz.results16, go_sem, c0, c1, faultV]) rfl ⟨rfl, ?_⟩
    exact (Hb2.out.setCell (by simp) _).setCell (by simp) _
theorem refRight_len (h : Hd) (v : Value) (k : Kd) (w : World) (hk : kindOf h.op = some k) (hfl : I64 h.fl) (hv : Vals w v h.vs) (hll : h.vs.length ≤ 9223372036854775807)
    (hnow : h.now = true → h.op < 32) (hok : flOk h.fl k.fl = true) (hlen : h.vs.length ≠ k.fs.length) : Calls Tryz.prog 16 #[headV h v] w (RetF w (7, -1)) := by
  obtain ⟨op, now, fl, vs⟩ := h
  unfold headV
  simp only at *
  obtain ⟨p, c, rfl, _, _⟩ := hv
  have F := kindFacts hk
  have hb0 := ((Below.refl w.heap.size w).alloc (Nat.le_refl _) (.cells #[.int .i64 op, .bool now, .int .i64 fl, (.slice p vs.length c)] 24)).alloc (by simp) (.cells #[.int .i64 0, .int .i64 0] 49)
  have hC0 := cell2_new (w.alloc (.cells #[.int .i64 op, .bool now, .int .i64 fl, (.slice p vs.length c)] 24))
  rw [World.size_alloc] at hC0
  have hH0 := (Blk.new w #[.int .i64 op, .bool now, .int .i64 fl, (.slice p vs.length c)] 24).alloc (.cells #[.int .i64 0, .int .i64 0] 49)
  have C := refKind_any op ((w.alloc (.cells #[.int .i64 op, .bool now, .int .i64 fl, (.slice p vs.length c)] 24)).alloc (.cells #[.int .i64 0, .int .i64 0] 49))
  rw [hk] at C
  have HC := Lib.hid C
  have Hb0 := Lib.hid hb0
  have HC0 := Lib.hid hC0
  have HH0 := Lib.hid hH0
  have h0 : 0 ≤ fl := by
    unfold flOk at hok
    simp at hok
    exact hok.1
  have hA := or_yes fl k.fl F.fl h0 hfl.2 hok
  have hAA : ((k.fl : Int) != (k.fl : Int)) = false := by simp
  have hl10 := F.len
  have hcase : (now = true ∧ op < 32) ∨ now = false := by cases now with
    | true => exact .inl ⟨rfl, hnow rfl⟩
    | false => exact .inr rfl
  have hne : ((k.fs.length : Int) != (vs.length : Int)) = true := by rw [bne_iff_ne]; omega
  clear hk hb0 C hC0 hH0 hfl F hok hnow hlen
  rcases hcase with ⟨rfl, h32⟩ | rfl
  all_goals
    go_enter Tryz.func16, Tryz.ntmps16
    go_wp2_with fail
    refine HC.out.mono ?_
    rintro e w1 ⟨bf, rfl, hF, hb⟩
    obtain ⟨q0, q1, q2, q3⟩ := (Blk.later HH0.out hb).four
    have hz : w.heap.size + 1 < w1.heap.size := by have := hb.size; simp at this; omega
    have Hb := Lib.hid (below_then Hb0.out hb)
    have HC1 := Lib.hid (HC0.out.later hb)
    have HH1 := Lib.hid (Blk.later HH0.out hb)
    have HF := Lib.hid hF
    clear hb hF
    go_wp2_with fail
    refine (bareF 7 _).mono ?_
    rintro e w2 ⟨rfl, hb⟩
    have Hb2 := Lib.hid (below_then Hb.out hb)
    have HC2 := HC1.out.later hb
    obtain ⟨c0, c1⟩ := HC2.cells
    have f0 := HC2.frozen 0
    have f1 := HC2.frozen 1
    clear hb HC2 q0 q1 q2 q3
    go_wp2_with fail
    refine bodyPost_ret (v := faultV 7 (-1)) (by simp [results, Tryz.results16, go_sem, c0, c1, faultV]) rfl ⟨rfl, ?_⟩
    exact (Hb2.out.setCell (by simp) _).setCell (by simp) _
end Go.Proofs.YtffdlchoaaakdaaGreatDoor
