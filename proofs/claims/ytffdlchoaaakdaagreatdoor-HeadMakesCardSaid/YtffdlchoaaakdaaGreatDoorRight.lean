/- head.Right, head.Value. -/
import Derived.Test.YtffdlchoaaakdaaGreatDoorHKnow
import Derived.Test.YtffdlchoaaakdaaGreatDoorHBits
import Derived.Test.YtffdlchoaaakdaaGreatDoorIs
import Derived.Deep.RegionHeld3
namespace Go.Proofs.YtffdlchoaaakdaaGreatDoor
open Go.RowKit
/-- the slice value v reads as these numbers in W -/
def Vals (W : World) (v : Value) (l : List Nat) : Prop := ∃ p c, v = .slice p l.length c ∧ (∀ x ∈ l, x < 2 ^ 64) ∧ (0 < l.length → ∃ b o, p = some ⟨b, o, none⟩ ∧ ∀ j (hj : j < l.length), W.cell? ⟨b, o + j, none⟩ = some (.int .u64 (l[j] : Int)))
theorem Vals.later {W W' : World} {v : Value} {l : List Nat} (h : Vals W v l) (hb : Below W.heap.size W W') : Vals W' v l := by
  obtain ⟨p, c, hv, hx, hc⟩ := h
  refine ⟨p, c, hv, hx, fun hl => ?_⟩
  obtain ⟨b, o, hp, hcell⟩ := hc hl
  refine ⟨b, o, hp, fun j hj => ?_⟩
  rw [(bcell hb).1 b (o + j) (block_lt_of_cell (w := W) (a := ⟨b, o + j, none⟩) (hcell j hj))]
  exact hcell j hj
theorem Vals.drewN {W : World} {v : Value} {l : List Nat} (h : Vals W v l) (n : Nat) : Vals (W.drewN n) v l := h
def headV (h : Hd) (v : Value) : Value := .agg #[.int .i64 h.op, .bool h.now, .int .i64 h.fl, v]
def I64 (n : Int) : Prop := -9223372036854775808 ≤ n ∧ n ≤ 9223372036854775807
/-- an error is returned; memory grows -/
def RetE (w : World) (r : Int × Int) (e : Ending) (w' : World) : Prop := ∃ v, e = .returned v ∧ ErrIs w' v r.1 r.2 ∧ Below w.heap.size w w'
theorem right_none (h : Hd) (v : Value) (w : World) (hk : kindOf h.op = none) : Calls Tryz.prog 15 #[headV h v] w (RetE w (1, -1)) := by
  unfold headV
  have hb0 := (Below.refl w.heap.size w).alloc (Nat.le_refl _) (.cells #[.int .i64 h.op, .bool h.now, .int .i64 h.fl, v] 24)
  have C := Lib.hid (find_none hk (w.alloc (.cells #[.int .i64 h.op, .bool h.now, .int .i64 h.fl, v] 24)))
  have Hb0 := Lib.hid hb0
  clear hk hb0
  go_enter Tryz.func15, Tryz.ntmps15
  go_wp2_with fail
  refine C.out.mono ?_
  rintro e w' ⟨rfl, hb⟩
  have Hb := Lib.hid (below_then Hb0.out hb)
  clear hb
  go_wp2_with fail
  go_ret
  exact ⟨_, rfl, .bare 1 (by decide), Hb.out.alloc Hb.out.size _⟩
theorem right_form (h : Hd) (v : Value) (k : Kd) (w : World) (hk : kindOf h.op = some k) (hfl : I64 h.fl)
    (hbad : (h.now && decide (32 ≤ h.op)) = true ∨ flOk h.fl k.fl = false) : Calls Tryz.prog 15 #[headV h v] w (RetE w (3, -1)) := by
  obtain ⟨op, now, fl, vs⟩ := h
  unfold headV
  simp only at *
  have F := kindFacts hk
  have hb0 := (Below.refl w.heap.size w).alloc (Nat.le_refl _) (.cells #[.int .i64 op, .bool now, .int .i64 fl, v] 24)
  have C := Lib.hid (find_some hk (w.alloc (.cells #[.int .i64 op, .bool now, .int .i64 fl, v] 24)))
  have Hb0 := Lib.hid hb0
  have hno : ¬ (now = true ∧ 32 ≤ op) → (bits .andNot .i64 fl (k.fl : Int) != 0) = true := fun hn => andNot_no fl k.fl F.fl hfl.1 hfl.2 (hbad.resolve_left (by simpa using hn))
  clear hk hb0 hbad hfl F
  cases now with
  | true =>
    by_cases h32 : 32 ≤ op
    · clear hno
      go_enter Tryz.func15, Tryz.ntmps15
      go_wp2_with fail
      refine C.out.mono ?_
      rintro e w' ⟨rfl, hb⟩
      obtain ⟨q0, q1, q2, q3⟩ := ((Blk.new w #[.int .i64 op, .bool _, .int .i64 fl, v] 24).later hb).four
      have hz : w.heap.size < w'.heap.size := by have := hb.size; simp at this; omega
      have Hb := Lib.hid (below_then Hb0.out hb)
      clear hb
      go_wp2_with fail
      go_ret
      exact ⟨_, rfl, .bare 3 (by decide), Hb.out.alloc Hb.out.size _⟩
    · have hA := hno (fun h => h32 h.2)
      clear hno
      go_enter Tryz.func15, Tryz.ntmps15
      go_wp2_with fail
      refine C.out.mono ?_
      rintro e w' ⟨rfl, hb⟩
      obtain ⟨q0, q1, q2, q3⟩ := ((Blk.new w #[.int .i64 op, .bool _, .int .i64 fl, v] 24).later hb).four
      have hz : w.heap.size < w'.heap.size := by have := hb.size; simp at this; omega
      have Hb := Lib.hid (below_then Hb0.out hb)
      clear hb
      go_wp2_with fail
      go_ret
      exact ⟨_, rfl, .bare 3 (by decide), Hb.out.alloc Hb.out.size _⟩
  | false =>
    have hA := hno (fun h => by cases h.1)
    clear hno
    go_enter Tryz.func15, Tryz.ntmps15
    go_wp2_with fail
    refine C.out.mono ?_
    rintro e w' ⟨rfl, hb⟩
    obtain ⟨q0, q1, q2, q3⟩ := ((Blk.new w #[.int .i64 op, .bool _, .int .i64 fl, v] 24).later hb).four
    have hz : w.heap.size < w'.heap.size := by have := hb.size; simp at this; omega
    have Hb := Lib.hid (below_then Hb0.out hb)
    clear hb
    go_wp2_with fail
    go_ret
    exact ⟨_, rfl, .bare 3 (by decide), Hb.out.alloc Hb.out.size _⟩
theorem right_len (h : Hd) (v : Value) (k : Kd) (w : World) (hk : kindOf h.op = some k) (hfl : I64 h.fl) (hm : MaxCell w) (hv : Vals w v h.vs) (hll : h.vs.length ≤ 9223372036854775807)
    (hnow : h.now = true → h.op < 32) (hok : flOk h.fl k.fl = true) (hlen : h.vs.length ≠ k.fs.length) : Calls Tryz.prog 15 #[headV h v] w (RetE w (7, -1)) := by
  obtain ⟨op, now, fl, vs⟩ := h
  unfold headV
  simp only at *
  obtain ⟨p, c, rfl, _, _⟩ := hv
  have F := kindFacts hk
  have hb0 := (Below.refl w.heap.size w).alloc (Nat.le_refl _) (.cells #[.int .i64 op, .bool now, .int .i64 fl, .slice p vs.length c] 24)
  have C := Lib.hid (find_some hk (w.alloc (.cells #[.int .i64 op, .bool now, .int .i64 fl, .slice p vs.length c] 24)))
  have L := fun w hm => Lib.hid (kind_list hk w hm)
  have Hb0 := Lib.hid hb0
  have Hm := Lib.hid (hm.later hb0)
  have hA := andNot_yes fl k.fl F.fl hfl.1 hfl.2 hok
  have hl10 := F.len
  have Hlen := Lib.hid hlen
  have hcase : (now = true ∧ op < 32) ∨ now = false := by cases now with
    | true => exact .inl ⟨rfl, hnow rfl⟩
    | false => exact .inr rfl
  clear hk hb0 hok hfl F hnow hm
  have hne : ((vs.length : Int) != (k.fs.length : Int)) = true := by rw [bne_iff_ne]; omega
  rcases hcase with ⟨rfl, h32⟩ | rfl
  all_goals
    go_enter Tryz.func15, Tryz.ntmps15
    go_wp2_with fail
    refine C.out.mono ?_
    rintro e w1 ⟨rfl, hb⟩
    obtain ⟨q0, q1, q2, q3⟩ := ((Blk.new w #[.int .i64 op, .bool _, .int .i64 fl, .slice p vs.length c] 24).later hb).four
    have hz : w.heap.size < w1.heap.size := by have := hb.size; simp at this; omega
    have hb1 := hb.alloc hb.size (.cells #[.int .i64 (k.op : Int), .string (S k.nm), .int .i64 (k.fl : Int), .string (S k.tx)] 68)
    have L2 := Lib.hid (L _ (Hm.out.later hb1)).out
    have Hb1 := Lib.hid (below_then Hb0.out hb1)
    clear hb hb1 L
    go_wp2_with fail
    refine L2.out.mono ?_
    rintro e w2 ⟨b, rfl, hlb, hF, hb2⟩
    have hc3 := (bcell hb2).1 w.heap.size 3 (by simp; omega)
    rw [World.cell?_alloc_lt _ _ ⟨w.heap.size, 3, none⟩ hz] at hc3
    rw [q3] at hc3
    have Hb2 := Lib.hid (below_then Hb1.out hb2)
    clear hb2 hF q0 q1 q2 q3
    go_wp2_with fail
    go_ret
    exact ⟨_, rfl, .bare 7 (by decide), Hb2.out⟩
end Go.Proofs.YtffdlchoaaakdaaGreatDoor
