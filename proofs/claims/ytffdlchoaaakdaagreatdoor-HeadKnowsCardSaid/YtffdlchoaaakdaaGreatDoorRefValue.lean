/- ref.HeadValue: what a field has, as the reference has it. -/
import Derived.Test.YtffdlchoaaakdaaGreatDoorRefKind
import Derived.Test.YtffdlchoaaakdaaGreatDoorRight
namespace Go.Proofs.YtffdlchoaaakdaaGreatDoor
open Go.RowKit
def RetVN (w : World) (r : Nat × Int) (e : Ending) (w' : World) : Prop := e = .returned (.tuple #[.int .u64 (r.1 : Int), .int .i64 r.2]) ∧ Below w.heap.size w w'
theorem refValue_none (h : Hd) (v : Value) (n : List UInt8) (w : World) (hk : kindOf h.op = none) : Calls Tryz.prog 10 #[headV h v, .string (S n)] w (RetVN w (0, 1)) := by
  unfold headV
  have hb0 := (Below.refl w.heap.size w).alloc (Nat.le_refl _) (.cells #[.int .i64 h.op, .bool h.now, .int .i64 h.fl, v] 24)
  have C := refKind_any h.op (w.alloc (.cells #[.int .i64 h.op, .bool h.now, .int .i64 h.fl, v] 24))
  rw [hk] at C
  have HC := Lib.hid C
  have Hb0 := Lib.hid hb0
  clear hk hb0 C
  go_enter Tryz.func10, Tryz.ntmps10
  go_wp2_with fail
  refine HC.out.mono ?_
  rintro e w1 ⟨rfl, hb⟩
  have Hb := Lib.hid (below_then Hb0.out hb)
  clear hb
  go_wp2_with fail
  go_ret2
  exact ⟨rfl, Hb.out⟩
theorem valueK_no {k : Kd} {vs : List Nat} {n : List UInt8} (h : ∀ x (hx : x < k.fs.length), k.fs[x].nm ≠ n) : valueK k vs n = (0, 5) := by unfold valueK; rw [idxName_all h]
theorem valueK_at {k : Kd} {vs : List Nat} {n : List UInt8} {j : Nat} (hj : j < k.fs.length) (h : ∀ x (hx : x < j), k.fs[x].nm ≠ n) (he : k.fs[j].nm = n) : valueK k vs n = if j < vs.length then (vs.getD j 0, 0) else (0, 7) := by
  unfold valueK; rw [idxName_first hj h he]
set_option maxRecDepth 100000 in
set_option maxHeartbeats 1000000 in
theorem refValue_some (h : Hd) (v : Value) (n : List UInt8) (k : Kd) (w : World) (hk : kindOf h.op = some k) (hv : Vals w v h.vs) (hll : h.vs.length ≤ 9223372036854775807) :
    Calls Tryz.prog 10 #[headV h v, .string (S n)] w (RetVN w (valueK k h.vs n)) := by
  obtain ⟨op, now, fl, vs⟩ := h
  unfold headV
  simp only at *
  obtain ⟨p, c, rfl, hx, hcell⟩ := hv
  have F := kindFacts hk
  have hb0 := (Below.refl w.heap.size w).alloc (Nat.le_refl _) (.cells #[.int .i64 op, .bool now, .int .i64 fl, .slice p vs.length c] 24)
  have HH0 := Lib.hid (Blk.new w #[.int .i64 op, .bool now, .int .i64 fl, .slice p vs.length c] 24)
  have C := refKind_any op (w.alloc (.cells #[.int .i64 op, .bool now, .int .i64 fl, .slice p vs.length c] 24))
  rw [hk] at C
  have HC := Lib.hid C
  have Hb0 := Lib.hid hb0
  have hl10 := F.len
  have Hcell := Lib.hid hcell
  clear hk hb0 F hcell C
  go_enter Tryz.func10, Tryz.ntmps10
  go_wp2_with fail
  refine HC.out.mono ?_
  rintro e w1 ⟨bf, rfl, hF, hb⟩
  have Hb := Lib.hid (below_then Hb0.out hb)
  have HH1 := Lib.hid (Blk.later HH0.out hb)
  have HF := Lib.hid hF
  clear hb hF
  go_wp2_with fail
  go_loopw [23] (fun i wr => ∃ j : Nat, j ≤ k.fs.length ∧ i = .int .i64 j ∧ (∀ x (hx : x < k.fs.length), x < j → k.fs[x].nm ≠ n) ∧ Below w1.heap.size w1 wr) (fun i _ => k.fs.length - (intOf i).toNat)
  case atStart => exact ⟨0, by omega, rfl, fun x _ hx => by omega, Below.refl _ _⟩
  case round =>
    obtain ⟨j, hj, rfl, hno, hbw⟩ := hrel
    have Hno := Lib.hid hno
    have Hbw := Lib.hid hbw
    by_cases hlt : j < k.fs.length
    · obtain ⟨q0, q1, q2⟩ := Flds.get (Blk.later HF.out hbw) j hlt
      obtain ⟨c0, c1, c2, c3⟩ := (Blk.later HH1.out hbw).four
      have Hva := Lib.hid (fun he => valueK_at (vs := vs) (n := n) hlt (fun x hx => Hno.out x (by omega) hx) he)
      obtain ⟨f, hf⟩ : ∃ f, k.fs[j] = f := ⟨_, rfl⟩
      have Hf := Lib.hid hf
      rw [hf] at q0 q1 q2
      rw [hf] at Hva
      have hj0 : (0 : Int) ≤ (j : Int) := by omega
      clear hno hf
      by_cases hn : f.nm = n
      · have hnb : (f.nm == n) = true := by simpa using hn
        have Hn := Lib.hid hn
        by_cases hjv : j < vs.length
        · obtain ⟨bv, ov, rfl, hcv⟩ := Hcell.out (by omega)
          have hcj : wr.cell? ⟨bv, ov + j, none⟩ = some (.int .u64 (vs[j] : Int)) := by
            rw [(bcell (below_then Hb.out hbw)).1 bv (ov + j) (block_lt_of_cell (w := w) (a := ⟨bv, ov + j, none⟩) (hcv j hjv))]; exact hcv j hjv
          have HR : valueK k vs n = (vs[j], 0) := by rw [Hva.out hn, if_pos hjv]; simp [hjv]
          have HR' := Lib.hid HR
          generalize vs[j] = x at hcj HR'
          have hj2 : (j : Int) < (vs.length : Int) := by omega
          clear hn hbw HR hcv hx
          go_wp2_with fail
          go_ret2
          rw [HR'.out]
          exact ⟨rfl, below_then Hb.out Hbw.out⟩
        · have HR' := Lib.hid (show valueK k vs n = (0, 7) by rw [Hva.out hn, if_neg hjv])
          clear hn hbw hx
          go_wp2_with fail
          go_ret2
          rw [HR'.out]
          exact ⟨rfl, below_then Hb.out Hbw.out⟩
      · have hnb : (f.nm == n) = false := by simpa using hn
        have Hn := Lib.hid hn
        clear hn hbw hx
        go_wp2_with fail
        go_roundw
        case rel => exact ⟨j + 1, by omega, by go_num, fun x hx hxj => by
          by_cases e : x = j
          · subst e; rw [Hf.out]; exact Hn.out
          · exact Hno.out x hx (by omega), Hbw.out⟩
        case measure => simp [intOf]; omega
    · have HR' := Lib.hid (valueK_no (vs := vs) (fun x hx => Hno.out x hx (by omega)))
      clear hno hbw hx
      go_wp2_with fail
      go_ret2
      rw [HR'.out]
      exact ⟨rfl, below_then Hb.out Hbw.out⟩
theorem refValue_any (h : Hd) (v : Value) (n : List UInt8) (w : World) (hv : Vals w v h.vs) (hll : h.vs.length ≤ 9223372036854775807) :
    Calls Tryz.prog 10 #[headV h v, .string (S n)] w (RetVN w (valueR h n)) := by
  cases hk : kindOf h.op with
  | none =>
    have e : valueR h n = (0, 1) := by unfold valueR; rw [hk]
    rw [e]
    exact refValue_none h v n w hk
  | some k =>
    have e : valueR h n = valueK k h.vs n := by unfold valueR; rw [hk]
    rw [e]
    exact refValue_some h v n k w hk hv hll
end Go.Proofs.YtffdlchoaaakdaaGreatDoor
