/- head.Right where just values may be wrong; the whole of it. -/
import Derived.Test.YtffdlchoaaakdaaGreatDoorRight
import Derived.BigRegion
import Derived.IntWalk
namespace Go.Proofs.YtffdlchoaaakdaaGreatDoor
open Go.RowKit
def badR (fs : List Fd) (vs : List Nat) : Int × Int := match badVal fs vs with
  | some i => (2, (i : Int))
  | none => (0, -1)
theorem badR_some {fs : List Fd} {vs : List Nat} {i : Nat} (h : badVal fs vs = some i) : badR fs vs = (2, (i : Int)) := by unfold badR; rw [h]
theorem badR_none {fs : List Fd} {vs : List Nat} (h : badVal fs vs = none) : badR fs vs = (0, -1) := by unfold badR; rw [h]
set_option maxRecDepth 100000 in
theorem right_vals (h : Hd) (v : Value) (k : Kd) (w : World) (hk : kindOf h.op = some k) (hfl : I64 h.fl) (hm : MaxCell w) (hv : Vals w v h.vs)
    (hnow : h.now = true → h.op < 32) (hok : flOk h.fl k.fl = true) (hlen : h.vs.length = k.fs.length) : Calls Tryz.prog 15 #[headV h v] w (RetE w (badR k.fs h.vs)) := by
  obtain ⟨op, now, fl, vs⟩ := h
  unfold headV
  simp only at *
  obtain ⟨p, c, rfl, hx, hcell⟩ := hv
  have F := kindFacts hk
  obtain ⟨bv, ov, rfl, hcv⟩ := hcell (by have := F.len0; omega)
  have hb0 := (Below.refl w.heap.size w).alloc (Nat.le_refl _) (.cells #[.int .i64 op, .bool now, .int .i64 fl, .slice (some ⟨bv, ov, none⟩) vs.length c] 24)
  have C := Lib.hid (find_some hk (w.alloc (.cells #[.int .i64 op, .bool now, .int .i64 fl, .slice (some ⟨bv, ov, none⟩) vs.length c] 24)))
  have L := fun w hm => Lib.hid (kind_list hk w hm)
  have Hb0 := Lib.hid hb0
  have Hm := Lib.hid (hm.later hb0)
  have hA := andNot_yes fl k.fl F.fl hfl.1 hfl.2 hok
  have hl10 := F.len
  have hl1 := F.len0
  have Fok := Lib.hid F.fok
  have Hlen := Lib.hid hlen
  have Hcv := Lib.hid hcv
  have hbv : bv < w.heap.size := block_lt_of_cell (w := w) (a := ⟨bv, ov + 0, none⟩) (hcv 0 (by omega))
  have hcase : (now = true ∧ op < 32) ∨ now = false := by cases now with
    | true => exact .inl ⟨rfl, hnow rfl⟩
    | false => exact .inr rfl
  have hne : ((vs.length : Int) != (k.fs.length : Int)) = false := by rw [hlen]; simp
  have hvl : vs.length ≤ 10 := by omega
  clear hk hb0 hok hfl F hnow hm hcell hcv hlen
  rcases hcase with ⟨rfl, h32⟩ | rfl
  all_goals
    go_enter Tryz.func15, Tryz.ntmps15
    go_wp2_with fail
    refine C.out.mono ?_
    rintro e w1 ⟨rfl, hb⟩
    obtain ⟨q0, q1, q2, q3⟩ := ((Blk.new w #[.int .i64 op, .bool _, .int .i64 fl, .slice (some ⟨bv, ov, none⟩) vs.length c] 24).later hb).four
    have hz : w.heap.size < w1.heap.size := by have := hb.size; simp at this; omega
    have hb1 := hb.alloc hb.size (.cells #[.int .i64 (k.op : Int), .string (S k.nm), .int .i64 (k.fl : Int), .string (S k.tx)] 68)
    have L2 := Lib.hid (L _ (Hm.out.later hb1)).out
    have Hb1 := Lib.hid (below_then Hb0.out hb1)
    clear hb hb1 L
    go_wp2_with fail
    refine L2.out.mono ?_
    rintro e w2 ⟨b, rfl, hlb, hF, hb2⟩
    have hc3 := (bcell hb2).1 w.heap.size 3 (by simp; omega)
    rw [World.cell?_alloc_lt _ _ ⟨w.heap.size, 3, none⟩ hz] at hc3
    rw [q3] at hc3
    have hz2 : w.heap.size < w2.heap.size := by have := hb2.size; simp at this; omega
    have Hb2 := Lib.hid (below_then Hb1.out hb2)
    have Hc3 := Lib.hid hc3
    have HF := Lib.hid hF
    clear hb2 hF q0 q1 q2 q3 L2
    go_wp2_with fail
    clear hc3
    go_loopw [44] (fun i wr => ∃ j : Nat, j ≤ k.fs.length ∧ i = .int .i64 j ∧ (∀ x (hx : x < k.fs.length) (hx2 : x < vs.length), x < j → vs[x] / 2 ^ (8 * k.fs[x].sz) = 0) ∧ Below w2.heap.size w2 wr) (fun i _ => k.fs.length - (intOf i).toNat)
    case atStart => exact ⟨0, by omega, rfl, fun x _ _ hx => by omega, Below.refl _ _⟩
    case round =>
      obtain ⟨j, hj, rfl, hno, hbw⟩ := hrel
      have Hno := Lib.hid hno
      have Hbw := Lib.hid hbw
      by_cases hlt : j < k.fs.length
      · obtain ⟨q0, q1, q2⟩ := Flds.get (Blk.later HF.out hbw) j hlt
        have hltF : b < wr.heap.size := Nat.lt_of_lt_of_le (Blk.lt HF.out) hbw.size
        have hjv : j < vs.length := by rw [Hlen.out]; exact hlt
        have hc3 := (bcell hbw).1 w.heap.size 3 hz2
        rw [Hc3.out] at hc3
        have hzr : w.heap.size < wr.heap.size := Nat.lt_of_lt_of_le hz2 hbw.size
        have hbvr : bv < wr.heap.size := by omega
        have hcj : wr.cell? ⟨bv, ov + j, none⟩ = some (.int .u64 (vs[j] : Int)) := by
          rw [(bcell (below_then Hb2.out hbw)).1 bv (ov + j) hbv]; exact Hcv.out j hjv
        obtain ⟨f, hf⟩ : ∃ f, k.fs[j] = f := ⟨_, rfl⟩
        obtain ⟨x, hxj⟩ : ∃ x, vs[j] = x := ⟨_, rfl⟩
        obtain ⟨o1, o2, o3, o4, o5, o6⟩ := Fok.out f (by rw [← hf]; exact List.getElem_mem _)
        have hx64 : x < 2 ^ 64 := by rw [← hxj]; exact hx _ (List.getElem_mem _)
        rw [hf] at q0 q1 q2
        rw [hxj] at hcj
        have Hf := Lib.hid hf
        have Hxj := Lib.hid hxj
        clear hno hbw hf hxj o6
        have hj0 : (0 : Int) ≤ (j : Int) := by omega
        have e8 : IntKind.i64.wrap (8 * (f.sz : Int)) = 8 * f.sz := IntWalk.i64_in _ (by omega)
        have e80 : (0 : Int) ≤ 8 * (f.sz : Int) := by omega
        have e8n : (8 * (f.sz : Int)).toNat = 8 * f.sz := by omega
        by_cases hg : x / 2 ^ (8 * f.sz) = 0
        · have hq : ((x : Int) / 2 ^ (8 * f.sz) != 0) = false := by
            have : (x : Int) / 2 ^ (8 * f.sz) = 0 := by exact_mod_cast hg
            rw [this]; rfl
          have Hg := Lib.hid hg
          clear hg
          go_wp2_with fail
          go_quiet (fail)
          go_wp2_with fail
          go_roundw
          case rel => exact ⟨j + 1, by omega, by go_num, fun x hx hx2 hxj => by
            by_cases e : x = j
            · subst e; rw [Hf.out, Hxj.out]; exact Hg.out
            · exact Hno.out x hx hx2 (by omega), below_drewN (Hbw.out.alloc Hbw.out.size _) _⟩
          case measure => simp [intOf]; omega
        · have hq : ((x : Int) / 2 ^ (8 * f.sz) != 0) = true := by
            rw [bne_iff_ne]; intro h0; apply hg; exact_mod_cast h0
          have Hg := Lib.hid hg
          clear hg
          go_wp2_with fail
          go_quiet (fail)
          go_wp2_with fail
          go_ret
          have hB := below_drewN (Hbw.out.alloc Hbw.out.size (.cells #[.string (S f.nm), .int .i64 (f.pos : Int), .int .i64 (f.sz : Int)] 45)) nq
          have hbad : badVal k.fs vs = some j := badVal_first hlt hjv (fun x hx => Hno.out x (by omega) (by omega) hx) (by rw [Hf.out, Hxj.out]; exact Hg.out)
          rw [badR_some hbad]
          have hN := Blk.new ((wr.alloc (.cells #[.string (S f.nm), .int .i64 (f.pos : Int), .int .i64 (f.sz : Int)] 45)).drewN nq) #[.int .i64 2, .int .i64 (j : Int)] 77
          have eN : ((wr.alloc (.cells #[.string (S f.nm), .int .i64 (f.pos : Int), .int .i64 (f.sz : Int)] 45)).drewN nq).heap.size = wr.heap.size + 1 := by show (wr.alloc _).heap.size = _; rw [World.size_alloc]
          rw [eN] at hN
          exact ⟨_, rfl, .placed _ 2 j (by decide) hN.two.1 hN.two.2, (below_then Hb2.out hB).alloc (Nat.le_trans Hb2.out.size hB.size) _⟩
      · clear hno hbw
        go_wp2_with fail
        go_ret
        refine ⟨_, rfl, ?_, below_then Hb2.out Hbw.out⟩
        have hjn : j = k.fs.length := by omega
        rw [badR_none (badVal_none Hlen.out (fun x hx => Hno.out x hx (by rw [Hlen.out]; exact hx) (by omega)))]
        exact .good
theorem right_any (h : Hd) (v : Value) (w : World) (hfl : I64 h.fl) (hm : MaxCell w) (hv : Vals w v h.vs) (hll : h.vs.length ≤ 9223372036854775807) :
    Calls Tryz.prog 15 #[headV h v] w (RetE w (rightR h)) := by
  cases hk : kindOf h.op with
  | none =>
    have e : rightR h = (1, -1) := by unfold rightR; rw [hk]
    rw [e]
    exact right_none h v w hk
  | some k =>
    have e : rightR h = rightK k h.now h.op h.fl h.vs := by unfold rightR; rw [hk]
    rw [e]
    unfold rightK
    by_cases hb : ((h.now && decide (32 ≤ h.op)) || !flOk h.fl k.fl) = true
    · rw [if_pos hb]
      refine right_form h v k w hk hfl ?_
      simp only [Bool.or_eq_true, Bool.not_eq_true'] at hb
      exact hb
    · rw [if_neg hb]
      simp only [Bool.or_eq_true, Bool.and_eq_true, decide_eq_true_eq, Bool.not_eq_true', not_or, not_and] at hb
      have hnow : h.now = true → h.op < 32 := fun hn => by have := hb.1 hn; omega
      have hok : flOk h.fl k.fl = true := by simpa using hb.2
      by_cases hl : h.vs.length ≠ k.fs.length
      · rw [if_pos hl]
        exact right_len h v k w hk hfl hm hv hll hnow hok hl
      · rw [if_neg hl]
        exact right_vals h v k w hk hfl hm hv hnow hok (by omega)
end Go.Proofs.YtffdlchoaaakdaaGreatDoor
