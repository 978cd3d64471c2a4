/- HeadCount: with a value more, or less, a head is wrong. -/
import Derived.Test.YtffdlchoaaakdaaDoorCountOps
import Derived.Test.YtffdlchoaaakdaaDoorZeroMath
import Derived.Test.YtffdlchoaaakdaaDoorSameK
import Derived.RegionTactic
import Derived.Deep.RegionHeld3
import Derived.Test.YtffdlchoaaakdaaDoorNBuf
namespace Go.Proofs.YtffdlchoaaakdaaDoor
open Go.RowKit
theorem right_count {op : Int} {k : Kd} (hk : kindOf op = some k) (vs : List Nat) (h : vs.length ≠ k.fs.length) : rightR ⟨op, false, 0, vs⟩ = (7, -1) := by
  unfold rightR
  simp only
  rw [hk]
  simp [rightK, flOk_zero, h]
theorem Vals.take {W : World} {p : Option Addr} {n c m : Nat} (h : Vals W (.slice p n c) (List.replicate n 0)) (hm : m ≤ n) : Vals W (.slice p m c) (List.replicate m 0) := by
  obtain ⟨p', c', e, hx, hc⟩ := h
  have e1 : p = p' := by injection e
  subst e1
  refine ⟨p, c, by simp, fun x hx => by rw [List.eq_of_mem_replicate hx]; decide, fun hl => ?_⟩
  simp only [List.length_replicate] at hl hc
  obtain ⟨b, o, hp, hcell⟩ := hc (by omega)
  refine ⟨b, o, hp, fun j hj => ?_⟩
  simp only [List.length_replicate] at hj
  have := hcell j (by omega)
  simpa using this
/-- what stays through the region: the head's own block, its values, the two copies' blocks but for their last cell -/
structure CntS (w : World) (b5 b7 b8 m : Nat) (op : Int) (p : Option Addr) (c : Nat) (W : World) : Prop where
  k5 : Blk W b5 #[.int .i64 op, .bool false, .int .i64 0, .slice p m c] 24
  k7 : ∃ x, Blk W b7 #[.int .i64 op, .bool false, .int .i64 0, x] 24
  k8 : ∃ x, Blk W b8 #[.int .i64 op, .bool false, .int .i64 0, x] 24
  vals : Vals W (.slice p m c) (List.replicate m 0)
  low : Below w.heap.size w W
  ge7 : w.heap.size ≤ b7
  ge8 : w.heap.size ≤ b8
  n57 : b5 ≠ b7
  n58 : b5 ≠ b8
  n78 : b7 ≠ b8
theorem CntS.later {w : World} {b5 b7 b8 m : Nat} {op : Int} {p : Option Addr} {c : Nat} {W W' : World} (h : CntS w b5 b7 b8 m op p c W) (hb : Below W.heap.size W W') : CntS w b5 b7 b8 m op p c W' :=
  ⟨h.k5.later hb, h.k7.imp fun _ h => h.later hb, h.k8.imp fun _ h => h.later hb, h.vals.later hb, below_then h.low hb, h.ge7, h.ge8, h.n57, h.n58, h.n78⟩
theorem CntS.alloc {w : World} {b5 b7 b8 m : Nat} {op : Int} {p : Option Addr} {c : Nat} {W : World} (h : CntS w b5 b7 b8 m op p c W) (o : Obj) : CntS w b5 b7 b8 m op p c (W.alloc o) :=
  h.later ((Below.refl _ _).alloc (Nat.le_refl _) o)
/-- what holds when the copy and the number's own block are made, whichever came first -/
structure Both (w8 : World) (m g cap bN n : Nat) (W : World) : Prop where
  own : W.ownsRow w8.heap.size 52 1 (.slice (some ⟨g, 0, none⟩) m cap) m (numsV (List.replicate m 0))
  num : Blk W bN #[.int .u64 (n : Int)] 52
  low : Below w8.heap.size w8 W
theorem count_start {w w3 : World} {b5 : Nat} (op : Int) (v : Value) (h5 : Blk w3 b5 #[.int .i64 op, .bool false, .int .i64 0, v] 24) (hb : Below w.heap.size w w3) (_h : w.heap.size ≤ w3.heap.size) :
    let w8 := ((w3.alloc (.cells #[.int .i64 op, .bool false, .int .i64 0, v] 24)).alloc (.cells #[.int .i64 op, .bool false, .int .i64 0, v] 24)).drew
    Blk w8 b5 #[.int .i64 op, .bool false, .int .i64 0, v] 24 ∧ Blk w8 w3.heap.size #[.int .i64 op, .bool false, .int .i64 0, v] 24 ∧ Blk w8 (w3.heap.size + 1) #[.int .i64 op, .bool false, .int .i64 0, v] 24 ∧ Below w3.heap.size w3 w8 ∧ Below w.heap.size w w8 := by
  have h2 := Blk.new (w3.alloc (.cells #[.int .i64 op, .bool false, .int .i64 0, v] 24)) #[.int .i64 op, .bool false, .int .i64 0, v] 24
  rw [World.size_alloc] at h2
  have hbb := ((Below.refl w3.heap.size w3).alloc (Nat.le_refl _) (.cells #[.int .i64 op, .bool false, .int .i64 0, v] 24)).alloc (by simp) (.cells #[.int .i64 op, .bool false, .int .i64 0, v] 24)
  exact ⟨(h5.alloc _).alloc _, (Blk.new w3 _ _).alloc _, h2, hbb.drew, (below_then hb hbb).drew⟩
set_option maxRecDepth 100000 in
set_option maxHeartbeats 2000000 in
theorem headCount_any (op n0 : Int) (w : World) (_ha : (Lit.int .i64 op).wf = true) (hnw : (Lit.int .u64 n0).wf = true) (hg : ErrCell w) (hm : MaxCell w) :
    Calls Tryd.prog 12 #[.int .i64 op, .int .u64 n0] w fun e w' => e = .returned (.bool true) ∧ Below w.heap.size w w' := by
  obtain ⟨n, rfl, hn⟩ := wf_u64 hnw
  have H := Lib.hid (headed_any w hm)
  have Hm := Lib.hid hm
  have Hg := Lib.hid hg
  cases hk : kindOf op with
  | none =>
    have MK := fun w hm => make_any op 0 [] [] (.slice none 0 0) (.slice none 0 0) w ⟨by decide, by decide⟩ hm (strV_nil w) (vals_nil w) (by decide) (by decide)
    rw [make_noOp [] [] hk] at MK
    have M2 := fun w hm => Lib.hid (MK w hm)
    have SK := fun v w hv => Lib.hid (sameK_same hd0 v (.slice none 0 0) w hv (vals_nil w) (by decide))
    clear hk hm hg hnw MK
    go_enter Tryd.func12, Tryd.ntmps12
    go_wp2_with fail
    refine H.out.mono ?_
    rintro e w1 ⟨rfl, hb1⟩
    have Hb1 := Lib.hid hb1
    clear hb1 H
    go_wp2_with fail
    refine (M2 _ (Hm.out.later Hb1.out)).out.mono ?_
    rintro e w2 ⟨v2, ev2, rfl, hv2, he2, hb2⟩
    obtain ⟨t2, x2, rfl⟩ := he2.iface (by decide)
    obtain ⟨p2, c2, rfl⟩ := hv2.form
    have hbh := (Below.refl w2.heap.size w2).alloc (Nat.le_refl _) (.cells #[.int .i64 0, .bool false, .int .i64 0, .slice p2 0 c2] 24)
    have Hb2 := Lib.hid (below_then (below_then Hb1.out hb2) hbh)
    have S2 := SK (.slice p2 0 c2) _ (hv2.later hbh)
    clear hb2 hv2 he2 hbh SK
    unfold headV hd0
    simp only
    go_wp2_with fail
    refine S2.out.mono ?_
    rintro e w3 ⟨rfl, hb3⟩
    have Hb3 := Lib.hid (below_then Hb2.out hb3)
    clear hb3
    go_wp2_with fail
    go_ret
    exact ⟨rfl, Hb3.out⟩
  | some k =>
    have K := kindFacts hk
    have hl10 := K.len
    have hl1 := K.len0
    have MK := fun w hm => makeC_any op 0 [] [] (.slice none 0 0) (.slice none 0 0) w ⟨by decide, by decide⟩ hm (strV_nil w) (vals_nil w) (by decide) (by decide)
    rw [zero_make hk] at MK
    have M2 := fun w hm => Lib.hid (MK w hm)
    obtain ⟨m, hmk⟩ : ∃ m, k.fs.length = m := ⟨_, rfl⟩
    rw [hmk] at hl10 hl1
    have hz : zeroH op k = ⟨op, false, 0, List.replicate m 0⟩ := by unfold zeroH; rw [hmk]
    rw [hz] at M2
    have hz2 := zero_right hk
    rw [hz] at hz2
    have R1 : ∀ v w, MaxCell w → Vals w v (List.replicate m 0) → Calls Tryd.prog 20 #[.agg #[.int .i64 op, .bool false, .int .i64 0, v]] w (RetE w (0, -1)) := fun v w hm hv => by
      have := right_any ⟨op, false, 0, List.replicate m 0⟩ v w (show I64 0 from ⟨by decide, by decide⟩) hm hv (by simp; omega)
      rw [hz2] at this
      exact this
    have R2 : ∀ vs v w, vs.length ≠ m → vs.length ≤ 20 → MaxCell w → Vals w v vs → Calls Tryd.prog 20 #[.agg #[.int .i64 op, .bool false, .int .i64 0, v]] w (RetE w (7, -1)) := fun vs v w hne hl hm hv => by
      have := right_any ⟨op, false, 0, vs⟩ v w (show I64 0 from ⟨by decide, by decide⟩) hm hv (by simp; omega)
      rw [right_count hk vs (by rw [hmk]; exact hne)] at this
      exact this
    have HR1 := Lib.hid R1
    have HR2 := Lib.hid R2
    have hl0 : ((m : Int) == 0) = false := beq_eq_false_iff_ne.2 (by omega)
    clear hk hm hg hnw MK R1 R2 hz hz2 hmk K
    go_enter Tryd.func12, Tryd.ntmps12
    go_wp2_with fail
    refine H.out.mono ?_
    rintro e w1 ⟨rfl, hb1⟩
    have Hb1 := Lib.hid hb1
    clear hb1 H
    go_wp2_with fail
    refine (M2 _ (Hm.out.later Hb1.out)).out.mono ?_
    rintro e w2 ⟨v2, ev2, rfl, ⟨hv2, hcap2⟩, he2, hb2⟩
    obtain rfl := he2.zero
    have hform : ∃ p c, v2 = .slice p m c := by obtain ⟨p, c, h⟩ := hv2.form; exact ⟨p, c, by rw [h]; simp⟩
    obtain ⟨p2, c2, rfl⟩ := hform
    have hmc : m ≤ c2 := hcap2
    have hbh := (Below.refl w2.heap.size w2).alloc (Nat.le_refl _) (.cells #[.int .i64 op, .bool false, .int .i64 0, .slice p2 m c2] 24)
    have Hb2 := Lib.hid (below_then (below_then Hb1.out hb2) hbh)
    have HV2 := Lib.hid (hv2.later hbh)
    have Hle := Lib.hid hb2.size
    have HK2 := Lib.hid (Blk.new w2 #[.int .i64 op, .bool false, .int .i64 0, .slice p2 m c2] 24)
    clear hb2 hv2 he2 hbh
    unfold headV
    simp only
    go_wp2_with fail
    generalize w2.alloc (.cells #[.int .i64 op, .bool false, .int .i64 0, .slice p2 m c2] 24) = w3 at Hb2 HV2 HK2 ⊢
    obtain ⟨q0, q1, q2, q3⟩ := HK2.out.four
    have hlt5 := HK2.out.lt
    have hle2 : w1.heap.size ≤ w2.heap.size := Hle.out
    go_region
    · have hcell := Hid.out HV2
      obtain ⟨p2', c2', hpe, hx64, hcell0⟩ := hcell
      obtain ⟨bv, ov, rfl, hcv⟩ : ∃ b o, p2 = some ⟨b, o, none⟩ ∧ ∀ j (hj : j < m), w3.cell? ⟨b, o + j, none⟩ = some (.int .u64 0) := by
        obtain ⟨b, o, hp, hc⟩ := hcell0 (by simp; omega)
        have e1 : p2 = p2' := by injection hpe
        exact ⟨b, o, e1.trans hp, fun j hj => by have := hc j (by simpa using hj); simpa using this⟩
      clear hpe hx64 hcell0
      have hA := count_start (w := w) (w3 := w3) (b5 := w2.heap.size) op (.slice (some ⟨bv, ov, none⟩) m c2) HK2.out Hb2.out (by have := Hb1.out.size; have := hle2; omega)
      generalize ((w3.alloc (.cells #[.int .i64 op, .bool false, .int .i64 0, .slice (some ⟨bv, ov, none⟩) m c2] 24)).alloc (.cells #[.int .i64 op, .bool false, .int .i64 0, .slice (some ⟨bv, ov, none⟩) m c2] 24)).drew = w8 at hA ⊢
      obtain ⟨k5, kx, ky, hbel8, hlow8⟩ := hA
      have K5 := Lib.hid k5
      have KX := Lib.hid kx
      have KY := Lib.hid ky
      have Hlow8 := Lib.hid hlow8
      have Hbel8 := Lib.hid hbel8
      have hw3 : w.heap.size ≤ w3.heap.size := Hb2.out.size
      have hcv8 : ∀ j (hj : j < m), w8.cell? ⟨bv, ov + j, none⟩ = some (.int .u64 0) := fun j hj => (hbel8.cell (block_lt_of_cell (hcv j hj))).trans (hcv j hj)
      have HV8 := Lib.hid (HV2.out.later hbel8)
      have hz5 := k5.lt
      have hzx := kx.lt
      have hzy := ky.lt
      have hS0 := k5.four.2.2.2
      have h58 : w2.heap.size < w3.heap.size := hlt5
      clear q0 q1 q2 q3 hcv k5 kx ky hlow8 hbel8
      go_wp2_with fail
      refine wp_region_held (S := fun W => W.cell? ⟨w2.heap.size, 3, none⟩ = some (.slice (some ⟨bv, ov, none⟩) m c2)) (by kernel_rfl) ?_
      have e9 : Below w8.heap.size w8 { w8 with drawn := w8.drawn + 1 } := (Below.refl _ _).drew
      generalize ({ w8 with drawn := w8.drawn + 1 } : World) = w9 at e9 ⊢
      have K5' := Lib.hid (K5.out.later e9)
      have KX' := Lib.hid (KX.out.later e9)
      have KY' := Lib.hid (KY.out.later e9)
      have Hlow9 := Lib.hid (below_then Hlow8.out e9)
      have HV9 := Lib.hid (HV8.out.later e9)
      have hcv9 : ∀ j (hj : j < m), w9.cell? ⟨bv, ov + j, none⟩ = some (.int .u64 0) := fun j hj => (e9.cell (block_lt_of_cell (hcv8 j hj))).trans (hcv8 j hj)
      replace hS0 := (e9.cell (block_lt_of_cell hS0)).trans hS0
      replace hz5 := K5'.out.lt
      replace hzx := KX'.out.lt
      replace hzy := KY'.out.lt
      have Hbel9 := Lib.hid (below_then Hbel8.out e9)
      clear e9 hcv8 K5 KX KY Hlow8 HV8 Hbel8
      refine take_at (i := 0) (some 27) rfl rfl (by kernel_rfl) (by kernel_rfl) (by kernel_rfl) (fun _ _ _ h => h) (y_fieldAddr3 (b := w2.heap.size) rfl rfl rfl) hS0 ?_
      simp only [Act.put, List.setIfInBounds_toArray, List.set_cons_succ, List.set_cons_zero]
      refine take_at (i := 1) (some 28) rfl rfl (by kernel_rfl) (by kernel_rfl) (by kernel_rfl) (fun _ _ _ h => h) (y_loadS (b := w2.heap.size) rfl rfl rfl) hS0 ?_
      simp only [Act.put, List.setIfInBounds_toArray, List.set_cons_succ, List.set_cons_zero]
      refine take_at (i := 3) (some 30) rfl rfl (by kernel_rfl) (by kernel_rfl) (by kernel_rfl) (fun _ _ _ h => h) (y_move (v := .int .u64 (n : Int)) rfl rfl rfl) hS0 ?_
      simp only [Act.put, List.setIfInBounds_toArray, List.set_cons_succ, List.set_cons_zero]
      refine take_at (i := 6) (some 33) rfl rfl (by kernel_rfl) (by kernel_rfl) (by kernel_rfl) (fun _ _ _ h => h) (y_fieldAddr3 (b := w2.heap.size) rfl rfl rfl) hS0 ?_
      simp only [Act.put, List.setIfInBounds_toArray, List.set_cons_succ, List.set_cons_zero]
      refine take_at (i := 7) (some 34) rfl rfl (by kernel_rfl) (by kernel_rfl) (by kernel_rfl) (fun _ _ _ h => h) (y_loadS (b := w2.heap.size) rfl rfl rfl) hS0 ?_
      simp only [Act.put, List.setIfInBounds_toArray, List.set_cons_succ, List.set_cons_zero]
      refine take_at (i := 8) (some 35) rfl rfl (by kernel_rfl) (by kernel_rfl) (by kernel_rfl) (fun _ _ _ h => h) (y_fieldAddr3 (b := w2.heap.size) rfl rfl rfl) hS0 ?_
      simp only [Act.put, List.setIfInBounds_toArray, List.set_cons_succ, List.set_cons_zero]
      refine take_at (i := 9) (some 36) rfl rfl (by kernel_rfl) (by kernel_rfl) (by kernel_rfl) (fun _ _ _ h => h) (y_loadS (b := w2.heap.size) rfl rfl rfl) hS0 ?_
      simp only [Act.put, List.setIfInBounds_toArray, List.set_cons_succ, List.set_cons_zero]
      refine take_at (i := 10) (some 37) rfl rfl (by kernel_rfl) (by kernel_rfl) (by kernel_rfl) (fun _ _ _ h => h) (y_len (n := m) (c := c2) (p := some ⟨bv, ov, none⟩) rfl rfl rfl) hS0 ?_
      simp only [Act.put, List.setIfInBounds_toArray, List.set_cons_succ, List.set_cons_zero]
      refine take_at (i := 11) (some 38) rfl rfl (by kernel_rfl) (by kernel_rfl) (by kernel_rfl) (fun _ _ _ h => h) (y_sub (m := m) rfl rfl rfl hl1 (by omega)) hS0 ?_
      simp only [Act.put, List.setIfInBounds_toArray, List.set_cons_succ, List.set_cons_zero]
      refine take_at (i := 12) (some 39) rfl rfl (by kernel_rfl) (by kernel_rfl) (by kernel_rfl) (fun _ _ _ h => h) (y_slice (n := m) (k := m - 1) (c := c2) (p := some ⟨bv, ov, none⟩) rfl rfl rfl rfl (by omega)) hS0 ?_
      simp only [Act.put, List.setIfInBounds_toArray, List.set_cons_succ, List.set_cons_zero]
      refine wpAnyH_all (rs := [2, 4]) (by kernel_rfl) (by simp) (fun i hi => ?_)
      have CL := Lib.hid (clone_zeros m bv ov c2 hl1 (by omega))
      have hcases : i = 2 ∨ i = 4 := by simpa using hi
      rcases hcases with rfl | rfl
      · refine wpOp_of rfl rfl (opw_callD (f := 30) (some 29) rfl Tryd.func30 (by kernel_rfl) (by kernel_rfl) rfl rfl ?_)
        simp only [List.map_toArray, List.map_cons, List.map_nil]
        refine (CL.out _ hcv9).mono ?_
        rintro e wc ⟨g, cap, rfl, hown, hbc⟩
        have hSc : wc.cell? ⟨w2.heap.size, 3, none⟩ = some (.slice (some ⟨bv, ov, none⟩) m c2) := (hbc.cell (block_lt_of_cell hS0)).trans hS0
        refine ⟨_, rfl, hSc, ?_⟩
        try dsimp only
        simp only [Act.put, List.setIfInBounds_toArray, List.set_cons_succ, List.set_cons_zero]
        refine wpAnyH_all (rs := [4]) (by kernel_rfl) (by simp) (fun i hi => ?_)
        obtain rfl : i = 4 := by simpa using hi
        have hba := (Below.refl wc.heap.size wc).alloc (Nat.le_refl _) (.cells #[.int .u64 (n : Int)] 52)
        have hSa : (wc.alloc (.cells #[.int .u64 (n : Int)] 52)).cell? ⟨w2.heap.size, 3, none⟩ = some (.slice (some ⟨bv, ov, none⟩) m c2) := (hba.cell (block_lt_of_cell hSc)).trans hSc
        refine wpOp_of rfl rfl (opw_row1D (n := n) (some 31) rfl rfl rfl ⟨hSa, ?_⟩)
        try dsimp only
        simp only [Act.put, List.setIfInBounds_toArray, List.set_cons_succ, List.set_cons_zero]
        have F : Both w9 m g cap wc.heap.size n (wc.alloc (.cells #[.int .u64 (n : Int)] 52)) := ⟨own_le (World.ownsRow.alloc hown _) (Nat.le_refl _), Blk.new wc _ _, below_then (w := w9) (show Below w9.heap.size w9 wc from ⟨hbc.os, hbc.tape, hbc.output, hbc.size, hbc.block⟩) hba⟩
        generalize hW5 : wc.alloc (.cells #[.int .u64 (n : Int)] 52) = W5 at F hSa ⊢
        generalize wc.heap.size = bN at F ⊢
        obtain ⟨fo, fn, fl⟩ := F
        have K5b := K5'.out.later fl
        have KXb := KX'.out.later fl
        have KYb := KY'.out.later fl
        refine wpAnyH_all (rs := [5]) (by kernel_rfl) (by simp) (fun i hi => ?_)
        obtain rfl : i = 5 := by simpa using hi
        refine wpOp_of rfl rfl (opw_app1 (n := n) (some 32) rfl rfl rfl rfl fo (by simp) (by omega) fn fl.size ?_)
        intro pv cv wa hNv hgv
        have hge : ∀ k, (Value.slice (some ⟨g, 0, none⟩) m cap).ownBlock = some k → w9.heap.size ≤ k := fun k hk => (World.ownsRow.lt fo k hk).1
        have K5c := K5b.grown hgv (fun k hk => by have := hge k hk; omega)
        have KXc := KXb.grown hgv (fun k hk => by have := hge k hk; omega)
        have KYc := KYb.grown hgv (fun k hk => by have := hge k hk; omega)
        have hlowc : Below w9.heap.size w9 wa := fl.grown hgv fl.size hge
        refine ⟨K5c.four.2.2.2, ?_⟩
        simp only [Act.put, List.setIfInBounds_toArray, List.set_cons_succ, List.set_cons_zero]
        refine take_at (i := 13) (some 40) rfl rfl (by kernel_rfl) (by kernel_rfl) (by kernel_rfl) (fun _ _ _ h => h) (y_fieldAddr3 (b := w3.heap.size) rfl rfl rfl) K5c.four.2.2.2 ?_
        simp only [Act.put, List.setIfInBounds_toArray, List.set_cons_succ, List.set_cons_zero]
        refine wpAnyH_all (rs := [14]) (by kernel_rfl) (by simp) (fun i hi => ?_)
        obtain rfl : i = 14 := by simpa using hi
        refine wpOp_of rfl rfl (opw_storeS rfl rfl rfl rfl KXc.four.2.2.2 (KXc.frozen 3) ?_)
        have K5d := K5c.other (b' := w3.heap.size) (i := 3) (by omega) (.slice pv (m + 1) cv)
        have K7d := KXc.set 3 (.slice pv (m + 1) cv)
        have K8d := KYc.other (b' := w3.heap.size) (i := 3) (by omega) (.slice pv (m + 1) cv)
        have hNd := hNv.set (a := ⟨w3.heap.size, 3, none⟩) (by omega) (.slice pv (m + 1) cv)
        refine ⟨K5d.four.2.2.2, ?_⟩
        refine take_at (i := 15) (some 41) rfl rfl (by kernel_rfl) (by kernel_rfl) (by kernel_rfl) (fun _ _ _ h => h) (y_fieldAddr3 (b := (w3.heap.size + 1)) rfl rfl rfl) K5d.four.2.2.2 ?_
        simp only [Act.put, List.setIfInBounds_toArray, List.set_cons_succ, List.set_cons_zero]
        refine wpAnyH_all (rs := [16]) (by kernel_rfl) (by simp) (fun i hi => ?_)
        obtain rfl : i = 16 := by simpa using hi
        refine wpOp_of rfl rfl (opw_storeS rfl rfl rfl rfl K8d.four.2.2.2 (K8d.frozen 3) ?_)
        have K5e := K5d.other (b' := (w3.heap.size + 1)) (i := 3) (by omega) (.slice (some ⟨bv, ov, none⟩) (m - 1) c2)
        have K7e := K7d.other (b' := (w3.heap.size + 1)) (i := 3) (by omega) (.slice (some ⟨bv, ov, none⟩) (m - 1) c2)
        have K8e := K8d.set 3 (.slice (some ⟨bv, ov, none⟩) (m - 1) c2)
        have hNe := hNd.set (a := ⟨(w3.heap.size + 1), 3, none⟩) (by omega) (.slice (some ⟨bv, ov, none⟩) (m - 1) c2)
        have hlowe := ((below_then Hlow9.out hlowc).setCell (p := ⟨w3.heap.size, 3, none⟩) (show w.heap.size ≤ w3.heap.size by omega) (.slice pv (m + 1) cv)).setCell (p := ⟨(w3.heap.size + 1), 3, none⟩) (show w.heap.size ≤ (w3.heap.size + 1) by omega) (.slice (some ⟨bv, ov, none⟩) (m - 1) c2)
        have hbele := ((below_then Hbel9.out hlowc).setCell (p := ⟨w3.heap.size, 3, none⟩) (show w3.heap.size ≤ w3.heap.size by omega) (.slice pv (m + 1) cv)).setCell (p := ⟨(w3.heap.size + 1), 3, none⟩) (show w3.heap.size ≤ (w3.heap.size + 1) by omega) (.slice (some ⟨bv, ov, none⟩) (m - 1) c2)
        have V5 := HV2.out.later hbele
        have V7 := hNe.vals (fun x hx => by
          rcases List.mem_append.1 hx with h | h
          · rw [List.eq_of_mem_replicate h]; decide
          · rw [List.mem_singleton.1 h]; exact hn)
        have V8 := Vals.take V5 (show m - 1 ≤ m by omega)
        refine ⟨K5e.four.2.2.2, wpAnyH_done (by kernel_rfl) ?_ _⟩
        generalize ((wa.setCell ⟨w3.heap.size, 3, none⟩ (.slice pv (m + 1) cv)).setCell ⟨(w3.heap.size + 1), 3, none⟩ (.slice (some ⟨bv, ov, none⟩) (m - 1) c2)) = wz at K5e K7e K8e V5 V7 V8 hlowe ⊢
        have HK5 := Lib.hid K5e
        have HK7 := Lib.hid (show Blk wz w3.heap.size #[.int .i64 op, .bool false, .int .i64 0, .slice pv (m + 1) cv] 24 from by simpa using K7e)
        have HK8 := Lib.hid (show Blk wz (w3.heap.size + 1) #[.int .i64 op, .bool false, .int .i64 0, .slice (some ⟨bv, ov, none⟩) (m - 1) c2] 24 from by simpa using K8e)
        have HV5 := Lib.hid V5
        have HV7 := Lib.hid V7
        have HV8 := Lib.hid V8
        have Hlz := Lib.hid hlowe
        obtain ⟨q0, q1, q2, q3⟩ := K5e.four
        clear K5b KXb KYb K5c KXc KYc K5d K7d K8d K5e K7e K8e hNv hNd hNe hlowc hlowe hbele V5 V7 V8 fo fn fl hgv hge hSa hcv9 hS0 hz5 hzx hzy hown hbc
        go_wp2_with fail
        refine (HR1.out _ _ (Hm.out.later Hlz.out) HV5.out).mono ?_
        rintro e wa1 ⟨ev1, rfl, hE1, hb1⟩
        obtain rfl := hE1.zero
        obtain ⟨r0, r1, r2, r3⟩ := (HK7.out.later hb1).four
        have Hl1 := Lib.hid (below_then Hlz.out hb1)
        have Hb1' := Lib.hid hb1
        clear q0 q1 q2 q3 hE1 hb1
        go_wp2_with fail
        refine (HR2.out _ _ _ (by simp) (by simp; omega) (Hm.out.later Hl1.out) (HV7.out.later Hb1'.out)).mono ?_
        rintro e wa2 ⟨ev2, rfl, hE2, hb2⟩
        have Hl2 := Lib.hid (below_then Hl1.out hb2)
        have Hb2' := Lib.hid (below_then Hb1'.out hb2)
        have T2 := Lib.hid (tell_is hE2 (Hg.out.later Hl2.out))
        clear r0 r1 r2 r3 hE2 hb2
        go_wp2_with fail
        refine T2.out.mono ?_
        rintro e wa3 ⟨rfl, hb3⟩
        obtain ⟨s0, s1, s2, s3⟩ := (HK8.out.later (below_then Hb2'.out hb3)).four
        have Hl3 := Lib.hid (below_then Hl2.out hb3)
        have Hb3' := Lib.hid (below_then Hb2'.out hb3)
        clear hb3
        go_wp2_with fail
        refine (HR2.out _ _ _ (by simp; omega) (by simp; omega) (Hm.out.later Hl3.out) (HV8.out.later Hb3'.out)).mono ?_
        rintro e wa4 ⟨ev4, rfl, hE4, hb4⟩
        have Hl4 := Lib.hid (below_then Hl3.out hb4)
        have T4 := Lib.hid (tell_is hE4 (Hg.out.later Hl4.out))
        clear s0 s1 s2 s3 hE4 hb4
        go_wp2_with fail
        refine T4.out.mono ?_
        rintro e wa5 ⟨rfl, hb5⟩
        have Hl5 := Lib.hid (below_then Hl4.out hb5)
        clear hb5
        go_wp2_with fail
        go_ret
        exact ⟨rfl, Hl5.out⟩
      · have hba := (Below.refl w9.heap.size w9).alloc (Nat.le_refl _) (.cells #[.int .u64 (n : Int)] 52)
        have hSa : (w9.alloc (.cells #[.int .u64 (n : Int)] 52)).cell? ⟨w2.heap.size, 3, none⟩ = some (.slice (some ⟨bv, ov, none⟩) m c2) := (hba.cell (block_lt_of_cell hS0)).trans hS0
        refine wpOp_of rfl rfl (opw_row1D (n := n) (some 31) rfl rfl rfl ⟨hSa, ?_⟩)
        try dsimp only
        simp only [Act.put, List.setIfInBounds_toArray, List.set_cons_succ, List.set_cons_zero]
        refine wpAnyH_all (rs := [2]) (by kernel_rfl) (by simp) (fun i hi => ?_)
        obtain rfl : i = 2 := by simpa using hi
        refine wpOp_of rfl rfl (opw_callD (f := 30) (some 29) rfl Tryd.func30 (by kernel_rfl) (by kernel_rfl) rfl rfl ?_)
        simp only [List.map_toArray, List.map_cons, List.map_nil]
        refine (CL.out _ (fun j hj => (hba.cell (block_lt_of_cell (hcv9 j hj))).trans (hcv9 j hj))).mono ?_
        rintro e wc ⟨g, cap, rfl, hown, hbc⟩
        have hSc : wc.cell? ⟨w2.heap.size, 3, none⟩ = some (.slice (some ⟨bv, ov, none⟩) m c2) := (hbc.cell (block_lt_of_cell hSa)).trans hSa
        refine ⟨_, rfl, hSc, ?_⟩
        try dsimp only
        simp only [Act.put, List.setIfInBounds_toArray, List.set_cons_succ, List.set_cons_zero]
        have F : Both w9 m g cap w9.heap.size n wc := ⟨own_le hown (by simp), (Blk.new w9 #[.int .u64 (n : Int)] 52).later hbc, below_then hba hbc⟩
        generalize hW5 : wc = W5 at F hSc ⊢
        obtain ⟨fo, fn, fl⟩ := F
        have K5b := K5'.out.later fl
        have KXb := KX'.out.later fl
        have KYb := KY'.out.later fl
        refine wpAnyH_all (rs := [5]) (by kernel_rfl) (by simp) (fun i hi => ?_)
        obtain rfl : i = 5 := by simpa using hi
        refine wpOp_of rfl rfl (opw_app1 (n := n) (some 32) rfl rfl rfl rfl fo (by simp) (by omega) fn fl.size ?_)
        intro pv cv wa hNv hgv
        have hge : ∀ k, (Value.slice (some ⟨g, 0, none⟩) m cap).ownBlock = some k → w9.heap.size ≤ k := fun k hk => (World.ownsRow.lt fo k hk).1
        have K5c := K5b.grown hgv (fun k hk => by have := hge k hk; omega)
        have KXc := KXb.grown hgv (fun k hk => by have := hge k hk; omega)
        have KYc := KYb.grown hgv (fun k hk => by have := hge k hk; omega)
        have hlowc : Below w9.heap.size w9 wa := fl.grown hgv fl.size hge
        refine ⟨K5c.four.2.2.2, ?_⟩
        simp only [Act.put, List.setIfInBounds_toArray, List.set_cons_succ, List.set_cons_zero]
        refine take_at (i := 13) (some 40) rfl rfl (by kernel_rfl) (by kernel_rfl) (by kernel_rfl) (fun _ _ _ h => h) (y_fieldAddr3 (b := w3.heap.size) rfl rfl rfl) K5c.four.2.2.2 ?_
        simp only [Act.put, List.setIfInBounds_toArray, List.set_cons_succ, List.set_cons_zero]
        refine wpAnyH_all (rs := [14]) (by kernel_rfl) (by simp) (fun i hi => ?_)
        obtain rfl : i = 14 := by simpa using hi
        refine wpOp_of rfl rfl (opw_storeS rfl rfl rfl rfl KXc.four.2.2.2 (KXc.frozen 3) ?_)
        have K5d := K5c.other (b' := w3.heap.size) (i := 3) (by omega) (.slice pv (m + 1) cv)
        have K7d := KXc.set 3 (.slice pv (m + 1) cv)
        have K8d := KYc.other (b' := w3.heap.size) (i := 3) (by omega) (.slice pv (m + 1) cv)
        have hNd := hNv.set (a := ⟨w3.heap.size, 3, none⟩) (by omega) (.slice pv (m + 1) cv)
        refine ⟨K5d.four.2.2.2, ?_⟩
        refine take_at (i := 15) (some 41) rfl rfl (by kernel_rfl) (by kernel_rfl) (by kernel_rfl) (fun _ _ _ h => h) (y_fieldAddr3 (b := (w3.heap.size + 1)) rfl rfl rfl) K5d.four.2.2.2 ?_
        simp only [Act.put, List.setIfInBounds_toArray, List.set_cons_succ, List.set_cons_zero]
        refine wpAnyH_all (rs := [16]) (by kernel_rfl) (by simp) (fun i hi => ?_)
        obtain rfl : i = 16 := by simpa using hi
        refine wpOp_of rfl rfl (opw_storeS rfl rfl rfl rfl K8d.four.2.2.2 (K8d.frozen 3) ?_)
        have K5e := K5d.other (b' := (w3.heap.size + 1)) (i := 3) (by omega) (.slice (some ⟨bv, ov, none⟩) (m - 1) c2)
        have K7e := K7d.other (b' := (w3.heap.size + 1)) (i := 3) (by omega) (.slice (some ⟨bv, ov, none⟩) (m - 1) c2)
        have K8e := K8d.set 3 (.slice (some ⟨bv, ov, none⟩) (m - 1) c2)
        have hNe := hNd.set (a := ⟨(w3.heap.size + 1), 3, none⟩) (by omega) (.slice (some ⟨bv, ov, none⟩) (m - 1) c2)
        have hlowe := ((below_then Hlow9.out hlowc).setCell (p := ⟨w3.heap.size, 3, none⟩) (show w.heap.size ≤ w3.heap.size by omega) (.slice pv (m + 1) cv)).setCell (p := ⟨(w3.heap.size + 1), 3, none⟩) (show w.heap.size ≤ (w3.heap.size + 1) by omega) (.slice (some ⟨bv, ov, none⟩) (m - 1) c2)
        have hbele := ((below_then Hbel9.out hlowc).setCell (p := ⟨w3.heap.size, 3, none⟩) (show w3.heap.size ≤ w3.heap.size by omega) (.slice pv (m + 1) cv)).setCell (p := ⟨(w3.heap.size + 1), 3, none⟩) (show w3.heap.size ≤ (w3.heap.size + 1) by omega) (.slice (some ⟨bv, ov, none⟩) (m - 1) c2)
        have V5 := HV2.out.later hbele
        have V7 := hNe.vals (fun x hx => by
          rcases List.mem_append.1 hx with h | h
          · rw [List.eq_of_mem_replicate h]; decide
          · rw [List.mem_singleton.1 h]; exact hn)
        have V8 := Vals.take V5 (show m - 1 ≤ m by omega)
        refine ⟨K5e.four.2.2.2, wpAnyH_done (by kernel_rfl) ?_ _⟩
        generalize ((wa.setCell ⟨w3.heap.size, 3, none⟩ (.slice pv (m + 1) cv)).setCell ⟨(w3.heap.size + 1), 3, none⟩ (.slice (some ⟨bv, ov, none⟩) (m - 1) c2)) = wz at K5e K7e K8e V5 V7 V8 hlowe ⊢
        have HK5 := Lib.hid K5e
        have HK7 := Lib.hid (show Blk wz w3.heap.size #[.int .i64 op, .bool false, .int .i64 0, .slice pv (m + 1) cv] 24 from by simpa using K7e)
        have HK8 := Lib.hid (show Blk wz (w3.heap.size + 1) #[.int .i64 op, .bool false, .int .i64 0, .slice (some ⟨bv, ov, none⟩) (m - 1) c2] 24 from by simpa using K8e)
        have HV5 := Lib.hid V5
        have HV7 := Lib.hid V7
        have HV8 := Lib.hid V8
        have Hlz := Lib.hid hlowe
        obtain ⟨q0, q1, q2, q3⟩ := K5e.four
        clear K5b KXb KYb K5c KXc KYc K5d K7d K8d K5e K7e K8e hNv hNd hNe hlowc hlowe hbele V5 V7 V8 fo fn fl hgv hge hSa hcv9 hS0 hz5 hzx hzy hown hbc
        go_wp2_with fail
        refine (HR1.out _ _ (Hm.out.later Hlz.out) HV5.out).mono ?_
        rintro e wa1 ⟨ev1, rfl, hE1, hb1⟩
        obtain rfl := hE1.zero
        obtain ⟨r0, r1, r2, r3⟩ := (HK7.out.later hb1).four
        have Hl1 := Lib.hid (below_then Hlz.out hb1)
        have Hb1' := Lib.hid hb1
        clear q0 q1 q2 q3 hE1 hb1
        go_wp2_with fail
        refine (HR2.out _ _ _ (by simp) (by simp; omega) (Hm.out.later Hl1.out) (HV7.out.later Hb1'.out)).mono ?_
        rintro e wa2 ⟨ev2, rfl, hE2, hb2⟩
        have Hl2 := Lib.hid (below_then Hl1.out hb2)
        have Hb2' := Lib.hid (below_then Hb1'.out hb2)
        have T2 := Lib.hid (tell_is hE2 (Hg.out.later Hl2.out))
        clear r0 r1 r2 r3 hE2 hb2
        go_wp2_with fail
        refine T2.out.mono ?_
        rintro e wa3 ⟨rfl, hb3⟩
        obtain ⟨s0, s1, s2, s3⟩ := (HK8.out.later (below_then Hb2'.out hb3)).four
        have Hl3 := Lib.hid (below_then Hl2.out hb3)
        have Hb3' := Lib.hid (below_then Hb2'.out hb3)
        clear hb3
        go_wp2_with fail
        refine (HR2.out _ _ _ (by simp; omega) (by simp; omega) (Hm.out.later Hl3.out) (HV8.out.later Hb3'.out)).mono ?_
        rintro e wa4 ⟨ev4, rfl, hE4, hb4⟩
        have Hl4 := Lib.hid (below_then Hl3.out hb4)
        have T4 := Lib.hid (tell_is hE4 (Hg.out.later Hl4.out))
        clear s0 s1 s2 s3 hE4 hb4
        go_wp2_with fail
        refine T4.out.mono ?_
        rintro e wa5 ⟨rfl, hb5⟩
        have Hl5 := Lib.hid (below_then Hl4.out hb5)
        clear hb5
        go_wp2_with fail
        go_ret
        exact ⟨rfl, Hl5.out⟩
    · have hcell := Hid.out HV2
      obtain ⟨p2', c2', hpe, hx64, hcell0⟩ := hcell
      obtain ⟨bv, ov, rfl, hcv⟩ : ∃ b o, p2 = some ⟨b, o, none⟩ ∧ ∀ j (hj : j < m), w3.cell? ⟨b, o + j, none⟩ = some (.int .u64 0) := by
        obtain ⟨b, o, hp, hc⟩ := hcell0 (by simp; omega)
        have e1 : p2 = p2' := by injection hpe
        exact ⟨b, o, e1.trans hp, fun j hj => by have := hc j (by simpa using hj); simpa using this⟩
      clear hpe hx64 hcell0
      have hA := count_start (w := w) (w3 := w3) (b5 := w2.heap.size) op (.slice (some ⟨bv, ov, none⟩) m c2) HK2.out Hb2.out (by have := Hb1.out.size; have := hle2; omega)
      generalize ((w3.alloc (.cells #[.int .i64 op, .bool false, .int .i64 0, .slice (some ⟨bv, ov, none⟩) m c2] 24)).alloc (.cells #[.int .i64 op, .bool false, .int .i64 0, .slice (some ⟨bv, ov, none⟩) m c2] 24)).drew = w8 at hA ⊢
      obtain ⟨k5, kx, ky, hbel8, hlow8⟩ := hA
      have K5 := Lib.hid k5
      have KX := Lib.hid kx
      have KY := Lib.hid ky
      have Hlow8 := Lib.hid hlow8
      have Hbel8 := Lib.hid hbel8
      have hw3 : w.heap.size ≤ w3.heap.size := Hb2.out.size
      have hcv8 : ∀ j (hj : j < m), w8.cell? ⟨bv, ov + j, none⟩ = some (.int .u64 0) := fun j hj => (hbel8.cell (block_lt_of_cell (hcv j hj))).trans (hcv j hj)
      have HV8 := Lib.hid (HV2.out.later hbel8)
      have hz5 := k5.lt
      have hzx := kx.lt
      have hzy := ky.lt
      have hS0 := k5.four.2.2.2
      have h58 : w2.heap.size < w3.heap.size := hlt5
      clear q0 q1 q2 q3 hcv k5 kx ky hlow8 hbel8
      go_wp2_with fail
      refine wp_region_held (S := fun W => W.cell? ⟨w2.heap.size, 3, none⟩ = some (.slice (some ⟨bv, ov, none⟩) m c2)) (by kernel_rfl) ?_
      have e9 : Below w8.heap.size w8 { w8 with drawn := w8.drawn + 1 } := (Below.refl _ _).drew
      generalize ({ w8 with drawn := w8.drawn + 1 } : World) = w9 at e9 ⊢
      have K5' := Lib.hid (K5.out.later e9)
      have KX' := Lib.hid (KX.out.later e9)
      have KY' := Lib.hid (KY.out.later e9)
      have Hlow9 := Lib.hid (below_then Hlow8.out e9)
      have HV9 := Lib.hid (HV8.out.later e9)
      have hcv9 : ∀ j (hj : j < m), w9.cell? ⟨bv, ov + j, none⟩ = some (.int .u64 0) := fun j hj => (e9.cell (block_lt_of_cell (hcv8 j hj))).trans (hcv8 j hj)
      replace hS0 := (e9.cell (block_lt_of_cell hS0)).trans hS0
      replace hz5 := K5'.out.lt
      replace hzx := KX'.out.lt
      replace hzy := KY'.out.lt
      have Hbel9 := Lib.hid (below_then Hbel8.out e9)
      clear e9 hcv8 K5 KX KY Hlow8 HV8 Hbel8
      refine take_at (i := 0) (some 27) rfl rfl (by kernel_rfl) (by kernel_rfl) (by kernel_rfl) (fun _ _ _ h => h) (y_fieldAddr3 (b := w2.heap.size) rfl rfl rfl) hS0 ?_
      simp only [Act.put, List.setIfInBounds_toArray, List.set_cons_succ, List.set_cons_zero]
      refine take_at (i := 1) (some 28) rfl rfl (by kernel_rfl) (by kernel_rfl) (by kernel_rfl) (fun _ _ _ h => h) (y_loadS (b := w2.heap.size) rfl rfl rfl) hS0 ?_
      simp only [Act.put, List.setIfInBounds_toArray, List.set_cons_succ, List.set_cons_zero]
      refine take_at (i := 3) (some 30) rfl rfl (by kernel_rfl) (by kernel_rfl) (by kernel_rfl) (fun _ _ _ h => h) (y_move (v := .int .u64 (n : Int)) rfl rfl rfl) hS0 ?_
      simp only [Act.put, List.setIfInBounds_toArray, List.set_cons_succ, List.set_cons_zero]
      refine take_at (i := 6) (some 33) rfl rfl (by kernel_rfl) (by kernel_rfl) (by kernel_rfl) (fun _ _ _ h => h) (y_fieldAddr3 (b := w2.heap.size) rfl rfl rfl) hS0 ?_
      simp only [Act.put, List.setIfInBounds_toArray, List.set_cons_succ, List.set_cons_zero]
      refine take_at (i := 7) (some 34) rfl rfl (by kernel_rfl) (by kernel_rfl) (by kernel_rfl) (fun _ _ _ h => h) (y_loadS (b := w2.heap.size) rfl rfl rfl) hS0 ?_
      simp only [Act.put, List.setIfInBounds_toArray, List.set_cons_succ, List.set_cons_zero]
      refine take_at (i := 8) (some 35) rfl rfl (by kernel_rfl) (by kernel_rfl) (by kernel_rfl) (fun _ _ _ h => h) (y_fieldAddr3 (b := w2.heap.size) rfl rfl rfl) hS0 ?_
      simp only [Act.put, List.setIfInBounds_toArray, List.set_cons_succ, List.set_cons_zero]
      refine take_at (i := 9) (some 36) rfl rfl (by kernel_rfl) (by kernel_rfl) (by kernel_rfl) (fun _ _ _ h => h) (y_loadS (b := w2.heap.size) rfl rfl rfl) hS0 ?_
      simp only [Act.put, List.setIfInBounds_toArray, List.set_cons_succ, List.set_cons_zero]
      refine take_at (i := 10) (some 37) rfl rfl (by kernel_rfl) (by kernel_rfl) (by kernel_rfl) (fun _ _ _ h => h) (y_len (n := m) (c := c2) (p := some ⟨bv, ov, none⟩) rfl rfl rfl) hS0 ?_
      simp only [Act.put, List.setIfInBounds_toArray, List.set_cons_succ, List.set_cons_zero]
      refine take_at (i := 11) (some 38) rfl rfl (by kernel_rfl) (by kernel_rfl) (by kernel_rfl) (fun _ _ _ h => h) (y_sub (m := m) rfl rfl rfl hl1 (by omega)) hS0 ?_
      simp only [Act.put, List.setIfInBounds_toArray, List.set_cons_succ, List.set_cons_zero]
      refine take_at (i := 12) (some 39) rfl rfl (by kernel_rfl) (by kernel_rfl) (by kernel_rfl) (fun _ _ _ h => h) (y_slice (n := m) (k := m - 1) (c := c2) (p := some ⟨bv, ov, none⟩) rfl rfl rfl rfl (by omega)) hS0 ?_
      simp only [Act.put, List.setIfInBounds_toArray, List.set_cons_succ, List.set_cons_zero]
      refine wpAnyH_all (rs := [2, 4]) (by kernel_rfl) (by simp) (fun i hi => ?_)
      have CL := Lib.hid (clone_zeros m bv ov c2 hl1 (by omega))
      have hcases : i = 2 ∨ i = 4 := by simpa using hi
      rcases hcases with rfl | rfl
      · refine wpOp_of rfl rfl (opw_callD (f := 30) (some 29) rfl Tryd.func30 (by kernel_rfl) (by kernel_rfl) rfl rfl ?_)
        simp only [List.map_toArray, List.map_cons, List.map_nil]
        refine (CL.out _ hcv9).mono ?_
        rintro e wc ⟨g, cap, rfl, hown, hbc⟩
        have hSc : wc.cell? ⟨w2.heap.size, 3, none⟩ = some (.slice (some ⟨bv, ov, none⟩) m c2) := (hbc.cell (block_lt_of_cell hS0)).trans hS0
        refine ⟨_, rfl, hSc, ?_⟩
        try dsimp only
        simp only [Act.put, List.setIfInBounds_toArray, List.set_cons_succ, List.set_cons_zero]
        refine wpAnyH_all (rs := [4]) (by kernel_rfl) (by simp) (fun i hi => ?_)
        obtain rfl : i = 4 := by simpa using hi
        have hba := (Below.refl wc.heap.size wc).alloc (Nat.le_refl _) (.cells #[.int .u64 (n : Int)] 52)
        have hSa : (wc.alloc (.cells #[.int .u64 (n : Int)] 52)).cell? ⟨w2.heap.size, 3, none⟩ = some (.slice (some ⟨bv, ov, none⟩) m c2) := (hba.cell (block_lt_of_cell hSc)).trans hSc
        refine wpOp_of rfl rfl (opw_row1D (n := n) (some 31) rfl rfl rfl ⟨hSa, ?_⟩)
        try dsimp only
        simp only [Act.put, List.setIfInBounds_toArray, List.set_cons_succ, List.set_cons_zero]
        have F : Both w9 m g cap wc.heap.size n (wc.alloc (.cells #[.int .u64 (n : Int)] 52)) := ⟨own_le (World.ownsRow.alloc hown _) (Nat.le_refl _), Blk.new wc _ _, below_then (w := w9) (show Below w9.heap.size w9 wc from ⟨hbc.os, hbc.tape, hbc.output, hbc.size, hbc.block⟩) hba⟩
        generalize hW5 : wc.alloc (.cells #[.int .u64 (n : Int)] 52) = W5 at F hSa ⊢
        generalize wc.heap.size = bN at F ⊢
        obtain ⟨fo, fn, fl⟩ := F
        have K5b := K5'.out.later fl
        have KXb := KX'.out.later fl
        have KYb := KY'.out.later fl
        refine wpAnyH_all (rs := [5]) (by kernel_rfl) (by simp) (fun i hi => ?_)
        obtain rfl : i = 5 := by simpa using hi
        refine wpOp_of rfl rfl (opw_app1 (n := n) (some 32) rfl rfl rfl rfl fo (by simp) (by omega) fn fl.size ?_)
        intro pv cv wa hNv hgv
        have hge : ∀ k, (Value.slice (some ⟨g, 0, none⟩) m cap).ownBlock = some k → w9.heap.size ≤ k := fun k hk => (World.ownsRow.lt fo k hk).1
        have K5c := K5b.grown hgv (fun k hk => by have := hge k hk; omega)
        have KXc := KXb.grown hgv (fun k hk => by have := hge k hk; omega)
        have KYc := KYb.grown hgv (fun k hk => by have := hge k hk; omega)
        have hlowc : Below w9.heap.size w9 wa := fl.grown hgv fl.size hge
        refine ⟨K5c.four.2.2.2, ?_⟩
        simp only [Act.put, List.setIfInBounds_toArray, List.set_cons_succ, List.set_cons_zero]
        refine take_at (i := 13) (some 40) rfl rfl (by kernel_rfl) (by kernel_rfl) (by kernel_rfl) (fun _ _ _ h => h) (y_fieldAddr3 (b := (w3.heap.size + 1)) rfl rfl rfl) K5c.four.2.2.2 ?_
        simp only [Act.put, List.setIfInBounds_toArray, List.set_cons_succ, List.set_cons_zero]
        refine wpAnyH_all (rs := [14]) (by kernel_rfl) (by simp) (fun i hi => ?_)
        obtain rfl : i = 14 := by simpa using hi
        refine wpOp_of rfl rfl (opw_storeS rfl rfl rfl rfl KYc.four.2.2.2 (KYc.frozen 3) ?_)
        have K5d := K5c.other (b' := (w3.heap.size + 1)) (i := 3) (by omega) (.slice pv (m + 1) cv)
        have K7d := KYc.set 3 (.slice pv (m + 1) cv)
        have K8d := KXc.other (b' := (w3.heap.size + 1)) (i := 3) (by omega) (.slice pv (m + 1) cv)
        have hNd := hNv.set (a := ⟨(w3.heap.size + 1), 3, none⟩) (by omega) (.slice pv (m + 1) cv)
        refine ⟨K5d.four.2.2.2, ?_⟩
        refine take_at (i := 15) (some 41) rfl rfl (by kernel_rfl) (by kernel_rfl) (by kernel_rfl) (fun _ _ _ h => h) (y_fieldAddr3 (b := w3.heap.size) rfl rfl rfl) K5d.four.2.2.2 ?_
        simp only [Act.put, List.setIfInBounds_toArray, List.set_cons_succ, List.set_cons_zero]
        refine wpAnyH_all (rs := [16]) (by kernel_rfl) (by simp) (fun i hi => ?_)
        obtain rfl : i = 16 := by simpa using hi
        refine wpOp_of rfl rfl (opw_storeS rfl rfl rfl rfl K8d.four.2.2.2 (K8d.frozen 3) ?_)
        have K5e := K5d.other (b' := w3.heap.size) (i := 3) (by omega) (.slice (some ⟨bv, ov, none⟩) (m - 1) c2)
        have K7e := K7d.other (b' := w3.heap.size) (i := 3) (by omega) (.slice (some ⟨bv, ov, none⟩) (m - 1) c2)
        have K8e := K8d.set 3 (.slice (some ⟨bv, ov, none⟩) (m - 1) c2)
        have hNe := hNd.set (a := ⟨w3.heap.size, 3, none⟩) (by omega) (.slice (some ⟨bv, ov, none⟩) (m - 1) c2)
        have hlowe := ((below_then Hlow9.out hlowc).setCell (p := ⟨(w3.heap.size + 1), 3, none⟩) (show w.heap.size ≤ (w3.heap.size + 1) by omega) (.slice pv (m + 1) cv)).setCell (p := ⟨w3.heap.size, 3, none⟩) (show w.heap.size ≤ w3.heap.size by omega) (.slice (some ⟨bv, ov, none⟩) (m - 1) c2)
        have hbele := ((below_then Hbel9.out hlowc).setCell (p := ⟨(w3.heap.size + 1), 3, none⟩) (show w3.heap.size ≤ (w3.heap.size + 1) by omega) (.slice pv (m + 1) cv)).setCell (p := ⟨w3.heap.size, 3, none⟩) (show w3.heap.size ≤ w3.heap.size by omega) (.slice (some ⟨bv, ov, none⟩) (m - 1) c2)
        have V5 := HV2.out.later hbele
        have V7 := hNe.vals (fun x hx => by
          rcases List.mem_append.1 hx with h | h
          · rw [List.eq_of_mem_replicate h]; decide
          · rw [List.mem_singleton.1 h]; exact hn)
        have V8 := Vals.take V5 (show m - 1 ≤ m by omega)
        refine ⟨K5e.four.2.2.2, wpAnyH_done (by kernel_rfl) ?_ _⟩
        generalize ((wa.setCell ⟨(w3.heap.size + 1), 3, none⟩ (.slice pv (m + 1) cv)).setCell ⟨w3.heap.size, 3, none⟩ (.slice (some ⟨bv, ov, none⟩) (m - 1) c2)) = wz at K5e K7e K8e V5 V7 V8 hlowe ⊢
        have HK5 := Lib.hid K5e
        have HK7 := Lib.hid (show Blk wz (w3.heap.size + 1) #[.int .i64 op, .bool false, .int .i64 0, .slice pv (m + 1) cv] 24 from by simpa using K7e)
        have HK8 := Lib.hid (show Blk wz w3.heap.size #[.int .i64 op, .bool false, .int .i64 0, .slice (some ⟨bv, ov, none⟩) (m - 1) c2] 24 from by simpa using K8e)
        have HV5 := Lib.hid V5
        have HV7 := Lib.hid V7
        have HV8 := Lib.hid V8
        have Hlz := Lib.hid hlowe
        obtain ⟨q0, q1, q2, q3⟩ := K5e.four
        clear K5b KXb KYb K5c KXc KYc K5d K7d K8d K5e K7e K8e hNv hNd hNe hlowc hlowe hbele V5 V7 V8 fo fn fl hgv hge hSa hcv9 hS0 hz5 hzx hzy hown hbc
        go_wp2_with fail
        refine (HR1.out _ _ (Hm.out.later Hlz.out) HV5.out).mono ?_
        rintro e wa1 ⟨ev1, rfl, hE1, hb1⟩
        obtain rfl := hE1.zero
        obtain ⟨r0, r1, r2, r3⟩ := (HK7.out.later hb1).four
        have Hl1 := Lib.hid (below_then Hlz.out hb1)
        have Hb1' := Lib.hid hb1
        clear q0 q1 q2 q3 hE1 hb1
        go_wp2_with fail
        refine (HR2.out _ _ _ (by simp) (by simp; omega) (Hm.out.later Hl1.out) (HV7.out.later Hb1'.out)).mono ?_
        rintro e wa2 ⟨ev2, rfl, hE2, hb2⟩
        have Hl2 := Lib.hid (below_then Hl1.out hb2)
        have Hb2' := Lib.hid (below_then Hb1'.out hb2)
        have T2 := Lib.hid (tell_is hE2 (Hg.out.later Hl2.out))
        clear r0 r1 r2 r3 hE2 hb2
        go_wp2_with fail
        refine T2.out.mono ?_
        rintro e wa3 ⟨rfl, hb3⟩
        obtain ⟨s0, s1, s2, s3⟩ := (HK8.out.later (below_then Hb2'.out hb3)).four
        have Hl3 := Lib.hid (below_then Hl2.out hb3)
        have Hb3' := Lib.hid (below_then Hb2'.out hb3)
        clear hb3
        go_wp2_with fail
        refine (HR2.out _ _ _ (by simp; omega) (by simp; omega) (Hm.out.later Hl3.out) (HV8.out.later Hb3'.out)).mono ?_
        rintro e wa4 ⟨ev4, rfl, hE4, hb4⟩
        have Hl4 := Lib.hid (below_then Hl3.out hb4)
        have T4 := Lib.hid (tell_is hE4 (Hg.out.later Hl4.out))
        clear s0 s1 s2 s3 hE4 hb4
        go_wp2_with fail
        refine T4.out.mono ?_
        rintro e wa5 ⟨rfl, hb5⟩
        have Hl5 := Lib.hid (below_then Hl4.out hb5)
        clear hb5
        go_wp2_with fail
        go_ret
        exact ⟨rfl, Hl5.out⟩
      · have hba := (Below.refl w9.heap.size w9).alloc (Nat.le_refl _) (.cells #[.int .u64 (n : Int)] 52)
        have hSa : (w9.alloc (.cells #[.int .u64 (n : Int)] 52)).cell? ⟨w2.heap.size, 3, none⟩ = some (.slice (some ⟨bv, ov, none⟩) m c2) := (hba.cell (block_lt_of_cell hS0)).trans hS0
        refine wpOp_of rfl rfl (opw_row1D (n := n) (some 31) rfl rfl rfl ⟨hSa, ?_⟩)
        try dsimp only
        simp only [Act.put, List.setIfInBounds_toArray, List.set_cons_succ, List.set_cons_zero]
        refine wpAnyH_all (rs := [2]) (by kernel_rfl) (by simp) (fun i hi => ?_)
        obtain rfl : i = 2 := by simpa using hi
        refine wpOp_of rfl rfl (opw_callD (f := 30) (some 29) rfl Tryd.func30 (by kernel_rfl) (by kernel_rfl) rfl rfl ?_)
        simp only [List.map_toArray, List.map_cons, List.map_nil]
        refine (CL.out _ (fun j hj => (hba.cell (block_lt_of_cell (hcv9 j hj))).trans (hcv9 j hj))).mono ?_
        rintro e wc ⟨g, cap, rfl, hown, hbc⟩
        have hSc : wc.cell? ⟨w2.heap.size, 3, none⟩ = some (.slice (some ⟨bv, ov, none⟩) m c2) := (hbc.cell (block_lt_of_cell hSa)).trans hSa
        refine ⟨_, rfl, hSc, ?_⟩
        try dsimp only
        simp only [Act.put, List.setIfInBounds_toArray, List.set_cons_succ, List.set_cons_zero]
        have F : Both w9 m g cap w9.heap.size n wc := ⟨own_le hown (by simp), (Blk.new w9 #[.int .u64 (n : Int)] 52).later hbc, below_then hba hbc⟩
        generalize hW5 : wc = W5 at F hSc ⊢
        obtain ⟨fo, fn, fl⟩ := F
        have K5b := K5'.out.later fl
        have KXb := KX'.out.later fl
        have KYb := KY'.out.later fl
        refine wpAnyH_all (rs := [5]) (by kernel_rfl) (by simp) (fun i hi => ?_)
        obtain rfl : i = 5 := by simpa using hi
        refine wpOp_of rfl rfl (opw_app1 (n := n) (some 32) rfl rfl rfl rfl fo (by simp) (by omega) fn fl.size ?_)
        intro pv cv wa hNv hgv
        have hge : ∀ k, (Value.slice (some ⟨g, 0, none⟩) m cap).ownBlock = some k → w9.heap.size ≤ k := fun k hk => (World.ownsRow.lt fo k hk).1
        have K5c := K5b.grown hgv (fun k hk => by have := hge k hk; omega)
        have KXc := KXb.grown hgv (fun k hk => by have := hge k hk; omega)
        have KYc := KYb.grown hgv (fun k hk => by have := hge k hk; omega)
        have hlowc : Below w9.heap.size w9 wa := fl.grown hgv fl.size hge
        refine ⟨K5c.four.2.2.2, ?_⟩
        simp only [Act.put, List.setIfInBounds_toArray, List.set_cons_succ, List.set_cons_zero]
        refine take_at (i := 13) (some 40) rfl rfl (by kernel_rfl) (by kernel_rfl) (by kernel_rfl) (fun _ _ _ h => h) (y_fieldAddr3 (b := (w3.heap.size + 1)) rfl rfl rfl) K5c.four.2.2.2 ?_
        simp only [Act.put, List.setIfInBounds_toArray, List.set_cons_succ, List.set_cons_zero]
        refine wpAnyH_all (rs := [14]) (by kernel_rfl) (by simp) (fun i hi => ?_)
        obtain rfl : i = 14 := by simpa using hi
        refine wpOp_of rfl rfl (opw_storeS rfl rfl rfl rfl KYc.four.2.2.2 (KYc.frozen 3) ?_)
        have K5d := K5c.other (b' := (w3.heap.size + 1)) (i := 3) (by omega) (.slice pv (m + 1) cv)
        have K7d := KYc.set 3 (.slice pv (m + 1) cv)
        have K8d := KXc.other (b' := (w3.heap.size + 1)) (i := 3) (by omega) (.slice pv (m + 1) cv)
        have hNd := hNv.set (a := ⟨(w3.heap.size + 1), 3, none⟩) (by omega) (.slice pv (m + 1) cv)
        refine ⟨K5d.four.2.2.2, ?_⟩
        refine take_at (i := 15) (some 41) rfl rfl (by kernel_rfl) (by kernel_rfl) (by kernel_rfl) (fun _ _ _ h => h) (y_fieldAddr3 (b := w3.heap.size) rfl rfl rfl) K5d.four.2.2.2 ?_
        simp only [Act.put, List.setIfInBounds_toArray, List.set_cons_succ, List.set_cons_zero]
        refine wpAnyH_all (rs := [16]) (by kernel_rfl) (by simp) (fun i hi => ?_)
        obtain rfl : i = 16 := by simpa using hi
        refine wpOp_of rfl rfl (opw_storeS rfl rfl rfl rfl K8d.four.2.2.2 (K8d.frozen 3) ?_)
        have K5e := K5d.other (b' := w3.heap.size) (i := 3) (by omega) (.slice (some ⟨bv, ov, none⟩) (m - 1) c2)
        have K7e := K7d.other (b' := w3.heap.size) (i := 3) (by omega) (.slice (some ⟨bv, ov, none⟩) (m - 1) c2)
        have K8e := K8d.set 3 (.slice (some ⟨bv, ov, none⟩) (m - 1) c2)
        have hNe := hNd.set (a := ⟨w3.heap.size, 3, none⟩) (by omega) (.slice (some ⟨bv, ov, none⟩) (m - 1) c2)
        have hlowe := ((below_then Hlow9.out hlowc).setCell (p := ⟨(w3.heap.size + 1), 3, none⟩) (show w.heap.size ≤ (w3.heap.size + 1) by omega) (.slice pv (m + 1) cv)).setCell (p := ⟨w3.heap.size, 3, none⟩) (show w.heap.size ≤ w3.heap.size by omega) (.slice (some ⟨bv, ov, none⟩) (m - 1) c2)
        have hbele := ((below_then Hbel9.out hlowc).setCell (p := ⟨(w3.heap.size + 1), 3, none⟩) (show w3.heap.size ≤ (w3.heap.size + 1) by omega) (.slice pv (m + 1) cv)).setCell (p := ⟨w3.heap.size, 3, none⟩) (show w3.heap.size ≤ w3.heap.size by omega) (.slice (some ⟨bv, ov, none⟩) (m - 1) c2)
        have V5 := HV2.out.later hbele
        have V7 := hNe.vals (fun x hx => by
          rcases List.mem_append.1 hx with h | h
          · rw [List.eq_of_mem_replicate h]; decide
          · rw [List.mem_singleton.1 h]; exact hn)
        have V8 := Vals.take V5 (show m - 1 ≤ m by omega)
        refine ⟨K5e.four.2.2.2, wpAnyH_done (by kernel_rfl) ?_ _⟩
        generalize ((wa.setCell ⟨(w3.heap.size + 1), 3, none⟩ (.slice pv (m + 1) cv)).setCell ⟨w3.heap.size, 3, none⟩ (.slice (some ⟨bv, ov, none⟩) (m - 1) c2)) = wz at K5e K7e K8e V5 V7 V8 hlowe ⊢
        have HK5 := Lib.hid K5e
        have HK7 := Lib.hid (show Blk wz (w3.heap.size + 1) #[.int .i64 op, .bool false, .int .i64 0, .slice pv (m + 1) cv] 24 from by simpa using K7e)
        have HK8 := Lib.hid (show Blk wz w3.heap.size #[.int .i64 op, .bool false, .int .i64 0, .slice (some ⟨bv, ov, none⟩) (m - 1) c2] 24 from by simpa using K8e)
        have HV5 := Lib.hid V5
        have HV7 := Lib.hid V7
        have HV8 := Lib.hid V8
        have Hlz := Lib.hid hlowe
        obtain ⟨q0, q1, q2, q3⟩ := K5e.four
        clear K5b KXb KYb K5c KXc KYc K5d K7d K8d K5e K7e K8e hNv hNd hNe hlowc hlowe hbele V5 V7 V8 fo fn fl hgv hge hSa hcv9 hS0 hz5 hzx hzy hown hbc
        go_wp2_with fail
        refine (HR1.out _ _ (Hm.out.later Hlz.out) HV5.out).mono ?_
        rintro e wa1 ⟨ev1, rfl, hE1, hb1⟩
        obtain rfl := hE1.zero
        obtain ⟨r0, r1, r2, r3⟩ := (HK7.out.later hb1).four
        have Hl1 := Lib.hid (below_then Hlz.out hb1)
        have Hb1' := Lib.hid hb1
        clear q0 q1 q2 q3 hE1 hb1
        go_wp2_with fail
        refine (HR2.out _ _ _ (by simp) (by simp; omega) (Hm.out.later Hl1.out) (HV7.out.later Hb1'.out)).mono ?_
        rintro e wa2 ⟨ev2, rfl, hE2, hb2⟩
        have Hl2 := Lib.hid (below_then Hl1.out hb2)
        have Hb2' := Lib.hid (below_then Hb1'.out hb2)
        have T2 := Lib.hid (tell_is hE2 (Hg.out.later Hl2.out))
        clear r0 r1 r2 r3 hE2 hb2
        go_wp2_with fail
        refine T2.out.mono ?_
        rintro e wa3 ⟨rfl, hb3⟩
        obtain ⟨s0, s1, s2, s3⟩ := (HK8.out.later (below_then Hb2'.out hb3)).four
        have Hl3 := Lib.hid (below_then Hl2.out hb3)
        have Hb3' := Lib.hid (below_then Hb2'.out hb3)
        clear hb3
        go_wp2_with fail
        refine (HR2.out _ _ _ (by simp; omega) (by simp; omega) (Hm.out.later Hl3.out) (HV8.out.later Hb3'.out)).mono ?_
        rintro e wa4 ⟨ev4, rfl, hE4, hb4⟩
        have Hl4 := Lib.hid (below_then Hl3.out hb4)
        have T4 := Lib.hid (tell_is hE4 (Hg.out.later Hl4.out))
        clear s0 s1 s2 s3 hE4 hb4
        go_wp2_with fail
        refine T4.out.mono ?_
        rintro e wa5 ⟨rfl, hb5⟩
        have Hl5 := Lib.hid (below_then Hl4.out hb5)
        clear hb5
        go_wp2_with fail
        go_ret
        exact ⟨rfl, Hl5.out⟩
end Go.Proofs.YtffdlchoaaakdaaDoor
