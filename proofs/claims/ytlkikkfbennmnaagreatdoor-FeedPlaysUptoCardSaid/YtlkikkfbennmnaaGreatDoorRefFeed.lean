/- ref.Feed's Next. -/
import Derived.Test.YtlkikkfbennmnaaGreatDoorRefPduP
import Derived.Test.YtlkikkfbennmnaaGreatDoorFeedNext2
import Derived.Test.YtlkikkfbennmnaaGreatDoorFeedOk
import Derived.Deep.RegionHeld3
import Derived.Deep.RegionWith
namespace Go.Proofs.YtlkikkfbennmnaaGreatDoor
open Go.RowKit
set_option linter.unusedVariables false
/-- the document's own feed, at rb -/
def RBlk (W : World) (rb : Nat) (t : TypeId) (F : Fe) : Prop := Blk W rb #[.string (S F.kept), .int .i64 F.lim, .int .i64 F.mode, .bool F.bad] t
def RetRFN (w : World) (rb : Nat) (t : TypeId) (r : (Pc × Bool × Int) × Fe) (e : Ending) (w' : World) : Prop := ∃ vv va, e = .returned (.tuple #[pcV r.1.1 vv va, .bool r.1.2.1, .int .i64 r.1.2.2]) ∧ PduAt w' r.1.1.p vv va ∧ RBlk w' rb t r.2 ∧ Keeps w.heap.size w w' (fun k => k = rb) (fun k => k = rb)
theorem keepR2 {Wz W' w'' : World} {rb : Nat} {x0 x1 : Value} (h : Below Wz.heap.size Wz W' ∧ W'.cell? ⟨rb, 0, none⟩ = some x0 ∧ W'.cell? ⟨rb, 2, none⟩ = some x1) (hb : Below W'.heap.size W' w'') : Below Wz.heap.size Wz w'' ∧ w''.cell? ⟨rb, 0, none⟩ = some x0 ∧ w''.cell? ⟨rb, 2, none⟩ = some x1 :=
  ⟨below_then h.1 hb, later_cell hb h.2.1, later_cell hb h.2.2⟩
/-- the end: the result's cells are written -/
theorem rnext_end {w W : World} {rb b : Nat} {t t7 : TypeId} {F : Fe} {o0 o2 : Int} {o1 : Bool} {v3 v4 : Value} {o5 o6 : ByteArray} {p : Pd} {vv va : Value} (hR : RBlk W rb t F) (hK : Keeps w.heap.size w W (fun k => k = rb) (fun k => k = rb))
    (h7 : Blk W b #[.int .i64 o0, .bool o1, .int .i64 o2, v3, v4, .string o5, .string o6] t7) (h3 : SlV v3) (h4 : SlV v4) (hb : w.heap.size ≤ b) (hne : rb ≠ b) (hP : PduAt W p vv va) (x0 x1 x2 x3 x4 x5 x6 : Value) :
    PduAt (set7 W b x0 x1 x2 x3 x4 x5 x6) p vv va ∧ RBlk (set7 W b x0 x1 x2 x3 x4 x5 x6) rb t F ∧ Keeps w.heap.size w (set7 W b x0 x1 x2 x3 x4 x5 x6) (fun k => k = rb) (fun k => k = rb) :=
  ⟨hP.apart7 h7 h3 h4 (fun k hk _ => set7_other hk _ _ _ _ _ _ _), (set7_other hne _ _ _ _ _ _ _).trans hR, hK.trans (Keeps.of (set7_below (Below.refl _ _) hb _ _ _ _ _ _ _) _) (Nat.le_refl _)⟩
theorem PduAt.apartR {W W' : World} {p : Pd} {vv va : Value} (h : PduAt W p vv va) {rb : Nat} {t : TypeId} {F : Fe} (hk : RBlk W rb t F) (hh : ∀ k, k ≠ rb → k < W.heap.size → W'.heap[k]? = W.heap[k]?) : PduAt W' p vv va := by
  have hcell : ∀ b' o v, b' ≠ rb → W.cell? ⟨b', o, none⟩ = some v → W'.cell? ⟨b', o, none⟩ = some v := fun b' o v hne hc => by
    rw [← hc]
    exact World.cell?_of_block (w := W) (hh b' hne (block_lt_of_cell (w := W) (a := ⟨b', o, none⟩) hc))
  obtain ⟨⟨q, c, hv, hx, hc⟩, ⟨qa, ca, ha, hla, hca⟩⟩ := h
  refine ⟨⟨q, c, hv, hx, fun hl => ?_⟩, ⟨qa, ca, ha, hla, fun hl => ?_⟩⟩
  · obtain ⟨b', o, hq, hce⟩ := hc hl
    have hne : b' ≠ rb := by
      rintro rfl
      rcases four_cell hk (hce 0 hl) with ⟨_, h⟩ | ⟨_, h⟩ | ⟨_, h⟩ | ⟨_, h⟩ <;> simp at h
    exact ⟨b', o, hq, fun j hj => hcell _ _ _ hne (hce j hj)⟩
  · obtain ⟨b', o, hq, hce⟩ := hca hl
    obtain ⟨g0, g1⟩ := hce 0 hl
    have hne : b' ≠ rb := by
      rintro rfl
      rcases four_cell hk g1 with ⟨e, h⟩ | ⟨_, h⟩ | ⟨_, h⟩ | ⟨_, h⟩
      · omega
      · simp at h
      · simp at h
      · simp at h
    exact ⟨b', o, hq, fun j hj => ⟨hcell _ _ _ hne (hce j hj).1, hcell _ _ _ hne (hce j hj).2⟩⟩
theorem PcsV.apartR {W W' : World} {v : Value} {l : List Pc} (h : PcsV W v l) {rb : Nat} {t : TypeId} {F : Fe} (hk : RBlk W rb t F) (hh : ∀ k, k ≠ rb → k < W.heap.size → W'.heap[k]? = W.heap[k]?) : PcsV W' v l := by
  obtain ⟨p, c, hv, hlc, hc⟩ := h
  refine ⟨p, c, hv, hlc, fun hl => ?_⟩
  obtain ⟨b, o, hp, hcell⟩ := hc hl
  have hne : b ≠ rb := by
    rintro rfl
    obtain ⟨vv, va, _, c0, c1, c2, _⟩ := hcell 0 hl
    rcases four_cell hk c1 with ⟨_, h⟩ | ⟨_, h⟩ | ⟨_, h⟩ | ⟨e, _⟩
    · simp at h
    · simp at h
    · simp at h
    · rcases four_cell hk c2 with ⟨e', _⟩ | ⟨e', _⟩ | ⟨e', _⟩ | ⟨e', _⟩ <;> omega
  have hce : ∀ o v, W.cell? ⟨b, o, none⟩ = some v → W'.cell? ⟨b, o, none⟩ = some v := fun o v hc => by
    rw [← hc]
    exact World.cell?_of_block (w := W) (hh b hne (block_lt_of_cell (w := W) (a := ⟨b, o, none⟩) hc))
  refine ⟨b, o, hp, fun j hj => ?_⟩
  obtain ⟨vv, va, hP, c0, c1, c2, c3, c4, c5, c6⟩ := hcell j hj
  exact ⟨vv, va, hP.apartR hk hh, hce _ _ c0, hce _ _ c1, hce _ _ c2, hce _ _ c3, hce _ _ c4, hce _ _ c5, hce _ _ c6⟩
set_option maxRecDepth 100000 in
set_option maxHeartbeats 2000000 in
theorem rnext_short {w : World} {rb : Nat} {t : TypeId} {F : Fe} (hs : F.kept.length < 48) (hk : RBlk w rb t F) :
    Calls Tryz.prog 35 #[.pointer (some ⟨rb, 0, none⟩)] w (RetRFN w rb t (nextF F)) := by
  rw [next_short hs]
  have hb0 := (Below.refl w.heap.size w).alloc (Nat.le_refl _) (.cells #[.int .i64 0, .bool false, .int .i64 0, .slice none 0 0, .slice none 0 0, .string (S []), .string (S [])] 47)
  have hk0 := Blk.new w #[.int .i64 0, .bool false, .int .i64 0, .slice none 0 0, .slice none 0 0, .string (S []), .string (S [])] 47
  have hne : rb ≠ w.heap.size := by have := Blk.lt hk; omega
  have hk1 : RBlk _ rb t F := Blk.later hk hb0
  have hend := rnext_end (w := w) (p := pd0) (vv := .slice none 0 0) (va := .slice none 0 0) hk1 (Keeps.of hb0 _) hk0 nilSl nilSl (Nat.le_refl _) hne (pdu0_at _) (.int .i64 0) (.bool false) (.int .i64 0) (.slice none 0 0) (.slice none 0 0) (.string (S [])) (.string (S []))
  obtain ⟨q0, q1, q2, q3⟩ := Blk.four hk1
  obtain ⟨p0, p1, p2, p3, p4, p5, p6⟩ := hk0.seven
  have f0 := hk0.frozen 0
  have f1 := hk0.frozen 1
  have f2 := hk0.frozen 2
  have f3 := hk0.frozen 3
  have f4 := hk0.frozen 4
  have f5 := hk0.frozen 5
  have f6 := hk0.frozen 6
  have hsI : (F.kept.length : Int) < 48 := by omega
  generalize hW0 : w.alloc (.cells #[.int .i64 0, .bool false, .int .i64 0, .slice none 0 0, .slice none 0 0, .string (S []), .string (S [])] 47) = W0 at *
  have Hend := Lib.hid hend
  clear hend hb0 hk0 hk1 hk hs
  cases hb : F.bad with
  | true =>
    rw [hb] at q3
    go_enter Tryz.func35, Tryz.ntmps35
    go_wp2_with fail
    refine bodyPost_ret (v := .tuple #[pcV pc0 (.slice none 0 0) (.slice none 0 0), .bool false, .int .i64 0]) (by simp [results, Tryz.results35, go_sem, pcV, pc0, pd0, hd0, p0, p1, p2, p3, p4, p5, p6]) rfl ⟨_, _, rfl, Hend.out.1, Hend.out.2.1, Hend.out.2.2⟩
  | false =>
    rw [hb] at q3
    go_enter Tryz.func35, Tryz.ntmps35
    go_wp2_with fail
    refine bodyPost_ret (v := .tuple #[pcV pc0 (.slice none 0 0) (.slice none 0 0), .bool false, .int .i64 0]) (by simp [results, Tryz.results35, go_sem, pcV, pc0, pd0, hd0, p0, p1, p2, p3, p4, p5, p6]) rfl ⟨_, _, rfl, Hend.out.1, Hend.out.2.1, Hend.out.2.2⟩
theorem Keeps.rcell {N : Nat} {w w' : World} {rb : Nat} (h : Keeps N w w' (fun k => k = rb) (fun k => k = rb)) (i : Nat) (v : Value) : Keeps N w (w'.setCell ⟨rb, i, none⟩ v) (fun k => k = rb) (fun k => k = rb) := h.trans (Keeps.cell (H := fun k => k = rb) rfl i v) (Nat.le_refl _)
set_option maxRecDepth 100000 in
set_option maxHeartbeats 4000000 in
theorem rnext_long {w : World} {rb : Nat} {t : TypeId} {lim mode : Nat} {l : List UInt8} (hlim : lim ≤ 100000) (hm3 : mode ≤ 3) (h48 : ¬ l.length < 48) (hl : l.length ≤ 4200) (hk : RBlk w rb t ⟨lim, mode, l, false⟩) :
    Calls Tryz.prog 35 #[.pointer (some ⟨rb, 0, none⟩)] w (RetRFN w rb t (nextF ⟨lim, mode, l, false⟩)) := by
  have hb0 := (Below.refl w.heap.size w).alloc (Nat.le_refl _) (.cells #[.int .i64 0, .bool false, .int .i64 0, .slice none 0 0, .slice none 0 0, .string (S []), .string (S [])] 47)
  have hk0 := Blk.new w #[.int .i64 0, .bool false, .int .i64 0, .slice none 0 0, .slice none 0 0, .string (S []), .string (S [])] 47
  have hne : rb ≠ w.heap.size := by have := Blk.lt hk; omega
  have hk1 : RBlk _ rb t ⟨lim, mode, l, false⟩ := Blk.later hk hb0
  have U := fun W => Lib.hid (unnumber_ok ((l.drop 5).take 3) W (by have := List.length_take_le 3 (l.drop 5); omega))
  have hval : val ((l.drop 5).take 3) = readD l := rfl
  have hrd := readD_lt l
  have Z := fun W => Lib.hid (refSize_any l (mode : Int) W (by omega))
  have hZ : sizeP l (mode : Int) = (ea l mode, 0) := by unfold sizeP; rw [if_neg (by simp [okM]; omega), if_neg h48]; rfl
  rw [hZ] at Z
  simp only [hval] at U Z
  have L := ends_le l mode
  have P := fun W => Lib.hid (refReadP_any (l.take (ea l mode)) (mode : Int) W (by rw [List.length_take]; omega))
  have hN := fun h2 => next_limit (F := ⟨lim, mode, l, false⟩) h48 h2
  have hF := fun h2 h3 => next_few (F := ⟨lim, mode, l, false⟩) h48 h2 h3
  have hWh := fun h2 h3 => next_whole (F := ⟨lim, mode, l, false⟩) h48 h2 h3
  simp only at hN hF hWh
  have hpi : pieceF (l.take (ea l mode)) mode = if (readP (l.take (ea l mode)) (mode : Int)).2.2 = 13 then (⟨pd0, l.take 48⟩, 0) else if (readP (l.take (ea l mode)) (mode : Int)).2.2 ≠ 0 then (pc0, (readP (l.take (ea l mode)) (mode : Int)).2.2) else (⟨(readP (l.take (ea l mode)) (mode : Int)).1, []⟩, 0) := by
    unfold pieceF
    rw [List.take_take, Nat.min_eq_left (by omega)]
  rw [hpi] at hWh
  have h48I : (48 : Int) ≤ (l.length : Int) := by omega
  have i8 : (8 : Int) ≤ (l.length : Int) := by omega
  generalize readD l = rd at *
  generalize hz : ea l mode = z at *
  have hz48 : 48 ≤ z := by omega
  obtain ⟨R, hR⟩ : ∃ R, readP (l.take z) (mode : Int) = R := ⟨_, rfl⟩
  rw [hR] at P hWh
  obtain ⟨⟨⟨op, now, fl, vs⟩, al, d⟩, nn, er⟩ := R
  simp only at hWh
  have hwr : wrap64 (rd : Int) = (rd : Int) := IntWalk.wrap64_in _ ⟨by omega, by omega⟩
  obtain ⟨RX, hRX⟩ : ∃ X, nextF ⟨lim, mode, l, false⟩ = X := ⟨_, rfl⟩
  rw [hRX] at hN hF hWh ⊢
  have HN := Lib.hid hN
  have HF := Lib.hid hF
  have HWh := Lib.hid hWh
  have HK0 := Lib.hid hk0
  have HK1 := Lib.hid hk1
  have Hb0 := Lib.hid hb0
  have Hne := Lib.hid hne
  have Hz48 := Lib.hid hz48
  clear hZ hpi hN hF hWh hval hR hRX hk0 hk1 hb0 hne L h48 hk hz
  go_enter Tryz.func35, Tryz.ntmps35
  obtain ⟨q0, q1, q2, q3⟩ := Blk.four HK1.out
  go_wp2_with fail
  refine (U _).out.mono ?_
  rintro e w1 ⟨rfl, hb1⟩
  have hb2 := (Below.refl w1.heap.size w1).alloc (Nat.le_refl _) (.cells #[.int .i64 0, .bool false, .int .i64 0, .slice none 0 0, .slice none 0 0, .string (S [])] 45)
  have hkp := Blk.new w1 #[.int .i64 0, .bool false, .int .i64 0, .slice none 0 0, .slice none 0 0, .string (S [])] 45
  have hnp : rb ≠ w1.heap.size := by have := Blk.lt (Blk.later HK1.out hb1); omega
  have hrp : w.heap.size ≠ w1.heap.size := by have := (HK0.out.later hb1).lt; omega
  generalize hpb : w1.heap.size = pb at hkp hnp hrp
  generalize hW2 : w1.alloc (.cells #[.int .i64 0, .bool false, .int .i64 0, .slice none 0 0, .slice none 0 0, .string (S [])] 45) = W2 at hb2 hkp
  have hb12 := below_then hb1 hb2
  have hR2 : RBlk W2 rb t ⟨lim, mode, l, false⟩ := Blk.later HK1.out hb12
  have hK2 : Keeps w.heap.size w W2 (fun k => k = rb) (fun k => k = rb) := Keeps.of (below_then Hb0.out hb12) _
  have h72 := HK0.out.later hb12
  have HB2 := Lib.hid (below_then Hb0.out hb12)
  have Hpbw := Lib.hid (show w.heap.size ≤ pb by rw [← hpb]; exact Nat.le_trans Hb0.out.size hb1.size)
  have HR2 := Lib.hid hR2
  have HK2 := Lib.hid hK2
  have H72 := Lib.hid h72
  have Hkp := Lib.hid hkp
  have Hnp := Lib.hid hnp
  have Hrp := Lib.hid hrp
  clear hb1 hb2 hb12 hR2 hK2 h72 hkp hnp hrp U q0 q1 q2 q3 HK0 HK1 Hb0
  obtain ⟨q0, q1, q2, q3⟩ := Blk.four HR2.out
  by_cases h2 : lim < rd
  · have hX := HN.out h2
    have h2I : (lim : Int) < (rd : Int) := by omega
    have hd2 : decide ((lim : Int) < (rd : Int)) = true := decide_eq_true h2I
    subst hX
    have g0 := Blk.frozen HR2.out 0
    have g3 := Blk.frozen HR2.out 3
    have hR3 : RBlk ((W2.setCell ⟨rb, 3, none⟩ (.bool true)).setCell ⟨rb, 0, none⟩ (.string (S []))) rb t (stopF ⟨lim, mode, l, false⟩) := Blk.set (Blk.set HR2.out 3 (.bool true)) 0 (.string (S []))
    have hK3 := (HK2.out.rcell 3 (.bool true)).rcell 0 (.string (S []))
    have h73 := (H72.out.other (Ne.symm Hne.out) (i := 3) (.bool true)).other (Ne.symm Hne.out) (i := 0) (.string (S []))
    generalize hW3 : (W2.setCell ⟨rb, 3, none⟩ (.bool true)).setCell ⟨rb, 0, none⟩ (.string (S [])) = W3 at hR3 hK3 h73
    obtain ⟨p0, p1, p2, p3, p4, p5, p6⟩ := h73.seven
    have f0 := h73.frozen 0
    have f1 := h73.frozen 1
    have f2 := h73.frozen 2
    have f3 := h73.frozen 3
    have f4 := h73.frozen 4
    have f5 := h73.frozen 5
    have f6 := h73.frozen 6
    have Hend := Lib.hid (rnext_end (w := w) (p := pd0) (vv := .slice none 0 0) (va := .slice none 0 0) hR3 hK3 h73 nilSl nilSl (Nat.le_refl _) Hne.out (pdu0_at _) (.int .i64 0) (.bool false) (.int .i64 0) (.slice none 0 0) (.slice none 0 0) (.string (S [])) (.string (S [])))
    clear hR3 hK3 h73 h2
    go_wp2_with fail
    refine bodyPost_ret (v := .tuple #[pcV pc0 (.slice none 0 0) (.slice none 0 0), .bool false, .int .i64 4]) (by simp [results, Tryz.results35, go_sem, pcV, pc0, pd0, hd0, p0, p1, p2, p3, p4, p5, p6]) rfl ⟨_, _, rfl, Hend.out.1, Hend.out.2.1, Hend.out.2.2⟩
  · have h2I : (rd : Int) ≤ (lim : Int) := by omega
    have hd2 : decide ((lim : Int) < (rd : Int)) = false := decide_eq_false (by omega)
    have ZZ := Lib.hid (fun W (h : Below W2.heap.size W2 W) => (Z W).out)
    have H2 := Lib.hid h2
    clear h2 Z
    go_wp2_with fail
    go_region_held3 (fun w' => Below W2.heap.size W2 w' ∧ w'.cell? ⟨rb, 0, none⟩ = some (.string (S l)) ∧ w'.cell? ⟨rb, 2, none⟩ = some (.int .i64 (mode : Int)))
      (first | assumption | exact ⟨Below.refl _ _, q0, q2⟩ | exact ⟨(Below.refl _ _).drew, q0, q2⟩ | exact keepR2 (by assumption) hb')
      (first | ((with_reducible refine (ZZ.out _ (by first | assumption | exact (‹Below W2.heap.size W2 _ ∧ _›).1)).mono ?_); rintro e w' ⟨rfl, hb'⟩))
    have hlow := (‹Below W2.heap.size W2 w' ∧ _›).1
    have hR3 : RBlk w' rb t ⟨lim, mode, l, false⟩ := Blk.later HR2.out hlow
    have hK3 : Keeps w.heap.size w w' (fun k => k = rb) (fun k => k = rb) := HK2.out.trans (Keeps.of hlow _) HK2.out.size
    have h73 := H72.out.later hlow
    have hkp3 := Hkp.out.later hlow
    have HR3 := Lib.hid hR3
    have HK3 := Lib.hid hK3
    have H73 := Lib.hid h73
    have Hlow := Lib.hid hlow
    have Hkp3 := Lib.hid hkp3
    rename_i hHeld
    clear hHeld hb' hlow hR3 hK3 h73 hkp3 HR2 HK2 H72 Hkp ZZ q0 q1 q2 q3 hd2
    obtain ⟨q0, q1, q2, q3⟩ := Blk.four HR3.out
    by_cases h3 : l.length < z
    · have hX := HF.out H2.out h3
      subst hX
      have h3I : (l.length : Int) < (z : Int) := by omega
      obtain ⟨p0, p1, p2, p3, p4, p5, p6⟩ := H73.out.seven
      have f0 := H73.out.frozen 0
      have f1 := H73.out.frozen 1
      have f2 := H73.out.frozen 2
      have f3 := H73.out.frozen 3
      have f4 := H73.out.frozen 4
      have f5 := H73.out.frozen 5
      have f6 := H73.out.frozen 6
      have Hend := Lib.hid (rnext_end (w := w) (p := pd0) (vv := .slice none 0 0) (va := .slice none 0 0) HR3.out HK3.out H73.out nilSl nilSl (Nat.le_refl _) Hne.out (pdu0_at _) (.int .i64 0) (.bool false) (.int .i64 0) (.slice none 0 0) (.slice none 0 0) (.string (S [])) (.string (S [])))
      clear h3
      go_wp2_with fail
      refine bodyPost_ret (v := .tuple #[pcV pc0 (.slice none 0 0) (.slice none 0 0), .bool false, .int .i64 0]) (by simp [results, Tryz.results35, go_sem, pcV, pc0, pd0, hd0, p0, p1, p2, p3, p4, p5, p6]) rfl ⟨_, _, rfl, Hend.out.1, Hend.out.2.1, Hend.out.2.2⟩
    · have h3I : (z : Int) ≤ (l.length : Int) := by omega
      have hX := HWh.out H2.out h3
      have PP := Lib.hid (fun W (h : Below w'.heap.size w' W) => (P W).out)
      have Hbw := Lib.hid (HB2.out.trans (Hlow.out.mono HB2.out.size))
      have Hszw := Lib.hid (Nat.le_trans HB2.out.size Hlow.out.size)
      have htk : List.take (l.length - z) (List.drop z l) = List.drop z l := List.take_of_length_le (by simp)
      have HX := Lib.hid hX
      clear h3 hX P HF HWh HN H2
      go_wp2_with fail
      go_region_with ((with_reducible refine (PP.out _ (by first | exact Below.refl _ _ | exact below_drewN (Below.refl _ _) _ | exact (Below.refl _ _).drew)).mono ?_); rintro e w5 ⟨vv, va, rfl, hP, hb5⟩; obtain ⟨⟨pv, nv, cv, rfl⟩, ⟨pa, na, ca, rfl⟩⟩ := hP.sl; have hb5' : Below w'.heap.size w' w5 := ⟨hb5.os, hb5.tape, hb5.output, hb5.size, hb5.block⟩; have hkp5 := Hkp3.out.later hb5'; obtain ⟨m0, m1, m2, m3, m4, m5⟩ := hkp5.six; have g0 := hkp5.frozen 0; have g1 := hkp5.frozen 1; have g2 := hkp5.frozen 2; have g3 := hkp5.frozen 3; have g4 := hkp5.frozen 4; have g5 := hkp5.frozen 5; unfold pduV; simp only)
      all_goals
        have hst := six_stored (.int .i64 op) (.bool now) (.int .i64 fl) (.slice pv nv cv) (.slice pa na ca) (.string (S d)) hkp5 (show w.heap.size ≤ pb from Hpbw.out) (Hbw.out.trans (hb5'.mono Hszw.out))
        have hP6 := hP.set6 hkp5 (.int .i64 op) (.bool now) (.int .i64 fl) (.slice pv nv cv) (.slice pa na ca) (.string (S d))
        have hR5 : RBlk w5 rb t ⟨lim, mode, l, false⟩ := Blk.later HR3.out hb5'
        have hR6 : RBlk ((((((w5.setCell ⟨pb, 0, none⟩ (.int .i64 op)).setCell ⟨pb, 1, none⟩ (.bool now)).setCell ⟨pb, 2, none⟩ (.int .i64 fl)).setCell ⟨pb, 3, none⟩ (.slice pv nv cv)).setCell ⟨pb, 4, none⟩ (.slice pa na ca)).setCell ⟨pb, 5, none⟩ (.string (S d))) rb t ⟨lim, mode, l, false⟩ :=
          (((((Blk.other hR5 Hnp.out _).other Hnp.out _).other Hnp.out _).other Hnp.out _).other Hnp.out _).other Hnp.out _
        have h75 := H73.out.later hb5'
        have h76 := (((((h75.other Hrp.out (i := 0) (.int .i64 op)).other Hrp.out (i := 1) (.bool now)).other Hrp.out (i := 2) (.int .i64 fl)).other Hrp.out (i := 3) (.slice pv nv cv)).other Hrp.out (i := 4) (.slice pa na ca)).other Hrp.out (i := 5) (.string (S d))
        have hK6 := Keeps.of hst.2 (fun k => k = rb)
        have hk6 := hst.1
        generalize ((((((w5.setCell ⟨pb, 0, none⟩ (.int .i64 op)).setCell ⟨pb, 1, none⟩ (.bool now)).setCell ⟨pb, 2, none⟩ (.int .i64 fl)).setCell ⟨pb, 3, none⟩ (.slice pv nv cv)).setCell ⟨pb, 4, none⟩ (.slice pa na ca)).setCell ⟨pb, 5, none⟩ (.string (S d))) = W6 at hst hP6 hR6 h76 hK6 hk6 ⊢
        have HP6 := Lib.hid hP6
        have HR6 := Lib.hid hR6
        have H76 := Lib.hid h76
        have HK6 := Lib.hid hK6
        have Hk6 := Lib.hid hk6
        clear hst hP6 hR5 hR6 h75 h76 hK6 hk6 hP hb5 hb5' hkp5 m0 m1 m2 m3 m4 m5 g0 g1 g2 g3 g4 g5 q0 q1 q2 q3
        obtain ⟨q0, q1, q2, q3⟩ := Blk.four HR6.out
        have e0 := Blk.frozen HR6.out 0
        have e3 := Blk.frozen HR6.out 3
        by_cases her : er = 0
        · subst her
          have hXX := HX.out
          simp only [show ¬ ((0 : Int) = 13) by omega, if_false, ne_eq, not_true_eq_false] at hXX
          subst hXX
          obtain ⟨m0, m1, m2, m3, m4, m5⟩ := (Hk6.out.other (Ne.symm Hnp.out) (i := 0) (.string (S (List.drop z l)))).six
          have hR8 : RBlk (W6.setCell ⟨rb, 0, none⟩ (.string (S (List.drop z l)))) rb t ⟨lim, mode, List.drop z l, false⟩ := Blk.set HR6.out 0 _
          have hP8 := HP6.out.apartR HR6.out (W' := W6.setCell ⟨rb, 0, none⟩ (.string (S (List.drop z l)))) (fun k hk _ => setCell_heap_other hk _)
          have hK8 := HK6.out.rcell 0 (.string (S (List.drop z l)))
          have h78 := H76.out.other (Ne.symm Hne.out) (i := 0) (.string (S (List.drop z l)))
          generalize hW8 : W6.setCell ⟨rb, 0, none⟩ (.string (S (List.drop z l))) = W8 at m0 m1 m2 m3 m4 m5 hR8 hP8 hK8 h78
          obtain ⟨p0, p1, p2, p3, p4, p5, p6⟩ := h78.seven
          have f0 := h78.frozen 0
          have f1 := h78.frozen 1
          have f2 := h78.frozen 2
          have f3 := h78.frozen 3
          have f4 := h78.frozen 4
          have f5 := h78.frozen 5
          have f6 := h78.frozen 6
          have Hend := Lib.hid (rnext_end (w := w) hR8 hK8 h78 nilSl nilSl (Nat.le_refl _) Hne.out hP8 (.int .i64 op) (.bool now) (.int .i64 fl) (.slice pv nv cv) (.slice pa na ca) (.string (S d)) (.string (S [])))
          clear hR8 hP8 hK8 h78
          go_wp2_with fail
          refine bodyPost_ret (v := .tuple #[pcV ⟨⟨⟨op, now, fl, vs⟩, al, d⟩, []⟩ (.slice pv nv cv) (.slice pa na ca), .bool true, .int .i64 0]) (by simp [results, Tryz.results35, go_sem, pcV, p0, p1, p2, p3, p4, p5, p6]) rfl ⟨_, _, rfl, Hend.out.1, Hend.out.2.1, Hend.out.2.2⟩
        · by_cases h13 : er = 13
          · subst h13
            have hXX := HX.out
            simp only [if_true, ne_eq, show ¬ ((13 : Int) = 0) by omega, not_false_eq_true, not_true_eq_false, if_false] at hXX
            subst hXX
            have hR8 : RBlk (W6.setCell ⟨rb, 0, none⟩ (.string (S (List.drop z l)))) rb t ⟨lim, mode, List.drop z l, false⟩ := Blk.set HR6.out 0 _
            have hK8 := HK6.out.rcell 0 (.string (S (List.drop z l)))
            have h78 := H76.out.other (Ne.symm Hne.out) (i := 0) (.string (S (List.drop z l)))
            generalize hW8 : W6.setCell ⟨rb, 0, none⟩ (.string (S (List.drop z l))) = W8 at hR8 hK8 h78
            obtain ⟨p0, p1, p2, p3, p4, p5, p6⟩ := h78.seven
            have f0 := h78.frozen 0
            have f1 := h78.frozen 1
            have f2 := h78.frozen 2
            have f3 := h78.frozen 3
            have f4 := h78.frozen 4
            have f5 := h78.frozen 5
            have f6 := h78.frozen 6
            have Hend := Lib.hid (rnext_end (w := w) (p := pd0) (vv := .slice none 0 0) (va := .slice none 0 0) hR8 hK8 h78 nilSl nilSl (Nat.le_refl _) Hne.out (pdu0_at _) (.int .i64 0) (.bool false) (.int .i64 0) (.slice none 0 0) (.slice none 0 0) (.string (S [])) (.string (S (List.take 48 l))))
            clear hR8 hK8 h78 her
            go_wp2_with fail
            refine bodyPost_ret (v := .tuple #[pcV ⟨pd0, List.take 48 l⟩ (.slice none 0 0) (.slice none 0 0), .bool true, .int .i64 0]) (by simp [results, Tryz.results35, go_sem, pcV, pd0, hd0, p0, p1, p2, p3, p4, p5, p6]) rfl ⟨_, _, rfl, Hend.out.1, Hend.out.2.1, Hend.out.2.2⟩
          · have hXX := HX.out
            rw [if_neg h13, if_pos her, if_pos her] at hXX
            subst hXX
            have hb0' : (er == 0) = false := by simp [her]
            have hb13 : (er == 13) = false := by simp [h13]
            have hR8 : RBlk ((W6.setCell ⟨rb, 3, none⟩ (.bool true)).setCell ⟨rb, 0, none⟩ (.string (S []))) rb t (stopF ⟨lim, mode, l, false⟩) := Blk.set (Blk.set HR6.out 3 (.bool true)) 0 (.string (S []))
            have hK8 := (HK6.out.rcell 3 (.bool true)).rcell 0 (.string (S []))
            have h78 := (H76.out.other (Ne.symm Hne.out) (i := 3) (.bool true)).other (Ne.symm Hne.out) (i := 0) (.string (S []))
            generalize hW8 : (W6.setCell ⟨rb, 3, none⟩ (.bool true)).setCell ⟨rb, 0, none⟩ (.string (S [])) = W8 at hR8 hK8 h78
            obtain ⟨p0, p1, p2, p3, p4, p5, p6⟩ := h78.seven
            have f0 := h78.frozen 0
            have f1 := h78.frozen 1
            have f2 := h78.frozen 2
            have f3 := h78.frozen 3
            have f4 := h78.frozen 4
            have f5 := h78.frozen 5
            have f6 := h78.frozen 6
            have Hend := Lib.hid (rnext_end (w := w) (p := pd0) (vv := .slice none 0 0) (va := .slice none 0 0) hR8 hK8 h78 nilSl nilSl (Nat.le_refl _) Hne.out (pdu0_at _) (.int .i64 0) (.bool false) (.int .i64 0) (.slice none 0 0) (.slice none 0 0) (.string (S [])) (.string (S [])))
            clear hR8 hK8 h78 her h13
            go_wp2_with fail
            refine bodyPost_ret (v := .tuple #[pcV pc0 (.slice none 0 0) (.slice none 0 0), .bool false, .int .i64 er]) (by simp [results, Tryz.results35, go_sem, pcV, pc0, pd0, hd0, p0, p1, p2, p3, p4, p5, p6]) rfl ⟨_, _, rfl, Hend.out.1, Hend.out.2.1, Hend.out.2.2⟩
theorem rnext_any {w : World} {rb : Nat} {t : TypeId} {F : Fe} (hok : FeOk F) (hbad : F.bad = true → F.kept = []) (hl : F.kept.length ≤ 4200) (hk : RBlk w rb t F) :
    Calls Tryz.prog 35 #[.pointer (some ⟨rb, 0, none⟩)] w (RetRFN w rb t (nextF F)) := by
  by_cases h48 : F.kept.length < 48
  · exact rnext_short h48 hk
  · obtain ⟨lim, mode, l, bd⟩ := F
    cases bd with
    | true =>
      have := hbad rfl
      simp only at this
      subst this
      exact absurd (show ([] : List UInt8).length < 48 by simp) h48
    | false => exact rnext_long hok.lim hok.mode h48 hl hk
end Go.Proofs.YtlkikkfbennmnaaGreatDoor
