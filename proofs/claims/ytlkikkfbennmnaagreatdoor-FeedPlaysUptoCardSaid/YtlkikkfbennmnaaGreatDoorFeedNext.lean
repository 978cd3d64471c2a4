/- feed.stop, feed.piece, feed.Next. -/
import Derived.Test.YtlkikkfbennmnaaGreatDoorFeedOps
import Derived.Test.YtlkikkfbennmnaaGreatDoorPieces
import Derived.Test.YtlkikkfbennmnaaGreatDoorPduRead
namespace Go.Proofs.YtlkikkfbennmnaaGreatDoor
open Go.RowKit
set_option linter.unusedVariables false
theorem Blk.seven {W : World} {b : Nat} {x y z u v s r : Value} {t : TypeId} (h : Blk W b #[x, y, z, u, v, s, r] t) : W.cell? ⟨b, 0, none⟩ = some x ∧ W.cell? ⟨b, 1, none⟩ = some y ∧ W.cell? ⟨b, 2, none⟩ = some z ∧ W.cell? ⟨b, 3, none⟩ = some u ∧ W.cell? ⟨b, 4, none⟩ = some v ∧ W.cell? ⟨b, 5, none⟩ = some s ∧ W.cell? ⟨b, 6, none⟩ = some r := ⟨h.cell 0, h.cell 1, h.cell 2, h.cell 3, h.cell 4, h.cell 5, h.cell 6⟩
def set7 (W : World) (b : Nat) (x0 x1 x2 x3 x4 x5 x6 : Value) : World := ((((((W.setCell ⟨b, 0, none⟩ x0).setCell ⟨b, 1, none⟩ x1).setCell ⟨b, 2, none⟩ x2).setCell ⟨b, 3, none⟩ x3).setCell ⟨b, 4, none⟩ x4).setCell ⟨b, 5, none⟩ x5).setCell ⟨b, 6, none⟩ x6
theorem set7_blk {W : World} {b : Nat} {o0 o1 o2 o3 o4 o5 o6 : Value} {t : TypeId} (hR : Blk W b #[o0, o1, o2, o3, o4, o5, o6] t) (x0 x1 x2 x3 x4 x5 x6 : Value) : Blk (set7 W b x0 x1 x2 x3 x4 x5 x6) b #[x0, x1, x2, x3, x4, x5, x6] t := by
  have h0 : Blk _ b #[x0, o1, o2, o3, o4, o5, o6] t := hR.set 0 x0
  have h1 : Blk _ b #[x0, x1, o2, o3, o4, o5, o6] t := h0.set 1 x1
  have h2 : Blk _ b #[x0, x1, x2, o3, o4, o5, o6] t := h1.set 2 x2
  have h3 : Blk _ b #[x0, x1, x2, x3, o4, o5, o6] t := h2.set 3 x3
  have h4 : Blk _ b #[x0, x1, x2, x3, x4, o5, o6] t := h3.set 4 x4
  have h5 : Blk _ b #[x0, x1, x2, x3, x4, x5, o6] t := h4.set 5 x5
  exact h5.set 6 x6
theorem set7_other {W : World} {b k : Nat} (hne : k ≠ b) (x0 x1 x2 x3 x4 x5 x6 : Value) : (set7 W b x0 x1 x2 x3 x4 x5 x6).heap[k]? = W.heap[k]? := by
  unfold set7
  rw [setCell_heap_other hne, setCell_heap_other hne, setCell_heap_other hne, setCell_heap_other hne, setCell_heap_other hne, setCell_heap_other hne, setCell_heap_other hne]
theorem set7_size {W : World} {b : Nat} (x0 x1 x2 x3 x4 x5 x6 : Value) : (set7 W b x0 x1 x2 x3 x4 x5 x6).heap.size = W.heap.size := by simp [set7, World.setCell]
theorem set7_below {B : Nat} {w W : World} (h : Below B w W) {b : Nat} (hb : B ≤ b) (x0 x1 x2 x3 x4 x5 x6 : Value) : Below B w (set7 W b x0 x1 x2 x3 x4 x5 x6) :=
  ((((((h.setCell (p := ⟨b, 0, none⟩) hb x0).setCell (p := ⟨b, 1, none⟩) hb x1).setCell (p := ⟨b, 2, none⟩) hb x2).setCell (p := ⟨b, 3, none⟩) hb x3).setCell (p := ⟨b, 4, none⟩) hb x4).setCell (p := ⟨b, 5, none⟩) hb x5).setCell (p := ⟨b, 6, none⟩) hb x6
theorem seven_cell {W : World} {b j : Nat} {x0 x1 x2 x3 x4 x5 x6 : Value} {t : TypeId} (h : Blk W b #[x0, x1, x2, x3, x4, x5, x6] t) {v : Value} (hc : W.cell? ⟨b, j, none⟩ = some v) : v = x0 ∨ v = x1 ∨ v = x2 ∨ v = x3 ∨ v = x4 ∨ (j = 5 ∧ v = x5) ∨ (j = 6 ∧ v = x6) := by
  rw [h.cell j] at hc
  obtain rfl | rfl | rfl | rfl | rfl | rfl | rfl | ho : j = 0 ∨ j = 1 ∨ j = 2 ∨ j = 3 ∨ j = 4 ∨ j = 5 ∨ j = 6 ∨ 7 ≤ j := by omega
  · simp at hc; exact .inl hc.symm
  · simp at hc; exact .inr (.inl hc.symm)
  · simp at hc; exact .inr (.inr (.inl hc.symm))
  · simp at hc; exact .inr (.inr (.inr (.inl hc.symm)))
  · simp at hc; exact .inr (.inr (.inr (.inr (.inl hc.symm))))
  · simp at hc; exact .inr (.inr (.inr (.inr (.inr (.inl ⟨rfl, hc.symm⟩)))))
  · simp at hc; exact .inr (.inr (.inr (.inr (.inr (.inr ⟨rfl, hc.symm⟩)))))
  · rw [Array.getElem?_eq_none (by simpa using ho)] at hc
    cases hc
/-- no PDU lies in a block that holds a piece -/
theorem PduAt.apart7 {W W' : World} {p : Pd} {vv va : Value} (h : PduAt W p vv va) {b : Nat} {o0 o2 : Int} {o1 : Bool} {v3 v4 : Value} {o5 o6 : ByteArray} {t : TypeId} (hk : Blk W b #[.int .i64 o0, .bool o1, .int .i64 o2, v3, v4, .string o5, .string o6] t) (h3 : SlV v3) (h4 : SlV v4)
    (hh : ∀ k, k ≠ b → k < W.heap.size → W'.heap[k]? = W.heap[k]?) : PduAt W' p vv va := by
  obtain ⟨p3, n3, c3, rfl⟩ := h3
  obtain ⟨p4, n4, c4, rfl⟩ := h4
  have hcell : ∀ b' o v, b' ≠ b → W.cell? ⟨b', o, none⟩ = some v → W'.cell? ⟨b', o, none⟩ = some v := fun b' o v hne hc => by
    rw [← hc]
    exact World.cell?_of_block (w := W) (hh b' hne (block_lt_of_cell (w := W) (a := ⟨b', o, none⟩) hc))
  obtain ⟨⟨q, c, hv, hx, hc⟩, ⟨qa, ca, ha, hla, hca⟩⟩ := h
  refine ⟨⟨q, c, hv, hx, fun hl => ?_⟩, ⟨qa, ca, ha, hla, fun hl => ?_⟩⟩
  · obtain ⟨b', o, hq, hce⟩ := hc hl
    have hne : b' ≠ b := by
      rintro rfl
      rcases seven_cell hk (hce 0 hl) with h | h | h | h | h | ⟨_, h⟩ | ⟨_, h⟩ <;> simp at h
    exact ⟨b', o, hq, fun j hj => hcell _ _ _ hne (hce j hj)⟩
  · obtain ⟨b', o, hq, hce⟩ := hca hl
    obtain ⟨g0, g1⟩ := hce 0 hl
    have hne : b' ≠ b := by
      rintro rfl
      rcases seven_cell hk g1 with h | h | h | h | h | ⟨hj, h⟩ | ⟨hj, h⟩
      · simp at h
      · simp at h
      · simp at h
      · simp at h
      · simp at h
      · rcases seven_cell hk g0 with h | h | h | h | h | ⟨hj2, h⟩ | ⟨hj2, h⟩
        · have g3 := hk.cell (o + 0 * 2)
          have : o + 0 * 2 = 4 := by omega
          rw [this] at g0
          rw [hk.cell 4] at g0
          simp at g0
        · simp at h
        · have : o + 0 * 2 = 4 := by omega
          rw [this] at g0
          rw [hk.cell 4] at g0
          simp at g0
        · simp at h
        · simp at h
        · simp at h
        · simp at h
      · have : o + 0 * 2 = 5 := by omega
        rw [this] at g0
        rw [hk.cell 5] at g0
        simp at g0
    exact ⟨b', o, hq, fun j hj => ⟨hcell _ _ _ hne (hce j hj).1, hcell _ _ _ hne (hce j hj).2⟩⟩
theorem nilSl : SlV (.slice none 0 0) := ⟨none, 0, 0, rfl⟩
/-- a piece and an error are returned -/
def RetPc (w : World) (r : Pc × Int) (e : Ending) (w' : World) : Prop := ∃ vv va ev, e = .returned (.tuple #[pcV r.1 vv va, ev]) ∧ PduAt w' r.1.p vv va ∧ Bare1 ev r.2 ∧ Below w.heap.size w w'
set_option maxRecDepth 100000 in
theorem piece_any (s : List UInt8) (m : Nat) (w : World) (hm : m ≤ 3) (h48 : 48 ≤ s.length) (hl : s.length ≤ 140737488351232) (hc : MaxCell w) (hg : ErrCell w) :
    Calls Tryz.prog 42 #[.string (S s), .int .i64 (m : Int)] w (RetPc w (pieceF s m)) := by
  have hb0 := (Below.refl w.heap.size w).alloc (Nat.le_refl _) (.cells #[.int .i64 0, .bool false, .int .i64 0, .slice none 0 0, .slice none 0 0, .string (S []), .string (S [])] 47)
  have HK0 := Lib.hid (Blk.new w #[.int .i64 0, .bool false, .int .i64 0, .slice none 0 0, .slice none 0 0, .string (S []), .string (S [])] 47)
  have RR := Lib.hid (readP_any s (m : Int) _ ⟨by omega, by omega⟩ hl (hc.later hb0) (hg.later hb0))
  have Hg := Lib.hid hg
  have Hb0 := Lib.hid hb0
  have h48I : (48 : Int) ≤ (s.length : Int) := by omega
  obtain ⟨R, hR⟩ : ∃ R, readP s (m : Int) = R := ⟨_, rfl⟩
  have hPF : pieceF s m = if R.2.2 = 13 then (⟨pd0, s.take 48⟩, 0) else if R.2.2 ≠ 0 then (pc0, R.2.2) else (⟨R.1, []⟩, 0) := by unfold pieceF; rw [hR]
  rw [hR] at RR
  rw [hPF]
  obtain ⟨⟨⟨op, now, fl, vs⟩, al, d⟩, n, er⟩ := R
  simp only at *
  obtain ⟨X, hX⟩ : ∃ X, (if er = 13 then ((⟨pd0, s.take 48⟩ : Pc), (0 : Int)) else if er ≠ 0 then (pc0, er) else (⟨⟨⟨op, now, fl, vs⟩, al, d⟩, []⟩, 0)) = X := ⟨_, rfl⟩
  rw [hX]
  have HX := Lib.hid hX
  clear hX hR hPF hb0 hc hg hm hl h48
  go_enter Tryz.func42, Tryz.ntmps42
  go_wp2_with fail
  refine RR.out.mono ?_
  rintro e w1 ⟨vv, va, ev, rfl, hP, hE, hb1⟩
  obtain ⟨pv, cv, rfl⟩ : ∃ p c, vv = .slice p vs.length c := by obtain ⟨p, c, h, _⟩ := hP.v; exact ⟨p, c, h⟩
  obtain ⟨pa, ca, rfl⟩ := hP.a.form
  have hbn := (Below.refl w1.heap.size w1).alloc (Nat.le_refl _) (.cells #[.int .i64 op, .bool now, .int .i64 fl, .slice pv vs.length cv, .slice pa al.length ca, .string (S d)] 45)
  have HK1 := Lib.hid (HK0.out.later (below_then hb1 hbn))
  have HKn := Lib.hid (Blk.new w1 #[.int .i64 op, .bool now, .int .i64 fl, .slice pv vs.length cv, .slice pa al.length ca, .string (S d)] 45)
  have Hb1 := Lib.hid (below_then Hb0.out (below_then hb1 hbn))
  have HP := Lib.hid (hP.later hbn)
  have T1 := Lib.hid (tell_is (hE.is (w1.alloc (.cells #[.int .i64 op, .bool now, .int .i64 fl, .slice pv vs.length cv, .slice pa al.length ca, .string (S d)] 45))) (Hg.out.later Hb1.out))
  have HE := Lib.hid hE
  have hevs : ev = .nilIface ∨ ∃ t x, ev = .iface t x := (hE.is w).shape
  clear hP hE hb1 hbn HK0 Hb0 RR
  unfold pduV
  simp only
  go_wp2_with fail
  refine T1.out.mono ?_
  rintro e w2 ⟨rfl, hb2⟩
  have HK2 := Lib.hid (HK1.out.later hb2)
  have HKm := Lib.hid (HKn.out.later hb2)
  have Hb2 := Lib.hid (below_then Hb1.out hb2)
  have HP2 := Lib.hid (HP.out.later hb2)
  obtain ⟨p0, p1, p2, p3, p4, p5, p6⟩ := HK2.out.seven
  obtain ⟨r0, r1, r2, r3, r4, r5⟩ := HKm.out.six
  have f0 := HK2.out.frozen 0
  have f1 := HK2.out.frozen 1
  have f2 := HK2.out.frozen 2
  have f3 := HK2.out.frozen 3
  have f4 := HK2.out.frozen 4
  have f5 := HK2.out.frozen 5
  have f6 := HK2.out.frozen 6
  clear hb2 HK1 HKn Hb1 HP T1
  by_cases h13 : er = 13
  · subst h13
    have hXX := HX.out
    rw [if_pos rfl] at hXX
    subst hXX
    obtain rfl := HE.out.iface (by decide)
    go_wp2_with fail
    refine bodyPost_ret (v := .tuple #[pcV ⟨pd0, s.take 48⟩ (.slice none 0 0) (.slice none 0 0), .nilIface]) (by simp [results, Tryz.results42, go_sem, pcV, pd0, hd0, p0, p1, p2, p3, p4, p5, p6]) rfl ⟨_, _, _, rfl, pdu0_at _, .inl ⟨rfl, rfl⟩, ?_⟩
    exact set7_below Hb2.out (Nat.le_refl _) _ _ _ _ _ _ _
  · have hd : decide (er = 13) = false := decide_eq_false h13
    by_cases h0 : er = 0
    · subst h0
      have hXX := HX.out
      rw [if_neg (by decide), if_neg (by decide)] at hXX
      subst hXX
      obtain rfl := HE.out.zero
      clear h13 hd
      go_wp2_with fail
      refine bodyPost_ret (v := .tuple #[pcV ⟨⟨⟨op, now, fl, vs⟩, al, d⟩, []⟩ (.slice pv vs.length cv) (.slice pa al.length ca), .nilIface]) (by simp [results, Tryz.results42, go_sem, pcV, p0, p1, p2, p3, p4, p5, p6]) rfl ⟨_, _, _, rfl, ?_, .inl ⟨rfl, rfl⟩, ?_⟩
      · exact HP2.out.apart7 HK2.out nilSl nilSl (fun k hk _ => set7_other hk _ _ _ _ _ _ _)
      · exact set7_below Hb2.out (Nat.le_refl _) _ _ _ _ _ _ _
    · have hXX := HX.out
      rw [if_neg h13, if_pos h0] at hXX
      subst hXX
      obtain rfl := HE.out.iface h0
      have h13b : (er == 13) = false := by simp [h13]
      have H13 := Lib.hid h13
      have H0 := Lib.hid h0
      clear h13 h0
      go_wp2_with fail
      refine bodyPost_ret (v := .tuple #[pcV pc0 (.slice none 0 0) (.slice none 0 0), .iface 51 (.int .i64 er)]) (by simp [results, Tryz.results42, go_sem, pcV, pc0, pd0, hd0, p0, p1, p2, p3, p4, p5, p6]) rfl ⟨_, _, _, rfl, pdu0_at _, .inr ⟨H0.out, rfl⟩, ?_⟩
      exact set7_below Hb2.out (Nat.le_refl _) _ _ _ _ _ _ _
/-- what a feed tells of the next one -/
def RetNext (w : World) (B : Nat) (H : Nat → Prop) (fb : Nat) (r : (Pc × Bool × Int) × Fe) (e : Ending) (w' : World) : Prop := ∃ vv va ev H', e = .returned (.tuple #[pcV r.1.1 vv va, .bool r.1.2.1, ev]) ∧ PduAt (offW H' w') r.1.1.p vv va ∧ Bare1 ev r.1.2.2 ∧ FeedAt w' B H' fb r.2 ∧ Keeps w.heap.size w w' H H'
set_option maxRecDepth 100000 in
theorem stop_any {w : World} {B : Nat} {H : Nat → Prop} {fb : Nat} {F : Fe} {ev : Value} {n : Int} (hev : Bare1 ev n) (hF : FeedAt w B H fb F) :
    Calls Tryz.prog 41 #[.pointer (some ⟨fb, 0, none⟩), ev] w (RetNext w B H fb ((pc0, false, n), stopF F)) := by
  obtain ⟨kv, t, hk, hv⟩ := hF.at_
  obtain ⟨p, c, rfl, _⟩ := hv.form
  have hlt := (hF.base fb hF.own).2
  obtain ⟨q0, q1, q2, q3⟩ := hk.four
  have g2 := hk.frozen 2
  have g3 := hk.frozen 3
  have hsz : ((w.setCell ⟨fb, 2, none⟩ (.slice none 0 0)).setCell ⟨fb, 3, none⟩ (.bool true)).heap.size = w.heap.size := by simp [World.setCell]
  have hU : FeedAt ((w.setCell ⟨fb, 2, none⟩ (.slice none 0 0)).setCell ⟨fb, 3, none⟩ (.bool true)) B H fb (stopF F) :=
    hF.set (F' := stopF F) (stop_ok hF.ok) (.slice none 0 0) (.inl ⟨rfl, rfl⟩) _ ((hk.set 2 _).set 3 _) hsz (fun k hk => by rw [setCell_heap_other hk, setCell_heap_other hk])
  have hal := (Below.refl ((w.setCell ⟨fb, 2, none⟩ (.slice none 0 0)).setCell ⟨fb, 3, none⟩ (.bool true)).heap.size ((w.setCell ⟨fb, 2, none⟩ (.slice none 0 0)).setCell ⟨fb, 3, none⟩ (.bool true))).alloc (Nat.le_refl _) (.cells #[.int .i64 0, .bool false, .int .i64 0, .slice none 0 0, .slice none 0 0, .string (S []), .string (S [])] 47)
  have hS := hU.later hal
  have hR := Blk.new ((w.setCell ⟨fb, 2, none⟩ (.slice none 0 0)).setCell ⟨fb, 3, none⟩ (.bool true)) #[.int .i64 0, .bool false, .int .i64 0, .slice none 0 0, .slice none 0 0, .string (S []), .string (S [])] 47
  rw [hsz] at hR
  have hKp : Keeps w.heap.size w (((w.setCell ⟨fb, 2, none⟩ (.slice none 0 0)).setCell ⟨fb, 3, none⟩ (.bool true)).alloc (.cells #[.int .i64 0, .bool false, .int .i64 0, .slice none 0 0, .slice none 0 0, .string (S []), .string (S [])] 47)) H H :=
    ((Keeps.cell hF.own 2 _).trans (Keeps.cell hF.own 3 _) (Nat.le_refl _)).trans (Keeps.of hal H) (by rw [hsz]; exact Nat.le_refl _)
  have hbn : ∀ k, H k → k ≠ w.heap.size := fun k hk => by have := (hF.base k hk).2; omega
  generalize hW3 : (((w.setCell ⟨fb, 2, none⟩ (.slice none 0 0)).setCell ⟨fb, 3, none⟩ (.bool true)).alloc (.cells #[.int .i64 0, .bool false, .int .i64 0, .slice none 0 0, .slice none 0 0, .string (S []), .string (S [])] 47)) = W3 at hS hR hKp
  have HS := Lib.hid hS
  have HR := Lib.hid hR
  have HKp := Lib.hid hKp
  have Hbn := Lib.hid hbn
  have HE := Lib.hid hev
  obtain ⟨p0, p1, p2, p3, p4, p5, p6⟩ := hR.seven
  have f0 := hR.frozen 0
  have f1 := hR.frozen 1
  have f2 := hR.frozen 2
  have f3 := hR.frozen 3
  have f4 := hR.frozen 4
  have f5 := hR.frozen 5
  have f6 := hR.frozen 6
  clear hF hk hv hal hU hS hR hKp hbn hev
  go_enter Tryz.func41, Tryz.ntmps41
  go_wp2_with fail
  refine bodyPost_ret (v := .tuple #[pcV pc0 (.slice none 0 0) (.slice none 0 0), .bool false, ev]) (by simp [results, Tryz.results41, go_sem, pcV, pc0, pd0, hd0, p0, p1, p2, p3, p4, p5, p6]) rfl ⟨_, _, _, H, rfl, pdu0_at _, HE.out, ?_, ?_⟩
  · exact HS.out.kept (fun k hk => set7_other (Hbn.out k hk) _ _ _ _ _ _ _) (Nat.le_of_eq (set7_size _ _ _ _ _ _ _).symm)
  · exact HKp.out.trans (Keeps.of (set7_below (Below.refl _ _) (Nat.le_refl _) _ _ _ _ _ _ _) H) (Nat.le_refl _)
end Go.Proofs.YtlkikkfbennmnaaGreatDoor
