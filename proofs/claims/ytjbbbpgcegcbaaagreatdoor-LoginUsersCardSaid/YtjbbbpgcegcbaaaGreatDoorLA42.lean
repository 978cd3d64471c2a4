/- LA42: several texts in one. -/
import Derived.Deep.AppendSrc
import Derived.Lib.AppendZeros
import Derived.Test.YtjbbbpgcegcbaaaGreatDoorLA12
import Derived.Test.YtjbbbpgcegcbaaaGreatDoorLA18
import Derived.Test.YtjbbbpgcegcbaaaGreatDoorLA20
import Derived.Test.YtjbbbpgcegcbaaaGreatDoorLA23
import Derived.Test.YtjbbbpgcegcbaaaGreatDoorLA33
import Derived.Test.YtjbbbpgcegcbaaaGreatDoorLA39
import Derived.Test.YtjbbbpgcegcbaaaGreatDoorLA40
namespace Go.Proofs.YtjbbbpgcegcbaaaGreatDoor
open Go.RowKit
set_option linter.unusedVariables false
set_option maxRecDepth 100000 in
theorem confO_any (w : World) : Calls Tryz.prog 42 #[] w fun e w' => ∃ vt vp, e = .returned (confV conf0 vt vp (.slice none 0 0) (.slice none 0 0)) ∧ ConfAt w' conf0 vt vp (.slice none 0 0) (.slice none 0 0) ∧ (OwnV w vt ∧ OwnV w vp) ∧ Below w.heap.size w w' := by
 have hK0 := Blk.new w #[.slice none 0 0, .slice none 0 0, .slice none 0 0, .string (S []), .string (S []), .int .i64 0, .slice none 0 0] 29
 have hb0 := (Below.refl w.heap.size w).alloc (Nat.le_refl _) (.cells #[.slice none 0 0, .slice none 0 0, .slice none 0 0, .string (S []), .string (S []), .int .i64 0, .slice none 0 0] 29)
 obtain ⟨W1, hW1⟩ : ∃ W1, w.alloc (.cells #[.slice none 0 0, .slice none 0 0, .slice none 0 0, .string (S []), .string (S []), .int .i64 0, .slice none 0 0] 29) = W1 := ⟨_, rfl⟩
 rw [hW1] at hK0 hb0
 have hT := Blk.new W1 #[.string (S iqnA), .string (S iqnB)] 9
 have hK1 := hK0.alloc (.cells #[.string (S iqnA), .string (S iqnB)] 9)
 have hb1 := hb0.alloc hb0.size (.cells #[.string (S iqnA), .string (S iqnB)] 9)
 obtain ⟨W2, hW2⟩ : ∃ W2, W1.alloc (.cells #[.string (S [105, 113, 110, 46, 97]), .string (S [105, 113, 110, 46, 98])] 9) = W2 := ⟨_, rfl⟩
 rw [show W1.alloc (.cells #[.string (S iqnA), .string (S iqnB)] 9) = W2 from hW2] at hT hK1 hb1
 have hP := Blk.new W2 #[.string (S po1.ad), .int .i64 1, .string (S po2.ad), .int .i64 2] 136
 have hT2 := hT.alloc (.cells #[.string (S po1.ad), .int .i64 1, .string (S po2.ad), .int .i64 2] 136)
 have hK2 := hK1.alloc (.cells #[.string (S po1.ad), .int .i64 1, .string (S po2.ad), .int .i64 2] 136)
 have hb2 := hb1.alloc hb1.size (.cells #[.string (S po1.ad), .int .i64 1, .string (S po2.ad), .int .i64 2] 136)
 obtain ⟨W3, hW3⟩ : ∃ W3, W2.alloc (.cells #[.string (S [49, 48, 46, 48, 46, 48, 46, 49, 58, 51, 50, 54, 48]), .int .i64 1, .string (S [91, 58, 58, 49, 93, 58, 51, 50, 54, 48]), .int .i64 2] 136) = W3 := ⟨_, rfl⟩
 rw [show W2.alloc (.cells #[.string (S po1.ad), .int .i64 1, .string (S po2.ad), .int .i64 2] 136) = W3 from hW3] at hP hT2 hK2 hb2
 have hn1 : W1.heap.size ≠ w.heap.size := by have := congrArg (fun x => x.heap.size) hW1; simp at this; omega
 have hn2 : W2.heap.size ≠ w.heap.size := by have := congrArg (fun x => x.heap.size) hW1; have := congrArg (fun x => x.heap.size) hW2; simp at *; omega
 obtain ⟨q0, q1, q2, q3, q4, q5, q6⟩ := hK2.seven
 have f0 := hK2.frozen 0
 have f1 := hK2.frozen 1
 have f2 := hK2.frozen 2
 have f3 := hK2.frozen 3
 have f4 := hK2.frozen 4
 have f5 := hK2.frozen 5
 have f6 := hK2.frozen 6
 have HZ1 := Lib.hid hb0.size
 have HZ2 := Lib.hid hb1.size
 have HB2 := Lib.hid hb2
 have HT2 := Lib.hid hT2
 have HP := Lib.hid hP
 have HK2 := Lib.hid hK2
 have Hn1 := Lib.hid hn1
 have Hn2 := Lib.hid hn2
 clear hK0 hb0 hT hK1 hb1 hP hT2 hK2 hb2 hn1 hn2
 go_enter Tryz.func42, Tryz.ntmps42
 go_wp2_with fail
 refine bodyPost_ret (v := confV conf0 (.slice (some ⟨W1.heap.size, 0, none⟩) 2 2) (.slice (some ⟨W2.heap.size, 0, none⟩) 2 2) (.slice none 0 0) (.slice none 0 0)) (by simp [results, Tryz.results42, go_sem, confV, conf0, q0, q1, q2, q3, q4, q5, q6]) rfl ⟨_, _, rfl, ⟨⟨_, _, rfl, fun _ => ⟨W1.heap.size, 0, rfl, fun j hj => ?_⟩⟩, ⟨_, _, rfl, Nat.le_refl _, fun _ => ⟨W2.heap.size, 0, rfl, fun j hj => ?_⟩⟩, UsV.nil _, PrsV.nil _, fun _ _ _ h => by cases h; exact Nat.le_refl _⟩, ⟨fun k hk => by
  have e : W1.heap.size = k := by simpa [Value.ownBlock] using hk
  have := HZ1.out
  omega, fun k hk => by
  have e : W2.heap.size = k := by simpa [Value.ownBlock] using hk
  have := HZ2.out
  omega⟩, blk_seven HK2.out (Nat.le_refl _) HB2.out⟩
 ·rw [cell_seven Hn1.out, HT2.out.cell]
  match j, hj with
  | 0, _ => rfl
  | 1, _ => rfl
 ·rw [cell_seven Hn2.out, cell_seven Hn2.out, HP.out.cell, HP.out.cell]
  match j, hj with
  | 0, _ => exact ⟨rfl, rfl⟩
  | 1, _ => exact ⟨rfl, rfl⟩
theorem StrV.moved {w0 w1 W : World} {v : Value} {l : List (List UInt8)} {rb : Nat} (h : StrV w1 v l) (ho : OwnV w0 v) (hb : rb < w0.heap.size) (he : ∀ k, k < w1.heap.size → k ≠ rb → W.heap[k]? = w1.heap[k]?) : StrV W v l := by
 obtain ⟨p, n, rfl, hcell⟩ := h
 refine ⟨p, n, rfl, fun hl => ?_⟩
 obtain ⟨g, o, rfl, hx⟩ := hcell hl
 have hg : g ≠ rb := fun e => by have := ho g (by simp [Value.ownBlock]); omega
 have hlt : g < w1.heap.size := block_lt_of_cell (w := w1) (a := ⟨g, o + 0, none⟩) (hx 0 hl)
 exact ⟨g, o, rfl, fun j hj => by rw [World.cell?_of_block (w := w1) (a := ⟨g, o + j, none⟩) (he g hlt hg)]; exact hx j hj⟩
theorem PosV.moved {w0 w1 W : World} {v : Value} {l : List Po} {rb : Nat} (h : PosV w1 v l) (ho : OwnV w0 v) (hb : rb < w0.heap.size) (he : ∀ k, k < w1.heap.size → k ≠ rb → W.heap[k]? = w1.heap[k]?) : PosV W v l := by
 obtain ⟨p, n, rfl, hlc, hcell⟩ := h
 refine ⟨p, n, rfl, hlc, fun hl => ?_⟩
 obtain ⟨g, o, rfl, hx⟩ := hcell hl
 have hg : g ≠ rb := fun e => by have := ho g (by simp [Value.ownBlock]); omega
 have hlt : g < w1.heap.size := block_lt_of_cell (w := w1) (a := ⟨g, o + 0 * 2, none⟩) (hx 0 hl).1
 exact ⟨g, o, rfl, fun j hj => by rw [World.cell?_of_block (w := w1) (a := ⟨g, o + j * 2, none⟩) (he g hlt hg), World.cell?_of_block (w := w1) (a := ⟨g, o + j * 2 + 1, none⟩) (he g hlt hg)]; exact hx j hj⟩
def confG (n s : List UInt8) : Cf := { conf0 with us := [⟨n, s⟩] }
theorem seven_else (W : World) (b : Nat) (x0 x1 x2 x3 x4 x5 x6 : Value) (k : Nat) (hne : k ≠ b) : (((((((W.setCell ⟨b, 0, none⟩ x0).setCell ⟨b, 1, none⟩ x1).setCell ⟨b, 2, none⟩ x2).setCell ⟨b, 3, none⟩ x3).setCell ⟨b, 4, none⟩ x4).setCell ⟨b, 5, none⟩ x5).setCell ⟨b, 6, none⟩ x6).heap[k]? = W.heap[k]? := by
 rw [setCell_heap_other hne, setCell_heap_other hne, setCell_heap_other hne, setCell_heap_other hne, setCell_heap_other hne, setCell_heap_other hne, setCell_heap_other hne]
def RetGrd (w : World) (n s : List UInt8) (e : Ending) (w' : World) : Prop :=
 ∃ vt vp vu, e = .returned (confV (confG n s) vt vp vu (.slice none 0 0)) ∧ ConfAt w' (confG n s) vt vp vu (.slice none 0 0) ∧ (OwnV w vt ∧ OwnV w vp) ∧ OwnV w vu ∧ Below w.heap.size w w'
set_option maxRecDepth 100000 in
set_option maxHeartbeats 2000000 in
theorem guarded_any (n s : List UInt8) (w : World) : Calls Tryz.prog 24 #[.string (S n), .string (S s)] w (RetGrd w n s) := by
 obtain ⟨w0, hw0⟩ : ∃ x, w.alloc (.cells #[.slice none 0 0, .slice none 0 0, .slice none 0 0, .string (S []), .string (S []), .int .i64 0, .slice none 0 0] 29) = x := ⟨_, rfl⟩
 have b0 : Below w.heap.size w w0 := by rw [← hw0]; exact (Below.refl _ _).alloc (Nat.le_refl _) _
 have k0 : Blk w0 w.heap.size #[.slice none 0 0, .slice none 0 0, .slice none 0 0, .string (S []), .string (S []), .int .i64 0, .slice none 0 0] 29 := by rw [← hw0]; exact Blk.new w _ _
 obtain ⟨rb, hrb⟩ : ∃ x, w.heap.size = x := ⟨_, rfl⟩
 rw [hrb] at k0
 have hrb0 : rb < w0.heap.size := k0.lt
 have C := confO_any w0
 unfold confV at C
 replace C := Lib.hid C
 have HB0 := Lib.hid b0
 have HK0 := Lib.hid k0
 have HRB := Lib.hid hrb0
 clear b0 k0 hrb0
 go_enter Tryz.func24, Tryz.ntmps24
 go_wp2_with fail
 clear hw0
 refine C.out.mono ?_
 rintro e w1 ⟨vt, vp, rfl, hv, hO, hb1⟩
 obtain ⟨pt, ct, rfl, -⟩ := hv.ts
 obtain ⟨pp, cp, rfl, -⟩ := hv.ps
 obtain ⟨cb, hcb⟩ : ∃ x, w1.heap.size = x := ⟨_, rfl⟩
 obtain ⟨wz, hwz⟩ : ∃ x, w1.alloc (.cells #[.slice none 0 0, .slice none 0 0, .slice none 0 0, .string (S []), .string (S []), .int .i64 0, .slice none 0 0] 29) = x := ⟨_, rfl⟩
 have bz : Below w1.heap.size w1 wz := by rw [← hwz]; exact (Below.refl _ _).alloc (Nat.le_refl _) _
 have kz : Blk wz w1.heap.size #[.slice none 0 0, .slice none 0 0, .slice none 0 0, .string (S []), .string (S []), .int .i64 0, .slice none 0 0] 29 := by rw [← hwz]; exact Blk.new w1 _ _
 rw [hcb] at kz
 obtain ⟨y0, y1, y2, y3, y4, y5, y6⟩ := kz.seven
 have v0 := kz.frozen 0
 have v1 := kz.frozen 1
 have v2 := kz.frozen 2
 have v3 := kz.frozen 3
 have v4 := kz.frozen 4
 have v5 := kz.frozen 5
 have v6 := kz.frozen 6
 obtain ⟨w2, hw2⟩ : ∃ x, (((((((wz.setCell ⟨cb, 0, none⟩ (.slice pt conf0.ts.length ct)).setCell ⟨cb, 1, none⟩ (.slice pp conf0.ps.length cp)).setCell ⟨cb, 2, none⟩ (.slice none 0 0)).setCell ⟨cb, 3, none⟩ (.string (S conf0.sn))).setCell ⟨cb, 4, none⟩ (.string (S conf0.ss))).setCell ⟨cb, 5, none⟩ (.int .i64 conf0.lim)).setCell ⟨cb, 6, none⟩ (.slice none 0 0)) = x := ⟨_, rfl⟩
 have b2 : Below w1.heap.size w1 w2 := by rw [← hw2]; exact blk_seven kz (by omega) bz
 have k2 : Blk w2 cb #[.slice pt conf0.ts.length ct, .slice pp conf0.ps.length cp, .slice none 0 0, .string (S conf0.sn), .string (S conf0.ss), .int .i64 conf0.lim, .slice none 0 0] 29 := by
  rw [← hw2]
  exact ((((((kz.set 0 (.slice pt conf0.ts.length ct)).set 1 (.slice pp conf0.ps.length cp)).set 2 (.slice none 0 0)).set 3 (.string (S conf0.sn))).set 4 (.string (S conf0.ss))).set 5 (.int .i64 conf0.lim)).set 6 (.slice none 0 0)
 obtain ⟨w3, hw3⟩ : ∃ x, w2.alloc (.cells #[.string (S n), .string (S s)] 26) = x := ⟨_, rfl⟩
 have b3 : Below w2.heap.size w2 w3 := by rw [← hw3]; exact (Below.refl _ _).alloc (Nat.le_refl _) _
 have k3 : Blk w3 w2.heap.size #[.string (S n), .string (S s)] 26 := by rw [← hw3]; exact Blk.new w2 _ _
 obtain ⟨ub, hub⟩ : ∃ x, w2.heap.size = x := ⟨_, rfl⟩
 rw [hub] at k3
 have j2 := k2.later b3
 have hz : cb < ub := by rw [← hub]; exact k2.lt
 have hz0 : w0.heap.size ≤ cb := by rw [← hcb]; exact hb1.size
 obtain ⟨c0, c1, c2, c3, c4, c5, c6⟩ := j2.seven
 have fc2 := j2.frozen 2
 have hkr := (HK0.out.later hb1).later (below_then b2 b3)
 obtain ⟨r0, r1, r2, r3, r4, r5, r6⟩ := hkr.seven
 have f0 := hkr.frozen 0
 have f1 := hkr.frozen 1
 have f2 := hkr.frozen 2
 have f3 := hkr.frozen 3
 have f4 := hkr.frozen 4
 have f5 := hkr.frozen 5
 have f6 := hkr.frozen 6
 obtain ⟨w4, hw4⟩ : ∃ x, w3.setCell ⟨cb, 2, none⟩ (.slice (some ⟨ub, 0, none⟩) 1 1) = x := ⟨_, rfl⟩
 have k4 : Blk w4 cb #[.slice pt conf0.ts.length ct, .slice pp conf0.ps.length cp, .slice (some ⟨ub, 0, none⟩) 1 1, .string (S conf0.sn), .string (S conf0.ss), .int .i64 conf0.lim, .slice none 0 0] 29 := by rw [← hw4]; exact j2.set 2 _
 have e4 : ∀ k, k ≠ cb → w4.heap[k]? = w3.heap[k]? := fun k hk => by rw [← hw4]; exact setCell_heap_other hk _
 have hkr4 : Blk w4 rb #[.slice none 0 0, .slice none 0 0, .slice none 0 0, .string (S []), .string (S []), .int .i64 0, .slice none 0 0] 29 := (e4 rb (by have := HRB.out; omega)).trans hkr
 have k34 : Blk w4 ub #[.string (S n), .string (S s)] 26 := (e4 ub (by omega)).trans k3
 obtain ⟨w5, hw5⟩ : ∃ x, (((((((w4.setCell ⟨rb, 0, none⟩ (.slice pt conf0.ts.length ct)).setCell ⟨rb, 1, none⟩ (.slice pp conf0.ps.length cp)).setCell ⟨rb, 2, none⟩ (.slice (some ⟨ub, 0, none⟩) 1 1)).setCell ⟨rb, 3, none⟩ (.string (S conf0.sn))).setCell ⟨rb, 4, none⟩ (.string (S conf0.ss))).setCell ⟨rb, 5, none⟩ (.int .i64 conf0.lim)).setCell ⟨rb, 6, none⟩ (.slice none 0 0)) = x := ⟨_, rfl⟩
 have k5 : Blk w5 rb #[.slice pt conf0.ts.length ct, .slice pp conf0.ps.length cp, .slice (some ⟨ub, 0, none⟩) 1 1, .string (S conf0.sn), .string (S conf0.ss), .int .i64 conf0.lim, .slice none 0 0] 29 := by
  rw [← hw5]
  exact ((((((hkr4.set 0 (.slice pt conf0.ts.length ct)).set 1 (.slice pp conf0.ps.length cp)).set 2 (.slice (some ⟨ub, 0, none⟩) 1 1)).set 3 (.string (S conf0.sn))).set 4 (.string (S conf0.ss))).set 5 (.int .i64 conf0.lim)).set 6 (.slice none 0 0)
 have e5 : ∀ k, k ≠ rb → w5.heap[k]? = w4.heap[k]? := fun k hk => by rw [← hw5]; exact seven_else _ _ _ _ _ _ _ _ _ _ hk
 have hb4 : Below w.heap.size w w4 := by
  rw [← hw4]
  exact (below_then HB0.out (below_then hb1 (below_then b2 b3))).setCell (p := ⟨cb, 2, none⟩) (show w.heap.size ≤ cb by have := HB0.out.size; omega) _
 have hb5 : Below w.heap.size w w5 := by rw [← hw5]; exact blk_seven hkr4 (by omega) hb4
 have he : ∀ k, k < w1.heap.size → k ≠ rb → w5.heap[k]? = w1.heap[k]? := fun k hk hn => by
  rw [e5 k hn, e4 k (by omega)]
  exact (below_then b2 b3).block k hk
 have hres : RetGrd w n s (.returned (confV (confG n s) (.slice pt conf0.ts.length ct) (.slice pp conf0.ps.length cp) (.slice (some ⟨ub, 0, none⟩) 1 1) (.slice none 0 0))) w5 := by
  have hs := HB0.out.size
  have k5u : Blk w5 ub #[.string (S n), .string (S s)] 26 := (e5 ub (by have := HRB.out; omega)).trans k34
  refine ⟨_, _, _, rfl, ⟨hv.ts.moved hO.1 HRB.out he, hv.ps.moved hO.2 HRB.out he, ⟨_, _, rfl, Nat.le_refl _, fun _ => ⟨ub, 0, rfl, fun j hj => ?_⟩⟩, PrsV.nil _, hv.tc⟩, ⟨fun k hk => Nat.le_trans hs (hO.1 k hk), fun k hk => Nat.le_trans hs (hO.2 k hk)⟩, fun k hk => ?_, hb5⟩
  ·obtain rfl : j = 0 := by
    have : j < 1 := hj
    omega
   exact ⟨k5u.cell 0, k5u.cell 1⟩
  ·have e : ub = k := by simpa [Value.ownBlock] using hk
   omega
 obtain ⟨z0, z1, z2, z3, z4, z5, z6⟩ := k5.seven
 obtain ⟨d0, d1, d2, d3, d4, d5, d6⟩ := k4.seven
 obtain ⟨q0, q1, q2, q3, q4, q5, q6⟩ := hkr4.seven
 have g0 := hkr4.frozen 0
 have g1 := hkr4.frozen 1
 have g2 := hkr4.frozen 2
 have g3 := hkr4.frozen 3
 have g4 := hkr4.frozen 4
 have g5 := hkr4.frozen 5
 have g6 := hkr4.frozen 6
 have HRES := Lib.hid hres
 clear hv hO hb1 bz kz b2 k2 b3 k3 j2 hz hz0 hkr k4 e4 hkr4 k34 k5 e5 hb4 hb5 he hres C
 go_wp2_with fail
 refine bodyPost_ret (v := .agg #[.slice pt conf0.ts.length ct, .slice pp conf0.ps.length cp, .slice (some ⟨ub, 0, none⟩) 1 1, .string (S conf0.sn), .string (S conf0.ss), .int .i64 conf0.lim, .slice none 0 0]) (by simp [results, Tryz.results24, go_sem, z0, z1, z2, z3, z4, z5, z6]) rfl ?_
 exact HRES.out
end Go.Proofs.YtjbbbpgcegcbaaaGreatDoor
namespace Go.Proofs.YtjbbbpgcegcbaaaGreatDoor
open Go Go.RowKit
set_option linter.unusedVariables false
def NewE (w w' : World) (c : Cf) (d : Dw) (pv ev : Value) : Prop :=
 ((newL c d).1 = 0 ∧ ∃ lb m, pv = .pointer (some ⟨lb, 0, none⟩) ∧ ev = .nilIface ∧ LS w w' lb m c d (lq0 c) (lg0 c) ∧ (OwnV w m.mv ∧ OwnV w m.vt ∧ OwnV w m.vu)) ∨
 ((newL c d).1 ≠ 0 ∧ pv = .pointer none ∧ ∃ t x, ev = .iface t x)
theorem new_either (c : Cf) (d : Dw) (vt vp vu vo : Value) (w : World) (hv : ConfAt w c vt vp vu vo) (hf : FitCf c) (hE : EnvL w) :
  Calls Tryz.prog 25 #[confV c vt vp vu vo, .agg #[.int .i64 d.id, .string (S d.ch)]] w fun e w' => ∃ pv ev, e = .returned (.tuple #[pv, ev]) ∧ NewE w w' c d pv ev ∧ Below w.heap.size w w' := by
 refine (lnew_any c d vt vp vu vo w hv hf hE).mono ?_
 rintro e w' (⟨h0, lb, m, rfl, hL, ho, hb⟩ | ⟨h0, ev, rfl, he, hb⟩)
 ·exact ⟨_, _, rfl, .inl ⟨h0, lb, m, rfl, rfl, ⟨hb, hL, simQ_0 c, qOk_0 c⟩, ho⟩, hb⟩
 ·obtain ⟨t, x, rfl⟩ := he.iface h0
  exact ⟨_, _, rfl, .inr ⟨h0, rfl, t, x, rfl⟩, hb⟩
theorem confG_fit {n s : List UInt8} (hn : n.length ≤ 140737488351232) (hs : s.length ≤ 140737488351232) : FitCf (confG n s) :=
 ⟨conf0_fit.ts, conf0_fit.ps, (show WideU [⟨n, s⟩] from ⟨⟨by simp, fun u hu => by obtain rfl : u = ⟨n, s⟩ := List.mem_singleton.1 hu; exact ⟨by show n.length ≤ _; omega, by show s.length ≤ _; omega⟩⟩, by simp⟩), conf0_fit.sn, conf0_fit.ss, conf0_fit.lim, conf0_fit.own, conf0_fit.tb⟩
end Go.Proofs.YtjbbbpgcegcbaaaGreatDoor
namespace Go.Proofs.YtjbbbpgcegcbaaaGreatDoor
open Go.RowKit
set_option linter.unusedVariables false
theorem pdus_one {H : Nat → Prop} {w : World} {p : Pd} {vv va : Value} {t : TypeId} (hp : PduAt (offW H w) p vv va) (hn : ¬ H w.heap.size) :
  PdusV (offW H (w.alloc (.cells #[.int .i64 p.h.op, .bool p.h.now, .int .i64 p.h.fl, vv, va, .string (S p.d)] t))) (.slice (some ⟨w.heap.size, 0, none⟩) 1 1) [p] := by
 have hb : Below w.heap.size w (w.alloc (.cells #[.int .i64 p.h.op, .bool p.h.now, .int .i64 p.h.fl, vv, va, .string (S p.d)] t)) := (Below.refl _ _).alloc (Nat.le_refl _) _
 have hk := Blk.new w #[.int .i64 p.h.op, .bool p.h.now, .int .i64 p.h.fl, vv, va, .string (S p.d)] t
 have hP := hp.later (Keeps.of hb H).off'
 refine ⟨_, _, rfl, fun _ => ⟨w.heap.size, 0, rfl, fun j hj => ?_⟩⟩
 obtain rfl : j = 0 := by simp at hj; exact hj
 have e : ∀ i, (offW H (w.alloc (.cells #[.int .i64 p.h.op, .bool p.h.now, .int .i64 p.h.fl, vv, va, .string (S p.d)] t))).cell? ⟨w.heap.size, i, none⟩ = (w.alloc (.cells #[.int .i64 p.h.op, .bool p.h.now, .int .i64 p.h.fl, vv, va, .string (S p.d)] t)).cell? ⟨w.heap.size, i, none⟩ := fun i => off_to (a := ⟨w.heap.size, i, none⟩) hn
 exact ⟨vv, va, hP, by rw [e]; exact hk.cell 0, by rw [e]; exact hk.cell 1, by rw [e]; exact hk.cell 2, by rw [e]; exact hk.cell 3, by rw [e]; exact hk.cell 4, by rw [e]; exact hk.cell 5⟩
structure RowO (w W : World) (b : Nat) (l : List Pd) : Prop where
 ge : w.heap.size ≤ b
 at_ : ∀ j (hj : j < l.length), l[j].a = [] ∧ ∃ vv, Vals W vv l[j].h.vs ∧ OwnV w vv ∧
  W.cell? ⟨b, 0 + j * 6, none⟩ = some (.int .i64 l[j].h.op) ∧ W.cell? ⟨b, 0 + j * 6 + 1, none⟩ = some (.bool l[j].h.now) ∧ W.cell? ⟨b, 0 + j * 6 + 2, none⟩ = some (.int .i64 l[j].h.fl) ∧ W.cell? ⟨b, 0 + j * 6 + 3, none⟩ = some vv ∧ W.cell? ⟨b, 0 + j * 6 + 4, none⟩ = some (.slice none 0 0) ∧
  W.cell? ⟨b, 0 + j * 6 + 5, none⟩ = some (.string (S l[j].d))
theorem RowO.pdus {w W : World} {b : Nat} {l : List Pd} {H : Nat → Prop} (h : RowO w W b l) (hH : ∀ k, H k → k < w.heap.size) {n c : Nat} (hn : n ≤ l.length) : PdusV (offW H W) (.slice (some ⟨b, 0, none⟩) n c) (l.take n) := by
 have hl : (l.take n).length = n := by rw [List.length_take]; omega
 refine ⟨some ⟨b, 0, none⟩, c, by rw [hl], fun _ => ⟨b, 0, rfl, fun j hj => ?_⟩⟩
 have hj2 : j < l.length := by omega
 obtain ⟨e, vv, hv, ho, c0, c1, c2, c3, c4, c5⟩ := h.at_ j hj2
 have hg : (l.take n)[j] = l[j] := List.getElem_take
 have hnb : ¬ H b := fun hh => by have := hH b hh; have := h.ge; omega
 have cc : ∀ i v, W.cell? ⟨b, i, none⟩ = some v → (offW H W).cell? ⟨b, i, none⟩ = some v := fun i v hc => by rw [off_to (a := ⟨b, i, none⟩) hnb]; exact hc
 rw [hg]
 exact ⟨vv, .slice none 0 0, ⟨hv.offO ho hH, by rw [e]; exact AhsV.nil _⟩, cc _ _ c0, cc _ _ c1, cc _ _ c2, cc _ _ c3, cc _ _ c4, cc _ _ c5⟩
theorem row_four {w W : World} {b : Nat} {A B C D : Pd} {va vb vc vd : Value} {t : TypeId}
  (hk : Blk W b #[.int .i64 A.h.op, .bool A.h.now, .int .i64 A.h.fl, va, .slice none 0 0, .string (S A.d), .int .i64 B.h.op, .bool B.h.now, .int .i64 B.h.fl, vb, .slice none 0 0, .string (S B.d), .int .i64 C.h.op, .bool C.h.now, .int .i64 C.h.fl, vc, .slice none 0 0, .string (S C.d), .int .i64 D.h.op, .bool D.h.now, .int .i64 D.h.fl, vd, .slice none 0 0, .string (S D.d)] t)
  (hge : w.heap.size ≤ b) (hA : A.a = [] ∧ Vals W va A.h.vs ∧ OwnV w va) (hB : B.a = [] ∧ Vals W vb B.h.vs ∧ OwnV w vb) (hC : C.a = [] ∧ Vals W vc C.h.vs ∧ OwnV w vc) (hD : D.a = [] ∧ Vals W vd D.h.vs ∧ OwnV w vd) : RowO w W b [A, B, C, D] := by
 refine ⟨hge, fun j hj => ?_⟩
 have hj4 : j < 4 := hj
 rcases (by omega : j = 0 ∨ j = 1 ∨ j = 2 ∨ j = 3) with rfl | rfl | rfl | rfl
 ·exact ⟨hA.1, va, hA.2.1, hA.2.2, hk.cell 0, hk.cell 1, hk.cell 2, hk.cell 3, hk.cell 4, hk.cell 5⟩
 ·exact ⟨hB.1, vb, hB.2.1, hB.2.2, hk.cell 6, hk.cell 7, hk.cell 8, hk.cell 9, hk.cell 10, hk.cell 11⟩
 ·exact ⟨hC.1, vc, hC.2.1, hC.2.2, hk.cell 12, hk.cell 13, hk.cell 14, hk.cell 15, hk.cell 16, hk.cell 17⟩
 ·exact ⟨hD.1, vd, hD.2.1, hD.2.2, hk.cell 18, hk.cell 19, hk.cell 20, hk.cell 21, hk.cell 22, hk.cell 23⟩
end Go.Proofs.YtjbbbpgcegcbaaaGreatDoor
namespace Go.Proofs.YtjbbbpgcegcbaaaGreatDoor
open Go Go.RowKit
def reqA : Hd := reqH 0 0 0 9 0 5 1 77 0
def reqC : Hd := reqH 129 0 0 9 0 5 1 77 0
def reqE : Hd := reqH 135 0 0 9 0 5 1 77 0
def pMth : Pr := ⟨kAM, [78, 111, 110, 101, 44, 67, 72, 65, 80]⟩
def pAsk : Pr := ⟨kCA, [55, 44, 53]⟩
def lgA (n s : List UInt8) : Lg := ⟨(confG n s).own, [pIni, pSes], [], some reqA, true, 0, vCH, false, [], false, [], true, 1, 77, false, false⟩
def lgB (n s : List UInt8) : Lg := { lgA n s with ask := true, sta := 2 }
def chalP (d : Dw) : List Pr := [⟨kCA, [53]⟩, ⟨kCI, Lib.itoa d.id⟩, ⟨kCC, hexL d.ch⟩]
theorem step_a (n s : List UInt8) (d : Dw) : takeL (confG n s) d (lg0 (confG n s)) ⟨reqA, [], prBytes [pIni, pSes, pMth]⟩ =
  ((⟨ansH reqA 0 0 0 77 0 0, [], [65, 117, 116, 104, 77, 101, 116, 104, 111, 100, 61, 67, 72, 65, 80, 0]⟩, 0), lgA n s) := by kernel_rfl
theorem step_b (n s : List UInt8) (d : Dw) : takeL (confG n s) d (lgA n s) ⟨reqA, [], prBytes [pAsk]⟩ =
  ((⟨ansH reqA 0 0 1 77 0 0, [], (prPrint (chalP d)).1⟩, 0), lgB n s) := by kernel_rfl
def moreP : Option (List UInt8 × List UInt8) → List Pr
 | none => []
 | some (i, cc) => [⟨kCI, i⟩, ⟨kCC, cc⟩]
def proofP (u v : List UInt8) (o : Option (List UInt8 × List UInt8)) : List Pr := ⟨kCN, u⟩ :: ⟨kCR, v⟩ :: moreP o
def doneC (r : Option (List Pr) × Lg) : (Int × List Pr × Int) × Lg := match r with
 | (none, t) => ((0, [], 1), t)
 | (some x, t) => ((129, x, -1), { t with stg := 1, don := false })
theorem proof_ok {u v : List UInt8} {o : Option (List UInt8 × List UInt8)} (hu : isVal u = true) (hv : isVal v = true) (ho : ∀ p ∈ moreP o, isVal p.v = true) : okPs (proofP u v o) ∧ (proofP u v o).length ≤ 60 ∧ (prBytes (proofP u v o)).length ≤ 8192 := by
 have e0 : (prBytes ([] : List Pr)).length = 0 := rfl
 have l1 := valLen hu
 have l2 := valLen hv
 cases o with
 | none =>
  have b1 := bytes_len2 (k := kCR) (by decide) l2 []
  have b2 := bytes_len2 (k := kCN) (by decide) l1 [⟨kCR, v⟩]
  refine ⟨ok_cons (six_right (by decide) hu) (ok_cons (six_right (by decide) hv) ok_nil), by simp [proofP, moreP], ?_⟩
  show (prBytes [⟨kCN, u⟩, ⟨kCR, v⟩]).length ≤ 8192
  omega
 | some q =>
  obtain ⟨i, cc⟩ := q
  have h1 : isVal i = true := ho ⟨kCI, i⟩ (by simp [moreP])
  have h2 : isVal cc = true := ho ⟨kCC, cc⟩ (by simp [moreP])
  have l3 := valLen h1
  have l4 := valLen h2
  have b1 := bytes_len2 (k := kCC) (by decide) l4 []
  have b2 := bytes_len2 (k := kCI) (by decide) l3 [⟨kCC, cc⟩]
  have b3 := bytes_len2 (k := kCR) (by decide) l2 [⟨kCI, i⟩, ⟨kCC, cc⟩]
  have b4 := bytes_len2 (k := kCN) (by decide) l1 [⟨kCR, v⟩, ⟨kCI, i⟩, ⟨kCC, cc⟩]
  refine ⟨ok_cons (six_right (by decide) hu) (ok_cons (six_right (by decide) hv) (ok_cons (six_right (by decide) h1) (ok_cons (six_right (by decide) h2) ok_nil))), by simp [proofP, moreP], ?_⟩
  show (prBytes [⟨kCN, u⟩, ⟨kCR, v⟩, ⟨kCI, i⟩, ⟨kCC, cc⟩]).length ≤ 8192
  omega
theorem ans_none (mine rec : List Pr) (lg dc : Bool) : ansN mine rec [] lg dc = (([], 0, -1), rec) := rfl
theorem sec_c {c : Cf} {d : Dw} {s : Lg} {u v : List UInt8} {o : Option (List UInt8 × List UInt8)} (h0 : s.stg = 0) :
  secL c d (proofP u v o) s = (match secC c d (o.map (·.1)) (o.map (·.2)) (some u) (some v) s with
   | (none, t) => (([], 1), t)
   | (some x, t) => ((x, -1), t)) := by
 unfold secL
 have hb : secBad (decide (s.stg ≠ 0)) [] (proofP u v o) = false := by
  rw [show (decide (s.stg ≠ 0)) = false by rw [h0]; decide]
  cases o with
  | none => kernel_rfl
  | some q => obtain ⟨i, cc⟩ := q; kernel_rfl
 have e1 : prFind (proofP u v o) kAM = none := by cases o with
  | none => kernel_rfl
  | some q => obtain ⟨i, cc⟩ := q; kernel_rfl
 have e2 : prFind (proofP u v o) kCA = none := by cases o with
  | none => kernel_rfl
  | some q => obtain ⟨i, cc⟩ := q; kernel_rfl
 have e3 : prFind (proofP u v o) kCI = o.map (·.1) := by cases o with
  | none => kernel_rfl
  | some q => obtain ⟨i, cc⟩ := q; kernel_rfl
 have e4 : prFind (proofP u v o) kCC = o.map (·.2) := by cases o with
  | none => kernel_rfl
  | some q => obtain ⟨i, cc⟩ := q; kernel_rfl
 have e5 : prFind (proofP u v o) kCN = some u := by kernel_rfl
 have e6 : prFind (proofP u v o) kCR = some v := by kernel_rfl
 rw [hb, e1, e2, e3, e4, e5, e6, if_neg (by decide)]
 simp only [secA, secB]
 generalize secC c d (o.map (·.1)) (o.map (·.2)) (some u) (some v) s = r
 obtain ⟨x, t⟩ := r
 cases x with
 | none => rfl
 | some x => simp
theorem rest_none {u v : List UInt8} {o : Option (List UInt8 × List UInt8)} : restL (proofP u v o) = [] := by
 cases o with
 | none => kernel_rfl
 | some q => obtain ⟨i, cc⟩ := q; kernel_rfl
theorem asks_c {n s : List UInt8} {d : Dw} {u v : List UInt8} {o : Option (List UInt8 × List UInt8)} (hu : isVal u = true) (hv : isVal v = true) (ho : ∀ p ∈ moreP o, isVal p.v = true)
  (hk : ∀ x t, secC (confG n s) d (o.map (·.1)) (o.map (·.2)) (some u) (some v) (lgB n s) = (some x, t) → t.knw = true) :
  asksL (confG n s) d ⟨reqC, [], prBytes (proofP u v o)⟩ (lgB n s) = doneC (secC (confG n s) d (o.map (·.1)) (o.map (·.2)) (some u) (some v) (lgB n s)) := by
 obtain ⟨k1, k2, k3⟩ := proof_ok hu hv ho
 rw [asks_whole (by kernel_rfl) (by kernel_rfl) rfl k1 k2 k3]
 rw [show firstL (confG n s) reqC (lgB n s) = lgB n s from rfl, text_later rfl, sec_c rfl, rest_none]
 generalize secC (confG n s) d (o.map (·.1)) (o.map (·.2)) (some u) (some v) (lgB n s) = r at hk ⊢
 obtain ⟨x, t⟩ := r
 cases x with
 | none => rfl
 | some x =>
  have ht := hk x t rfl
  simp only
  rw [if_neg (by simp), ans_none]
  simp only
  rw [if_neg (by simp), List.append_nil]
  unfold doneL doneC
  simp only
  rw [if_neg (by simp), if_pos ⟨by kernel_rfl, ht⟩]
  rfl
theorem step_d {n s u : List UInt8} {d : Dw} (x : Lg) (hx : x = { lgB n s with knw := true, usr := u, stg := 1, sta := 3, don := false }) :
  takeL (confG n s) d x ⟨reqE, [], []⟩ = ((⟨ansH reqE 135 1 3 77 0 0, [], []⟩, 0), { x with sta := 4, stg := 3, don := true }) := by
 subst hx
 kernel_rfl
end Go.Proofs.YtjbbbpgcegcbaaaGreatDoor
namespace Go.Proofs.YtjbbbpgcegcbaaaGreatDoor
open Go Go.RowKit
set_option linter.unusedVariables false
theorem lit_buf {w W : World} (l : List Pr) (C : Array Value) (hC : (prsVs l).toArray = C) (hlow : Below w.heap.size w W) (hl : l.length ≤ 1000) : PrBuf w.heap.size (W.alloc (.cells C 60)) (.slice (some ⟨W.heap.size, 0, none⟩) l.length l.length) l := by
 subst hC
 exact PrBuf.lit (Blk.new W _ _) hlow.size hl
theorem prs_cells {W : World} {v : Value} {l : List Pr} (h : PrsV W v l) (h0 : 0 < l.length) : ∃ a c, v = .slice (some a) l.length c ∧ ∀ j u, (prsVs l)[j]? = some u → W.cell? (a.add j) = some u := by
 obtain ⟨p, c, rfl, hlc, hc⟩ := h
 obtain ⟨b, o, rfl, hcell⟩ := hc h0
 refine ⟨⟨b, o, none⟩, c, rfl, fun j u hu => ?_⟩
 have hlt : j < (prsVs l).length := by
  rcases Nat.lt_or_ge j (prsVs l).length with h | h
  ·exact h
  ·rw [List.getElem?_eq_none h] at hu; cases hu
 rw [prsVs_len] at hlt
 obtain ⟨i, q, rfl, hq⟩ : ∃ i q, j = i * 2 + q ∧ q < 2 := ⟨j / 2, j % 2, by omega, by omega⟩
 obtain ⟨g0, g1⟩ := prsVs_get l i (by omega)
 obtain ⟨c0, c1⟩ := hcell i (by omega)
 have e0 : (⟨b, o, none⟩ : Addr).add (i * 2 + q) = ⟨b, o + i * 2 + q, none⟩ := by rw [Addr.add_lit, Nat.add_assoc]
 rw [e0]
 have hq' : q = 0 ∨ q = 1 := by omega
 rcases hq' with rfl | rfl
 ·rw [Nat.add_zero] at hu ⊢
  rw [g0] at hu
  rw [c0]; exact hu
 ·rw [g1] at hu
  rw [c1]; exact hu
theorem src_prs {W : World} {v : Value} {l : List Pr} (h : PrsV W v l) : Src Tryz.prog 2 27 v l.length (prsVs l) W := by
 by_cases h0 : 0 < l.length
 ·obtain ⟨a, c, rfl, hcell⟩ := prs_cells h h0
  exact Src.ofSlice W Tryz.underlying27 a l.length c (prsVs l) (prsVs_len l) hcell (prsVs_one l)
 ·obtain rfl : l = [] := List.eq_nil_of_length_eq_zero (by omega)
  obtain ⟨p, c, rfl, _⟩ := h
  refine ⟨.inl ⟨_, Tryz.underlying27⟩, fun _ => rfl, ?_, ?_, rfl, fun _ h => by cases h⟩
  ·cases p with
   | none => exact run_firstCells_none W 2 0 0 c
   | some a => exact run_firstCells_some W 2 0 a 0 c [] rfl (fun j u hu => by simp at hu)
  ·cases p with
   | none => exact run_firstCells_none W.drew 2 0 0 c
   | some a => exact run_firstCells_some W.drew 2 0 a 0 c [] rfl (fun j u hu => by simp at hu)
theorem run_append_prs {W : World} {base : Nat} {v x : Value} {l m : List Pr} (h : PrBuf base W v l) (hx : PrsV W x m) (hl : l.length ≤ 100000) (hm : m.length ≤ 100000) (hb : base ≤ W.heap.size) :
  ∃ v' W', (Builtin.append_ #[27, 27] 27 #[v, x]).run Tryz.prog W = .ok v' W' ∧ PrBuf base W' v' (l ++ m) ∧ W.grownBy W' v.ownBlock := by
 obtain ⟨i0, hi, hz0, hz1, hz2⟩ := infoPr
 by_cases h0 : 0 < m.length
 ·obtain ⟨a, c, rfl, hcell⟩ := prs_cells hx h0
  obtain ⟨v5, w5, hrun, hown, hgrow, _⟩ := run_append_own (P := Tryz.prog) (w := W) base 27 27 60 i0 (.agg #[.string (S []), .string (S [])]) 2 32 Tryz.underlying27 hi hz0 hz1 hz2 rfl (by decide) v l.length (prsVs l) h a m.length c (prsVs m) (prsVs_len m) hcell (prsVs_one m) (by unfold maxLen; omega) (by omega) hb
  refine ⟨v5, w5, hrun, ?_, hgrow⟩
  unfold PrBuf
  rw [prsVs_app, List.length_append]
  exact hown
 ·obtain rfl : m = [] := List.eq_nil_of_length_eq_zero (by omega)
  have hsrc := src_prs hx
  refine ⟨v, W, ?_, by rw [List.append_nil]; exact h, ⟨rfl, rfl, rfl, Nat.le_refl _, fun _ _ _ => rfl⟩⟩
  have hcl : (Builtin.firstCells 2 0 x).run Tryz.prog W = .ok #[] W := hsrc.cells
  have hlx : ∀ w' : World, (Builtin.lenOf x).run Tryz.prog w' = .ok 0 w' := hsrc.len
  rcases h.2 with ⟨rfl, h0⟩ | ⟨g, cap, cur, rfl, hbg, hg, hnc, hcm, hcs, htake⟩
  ·simp [Builtin.append_, run_underlying Tryz.underlying27, sizeOf, typeInfo, hi, hz1, hlx, hcl]
  ·have hr := run_append_room_src (P := Tryz.prog) W 27 27 27 60 i0 Tryz.underlying27 hi g 0 l.length cap x 0 (prsVs []) (by rw [hz1]; exact hsrc) (by omega)
    (fun j hj => absurd hj (by simp [prsVs])) (fun j hj => absurd hj (by simp [prsVs]))
   rw [hr]
   simp [prsVs, World.setCells]
end Go.Proofs.YtjbbbpgcegcbaaaGreatDoor
