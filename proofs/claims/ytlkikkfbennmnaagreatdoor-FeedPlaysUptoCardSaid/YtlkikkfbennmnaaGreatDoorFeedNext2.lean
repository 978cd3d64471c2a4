/- feed.Next. -/
import Derived.Test.YtlkikkfbennmnaaGreatDoorFeedNext
namespace Go.Proofs.YtlkikkfbennmnaaGreatDoor
open Go.RowKit
set_option linter.unusedVariables false
theorem off_congr {H : Nat → Prop} {W W' : World} (hs : W'.heap.size = W.heap.size) {k : Nat} (h : W'.heap[k]? = W.heap[k]?) : (offW H W').heap[k]? = (offW H W).heap[k]? := by
  by_cases hH : H k
  · by_cases hk : k < W.heap.size
    · rw [off_in hH hk, off_in hH (by omega)]
    · rw [Array.getElem?_eq_none (by rw [off_size]; omega), Array.getElem?_eq_none (by rw [off_size]; omega)]
  · rw [off_out hH, off_out hH, h]
theorem next_end {w W : World} {B : Nat} {H H' : Nat → Prop} {fb rb : Nat} {F : Fe} {o0 o2 : Int} {o1 : Bool} {v3 v4 : Value} {o5 o6 : ByteArray} {t : TypeId} {p : Pd} {vv va : Value}
    (hF : FeedAt W B H' fb F) (hK : Keeps w.heap.size w W H H') (hR : Blk W rb #[.int .i64 o0, .bool o1, .int .i64 o2, v3, v4, .string o5, .string o6] t) (h3 : SlV v3) (h4 : SlV v4) (hrb : w.heap.size ≤ rb) (hH : ¬ H' rb) (hP : PduAt (offW H' W) p vv va) (x0 x1 x2 x3 x4 x5 x6 : Value) :
    PduAt (offW H' (set7 W rb x0 x1 x2 x3 x4 x5 x6)) p vv va ∧ FeedAt (set7 W rb x0 x1 x2 x3 x4 x5 x6) B H' fb F ∧ Keeps w.heap.size w (set7 W rb x0 x1 x2 x3 x4 x5 x6) H H' := by
  have hR' : Blk (offW H' W) rb #[.int .i64 o0, .bool o1, .int .i64 o2, v3, v4, .string o5, .string o6] t := (off_out hH).trans hR
  refine ⟨hP.apart7 hR' h3 h4 (fun k hk _ => off_congr (set7_size _ _ _ _ _ _ _) (set7_other hk _ _ _ _ _ _ _)), hF.kept (fun k hk => set7_other (fun e => hH (by rw [← e]; exact hk)) _ _ _ _ _ _ _) (by rw [set7_size]; exact Nat.le_refl _), ?_⟩
  exact hK.trans (Keeps.of (set7_below (Below.refl _ _) hrb _ _ _ _ _ _ _) H') (Nat.le_refl _)
theorem Keeps.blk {N : Nat} {w w' : World} {H H' : Nat → Prop} (h : Keeps N w w' H H') {b : Nat} {C : Array Value} {t : TypeId} (hb : Blk w b C t) (hN : b < N) (hH : ¬ H b) : Blk w' b C t ∧ ¬ H' b :=
  ⟨(h.block b hN hH).trans hb, fun hc => by rcases h.old b hc with hc | hc <;> first | exact hH hc | omega⟩
set_option maxRecDepth 100000 in
/-- a slice from k on -/
theorem run_slice_from (p : Option Addr) (n c k : Nat) (w : World) (hk : k ≤ n) : (Instr.slice 63 (.slice p n c) (some (.int .i64 (k : Int))) none none).run Tryz.prog w = .ok (.slice (if c = k then p else p.map (·.add k)) (n - k) (c - k)) w := by
  obtain ⟨i, hi, hz, hs, hb⟩ := info_parts info8w
  rw [run_slice_l w 63 p n c Tryz.underlying63 .i64 (k : Int) (by omega) (by omega)]
  simp [sizeOf, typeInfo, hi, hs, sliced, show Tryz.prog.elem 63 = 5 from rfl]
set_option maxRecDepth 100000 in
set_option maxHeartbeats 1000000 in
theorem fnext_any {w : World} {B : Nat} {H : Nat → Prop} {fb : Nat} {F : Fe} (hl : F.kept.length ≤ 140737488351232) (hc : MaxCell w) (hg : ErrCell w) (hF : FeedAt w B H fb F) :
    Calls Tryz.prog 24 #[.pointer (some ⟨fb, 0, none⟩)] w (RetNext w B H fb (nextF F)) := by
  have hb0 := (Below.refl w.heap.size w).alloc (Nat.le_refl _) (.cells #[.int .i64 0, .bool false, .int .i64 0, .slice none 0 0, .slice none 0 0, .string (S []), .string (S [])] 47)
  have hk0 := Blk.new w #[.int .i64 0, .bool false, .int .i64 0, .slice none 0 0, .slice none 0 0, .string (S []), .string (S [])] 47
  have hrH : ¬ H w.heap.size := fun hh => by have := (hF.base _ hh).2; omega
  have hw0 : w.heap.size < (w.alloc (.cells #[.int .i64 0, .bool false, .int .i64 0, .slice none 0 0, .slice none 0 0, .string (S []), .string (S [])] 47)).heap.size := by simp
  have F1 := Lib.hid (ffirst_any hl (hF.later hb0))
  have hok := hF.ok
  have HF0 := Lib.hid (hF.later hb0)
  have HK0 := Lib.hid hk0
  have Hb0 := Lib.hid hb0
  have HrH := Lib.hid hrH
  have Hw0 := Lib.hid hw0
  have Hc := Lib.hid hc
  have Hg := Lib.hid hg
  by_cases c1 : (firstF F).2 = 0
  · by_cases c2 : (firstF F).1 = []
    · have e1 : nextF F = ((pc0, false, 0), F) := by unfold nextF; rw [if_neg (by simpa using c1), if_pos c2]
      rw [e1]
      rw [c1, c2] at F1
      clear e1 c1 c2 hb0 hk0 hrH hw0 hF hok hl hc hg
      go_enter Tryz.func24, Tryz.ntmps24
      go_wp2_with fail
      refine F1.out.mono ?_
      rintro e w1 ⟨ev, rfl, hE, hb1⟩
      obtain rfl := hE.zero
      have HK1 := Lib.hid (HK0.out.later hb1)
      have HF1 := Lib.hid (HF0.out.later hb1)
      have Hb1 := Lib.hid (below_then Hb0.out hb1)
      obtain ⟨p0, p1, p2, p3, p4, p5, p6⟩ := HK1.out.seven
      have f0 := HK1.out.frozen 0
      have f1 := HK1.out.frozen 1
      have f2 := HK1.out.frozen 2
      have f3 := HK1.out.frozen 3
      have f4 := HK1.out.frozen 4
      have f5 := HK1.out.frozen 5
      have f6 := HK1.out.frozen 6
      clear hE hb1 HK0 HF0 Hb0 F1
      go_wp2_with fail
      have hend := next_end (p := pd0) (vv := .slice none 0 0) (va := .slice none 0 0) HF1.out (Keeps.of Hb1.out H) HK1.out nilSl nilSl (Nat.le_refl _) HrH.out (pdu0_at _) (.int .i64 0) (.bool false) (.int .i64 0) (.slice none 0 0) (.slice none 0 0) (.string (S [])) (.string (S []))
      refine bodyPost_ret (v := .tuple #[pcV pc0 (.slice none 0 0) (.slice none 0 0), .bool false, .nilIface]) (by simp [results, Tryz.results24, go_sem, pcV, pc0, pd0, hd0, p0, p1, p2, p3, p4, p5, p6]) rfl ⟨_, _, _, H, rfl, hend.1, .inl ⟨rfl, rfl⟩, hend.2.1, hend.2.2⟩
    · -- its bytes are there
      have hfirst : ∃ z, firstF F = (F.kept.take z, 0) ∧ z = ea F.kept F.mode ∧ 48 ≤ z ∧ z ≤ F.kept.length := by
        have L := ends_le F.kept F.mode
        unfold firstF at c1 c2 ⊢
        by_cases h1 : F.kept.length < 48
        · rw [if_pos h1] at c2; exact absurd rfl c2
        rw [if_neg h1] at c1 c2 ⊢
        by_cases h2 : F.lim < readD F.kept
        · rw [if_pos h2] at c1; exact absurd c1 (by decide)
        rw [if_neg h2] at c1 c2 ⊢
        by_cases h3 : F.kept.length < ea F.kept F.mode
        · rw [if_pos h3] at c2; exact absurd rfl c2
        rw [if_neg h3]
        exact ⟨_, rfl, rfl, by omega, by omega⟩
      obtain ⟨z, hz, hze, hz48, hzl⟩ := hfirst
      have hlen : (F.kept.take z).length = z := by rw [List.length_take]; omega
      have hN : nextF F = if (pieceF (F.kept.take z) F.mode).2 ≠ 0 then ((pc0, false, (pieceF (F.kept.take z) F.mode).2), stopF F) else (((pieceF (F.kept.take z) F.mode).1, true, 0), { F with kept := F.kept.drop z }) := by
        unfold nextF
        rw [if_neg (by simpa using c1), if_neg c2, hz]
        simp only [hlen]
      rw [hN]
      rw [hz] at F1
      have PP := fun w hc hg => Lib.hid (piece_any (F.kept.take z) F.mode w hok.mode (by omega) (by omega) hc hg)
      have hne : F.kept.take z ≠ [] := fun e => by rw [e] at hlen; simp at hlen; omega
      have hSne : ((F.kept.take z).isEmpty) = false := by cases h : F.kept.take z with
        | nil => exact absurd h hne
        | cons => rfl
      obtain ⟨s, hs⟩ : ∃ s, F.kept.take z = s := ⟨_, rfl⟩
      rw [hs] at F1 PP hlen hSne hne ⊢
      obtain ⟨⟨q, er⟩, hq⟩ : ∃ r, pieceF s F.mode = r := ⟨_, rfl⟩
      rw [hq] at PP ⊢
      simp only at PP ⊢
      obtain ⟨X, hX⟩ : ∃ X, (if er ≠ 0 then ((pc0, false, er), stopF F) else ((q, true, 0), ({ F with kept := F.kept.drop z } : Fe))) = X := ⟨_, rfl⟩
      rw [hX]
      have HX := Lib.hid hX
      clear hX
      have hlenI : (s.length : Int) = (z : Int) := by omega
      have Hne := Lib.hid hne
      clear hN c1 c2 hb0 hk0 hrH hw0 hc hg hz hze hs hq hne
      obtain ⟨kv, t, hk, hv⟩ := hF.at_
      obtain ⟨pk, ck, rfl, hlc⟩ := hv.form
      have HF := Lib.hid hF
      have HKF := Lib.hid hk
      have HV := Lib.hid hv
      clear hF hk hv hl
      go_enter Tryz.func24, Tryz.ntmps24
      go_wp2_with fail
      refine F1.out.mono ?_
      rintro e w1 ⟨ev, rfl, hE, hb1⟩
      obtain rfl := hE.zero
      have HK1 := Lib.hid (HK0.out.later hb1)
      have HF1 := Lib.hid (HF0.out.later hb1)
      have Hb1 := Lib.hid (below_then Hb0.out hb1)
      have Hw1 := Lib.hid (Nat.lt_of_lt_of_le Hw0.out hb1.size)
      obtain ⟨q0, q1, q2, q3⟩ := (HKF.out.later Hb1.out).four
      have P1 := PP w1 (Hc.out.later Hb1.out) (Hg.out.later Hb1.out)
      clear hE hb1 HK0 HF0 Hb0 F1 PP
      go_wp2_with fail
      refine P1.out.mono ?_
      rintro e w2 ⟨vv, va, ev, rfl, hP, hE, hb2⟩
      obtain ⟨⟨pv, nv, cv, rfl⟩, ⟨pa, na, ca, rfl⟩⟩ := hP.sl
      have hbn := (Below.refl w2.heap.size w2).alloc (Nat.le_refl _) (.cells #[.int .i64 q.p.h.op, .bool q.p.h.now, .int .i64 q.p.h.fl, .slice pv nv cv, .slice pa na ca, .string (S q.p.d), .string (S q.sp)] 47)
      have HKn := Lib.hid (Blk.new w2 #[.int .i64 q.p.h.op, .bool q.p.h.now, .int .i64 q.p.h.fl, .slice pv nv cv, .slice pa na ca, .string (S q.p.d), .string (S q.sp)] 47)
      have HK2 := Lib.hid (HK1.out.later (below_then hb2 hbn))
      have HF2 := Lib.hid (HF1.out.later (below_then hb2 hbn))
      have Hb2 := Lib.hid (below_then Hb1.out (below_then hb2 hbn))
      have hw2 : w.heap.size < w2.heap.size := Nat.lt_of_lt_of_le Hw1.out hb2.size
      have HP := Lib.hid (show PduAt _ q.p (.slice pv nv cv) (.slice pa na ca) from hP.later hbn)
      have HKF2 := Lib.hid (HKF.out.later Hb2.out)
      have HE := Lib.hid (show Bare1 ev er from hE)
      have Hw2 := Lib.hid hw2
      clear hE hb2 hP hbn HK1 HF1 Hb1 P1 q0 q1 q2 q3 Hw1 hw2
      unfold pcV
      simp only
      by_cases h0 : er = 0
      · subst h0
        obtain rfl := HE.out.zero
        have hXX := HX.out
        rw [if_neg (by decide)] at hXX
        subst hXX
        have hsl := run_slice_from pk F.kept.length ck z
        have hck : (z : Int) ≤ (F.kept.length : Int) := by omega
        have hvd := HV.out.dropS z (by omega)
        obtain ⟨pd, nd, cd, hvv⟩ : ∃ p n c, Value.slice (if ck = z then pk else pk.map (·.add z)) (F.kept.length - z) (ck - z) = .slice p n c := ⟨_, _, _, rfl⟩
        have hsl2 := fun w => hsl w (by omega)
        simp only [hvv] at hsl2 hvd
        have hne2 : w2.heap.size ≠ fb := by have := (HF2.out.base fb HF2.out.own).2; have := (HF.out.base fb HF.out.own).2; have := Hw2.out; omega
        have hne3 : w.heap.size ≠ fb := by have := (HF.out.base fb HF.out.own).2; omega
        generalize hW : w2.alloc (.cells #[.int .i64 q.p.h.op, .bool q.p.h.now, .int .i64 q.p.h.fl, .slice pv nv cv, .slice pa na ca, .string (S q.p.d), .string (S q.sp)] 47) = W2 at *
        have hS : FeedAt (W2.setCell ⟨fb, 2, none⟩ (.slice pd nd cd)) B H fb { F with kept := F.kept.drop z } :=
          HF2.out.set (F' := { F with kept := F.kept.drop z }) ⟨hok.lim, hok.mode⟩ _ (hvd.kept (fun k hk _ _ => (Hb2.out.block k (HF.out.base k hk).2)) (fun _ h => h)) _ (HKF2.out.set 2 _) (by simp [World.setCell]) (fun k hk => setCell_heap_other hk _)
        have hK3 : Keeps w.heap.size w (W2.setCell ⟨fb, 2, none⟩ (.slice pd nd cd)) H H := (Keeps.of Hb2.out H).trans (Keeps.cell HF2.out.own 2 _) (Nat.le_refl _)
        have hR3 := HK2.out.other hne3 (i := 2) (.slice pd nd cd)
        have hQ3 := HKn.out.other hne2 (i := 2) (.slice pd nd cd)
        have hP3 : PduAt (offW H (W2.setCell ⟨fb, 2, none⟩ (.slice pd nd cd))) q.p (.slice pv nv cv) (.slice pa na ca) := by
          have h1 := HP.out.offF HF2.out
          have e : offW H (W2.setCell ⟨fb, 2, none⟩ (.slice pd nd cd)) = offW H W2 ∨ True := .inr trivial
          have hb : Below (offW H W2).heap.size (offW H W2) (offW H (W2.setCell ⟨fb, 2, none⟩ (.slice pd nd cd))) := (Keeps.cell (N := W2.heap.size) HF2.out.own 2 (.slice pd nd cd)).off'
          exact h1.later hb
        obtain ⟨q0, q1, q2, q3⟩ := HKF2.out.four
        have g2 := HKF2.out.frozen 2
        have HS := Lib.hid hS
        have HK3 := Lib.hid hK3
        have HR3 := Lib.hid hR3
        have HQ3 := Lib.hid hQ3
        have HP3 := Lib.hid hP3
        obtain ⟨p0, p1, p2, p3, p4, p5, p6⟩ := hR3.seven
        obtain ⟨r0, r1, r2, r3, r4, r5, r6⟩ := hQ3.seven
        have f0 := hR3.frozen 0
        have f1 := hR3.frozen 1
        have f2 := hR3.frozen 2
        have f3 := hR3.frozen 3
        have f4 := hR3.frozen 4
        have f5 := hR3.frozen 5
        have f6 := hR3.frozen 6
        have Hvv := Lib.hid hvv
        clear hS hK3 hR3 hQ3 hP3 hvv hvd hsl hlc hok
        go_wp2_with fail
        have hend := next_end (p := q.p) HS.out HK3.out HR3.out nilSl nilSl (Nat.le_refl _) HrH.out HP3.out (.int .i64 q.p.h.op) (.bool q.p.h.now) (.int .i64 q.p.h.fl) (.slice pv nv cv) (.slice pa na ca) (.string (S q.p.d)) (.string (S q.sp))
        refine bodyPost_ret (v := .tuple #[pcV q (.slice pv nv cv) (.slice pa na ca), .bool true, .nilIface]) (by simp [results, Tryz.results24, go_sem, pcV, p0, p1, p2, p3, p4, p5, p6]) rfl ⟨_, _, _, H, rfl, hend.1, .inl ⟨rfl, rfl⟩, hend.2.1, hend.2.2⟩
      · obtain rfl := HE.out.iface h0
        have hXX := HX.out
        rw [if_pos h0] at hXX
        subst hXX
        have ST := Lib.hid (stop_any HE.out HF2.out)
        have hlt2 : w.heap.size < (w2.alloc (.cells #[.int .i64 q.p.h.op, .bool q.p.h.now, .int .i64 q.p.h.fl, .slice pv nv cv, .slice pa na ca, .string (S q.p.d), .string (S q.sp)] 47)).heap.size := by have := Hw2.out; simp; omega
        have Hlt2 := Lib.hid hlt2
        clear h0 hlc hok hlt2 hlenI hlen hSne
        go_wp2_with fail
        refine ST.out.mono ?_
        rintro e w3 ⟨vv, va, ev3, H3, rfl, hP3, hE3, hF3, hK3⟩
        obtain ⟨⟨pv3, nv3, cv3, rfl⟩, ⟨pa3, na3, ca3, rfl⟩⟩ := hP3.sl
        obtain ⟨hR3, hH3⟩ := hK3.blk HK2.out Hlt2.out HrH.out
        have hshape : ev3 = .nilIface ∨ ∃ t x, ev3 = .iface t x := (hE3.is w).shape
        have HE3 := Lib.hid hE3
        have HF3 := Lib.hid hF3
        have HP3 := Lib.hid hP3
        have HR3 := Lib.hid hR3
        have HH3 := Lib.hid hH3
        have HK3 := Lib.hid ((Keeps.of Hb2.out H).trans hK3 (by simp; have := Hw2.out; omega))
        obtain ⟨p0, p1, p2, p3, p4, p5, p6⟩ := hR3.seven
        have f0 := hR3.frozen 0
        have f1 := hR3.frozen 1
        have f2 := hR3.frozen 2
        have f3 := hR3.frozen 3
        have f4 := hR3.frozen 4
        have f5 := hR3.frozen 5
        have f6 := hR3.frozen 6
        unfold pcV
        simp only
        clear hE3 hF3 hP3 hR3 hH3 hK3 ST
        go_wp2_with fail
        have hend := next_end (p := pd0) HF3.out HK3.out HR3.out nilSl nilSl (Nat.le_refl _) HH3.out HP3.out (.int .i64 pc0.p.h.op) (.bool pc0.p.h.now) (.int .i64 pc0.p.h.fl) (.slice pv3 nv3 cv3) (.slice pa3 na3 ca3) (.string (S pc0.p.d)) (.string (S pc0.sp))
        refine bodyPost_ret (v := .tuple #[pcV pc0 (.slice pv3 nv3 cv3) (.slice pa3 na3 ca3), .bool false, ev3]) (by simp [results, Tryz.results24, go_sem, pcV, p0, p1, p2, p3, p4, p5, p6]) rfl ⟨_, _, _, H3, rfl, hend.1, HE3.out, hend.2.1, hend.2.2⟩
  · have e1 : nextF F = ((pc0, false, (firstF F).2), stopF F) := by unfold nextF; rw [if_pos c1]
    rw [e1]
    obtain ⟨⟨s, er⟩, hr⟩ : ∃ r, firstF F = r := ⟨_, rfl⟩
    rw [hr] at F1 c1 ⊢
    simp only at F1 c1 ⊢
    have HE0 := Lib.hid c1
    clear e1 c1 hb0 hk0 hrH hw0 hF hok hl hc hg hr
    go_enter Tryz.func24, Tryz.ntmps24
    go_wp2_with fail
    refine F1.out.mono ?_
    rintro e w1 ⟨ev, rfl, hE, hb1⟩
    have HK1 := Lib.hid (HK0.out.later hb1)
    have ST := Lib.hid (stop_any hE (HF0.out.later hb1))
    have Hb1 := Lib.hid (below_then Hb0.out hb1)
    have Hw1 := Lib.hid (Nat.lt_of_lt_of_le Hw0.out hb1.size)
    obtain rfl := hE.iface HE0.out
    clear hE hb1 HK0 HF0 Hb0 F1
    go_wp2_with fail
    refine ST.out.mono ?_
    rintro e w3 ⟨vv, va, ev3, H3, rfl, hP3, hE3, hF3, hK3⟩
    obtain ⟨⟨pv3, nv3, cv3, rfl⟩, ⟨pa3, na3, ca3, rfl⟩⟩ := hP3.sl
    obtain ⟨hR3, hH3⟩ := hK3.blk HK1.out Hw1.out HrH.out
    have hshape : ev3 = .nilIface ∨ ∃ t x, ev3 = .iface t x := (hE3.is w).shape
    have HE3 := Lib.hid hE3
    have HF3 := Lib.hid hF3
    have HP3 := Lib.hid hP3
    have HR3 := Lib.hid hR3
    have HH3 := Lib.hid hH3
    have HK3 := Lib.hid ((Keeps.of Hb1.out H).trans hK3 (Nat.le_of_lt Hw1.out))
    obtain ⟨p0, p1, p2, p3, p4, p5, p6⟩ := hR3.seven
    have f0 := hR3.frozen 0
    have f1 := hR3.frozen 1
    have f2 := hR3.frozen 2
    have f3 := hR3.frozen 3
    have f4 := hR3.frozen 4
    have f5 := hR3.frozen 5
    have f6 := hR3.frozen 6
    unfold pcV
    simp only
    clear hE3 hF3 hP3 hR3 hH3 hK3 ST
    go_wp2_with fail
    have hend := next_end (p := pd0) HF3.out HK3.out HR3.out nilSl nilSl (Nat.le_refl _) HH3.out HP3.out (.int .i64 pc0.p.h.op) (.bool pc0.p.h.now) (.int .i64 pc0.p.h.fl) (.slice pv3 nv3 cv3) (.slice pa3 na3 ca3) (.string (S pc0.p.d)) (.string (S pc0.sp))
    refine bodyPost_ret (v := .tuple #[pcV pc0 (.slice pv3 nv3 cv3) (.slice pa3 na3 ca3), .bool false, ev3]) (by simp [results, Tryz.results24, go_sem, pcV, p0, p1, p2, p3, p4, p5, p6]) rfl ⟨_, _, _, H3, rfl, hend.1, HE3.out, hend.2.1, hend.2.2⟩
end Go.Proofs.YtlkikkfbennmnaaGreatDoor
