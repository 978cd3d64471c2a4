/- LA40: several texts in one. -/
import Derived.Deep.RegionHeld3
import Derived.Test.YtjbbbpgcegcbaaaGreatDoorLA09
import Derived.Test.YtjbbbpgcegcbaaaGreatDoorLA10
import Derived.Test.YtjbbbpgcegcbaaaGreatDoorLA20
import Derived.Test.YtjbbbpgcegcbaaaGreatDoorLA30
import Derived.Test.YtjbbbpgcegcbaaaGreatDoorLA34
import Derived.Test.YtjbbbpgcegcbaaaGreatDoorLA36
import Derived.Test.YtjbbbpgcegcbaaaGreatDoorLA39
namespace Go.Proofs.YtjbbbpgcegcbaaaGreatDoor
open Go Go.RowKit
set_option linter.unusedVariables false
def askNames : List (List UInt8) := [[73, 83, 73, 68], [73, 84, 84], [67, 73, 68], [67, 109, 100, 83, 78]]
def asksR (fl : Int) (l : List Pr) : Pd × Bool := (⟨(makeR 3 fl askNames [9, 5, 1, 77]).1, [], (prPrint l).1⟩, decide ((makeR 3 fl askNames [9, 5, 1, 77]).2.1 = 0) && decide ((prPrint l).2.1 = 0))
def RetAsks (w : World) (r : Pd × Bool) (e : Ending) (w' : World) : Prop := ∃ vv, e = .returned (.tuple #[pduV r.1 vv (.slice none 0 0), .bool r.2]) ∧ Vals w' vv r.1.h.vs ∧ OwnV w vv ∧ Below w.heap.size w w'
set_option maxRecDepth 100000 in
set_option maxHeartbeats 4000000 in
theorem asks_any (fl : Int) (l : List Pr) (v : Value) (w : World) (hfl : I64 fl) (hv : PrsV w v l) (hf : fitPs l) (hm : MaxCell w) :
  Calls Tryz.prog 38 #[.int .i64 fl, v] w (RetAsks w (asksR fl l)) := by
 obtain ⟨w0, hw0⟩ : ∃ w0, w.alloc (.cells #[.int .i64 0, .bool false, .int .i64 0, .slice none 0 0, .slice none 0 0, .string (S [])] 41) = w0 := ⟨_, rfl⟩
 have b0 : Below w.heap.size w w0 := by rw [← hw0]; exact (Below.refl _ _).alloc (Nat.le_refl _) _
 have k0 : Blk w0 w.heap.size #[.int .i64 0, .bool false, .int .i64 0, .slice none 0 0, .slice none 0 0, .string (S [])] 41 := by rw [← hw0]; exact Blk.new w _ _
 obtain ⟨w1, hw1⟩ : ∃ w1, w0.alloc (.cells #[.string (S [73, 83, 73, 68]), .string (S [73, 84, 84]), .string (S [67, 73, 68]), .string (S [67, 109, 100, 83, 78])] 9) = w1 := ⟨_, rfl⟩
 have b1 : Below w0.heap.size w0 w1 := by rw [← hw1]; exact (Below.refl _ _).alloc (Nat.le_refl _) _
 have k1 : Blk w1 w0.heap.size #[.string (S [73, 83, 73, 68]), .string (S [73, 84, 84]), .string (S [67, 73, 68]), .string (S [67, 109, 100, 83, 78])] 9 := by rw [← hw1]; exact Blk.new w0 _ _
 obtain ⟨w2, hw2⟩ : ∃ w2, w1.alloc (.cells #[.int .u64 9, .int .u64 5, .int .u64 1, .int .u64 77] 77) = w2 := ⟨_, rfl⟩
 have b2 : Below w1.heap.size w1 w2 := by rw [← hw2]; exact (Below.refl _ _).alloc (Nat.le_refl _) _
 have k2 : Blk w2 w1.heap.size #[.int .u64 9, .int .u64 5, .int .u64 1, .int .u64 77] 77 := by rw [← hw2]; exact Blk.new w1 _ _
 have b01 := below_then b0 b1
 have b02 := below_then b01 b2
 have hN : StrV w2 (.slice (some ⟨w0.heap.size, 0, none⟩) 4 4) askNames := strs_row (l := askNames) (k1.later b2)
 have hV : Vals w2 (.slice (some ⟨w1.heap.size, 0, none⟩) 4 4) [9, 5, 1, 77] := vals_row (l := [9, 5, 1, 77]) k2 (by decide)
 have MK := makeO_any 3 fl askNames [9, 5, 1, 77] _ _ w2 hfl (hm.later b02) hN hV (by decide) (by decide)
 have j0 := k0.later (below_then b1 b2)
 have hrl := k0.lt
 obtain ⟨rb, hrb⟩ : ∃ rb, w.heap.size = rb := ⟨_, rfl⟩
 obtain ⟨sb, hsb⟩ : ∃ sb, w0.heap.size = sb := ⟨_, rfl⟩
 obtain ⟨vb, hvb⟩ : ∃ vb, w1.heap.size = vb := ⟨_, rfl⟩
 rw [hrb] at j0
 rw [hsb, hvb] at MK
 have hr2 : rb < w2.heap.size := j0.lt
 have hwr : w.heap.size ≤ rb := by omega
 obtain ⟨R, hR⟩ : ∃ R, asksR fl l = R := ⟨_, rfl⟩
 rw [hR]
 unfold asksR at hR
 obtain ⟨⟨hh, e1, p1⟩, hmk⟩ : ∃ r, makeR 3 fl askNames [9, 5, 1, 77] = r := ⟨_, rfl⟩
 have PR := fun W hb => print_prs l v W (hv.later hb) hf
 obtain ⟨⟨tx, e2, p2⟩, hpr⟩ : ∃ r, prPrint l = r := ⟨_, rfl⟩
 rw [hmk] at hR MK
 rw [hpr] at hR PR
 simp only at hR
 have MK := Lib.hid MK
 have PR := Lib.hid PR
 have HR := Lib.hid hR
 have J0 := Lib.hid j0
 have B2 := Lib.hid b02
 have Hr2 := Lib.hid hr2
 have Hwr := Lib.hid hwr
 clear hfl hv hf hm b0 b1 b2 b01 b02 k0 k1 k2 hN hV j0 hr2 hwr hrl hR hmk hpr
 go_enter Tryz.func38, Tryz.ntmps38
 go_wp2_with fail
 try simp only [hw1, hw2]
 clear hw0 hw1 hw2
 refine MK.out.mono ?_
 rintro e w3 ⟨vh, ev, rfl, ⟨hvh, hown⟩, herr, hb3⟩
 obtain ⟨ph, ch, rfl⟩ : ∃ p c, vh = .slice p hh.vs.length c := by obtain ⟨p, c, h, _⟩ := hvh; exact ⟨p, c, h⟩
 obtain ⟨hb, hhb⟩ : ∃ hb, w3.heap.size = hb := ⟨_, rfl⟩
 obtain ⟨w4, hw4⟩ : ∃ w4, w3.alloc (.cells #[.int .i64 0, .bool false, .int .i64 0, .slice none 0 0] 38) = w4 := ⟨_, rfl⟩
 have k4 : Blk w4 hb #[.int .i64 0, .bool false, .int .i64 0, .slice none 0 0] 38 := by rw [← hw4, ← hhb]; exact Blk.new w3 _ _
 have b4 : Below w3.heap.size w3 w4 := by rw [← hw4]; exact (Below.refl _ _).alloc (Nat.le_refl _) _
 obtain ⟨w5, hw5⟩ : ∃ w5, (((w4.setCell ⟨hb, 0, none⟩ (.int .i64 hh.op)).setCell ⟨hb, 1, none⟩ (.bool hh.now)).setCell ⟨hb, 2, none⟩ (.int .i64 hh.fl)).setCell ⟨hb, 3, none⟩ (.slice ph hh.vs.length ch) = w5 := ⟨_, rfl⟩
 obtain ⟨k5, b5⟩ := four_stored (.int .i64 hh.op) (.bool hh.now) (.int .i64 hh.fl) (.slice ph hh.vs.length ch) k4 (by omega : w3.heap.size ≤ hb) b4
 rw [hw5] at k5 b5
 obtain ⟨g0, g1, g2, g3⟩ := k4.four
 have f0 := k4.frozen 0
 have f1 := k4.frozen 1
 have f2 := k4.frozen 2
 have f3 := k4.frozen 3
 have b35 := below_then hb3 b5
 have J5 := Lib.hid (J0.out.later b35)
 have B5 := Lib.hid (below_then B2.out b35)
 have HVH := Lib.hid (hvh.later b5)
 have HO := Lib.hid hown
 have He := Lib.hid (herr.later b5)
 have K5 := Lib.hid k5
 have PR5 := Lib.hid (PR.out _ B5.out)
 clear hb3 hvh hown herr b4 b5 k4 k5 b35 MK PR J0
 unfold headV
 simp only
 go_wp2_with fail
 clear hw4 hw5 g0 g1 g2 g3 f0 f1 f2 f3
 refine PR5.out.mono ?_
 rintro e w6 ⟨er, rfl, her, hb6⟩
 have J6 := Lib.hid (J5.out.later hb6)
 have B6 := Lib.hid (below_then B5.out hb6)
 have HV6 := Lib.hid (HVH.out.later hb6)
 have He6 := Lib.hid (He.out.later hb6)
 have K6 := Lib.hid (K5.out.later hb6)
 clear hb6 J5 HVH He K5 PR5
 go_wp2_with fail
 have hr := HR.out
 by_cases h1 : e1 = 0
 ·subst h1
  obtain rfl := He6.out.zero
  by_cases h2 : e2 = 0
  ·subst h2
   obtain rfl := her.zero
   rw [show (decide ((0 : Int) = 0) && decide ((0 : Int) = 0)) = true by decide] at hr
   refine wp_region_held (S := (fun w' => w'.cell? ⟨hb, 0, none⟩ = some (.int .i64 hh.op) ∧ w'.cell? ⟨hb, 1, none⟩ = some (.bool hh.now) ∧ w'.cell? ⟨hb, 2, none⟩ = some (.int .i64 hh.fl) ∧ w'.cell? ⟨hb, 3, none⟩ = some (.slice ph hh.vs.length ch))) (by kernel_rfl) ?_
   have e7 : Below w6.heap.size w6 { w6 with drawn := w6.drawn + 1 } := (Below.refl _ _).drew
   generalize ({ w6 with drawn := w6.drawn + 1 } : World) = w7 at e7 ⊢
   have K7 := K6.out.later e7
   have J7 := J6.out.later e7
   have hS := K7.four
   refine takeN (.agg #[.int .i64 hh.op, .bool hh.now, .int .i64 hh.fl, .slice ph hh.vs.length ch]) (some 22) (i := 0) rfl rfl (by kernel_rfl) (by kernel_rfl) (by kernel_rfl) (fun _ _ _ h => h) (Or.inl ⟨by rfl, fun w' hw' => ?_⟩) hS ?_
   ·obtain ⟨x0, x1, x2, x3⟩ := hw'
    go_simp
   simp only [Act.put, iA, iB, iC]
   refine takeN (.string (S tx)) (some 23) (i := 1) rfl rfl (by kernel_rfl) (by kernel_rfl) (by kernel_rfl) (fun _ _ _ h => h) (Or.inl ⟨by rfl, fun w' hw' => ?_⟩) hS ?_
   ·obtain ⟨x0, x1, x2, x3⟩ := hw'
    go_simp
   simp only [Act.put, iA, iB, iC]
   refine takeN (.agg #[.int .i64 hh.op, .bool hh.now, .int .i64 hh.fl, .slice ph hh.vs.length ch, .slice none 0 0, .string (S tx)]) (some 24) (i := 2) rfl rfl (by kernel_rfl) (by kernel_rfl) (by kernel_rfl) (fun _ _ _ h => h) (Or.inl ⟨by rfl, fun w' hw' => ?_⟩) hS ?_
   ·obtain ⟨x0, x1, x2, x3⟩ := hw'
    go_simp
   simp only [Act.put, iA, iB, iC]
   refine takeN (.nilIface) (some 25) (i := 3) rfl rfl (by kernel_rfl) (by kernel_rfl) (by kernel_rfl) (fun _ _ _ h => h) (Or.inl ⟨by rfl, fun w' hw' => ?_⟩) hS ?_
   ·obtain ⟨x0, x1, x2, x3⟩ := hw'
    go_simp
   simp only [Act.put, iA, iB, iC]
   refine takeN (.bool true) (some 26) (i := 4) rfl rfl (by kernel_rfl) (by kernel_rfl) (by kernel_rfl) (fun _ _ _ h => h) (Or.inl ⟨by rfl, fun w' hw' => ?_⟩) hS ?_
   ·obtain ⟨x0, x1, x2, x3⟩ := hw'
    go_simp
   simp only [Act.put, iA, iB, iC]
   refine takeN (.bool true) (some 27) (i := 5) rfl rfl (by kernel_rfl) (by kernel_rfl) (by kernel_rfl) (fun _ _ _ h => h) (Or.inl ⟨by rfl, fun w' hw' => ?_⟩) hS ?_
   ·obtain ⟨x0, x1, x2, x3⟩ := hw'
    go_simp
   simp only [Act.put, iA, iB, iC]
   refine takeN (.nilIface) (some 28) (i := 6) rfl rfl (by kernel_rfl) (by kernel_rfl) (by kernel_rfl) (fun _ _ _ h => h) (Or.inl ⟨by rfl, fun w' hw' => ?_⟩) hS ?_
   ·obtain ⟨x0, x1, x2, x3⟩ := hw'
    go_simp
   simp only [Act.put, iA, iB, iC]
   refine takeN (.bool true) (some 29) (i := 7) rfl rfl (by kernel_rfl) (by kernel_rfl) (by kernel_rfl) (fun _ _ _ h => h) (Or.inl ⟨by rfl, fun w' hw' => ?_⟩) hS ?_
   ·obtain ⟨x0, x1, x2, x3⟩ := hw'
    go_simp
   simp only [Act.put, iA, iB, iC]
   refine takeN (.bool true) (some 30) (i := 8) rfl rfl (by kernel_rfl) (by kernel_rfl) (by kernel_rfl) (fun _ _ _ h => h) (Or.inl ⟨by rfl, fun w' hw' => ?_⟩) hS ?_
   ·obtain ⟨x0, x1, x2, x3⟩ := hw'
    go_simp
   simp only [Act.put, iA, iB, iC]
   refine wpAnyH_all (rs := [9]) (by kernel_rfl) (by simp) (fun i hi => ?_)
   obtain rfl : i = 9 := by simpa using hi
   have hB8 := J7.whole (D := #[.int .i64 hh.op, .bool hh.now, .int .i64 hh.fl, .slice ph hh.vs.length ch, .slice none 0 0, .string (S tx)]) rfl
   have hg8 := setCells_grownB rb (#[.int .i64 hh.op, .bool hh.now, .int .i64 hh.fl, .slice ph hh.vs.length ch, .slice none 0 0, .string (S tx)] : Array Value).toList 0 w7
   have hSR := J7.there
   obtain ⟨w8, hw8⟩ : ∃ w8, w7.setCells rb 0 (#[.int .i64 hh.op, .bool hh.now, .int .i64 hh.fl, .slice ph hh.vs.length ch, .slice none 0 0, .string (S tx)] : Array Value).toList = w8 := ⟨_, rfl⟩
   rw [hw8] at hB8 hg8
   have hne : hb ≠ rb := fun e => by
    have h1 := K7
    rw [e] at h1
    have h2 := h1.symm.trans J7
    have h3 : (38 : TypeId) = 41 := congrArg (fun (o : Option Obj) => match o with | some (.cells _ t _) => t | _ => 0) h2
    exact absurd h3 (by decide)
   have K8 : Blk w8 hb #[.int .i64 hh.op, .bool hh.now, .int .i64 hh.fl, .slice ph hh.vs.length ch] 38 := (hg8.block hb K7.lt (fun e => hne (Option.some.inj e))).trans K7
   have hSU := K8.four
   have hv8 := (HV6.out.later e7).laid HO.out Hr2.out hg8
   have b8 : Below w.heap.size w w8 := Below.grown (below_then B6.out e7) hg8 (below_then B6.out e7).size (fun k hk => by cases hk; exact Hwr.out)
   refine wantN (i := 9) rfl (by rfl) (storeN none rfl _ _ _ rfl rb 0 #[.int .i64 hh.op, .bool hh.now, .int .i64 hh.fl, .slice ph hh.vs.length ch, .slice none 0 0, .string (S tx)] rfl rfl hSR (by kernel_rfl) (by simp [Value.oneCell']) ?_)
   rw [hw8]
   refine ⟨hSU, ?_⟩
   simp only [Act.put]
   refine takeN (.bool true) (some 5) (i := 10) rfl rfl (by kernel_rfl) (by kernel_rfl) (by kernel_rfl) (fun _ _ _ h => h) (Or.inl ⟨by rfl, fun w' hw' => ?_⟩) hSU ?_
   ·obtain ⟨x0, x1, x2, x3⟩ := hw'
    go_simp
   simp only [Act.put, iA, iB, iC]
   refine wpAnyH_done (by kernel_rfl) ?_ _
   obtain ⟨s0, s1, s2, s3, s4, s5⟩ := hB8.six
   go_wp2_with fail
   refine bodyPost_ret (v := .tuple #[.agg #[.int .i64 hh.op, .bool hh.now, .int .i64 hh.fl, .slice ph hh.vs.length ch, .slice none 0 0, .string (S tx)], .bool true]) (by simp [results, Tryz.results38, go_sem, s0, s1, s2, s3, s4, s5]) rfl ?_
   subst hr
   exact ⟨_, rfl, hv8, fun k hk => Nat.le_trans B2.out.size (HO.out k hk), b8⟩
  ·obtain ⟨ty, xv, rfl⟩ := her.iface h2
   rw [show (decide ((0 : Int) = 0) && decide (e2 = 0)) = false by simp [h2]] at hr
   refine wp_region_held (S := (fun w' => w'.cell? ⟨hb, 0, none⟩ = some (.int .i64 hh.op) ∧ w'.cell? ⟨hb, 1, none⟩ = some (.bool hh.now) ∧ w'.cell? ⟨hb, 2, none⟩ = some (.int .i64 hh.fl) ∧ w'.cell? ⟨hb, 3, none⟩ = some (.slice ph hh.vs.length ch))) (by kernel_rfl) ?_
   have e7 : Below w6.heap.size w6 { w6 with drawn := w6.drawn + 1 } := (Below.refl _ _).drew
   generalize ({ w6 with drawn := w6.drawn + 1 } : World) = w7 at e7 ⊢
   have K7 := K6.out.later e7
   have J7 := J6.out.later e7
   have hS := K7.four
   refine takeN (.agg #[.int .i64 hh.op, .bool hh.now, .int .i64 hh.fl, .slice ph hh.vs.length ch]) (some 22) (i := 0) rfl rfl (by kernel_rfl) (by kernel_rfl) (by kernel_rfl) (fun _ _ _ h => h) (Or.inl ⟨by rfl, fun w' hw' => ?_⟩) hS ?_
   ·obtain ⟨x0, x1, x2, x3⟩ := hw'
    go_simp
   simp only [Act.put, iA, iB, iC]
   refine takeN (.string (S tx)) (some 23) (i := 1) rfl rfl (by kernel_rfl) (by kernel_rfl) (by kernel_rfl) (fun _ _ _ h => h) (Or.inl ⟨by rfl, fun w' hw' => ?_⟩) hS ?_
   ·obtain ⟨x0, x1, x2, x3⟩ := hw'
    go_simp
   simp only [Act.put, iA, iB, iC]
   refine takeN (.agg #[.int .i64 hh.op, .bool hh.now, .int .i64 hh.fl, .slice ph hh.vs.length ch, .slice none 0 0, .string (S tx)]) (some 24) (i := 2) rfl rfl (by kernel_rfl) (by kernel_rfl) (by kernel_rfl) (fun _ _ _ h => h) (Or.inl ⟨by rfl, fun w' hw' => ?_⟩) hS ?_
   ·obtain ⟨x0, x1, x2, x3⟩ := hw'
    go_simp
   simp only [Act.put, iA, iB, iC]
   refine takeN (.nilIface) (some 25) (i := 3) rfl rfl (by kernel_rfl) (by kernel_rfl) (by kernel_rfl) (fun _ _ _ h => h) (Or.inl ⟨by rfl, fun w' hw' => ?_⟩) hS ?_
   ·obtain ⟨x0, x1, x2, x3⟩ := hw'
    go_simp
   simp only [Act.put, iA, iB, iC]
   refine takeN (.bool true) (some 26) (i := 4) rfl rfl (by kernel_rfl) (by kernel_rfl) (by kernel_rfl) (fun _ _ _ h => h) (Or.inl ⟨by rfl, fun w' hw' => ?_⟩) hS ?_
   ·obtain ⟨x0, x1, x2, x3⟩ := hw'
    go_simp
   simp only [Act.put, iA, iB, iC]
   refine takeN (.bool true) (some 27) (i := 5) rfl rfl (by kernel_rfl) (by kernel_rfl) (by kernel_rfl) (fun _ _ _ h => h) (Or.inl ⟨by rfl, fun w' hw' => ?_⟩) hS ?_
   ·obtain ⟨x0, x1, x2, x3⟩ := hw'
    go_simp
   simp only [Act.put, iA, iB, iC]
   refine takeN (.iface ty xv) (some 28) (i := 6) rfl rfl (by kernel_rfl) (by kernel_rfl) (by kernel_rfl) (fun _ _ _ h => h) (Or.inl ⟨by rfl, fun w' hw' => ?_⟩) hS ?_
   ·obtain ⟨x0, x1, x2, x3⟩ := hw'
    go_simp
   simp only [Act.put, iA, iB, iC]
   refine takeN (.bool false) (some 29) (i := 7) rfl rfl (by kernel_rfl) (by kernel_rfl) (by kernel_rfl) (fun _ _ _ h => h) (Or.inl ⟨by rfl, fun w' hw' => ?_⟩) hS ?_
   ·obtain ⟨x0, x1, x2, x3⟩ := hw'
    go_simp
   simp only [Act.put, iA, iB, iC]
   refine takeN (.bool false) (some 30) (i := 8) rfl rfl (by kernel_rfl) (by kernel_rfl) (by kernel_rfl) (fun _ _ _ h => h) (Or.inl ⟨by rfl, fun w' hw' => ?_⟩) hS ?_
   ·obtain ⟨x0, x1, x2, x3⟩ := hw'
    go_simp
   simp only [Act.put, iA, iB, iC]
   refine wpAnyH_all (rs := [9]) (by kernel_rfl) (by simp) (fun i hi => ?_)
   obtain rfl : i = 9 := by simpa using hi
   have hB8 := J7.whole (D := #[.int .i64 hh.op, .bool hh.now, .int .i64 hh.fl, .slice ph hh.vs.length ch, .slice none 0 0, .string (S tx)]) rfl
   have hg8 := setCells_grownB rb (#[.int .i64 hh.op, .bool hh.now, .int .i64 hh.fl, .slice ph hh.vs.length ch, .slice none 0 0, .string (S tx)] : Array Value).toList 0 w7
   have hSR := J7.there
   obtain ⟨w8, hw8⟩ : ∃ w8, w7.setCells rb 0 (#[.int .i64 hh.op, .bool hh.now, .int .i64 hh.fl, .slice ph hh.vs.length ch, .slice none 0 0, .string (S tx)] : Array Value).toList = w8 := ⟨_, rfl⟩
   rw [hw8] at hB8 hg8
   have hne : hb ≠ rb := fun e => by
    have h1 := K7
    rw [e] at h1
    have h2 := h1.symm.trans J7
    have h3 : (38 : TypeId) = 41 := congrArg (fun (o : Option Obj) => match o with | some (.cells _ t _) => t | _ => 0) h2
    exact absurd h3 (by decide)
   have K8 : Blk w8 hb #[.int .i64 hh.op, .bool hh.now, .int .i64 hh.fl, .slice ph hh.vs.length ch] 38 := (hg8.block hb K7.lt (fun e => hne (Option.some.inj e))).trans K7
   have hSU := K8.four
   have hv8 := (HV6.out.later e7).laid HO.out Hr2.out hg8
   have b8 : Below w.heap.size w w8 := Below.grown (below_then B6.out e7) hg8 (below_then B6.out e7).size (fun k hk => by cases hk; exact Hwr.out)
   refine wantN (i := 9) rfl (by rfl) (storeN none rfl _ _ _ rfl rb 0 #[.int .i64 hh.op, .bool hh.now, .int .i64 hh.fl, .slice ph hh.vs.length ch, .slice none 0 0, .string (S tx)] rfl rfl hSR (by kernel_rfl) (by simp [Value.oneCell']) ?_)
   rw [hw8]
   refine ⟨hSU, ?_⟩
   simp only [Act.put]
   refine takeN (.bool false) (some 5) (i := 10) rfl rfl (by kernel_rfl) (by kernel_rfl) (by kernel_rfl) (fun _ _ _ h => h) (Or.inl ⟨by rfl, fun w' hw' => ?_⟩) hSU ?_
   ·obtain ⟨x0, x1, x2, x3⟩ := hw'
    go_simp
   simp only [Act.put, iA, iB, iC]
   refine wpAnyH_done (by kernel_rfl) ?_ _
   obtain ⟨s0, s1, s2, s3, s4, s5⟩ := hB8.six
   go_wp2_with fail
   refine bodyPost_ret (v := .tuple #[.agg #[.int .i64 hh.op, .bool hh.now, .int .i64 hh.fl, .slice ph hh.vs.length ch, .slice none 0 0, .string (S tx)], .bool false]) (by simp [results, Tryz.results38, go_sem, s0, s1, s2, s3, s4, s5]) rfl ?_
   subst hr
   exact ⟨_, rfl, hv8, fun k hk => Nat.le_trans B2.out.size (HO.out k hk), b8⟩
 ·obtain ⟨ty, xv, rfl⟩ := He6.out.iface h1
  rw [show (decide (e1 = 0) && decide (e2 = 0)) = false by simp [h1]] at hr
  refine wp_region_held (S := (fun w' => w'.cell? ⟨hb, 0, none⟩ = some (.int .i64 hh.op) ∧ w'.cell? ⟨hb, 1, none⟩ = some (.bool hh.now) ∧ w'.cell? ⟨hb, 2, none⟩ = some (.int .i64 hh.fl) ∧ w'.cell? ⟨hb, 3, none⟩ = some (.slice ph hh.vs.length ch))) (by kernel_rfl) ?_
  have e7 : Below w6.heap.size w6 { w6 with drawn := w6.drawn + 1 } := (Below.refl _ _).drew
  generalize ({ w6 with drawn := w6.drawn + 1 } : World) = w7 at e7 ⊢
  have K7 := K6.out.later e7
  have J7 := J6.out.later e7
  have hS := K7.four
  refine takeN (.agg #[.int .i64 hh.op, .bool hh.now, .int .i64 hh.fl, .slice ph hh.vs.length ch]) (some 22) (i := 0) rfl rfl (by kernel_rfl) (by kernel_rfl) (by kernel_rfl) (fun _ _ _ h => h) (Or.inl ⟨by rfl, fun w' hw' => ?_⟩) hS ?_
  ·obtain ⟨x0, x1, x2, x3⟩ := hw'
   go_simp
  simp only [Act.put, iA, iB, iC]
  refine takeN (.string (S tx)) (some 23) (i := 1) rfl rfl (by kernel_rfl) (by kernel_rfl) (by kernel_rfl) (fun _ _ _ h => h) (Or.inl ⟨by rfl, fun w' hw' => ?_⟩) hS ?_
  ·obtain ⟨x0, x1, x2, x3⟩ := hw'
   go_simp
  simp only [Act.put, iA, iB, iC]
  refine takeN (.agg #[.int .i64 hh.op, .bool hh.now, .int .i64 hh.fl, .slice ph hh.vs.length ch, .slice none 0 0, .string (S tx)]) (some 24) (i := 2) rfl rfl (by kernel_rfl) (by kernel_rfl) (by kernel_rfl) (fun _ _ _ h => h) (Or.inl ⟨by rfl, fun w' hw' => ?_⟩) hS ?_
  ·obtain ⟨x0, x1, x2, x3⟩ := hw'
   go_simp
  simp only [Act.put, iA, iB, iC]
  refine takeN (.iface ty xv) (some 25) (i := 3) rfl rfl (by kernel_rfl) (by kernel_rfl) (by kernel_rfl) (fun _ _ _ h => h) (Or.inl ⟨by rfl, fun w' hw' => ?_⟩) hS ?_
  ·obtain ⟨x0, x1, x2, x3⟩ := hw'
   go_simp
  simp only [Act.put, iA, iB, iC]
  refine takeN (.bool false) (some 26) (i := 4) rfl rfl (by kernel_rfl) (by kernel_rfl) (by kernel_rfl) (fun _ _ _ h => h) (Or.inl ⟨by rfl, fun w' hw' => ?_⟩) hS ?_
  ·obtain ⟨x0, x1, x2, x3⟩ := hw'
   go_simp
  simp only [Act.put, iA, iB, iC]
  refine takeN (.bool false) (some 27) (i := 5) rfl rfl (by kernel_rfl) (by kernel_rfl) (by kernel_rfl) (fun _ _ _ h => h) (Or.inl ⟨by rfl, fun w' hw' => ?_⟩) hS ?_
  ·obtain ⟨x0, x1, x2, x3⟩ := hw'
   go_simp
  simp only [Act.put, iA, iB, iC]
  refine takeN undef (some 28) (i := 6) rfl rfl (by kernel_rfl) (by kernel_rfl) (by kernel_rfl) (fun _ _ _ h => h) (Or.inr ⟨by rfl, rfl⟩) hS ?_
  simp only [Act.put, iA, iB, iC]
  refine takeN undef (some 29) (i := 7) rfl rfl (by kernel_rfl) (by kernel_rfl) (by kernel_rfl) (fun _ _ _ h => h) (Or.inr ⟨by rfl, rfl⟩) hS ?_
  simp only [Act.put, iA, iB, iC]
  refine takeN (.bool false) (some 30) (i := 8) rfl rfl (by kernel_rfl) (by kernel_rfl) (by kernel_rfl) (fun _ _ _ h => h) (Or.inl ⟨by rfl, fun w' hw' => ?_⟩) hS ?_
  ·obtain ⟨x0, x1, x2, x3⟩ := hw'
   go_simp
  simp only [Act.put, iA, iB, iC]
  refine wpAnyH_all (rs := [9]) (by kernel_rfl) (by simp) (fun i hi => ?_)
  obtain rfl : i = 9 := by simpa using hi
  have hB8 := J7.whole (D := #[.int .i64 hh.op, .bool hh.now, .int .i64 hh.fl, .slice ph hh.vs.length ch, .slice none 0 0, .string (S tx)]) rfl
  have hg8 := setCells_grownB rb (#[.int .i64 hh.op, .bool hh.now, .int .i64 hh.fl, .slice ph hh.vs.length ch, .slice none 0 0, .string (S tx)] : Array Value).toList 0 w7
  have hSR := J7.there
  obtain ⟨w8, hw8⟩ : ∃ w8, w7.setCells rb 0 (#[.int .i64 hh.op, .bool hh.now, .int .i64 hh.fl, .slice ph hh.vs.length ch, .slice none 0 0, .string (S tx)] : Array Value).toList = w8 := ⟨_, rfl⟩
  rw [hw8] at hB8 hg8
  have hne : hb ≠ rb := fun e => by
   have h1 := K7
   rw [e] at h1
   have h2 := h1.symm.trans J7
   have h3 : (38 : TypeId) = 41 := congrArg (fun (o : Option Obj) => match o with | some (.cells _ t _) => t | _ => 0) h2
   exact absurd h3 (by decide)
  have K8 : Blk w8 hb #[.int .i64 hh.op, .bool hh.now, .int .i64 hh.fl, .slice ph hh.vs.length ch] 38 := (hg8.block hb K7.lt (fun e => hne (Option.some.inj e))).trans K7
  have hSU := K8.four
  have hv8 := (HV6.out.later e7).laid HO.out Hr2.out hg8
  have b8 : Below w.heap.size w w8 := Below.grown (below_then B6.out e7) hg8 (below_then B6.out e7).size (fun k hk => by cases hk; exact Hwr.out)
  refine wantN (i := 9) rfl (by rfl) (storeN none rfl _ _ _ rfl rb 0 #[.int .i64 hh.op, .bool hh.now, .int .i64 hh.fl, .slice ph hh.vs.length ch, .slice none 0 0, .string (S tx)] rfl rfl hSR (by kernel_rfl) (by simp [Value.oneCell']) ?_)
  rw [hw8]
  refine ⟨hSU, ?_⟩
  simp only [Act.put]
  refine takeN (.bool false) (some 5) (i := 10) rfl rfl (by kernel_rfl) (by kernel_rfl) (by kernel_rfl) (fun _ _ _ h => h) (Or.inl ⟨by rfl, fun w' hw' => ?_⟩) hSU ?_
  ·obtain ⟨x0, x1, x2, x3⟩ := hw'
   go_simp
  simp only [Act.put, iA, iB, iC]
  refine wpAnyH_done (by kernel_rfl) ?_ _
  obtain ⟨s0, s1, s2, s3, s4, s5⟩ := hB8.six
  go_wp2_with fail
  refine bodyPost_ret (v := .tuple #[.agg #[.int .i64 hh.op, .bool hh.now, .int .i64 hh.fl, .slice ph hh.vs.length ch, .slice none 0 0, .string (S tx)], .bool false]) (by simp [results, Tryz.results38, go_sem, s0, s1, s2, s3, s4, s5]) rfl ?_
  subst hr
  exact ⟨_, rfl, hv8, fun k hk => Nat.le_trans B2.out.size (HO.out k hk), b8⟩
end Go.Proofs.YtjbbbpgcegcbaaaGreatDoor
namespace Go.Proofs.YtjbbbpgcegcbaaaGreatDoor
open Go.RowKit
set_option linter.unusedVariables false
def reqH (fl : Int) (a b i t k c m e : Nat) : Hd := ⟨3, false, fl, [a, b, i, t, k, c, m, e]⟩
theorem req_right {fl : Int} {b i t k c m : Nat} (hfl : flOk fl 207 = true) (hb : b < 256) (hi : i < 281474976710656) (ht : t < 65536) (hk : k < 4294967296) (hc : c < 65536) (hm : m < 4294967296) : rightR (reqH fl 0 b i t k c m 0) = (0, -1) := by
 refine rightR_mk kind3 (fun h => by cases h) hfl rfl ?_
 have d1 : b / 2 ^ (8 * 1) = 0 := Nat.div_eq_of_lt (by omega)
 have d2 : i / 2 ^ (8 * 6) = 0 := Nat.div_eq_of_lt (by omega)
 have d3 : t / 2 ^ (8 * 2) = 0 := Nat.div_eq_of_lt (by omega)
 have d4 : k / 2 ^ (8 * 4) = 0 := Nat.div_eq_of_lt (by omega)
 have d5 : c / 2 ^ (8 * 2) = 0 := Nat.div_eq_of_lt (by omega)
 have d6 : m / 2 ^ (8 * 4) = 0 := Nat.div_eq_of_lt (by omega)
 unfold kd3 reqH
 simp only [badVal]
 rw [d1, d2, d3, d4, d5, d6]
 simp
theorem make_req {fl : Int} {ns : List (List UInt8)} {vs : List Nat} {b i t k c m : Nat} (hfl : flOk fl 207 = true) (hb : b < 256) (hi : i < 281474976710656) (ht : t < 65536) (hk : k < 4294967296) (hc : c < 65536) (hm : m < 4294967296)
  (hf : fill kd3.fs ns vs (List.replicate kd3.fs.length 0) = ([0, b, i, t, k, c, m, 0], 0)) : makeR 3 fl ns vs = (reqH fl 0 b i t k c m 0, 0, -1) := by
 have hr := req_right hfl hb hi ht hk hc hm
 unfold makeR
 rw [kind3]
 simp only
 rw [hf]
 simp only
 rw [if_neg (by simp)]
 unfold reqH at hr ⊢
 rw [hr]
 simp
theorem fill_asks : fill kd3.fs askNames [9, 5, 1, 77] (List.replicate kd3.fs.length 0) = ([0, 0, 9, 0, 5, 1, 77, 0], 0) := by kernel_rfl
theorem asks_req {fl : Int} {l : List Pr} (hfl : flOk fl 207 = true) (hl : okPs l) (h60 : l.length ≤ 60) : asksR fl l = (⟨reqH fl 0 0 9 0 5 1 77 0, [], prBytes l⟩, true) := by
 have hm := make_req (b := 0) (i := 9) (t := 0) (k := 5) (c := 1) (m := 77) hfl (by decide) (by decide) (by decide) (by decide) (by decide) (by decide) fill_asks
 have hp : prPrint l = (prBytes l, 0, -1) := by
  unfold prPrint
  rw [prRight_ok hl h60]
  rfl
 unfold asksR
 rw [hm, hp]
 rfl
theorem req_take {c : Cf} {d : Dw} {s : Lg} {h : Hd} {x : List UInt8} (hr : rightR h = (0, -1)) (ho : h.op = 3) (hx : x.length ≤ 100000) (hd : s.don = false) (hf : s.fld = false) :
  takeL c d s ⟨h, [], x⟩ = (((replyL ⟨h, [], x⟩ (asksL c d ⟨h, [], x⟩ s)).1, 0), (replyL ⟨h, [], x⟩ (asksL c d ⟨h, [], x⟩ s)).2) := by
 refine takeL_go (by rw [hd, hf]; decide) ho ?_
 unfold rightP
 rw [hr, if_neg (by decide), show (rightA ([] : List Ah)).1 = 0 from rfl, if_neg (by decide), if_neg (by simp only; omega)]
def doneL (h : Hd) (t : (List Pr × Int) × Lg) : (Int × List Pr × Int) × Lg :=
 if t.1.2 ≠ -1 then ((0, [], t.1.2), t.2)
 else if tB h = true ∧ t.2.knw = true then ((128 + 4 * csgI h + nsgI h, t.1.1, -1), { t.2 with stg := nsgI h, don := decide (nsgI h = 3) })
 else ((4 * csgI h, t.1.1, -1), t.2)
theorem asks_whole {c : Cf} {d : Dw} {s : Lg} {h : Hd} {l : List Pr} (hh : headL (decide (c.us ≠ [])) s h = -1) (hc : cB h = false) (hs : s.came = []) (hl : okPs l) (h60 : l.length ≤ 60) (hx : (prBytes l).length ≤ 8192) :
  asksL c d ⟨h, [], prBytes l⟩ s = doneL h (textL c d l (firstL c h s)) := by
 have hcm : (firstL c h s).came = [] := by unfold firstL; cases s.fst <;> exact hs
 have hA : addG ⟨8192, (firstL c h s).came⟩ (prBytes l) (cB h) = ((l, 0, -1), ⟨8192, []⟩) := by
  rw [hc, hcm, addG_end (by simpa using hx)]
  simp only [List.nil_append]
  rw [parse_bytes hl h60]
 have hs1 : ({ firstL c h s with came := [] } : Lg) = firstL c h s := by
  generalize firstL c h s = t at hcm
  cases t
  simp only at hcm
  subst hcm
  rfl
 unfold asksL
 rw [if_neg (not_not_intro hh)]
 simp only
 rw [hA]
 simp only
 rw [if_neg (by simp), hc, if_neg (by simp), hs1]
 unfold doneL
 cases textL c d l (firstL c h s) with
 | mk x s3 =>
  obtain ⟨x, e⟩ := x
  simp only
theorem text_later {c : Cf} {d : Dw} {l : List Pr} {s : Lg} (hb : s.bgn = true) :
  textL c d l s = (match secL c d l s with
  | ((x, e), s2) => if e ≠ -1 then (([], e), s2)
   else match ansN s2.mine s2.recd (restL l) true s2.dsc with
    | ((y, n, _), r) => if n ≠ 0 then (([], 0), s2) else ((x ++ y, -1), { s2 with recd := r })) := by
 unfold textL
 simp only
 rw [if_pos hb, if_neg (by simp [hb])]
def iqnA : List UInt8 := [105, 113, 110, 46, 97]
def iqnB : List UInt8 := [105, 113, 110, 46, 98]
def po1 : Po := ⟨[49, 48, 46, 48, 46, 48, 46, 49, 58, 51, 50, 54, 48], 1⟩
def po2 : Po := ⟨[91, 58, 58, 49, 93, 58, 51, 50, 54, 48], 2⟩
def conf0 : Cf := ⟨[iqnA, iqnB], [po1, po2], [], [], [], 8192, []⟩
theorem conf0_ok : CfOk conf0 := tgtR_ok.1 (by decide +kernel)
theorem blk_seven {W : World} {b : Nat} {a0 a1 a2 a3 a4 a5 a6 b0 b1 b2 b3 b4 b5 b6 : Value} {t : TypeId} {B : Nat} {w : World} (h : Blk W b #[a0, a1, a2, a3, a4, a5, a6] t) (hB : B ≤ b) (hb : Below B w W) :
  Below B w (((((((W.setCell ⟨b, 0, none⟩ b0).setCell ⟨b, 1, none⟩ b1).setCell ⟨b, 2, none⟩ b2).setCell ⟨b, 3, none⟩ b3).setCell ⟨b, 4, none⟩ b4).setCell ⟨b, 5, none⟩ b5).setCell ⟨b, 6, none⟩ b6) :=
 ((((((hb.setCell hB _).setCell hB _).setCell hB _).setCell hB _).setCell hB _).setCell hB _).setCell hB _
theorem cell_seven {W : World} {b k o : Nat} {b0 b1 b2 b3 b4 b5 b6 : Value} (hne : k ≠ b) :
  (((((((W.setCell ⟨b, 0, none⟩ b0).setCell ⟨b, 1, none⟩ b1).setCell ⟨b, 2, none⟩ b2).setCell ⟨b, 3, none⟩ b3).setCell ⟨b, 4, none⟩ b4).setCell ⟨b, 5, none⟩ b5).setCell ⟨b, 6, none⟩ b6).cell? ⟨k, o, none⟩ = W.cell? ⟨k, o, none⟩ := by
 have h : (((((((W.setCell ⟨b, 0, none⟩ b0).setCell ⟨b, 1, none⟩ b1).setCell ⟨b, 2, none⟩ b2).setCell ⟨b, 3, none⟩ b3).setCell ⟨b, 4, none⟩ b4).setCell ⟨b, 5, none⟩ b5).setCell ⟨b, 6, none⟩ b6).heap[k]? = W.heap[k]? := by
  rw [setCell_heap_other hne, setCell_heap_other hne, setCell_heap_other hne, setCell_heap_other hne, setCell_heap_other hne, setCell_heap_other hne, setCell_heap_other hne]
 unfold World.cell?
 simp only [h]
set_option maxRecDepth 100000 in
theorem conf_any (w : World) : Calls Tryz.prog 42 #[] w fun e w' => ∃ vt vp, e = .returned (confV conf0 vt vp (.slice none 0 0) (.slice none 0 0)) ∧ ConfAt w' conf0 vt vp (.slice none 0 0) (.slice none 0 0) ∧ Below w.heap.size w w' := by
 have hK0 := Blk.new w #[.slice none 0 0, .slice none 0 0, .slice none 0 0, .string (S []), .string (S []), .int .i64 0, .slice none 0 0] 29
 have hb0 := (Below.refl w.heap.size w).alloc (Nat.le_refl _) (.cells #[.slice none 0 0, .slice none 0 0, .slice none 0 0, .string (S []), .string (S []), .int .i64 0, .slice none 0 0] 29)
 obtain ⟨W1, hW1⟩ : ∃ W1, w.alloc (.cells #[.slice none 0 0, .slice none 0 0, .slice none 0 0, .string (S []), .string (S []), .int .i64 0, .slice none 0 0] 29) = W1 := ⟨_, rfl⟩
 rw [hW1] at hK0 hb0
 have hT := Blk.new W1 #[.string (S iqnA), .string (S iqnB)] 9
 have hK1 := hK0.alloc (.cells #[.string (S iqnA), .string (S iqnB)] 9)
 have hb1 := hb0.alloc hb0.size (.cells #[.string (S iqnA), .string (S iqnB)] 9)
 obtain ⟨W2, hW2⟩ : ∃ W2, W1.alloc (.cells #[.string (S [105, 113, 110, 46, 97]), .string (S [105, 113, 110, 46, 98])] 9) = W2 := ⟨_, rfl⟩
 rw [show W1.alloc (.cells #[.string (S iqnA), .string (S iqnB)] 9) = W2 from hW2] at hT hK1 hb1
 have hP := Blk.new W2 #[.string (S po1.ad), .int .i64 1, .string (S po2.ad), .int .i64 2] 136
 have hT2 := hT.alloc (.cells #[.string (S po1.ad), .int .i64 1, .string (S po2.ad), .int .i64 2] 136)
 have hK2 := hK1.alloc (.cells #[.string (S po1.ad), .int .i64 1, .string (S po2.ad), .int .i64 2] 136)
 have hb2 := hb1.alloc hb1.size (.cells #[.string (S po1.ad), .int .i64 1, .string (S po2.ad), .int .i64 2] 136)
 obtain ⟨W3, hW3⟩ : ∃ W3, W2.alloc (.cells #[.string (S [49, 48, 46, 48, 46, 48, 46, 49, 58, 51, 50, 54, 48]), .int .i64 1, .string (S [91, 58, 58, 49, 93, 58, 51, 50, 54, 48]), .int .i64 2] 136) = W3 := ⟨_, rfl⟩
 rw [show W2.alloc (.cells #[.string (S po1.ad), .int .i64 1, .string (S po2.ad), .int .i64 2] 136) = W3 from hW3] at hP hT2 hK2 hb2
 have hn1 : W1.heap.size ≠ w.heap.size := by have := congrArg (fun x => x.heap.size) hW1; simp at this; omega
 have hn2 : W2.heap.size ≠ w.heap.size := by have := congrArg (fun x => x.heap.size) hW1; have := congrArg (fun x => x.heap.size) hW2; simp at *; omega
 obtain ⟨q0, q1, q2, q3, q4, q5, q6⟩ := hK2.seven
 have f0 := hK2.frozen 0
 have f1 := hK2.frozen 1
 have f2 := hK2.frozen 2
 have f3 := hK2.frozen 3
 have f4 := hK2.frozen 4
 have f5 := hK2.frozen 5
 have f6 := hK2.frozen 6
 have HB2 := Lib.hid hb2
 have HT2 := Lib.hid hT2
 have HP := Lib.hid hP
 have HK2 := Lib.hid hK2
 have Hn1 := Lib.hid hn1
 have Hn2 := Lib.hid hn2
 clear hK0 hb0 hT hK1 hb1 hP hT2 hK2 hb2 hn1 hn2
 go_enter Tryz.func42, Tryz.ntmps42
 go_wp2_with fail
 refine bodyPost_ret (v := confV conf0 (.slice (some ⟨W1.heap.size, 0, none⟩) 2 2) (.slice (some ⟨W2.heap.size, 0, none⟩) 2 2) (.slice none 0 0) (.slice none 0 0)) (by simp [results, Tryz.results42, go_sem, confV, conf0, q0, q1, q2, q3, q4, q5, q6]) rfl ⟨_, _, rfl, ⟨⟨_, _, rfl, fun _ => ⟨W1.heap.size, 0, rfl, fun j hj => ?_⟩⟩, ⟨_, _, rfl, Nat.le_refl _, fun _ => ⟨W2.heap.size, 0, rfl, fun j hj => ?_⟩⟩, UsV.nil _, PrsV.nil _, fun _ _ _ h => by cases h; exact Nat.le_refl _⟩, blk_seven HK2.out (Nat.le_refl _) HB2.out⟩
 ·rw [cell_seven Hn1.out, HT2.out.cell]
  match j, hj with
  | 0, _ => rfl
  | 1, _ => rfl
 ·rw [cell_seven Hn2.out, cell_seven Hn2.out, HP.out.cell, HP.out.cell]
  match j, hj with
  | 0, _ => exact ⟨rfl, rfl⟩
  | 1, _ => exact ⟨rfl, rfl⟩
def meL : List UInt8 := [109, 101]
def pIni : Pr := ⟨kIni, meL⟩
def pSes : Pr := ⟨kSes, vDis⟩
def dw0 : Dw := ⟨7, chalL⟩
theorem dw0_ok : 0 ≤ dw0.id ∧ dw0.id ≤ 255 ∧ dw0.ch.length ≤ 100 := by decide
theorem new_conf0 : (newL conf0 dw0).1 = 0 := by kernel_rfl
theorem ok_cons {p : Pr} {l : List Pr} (hp : wrongP p = 0) (hl : okPs l) : okPs (p :: l) := fun q hq => by
 rcases List.mem_cons.1 hq with rfl | hq
 ·exact hp
 ·exact hl q hq
theorem ok_nil : okPs [] := fun q hq => absurd hq List.not_mem_nil
theorem six_right {k v : List UInt8} (hk : k ∈ sixK) (hv : isVal v = true) : wrongP ⟨k, v⟩ = 0 := by
 have : isKey k = true := by
  have h : ∀ k ∈ sixK, isKey k = true := by decide +kernel
  exact h k hk
 unfold wrongP
 simp [this, hv]
theorem bytes_len2 {k v : List UInt8} (hk : k.length ≤ 63) (hv : v.length ≤ 255) (l : List Pr) : (prBytes (⟨k, v⟩ :: l)).length ≤ (prBytes l).length + 320 := by
 rw [prBytes_cons]
 simp [wrP]
 omega
end Go.Proofs.YtjbbbpgcegcbaaaGreatDoor
namespace Go.Proofs.YtjbbbpgcegcbaaaGreatDoor
open Go Go.RowKit
set_option linter.unusedVariables false
theorem pair_any (k d : List UInt8) (w : World) : Calls Tryz.prog 20 #[.string (S k), .string (S d)] w fun e w' => e = .returned (.agg #[.string (S k), .string (S d)]) ∧ Below w.heap.size w w' := by
 have hb0 := (Below.refl w.heap.size w).alloc (Nat.le_refl _) (.cells #[.string (S k), .string (S d)] 60)
 have hP := Blk.new w #[.string (S k), .string (S d)] 60
 obtain ⟨x0, x1⟩ := hP.two
 have Hb0 := Lib.hid hb0
 clear hb0 hP
 go_enter Tryz.func20, Tryz.ntmps20
 go_wp2_with fail
 refine bodyPost_ret (v := .agg #[.string (S k), .string (S d)]) (by simp [results, Tryz.results20, go_sem]) rfl ⟨rfl, Hb0.out⟩
end Go.Proofs.YtjbbbpgcegcbaaaGreatDoor
namespace Go.Proofs.YtjbbbpgcegcbaaaGreatDoor
open Go.RowKit
theorem conf0_fit : FitCf conf0 := ⟨⟨by decide, by decide⟩, ⟨by decide, by decide⟩, ⟨⟨by decide, by decide⟩, by decide⟩, by decide, by decide, by decide, ⟨⟨by decide, by decide⟩, by decide⟩, by decide⟩
end Go.Proofs.YtjbbbpgcegcbaaaGreatDoor
