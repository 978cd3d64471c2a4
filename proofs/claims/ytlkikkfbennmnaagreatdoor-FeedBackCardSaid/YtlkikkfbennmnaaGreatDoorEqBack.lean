/- slices.EqualFunc over PDUs and pieces, by the law's own closure. -/
import Derived.Test.YtlkikkfbennmnaaGreatDoorEqPc
import Derived.Test.YtlkikkfbennmnaaGreatDoorStream
namespace Go.Proofs.YtlkikkfbennmnaaGreatDoor
open Go.RowKit
set_option linter.unusedVariables false
set_option maxRecDepth 100000 in
theorem back1_any (p : Pd) (p1 p2 p3 p4 : Option Addr) (n1 n2 n3 n4 c1 c2 c3 c4 : Nat) (w : World) (h : PduAt w p (.slice p1 n1 c1) (.slice p2 n2 c2)) (h' : PduAt w p (.slice p3 n3 c3) (.slice p4 n4 c4)) (ok : PcOk (pcOf p)) :
    Calls Tryz.prog 19 #[.agg #[.int .i64 p.h.op, .bool p.h.now, .int .i64 p.h.fl, .slice p1 n1 c1, .slice p2 n2 c2, .string (S p.d)], .agg #[.int .i64 p.h.op, .bool p.h.now, .int .i64 p.h.fl, .slice p3 n3 c3, .slice p4 n4 c4, .string (S p.d), .string (S [])]] w fun e w' => e = .returned (.bool true) ∧ Below w.heap.size w w' := by
  have hb1 := (Below.refl w.heap.size w).alloc (Nat.le_refl _) (.cells #[.int .i64 p.h.op, .bool p.h.now, .int .i64 p.h.fl, .slice p1 n1 c1, .slice p2 n2 c2, .string (S p.d)] 45)
  have hb2 := hb1.alloc hb1.size (.cells #[.int .i64 p.h.op, .bool p.h.now, .int .i64 p.h.fl, .slice p3 n3 c3, .slice p4 n4 c4, .string (S p.d), .string (S [])] 47)
  have S1 := Lib.hid (same_same p _ _ _ _ _ (h.later hb2) (h'.later hb2) ok.v ok.a)
  unfold pduV at S1
  have Hb2 := Lib.hid hb2
  clear h h' ok hb1 hb2
  go_enter Tryz.func19, Tryz.ntmps19
  go_wp2_with fail
  refine S1.out.mono ?_
  rintro e w3 ⟨rfl, hb3⟩
  have Hb3 := Lib.hid (below_then Hb2.out hb3)
  clear hb3 S1
  go_wp2_with fail
  go_ret
  exact ⟨rfl, Hb3.out⟩
set_option maxRecDepth 100000 in
set_option maxHeartbeats 1000000 in
theorem eqBack_any (l : List Pd) (v v' : Value) (w : World) (h : PdusV w v l) (h' : PcsV w v' (l.map pcOf)) (ok : ∀ p ∈ l, rightP p = 0) (hl : l.length ≤ 4294967280) :
    Calls Tryz.prog 18 #[v, v', .func (.func 19) #[] #[]] w fun e w' => e = .returned (.bool true) ∧ Below w.heap.size w w' := by
  obtain ⟨p1, c1, rfl⟩ := h.form
  obtain ⟨p2, c2, rfl⟩ := h'.form
  have hlm : (l.map pcOf).length = l.length := List.length_map _
  have HV := Lib.hid h
  have HV' := Lib.hid h'
  have Hok := Lib.hid ok
  have Hlm := Lib.hid hlm
  have hl' : (l.length : Int) ≤ 4294967280 := by omega
  simp only [List.length_map]
  clear h h' ok hlm
  go_enter Tryz.func18, Tryz.ntmps18
  go_wp2_with fail
  go_loopw [17] (fun i wr => ∃ j : Nat, j ≤ l.length ∧ i = .int .i64 j ∧ Below w.heap.size w wr) (fun i _ => l.length - (intOf i).toNat)
  case atStart => exact ⟨0, Nat.zero_le _, rfl, Below.refl _ _⟩
  case round =>
    obtain ⟨j, hj, rfl, hb⟩ := hrel
    have Hb := Lib.hid hb
    by_cases hlt : j < l.length
    · obtain ⟨b, o, rfl, pa, ca, pb, cb, hP, e0, e1, e2, e3, e4, e5⟩ := (HV.out.later hb).cells hlt
      obtain ⟨b', o', rfl, hjc', pc, nc, cc, pd, nd, cd, hP', g0, g1, g2, g3, g4, g5, g6⟩ := (HV'.out.later hb).cells (j := j) (by rw [Hlm.out]; exact hlt)
      have hok := (rightP_is (Hok.out l[j] (List.getElem_mem hlt))).ok []
      simp only [List.getElem_map, pcOf] at hP' g0 g1 g2 g5 g6
      generalize l[j] = q at *
      have hb1 := (Below.refl wr.heap.size wr).alloc (Nat.le_refl _) (.cells #[.int .i64 q.h.op, .bool q.h.now, .int .i64 q.h.fl, .slice pa q.h.vs.length ca, .slice pb q.a.length cb, .string (S q.d)] 45)
      generalize hW1 : wr.alloc (.cells #[.int .i64 q.h.op, .bool q.h.now, .int .i64 q.h.fl, .slice pa q.h.vs.length ca, .slice pb q.a.length cb, .string (S q.d)] 45) = W1 at hb1
      have hk1 : Blk W1 wr.heap.size #[.int .i64 q.h.op, .bool q.h.now, .int .i64 q.h.fl, .slice pa q.h.vs.length ca, .slice pb q.a.length cb, .string (S q.d)] 45 := by rw [← hW1]; exact Blk.new _ _ _
      have hb2 := (Below.refl W1.heap.size W1).alloc (Nat.le_refl _) (.cells #[.int .i64 q.h.op, .bool q.h.now, .int .i64 q.h.fl, .slice pc nc cc, .slice pd nd cd, .string (S q.d), .string (S [])] 47)
      have hk2 := Blk.new W1 #[.int .i64 q.h.op, .bool q.h.now, .int .i64 q.h.fl, .slice pc nc cc, .slice pd nd cd, .string (S q.d), .string (S [])] 47
      have g0 := later_cell hb1 g0
      have g1 := later_cell hb1 g1
      have g2 := later_cell hb1 g2
      have g3 := later_cell hb1 g3
      have g4 := later_cell hb1 g4
      have g5 := later_cell hb1 g5
      have g6 := later_cell hb1 g6
      have hb12 := below_then hb1 hb2
      have C := Lib.hid (back1_any q _ _ _ _ _ _ _ _ _ _ _ _ _ (hP.later hb12) (hP'.later hb12) hok)
      have Hb2 := Lib.hid (below_then hb hb12)
      obtain ⟨k0, k1, k2, k3, k4, k5⟩ := (hk1.later hb2).six
      obtain ⟨m0, m1, m2, m3, m4, m5, m6⟩ := hk2.seven
      clear hb hP hP' hok hb1 hb2 hb12 hk1 hk2 Hb
      go_wp2_with fail
      refine C.out.mono ?_
      rintro e w3 ⟨rfl, hb3⟩
      have Hb3 := Lib.hid (below_then Hb2.out hb3)
      clear hb3 C Hb2
      go_wp2_with fail
      go_roundw
      case rel => exact ⟨j + 1, by omega, by go_num, Hb3.out⟩
      case measure => simp [intOf]; omega
    · obtain rfl : j = l.length := by omega
      clear hb
      go_wp2_with fail
      go_ret
      exact ⟨rfl, Hb.out⟩
end Go.Proofs.YtlkikkfbennmnaaGreatDoor
