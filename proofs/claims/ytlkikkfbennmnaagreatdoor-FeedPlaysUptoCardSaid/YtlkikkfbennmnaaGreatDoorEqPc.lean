/- slices.EqualFunc over pieces, by the law's own closure. -/
import Derived.Test.YtlkikkfbennmnaaGreatDoorFeedTwo
namespace Go.Proofs.YtlkikkfbennmnaaGreatDoor
open Go.RowKit
set_option linter.unusedVariables false
set_option maxRecDepth 100000 in
theorem cuts1_any (q : Pc) (p1 p2 p3 p4 : Option Addr) (n1 n2 n3 n4 c1 c2 c3 c4 : Nat) (w : World) (h : PduAt w q.p (.slice p1 n1 c1) (.slice p2 n2 c2)) (h' : PduAt w q.p (.slice p3 n3 c3) (.slice p4 n4 c4)) (ok : PcOk q) :
    Calls Tryz.prog 23 #[.agg #[.int .i64 q.p.h.op, .bool q.p.h.now, .int .i64 q.p.h.fl, .slice p1 n1 c1, .slice p2 n2 c2, .string (S q.p.d), .string (S q.sp)], .agg #[.int .i64 q.p.h.op, .bool q.p.h.now, .int .i64 q.p.h.fl, .slice p3 n3 c3, .slice p4 n4 c4, .string (S q.p.d), .string (S q.sp)]] w fun e w' => e = .returned (.bool true) ∧ Below w.heap.size w w' := by
  have hb1 := (Below.refl w.heap.size w).alloc (Nat.le_refl _) (.cells #[.int .i64 q.p.h.op, .bool q.p.h.now, .int .i64 q.p.h.fl, .slice p1 n1 c1, .slice p2 n2 c2, .string (S q.p.d), .string (S q.sp)] 47)
  have hb2 := hb1.alloc hb1.size (.cells #[.int .i64 q.p.h.op, .bool q.p.h.now, .int .i64 q.p.h.fl, .slice p3 n3 c3, .slice p4 n4 c4, .string (S q.p.d), .string (S q.sp)] 47)
  have S1 := Lib.hid (same_pcs q _ _ _ _ _ (h.later hb2) (h'.later hb2) ok)
  have Hb2 := Lib.hid hb2
  clear h h' ok hb1 hb2
  go_enter Tryz.func23, Tryz.ntmps23
  go_wp2_with fail
  refine S1.out.mono ?_
  rintro e w3 ⟨rfl, hb3⟩
  have Hb3 := Lib.hid (below_then Hb2.out hb3)
  clear hb3 S1
  go_wp2_with fail
  go_ret
  exact ⟨rfl, Hb3.out⟩
theorem PcsV.cells {W : World} {p : Option Addr} {c : Nat} {l : List Pc} (h : PcsV W (.slice p l.length c) l) {j : Nat} (hj : j < l.length) : ∃ b o, p = some ⟨b, o, none⟩ ∧ j < c ∧ ∃ p1 n1 c1 p2 n2 c2, PduAt W l[j].p (.slice p1 n1 c1) (.slice p2 n2 c2) ∧
    W.cell? ⟨b, o + j * 7, none⟩ = some (.int .i64 l[j].p.h.op) ∧ W.cell? ⟨b, o + j * 7 + 1, none⟩ = some (.bool l[j].p.h.now) ∧ W.cell? ⟨b, o + j * 7 + 2, none⟩ = some (.int .i64 l[j].p.h.fl) ∧ W.cell? ⟨b, o + j * 7 + 3, none⟩ = some (.slice p1 n1 c1) ∧ W.cell? ⟨b, o + j * 7 + 4, none⟩ = some (.slice p2 n2 c2) ∧
    W.cell? ⟨b, o + j * 7 + 5, none⟩ = some (.string (S l[j].p.d)) ∧ W.cell? ⟨b, o + j * 7 + 6, none⟩ = some (.string (S l[j].sp)) := by
  obtain ⟨p0, c0, hv, hlc, hc⟩ := h
  obtain ⟨rfl, rfl⟩ : p = p0 ∧ c = c0 := by simpa using hv
  obtain ⟨b, o, rfl, hcell⟩ := hc (by omega)
  obtain ⟨vv, va, hP, e0, e1, e2, e3, e4, e5, e6⟩ := hcell j hj
  obtain ⟨⟨p1, n1, c1, rfl⟩, ⟨p2, n2, c2, rfl⟩⟩ := hP.sl
  exact ⟨b, o, rfl, by omega, p1, n1, c1, p2, n2, c2, hP, e0, e1, e2, e3, e4, e5, e6⟩
set_option maxRecDepth 100000 in
set_option maxHeartbeats 1000000 in
theorem eqPcs_any (l : List Pc) (v v' : Value) (w : World) (h : PcsV w v l) (h' : PcsV w v' l) (ok : ∀ q ∈ l, PcOk q) (hl : l.length ≤ 4294967280) :
    Calls Tryz.prog 22 #[v, v', .func (.func 23) #[] #[]] w fun e w' => e = .returned (.bool true) ∧ Below w.heap.size w w' := by
  obtain ⟨p1, c1, rfl⟩ := h.form
  obtain ⟨p2, c2, rfl⟩ := h'.form
  have HV := Lib.hid h
  have HV' := Lib.hid h'
  have Hok := Lib.hid ok
  have hl' : (l.length : Int) ≤ 4294967280 := by omega
  clear h h' ok
  go_enter Tryz.func22, Tryz.ntmps22
  go_wp2_with fail
  go_loopw [17] (fun i wr => ∃ j : Nat, j ≤ l.length ∧ i = .int .i64 j ∧ Below w.heap.size w wr) (fun i _ => l.length - (intOf i).toNat)
  case atStart => exact ⟨0, Nat.zero_le _, rfl, Below.refl _ _⟩
  case round =>
    obtain ⟨j, hj, rfl, hb⟩ := hrel
    have Hb := Lib.hid hb
    by_cases hlt : j < l.length
    · obtain ⟨b, o, rfl, hjc, pa, na, ca, pb, nb, cb, hP, e0, e1, e2, e3, e4, e5, e6⟩ := (HV.out.later hb).cells hlt
      obtain ⟨b', o', rfl, hjc', pc, nc, cc, pd, nd, cd, hP', g0, g1, g2, g3, g4, g5, g6⟩ := (HV'.out.later hb).cells hlt
      have hok := Hok.out l[j] (List.getElem_mem hlt)
      generalize l[j] = q at *
      have hb1 := (Below.refl wr.heap.size wr).alloc (Nat.le_refl _) (.cells #[.int .i64 q.p.h.op, .bool q.p.h.now, .int .i64 q.p.h.fl, .slice pa na ca, .slice pb nb cb, .string (S q.p.d), .string (S q.sp)] 47)
      generalize hW1 : wr.alloc (.cells #[.int .i64 q.p.h.op, .bool q.p.h.now, .int .i64 q.p.h.fl, .slice pa na ca, .slice pb nb cb, .string (S q.p.d), .string (S q.sp)] 47) = W1 at hb1
      have hk1 : Blk W1 wr.heap.size #[.int .i64 q.p.h.op, .bool q.p.h.now, .int .i64 q.p.h.fl, .slice pa na ca, .slice pb nb cb, .string (S q.p.d), .string (S q.sp)] 47 := by rw [← hW1]; exact Blk.new _ _ _
      have hb2 := (Below.refl W1.heap.size W1).alloc (Nat.le_refl _) (.cells #[.int .i64 q.p.h.op, .bool q.p.h.now, .int .i64 q.p.h.fl, .slice pc nc cc, .slice pd nd cd, .string (S q.p.d), .string (S q.sp)] 47)
      have hk2 := Blk.new W1 #[.int .i64 q.p.h.op, .bool q.p.h.now, .int .i64 q.p.h.fl, .slice pc nc cc, .slice pd nd cd, .string (S q.p.d), .string (S q.sp)] 47
      have g0 := later_cell hb1 g0
      have g1 := later_cell hb1 g1
      have g2 := later_cell hb1 g2
      have g3 := later_cell hb1 g3
      have g4 := later_cell hb1 g4
      have g5 := later_cell hb1 g5
      have g6 := later_cell hb1 g6
      have hb12 := below_then hb1 hb2
      have C := Lib.hid (cuts1_any q _ _ _ _ _ _ _ _ _ _ _ _ _ (hP.later hb12) (hP'.later hb12) hok)
      have Hb2 := Lib.hid (below_then hb hb12)
      obtain ⟨k0, k1, k2, k3, k4, k5, k6⟩ := (hk1.later hb2).seven
      obtain ⟨m0, m1, m2, m3, m4, m5, m6⟩ := hk2.seven
      clear hb hP hP' hok hb1 hb2 hb12 hk1 hk2 Hb
      go_wp2_with fail
      refine C.out.mono ?_
      rintro e w3 ⟨rfl, hb3⟩
      have Hb3 := Lib.hid (below_then Hb2.out hb3)
      clear hb3 C Hb2
      go_wp2_with fail
      go_roundw
      case rel => exact ⟨j + 1, by omega, by go_num, Hb3.out⟩
      case measure => simp [intOf]; omega
    · obtain rfl : j = l.length := by omega
      clear hb
      go_wp2_with fail
      go_ret
      exact ⟨rfl, Hb.out⟩
end Go.Proofs.YtlkikkfbennmnaaGreatDoor
