/- LP34: several texts in one. -/
import Derived.BigQuiet
import Derived.BigRegion
import Derived.Deep.QuietTactic
import Derived.Laws.StructEq
import Derived.Test.YtmkebjdmkkjloaaGreatDoorLP01
import Derived.Test.YtmkebjdmkkjloaaGreatDoorLP07
import Derived.Test.YtmkebjdmkkjloaaGreatDoorLP09
import Derived.Test.YtmkebjdmkkjloaaGreatDoorLP10
import Derived.Test.YtmkebjdmkkjloaaGreatDoorLP13
import Derived.Test.YtmkebjdmkkjloaaGreatDoorLP15
import Derived.Test.YtmkebjdmkkjloaaGreatDoorLP18
import Derived.Test.YtmkebjdmkkjloaaGreatDoorLP26
import Derived.Test.YtmkebjdmkkjloaaGreatDoorLP28
import Derived.Test.YtmkebjdmkkjloaaGreatDoorLP30
import Derived.Test.YtmkebjdmkkjloaaGreatDoorLP31
import Derived.Test.YtmkebjdmkkjloaaGreatDoorLP32
import Derived.Test.YtmkebjdmkkjloaaGreatDoorLP33
namespace Go.Proofs.YtmkebjdmkkjloaaGreatDoor
open Go Go.RowKit
set_option linter.unusedVariables false
structure LS (w0 w : World) (lb : Nat) (m : LgM) (c : Cf) (d : Dw) (q : Lq) (s : Lg) : Prop where
  low : Below w0.heap.size w0 w
  log : LogIn w w0.heap.size lb m c d q
  sim : SimQ c q s
  ok : QOk c q
section
variable {w0 w : World} {lb : Nat} {m : LgM} {c : Cf} {d : Dw} {q : Lq} {s : Lg}
theorem LS.mask (h : LS w0 w lb m c d q s) : Below w0.heap.size w0 (offW (m.H lb) w) := below_mask h.low (fun k hk => (h.log.ge k hk).1)
theorem LS.later {w' : World} (h : LS w0 w lb m c d q s) (hb : Below w.heap.size w w') : LS w0 w' lb m c d q s := ⟨below_then h.low hb, h.log.later hb, h.sim, h.ok⟩
def RetLS (w0 w : World) (lb : Nat) (m : LgM) (c : Cf) (d : Dw) (r : (Pd × Int) × Lg) (e : Ending) (w' : World) : Prop :=
  ∃ m' q' vv' va' ev, e = .returned (.tuple #[pduV r.1.1 vv' va', ev]) ∧ PduAt (offW (m'.H lb) w') r.1.1 vv' va' ∧ ErrIs w' ev r.1.2 (-1) ∧ LS w0 w' lb m' c d q' r.2 ∧ Keeps w.heap.size w w' (m.H lb) (m'.H lb)
theorem take_ls (p : Pd) (vv va : Value) (h : LS w0 w lb m c d q s) (hp : PduAt (offW (m.H lb) w) p vv va) (hE : EnvL w0) (hf : FitP p) (hc : CfOk c) (hd : 0 ≤ d.id ∧ d.id ≤ 255 ∧ d.ch.length ≤ 100) :
    Calls Tryz.prog 13 #[.pointer (some ⟨lb, 0, none⟩), pduV p vv va] w (RetLS w0 w lb m c d (takeL c d s p)) := by
  have hxv : ∀ x ∈ p.h.vs, x < 18446744073709551616 := by obtain ⟨_, _, _, hx, _⟩ := hp.v; exact hx
  obtain ⟨e1, e2⟩ := take_sim (d := d) (p := p) hc h.sim
  refine (loginTake_any p vv va h.log hp (hE.later h.mask) hf hc (newN_is (newN_own hc)).1 h.ok hd).mono ?_
  rintro e w' ⟨m', vv', va', ev, rfl, hP, herr, hL, hK, hsame⟩
  rw [e1] at hP herr ⊢
  exact ⟨m', _, vv', va', ev, rfl, hP, herr, ⟨Keeps.from h.low hK (fun k hh => (h.log.ge k hh).1), hL, e2, take_ok hc hxv h.ok⟩, hK⟩
theorem new_ls (c : Cf) (d : Dw) (vt vp vu vo : Value) (w : World) (hv : ConfAt w c vt vp vu vo) (hf : FitCf c) (hE : EnvL w) (h0 : (newL c d).1 = 0) :
    Calls Tryz.prog 24 #[confV c vt vp vu vo, .agg #[.int .i64 d.id, .string (S d.ch)]] w fun e w' => ∃ lb m, e = .returned (.tuple #[.pointer (some ⟨lb, 0, none⟩), .nilIface]) ∧ LS w w' lb m c d (lq0 c) (lg0 c) ∧ (OwnV w m.mv ∧ OwnV w m.vt ∧ OwnV w m.vu) := by
  refine (lnew_any c d vt vp vu vo w hv hf hE).mono ?_
  rintro e w' (⟨_, lb, m, rfl, hL, ho, hb⟩ | ⟨h1, _⟩)
  · exact ⟨lb, m, rfl, ⟨hb, hL, simQ_0 c, qOk_0 c⟩, ho⟩
  · exact absurd h0 h1
end
end Go.Proofs.YtmkebjdmkkjloaaGreatDoor
namespace Go.Proofs.YtmkebjdmkkjloaaGreatDoor
open Go.RowKit
set_option linter.unusedVariables false
theorem later_cell {W W' : World} (hb : Below W.heap.size W W') {b o : Nat} {v : Value} (h : W.cell? ⟨b, o, none⟩ = some v) : W'.cell? ⟨b, o, none⟩ = some v :=
  ((bcell hb).1 b o (block_lt_of_cell (w := W) (a := ⟨b, o, none⟩) h)).trans h
def PdusV (W : World) (v : Value) (l : List Pd) : Prop := ∃ p c, v = .slice p l.length c ∧ (0 < l.length → ∃ b o, p = some ⟨b, o, none⟩ ∧ ∀ j (hj : j < l.length), ∃ vv va, PduAt W l[j] vv va ∧
  W.cell? ⟨b, o + j * 6, none⟩ = some (.int .i64 l[j].h.op) ∧ W.cell? ⟨b, o + j * 6 + 1, none⟩ = some (.bool l[j].h.now) ∧ W.cell? ⟨b, o + j * 6 + 2, none⟩ = some (.int .i64 l[j].h.fl) ∧ W.cell? ⟨b, o + j * 6 + 3, none⟩ = some vv ∧ W.cell? ⟨b, o + j * 6 + 4, none⟩ = some va ∧
  W.cell? ⟨b, o + j * 6 + 5, none⟩ = some (.string (S l[j].d)))
theorem PdusV.later {W W' : World} {v : Value} {l : List Pd} (h : PdusV W v l) (hb : Below W.heap.size W W') : PdusV W' v l := by
  obtain ⟨p, c, hv, hc⟩ := h
  refine ⟨p, c, hv, fun hl => ?_⟩
  obtain ⟨b, o, hp, hcell⟩ := hc hl
  refine ⟨b, o, hp, fun j hj => ?_⟩
  obtain ⟨vv, va, hP, c0, c1, c2, c3, c4, c5⟩ := hcell j hj
  exact ⟨vv, va, hP.later hb, later_cell hb c0, later_cell hb c1, later_cell hb c2, later_cell hb c3, later_cell hb c4, later_cell hb c5⟩
theorem PdusV.form {W : World} {v : Value} {l : List Pd} (h : PdusV W v l) : ∃ p c, v = .slice p l.length c := by obtain ⟨p, c, h, _⟩ := h; exact ⟨p, c, h⟩
end Go.Proofs.YtmkebjdmkkjloaaGreatDoor
namespace Go.Proofs.YtmkebjdmkkjloaaGreatDoor
open Go Go.RowKit
set_option linter.unusedVariables false
theorem LS.base {w w1 W : World} {lb : Nat} {m : LgM} {c : Cf} {d : Dw} {q : Lq} {s : Lg} (h : LS w1 W lb m c d q s) (hb : Below w.heap.size w w1) : LS w W lb m c d q s := ⟨below_then hb h.low, h.log.mono hb.size, h.sim, h.ok⟩
end Go.Proofs.YtmkebjdmkkjloaaGreatDoor
namespace Go.Proofs.YtmkebjdmkkjloaaGreatDoor
open Go.RowKit
set_option linter.unusedVariables false
def nCls : List UInt8 := [83, 116, 97, 116, 117, 115, 67, 108, 97, 115, 115]
def nDet : List UInt8 := [83, 116, 97, 116, 117, 115, 68, 101, 116, 97, 105, 108]
def statR (p : Pd) : Int × Nat × Nat := if (valueR p.h nCls).2 ≠ 0 ∨ (valueR p.h nDet).2 ≠ 0 ∨ p.h.op ≠ 35 then (-1, 999, 999) else (p.h.fl, hv p.h nCls, hv p.h nDet)
theorem what_any (p : Pd) (vv va : Value) (n : List UInt8) (w : World) (hp : PduAt w p vv va) (hm : MaxCell w) (hl : p.h.vs.length ≤ 9223372036854775807) :
    Calls Tryz.prog 18 #[pduV p vv va, .string (S n)] w fun e w' => e = .returned (.int .u64 (hv p.h n : Nat)) ∧ Below w.heap.size w w' := by
  have hb0 := (Below.refl w.heap.size w).alloc (Nat.le_refl _) (.cells (cells6 p vv va) 41)
  have hK := Blk.new w (cells6 p vv va) 41
  have V := value_any p.h vv n _ (hm.later hb0) (hp.v.later hb0) hl
  unfold cells6 at hK hb0 V
  unfold RetNE headV at V
  obtain ⟨k0, k1, k2, k3, k4, k5⟩ := hK.six
  have V := Lib.hid V
  have Hb := Lib.hid hb0
  clear hb0 hK
  unfold pduV
  go_enter Tryz.func18, Tryz.ntmps18
  go_wp2_with fail
  refine V.out.mono ?_
  rintro e w' ⟨ev, rfl, he, hb⟩
  go_wp2_with fail
  go_ret
  exact ⟨rfl, below_then Hb.out hb⟩
set_option maxRecDepth 100000 in
set_option maxHeartbeats 2000000 in
theorem status_any (p : Pd) (vv va : Value) (w : World) (hp : PduAt w p vv va) (hm : MaxCell w) (hl : p.h.vs.length ≤ 9223372036854775807) :
    Calls Tryz.prog 16 #[pduV p vv va] w fun e w' => e = .returned (.tuple #[.int .i64 (statR p).1, .int .u64 ((statR p).2.1 : Nat), .int .u64 ((statR p).2.2 : Nat)]) ∧ Below w.heap.size w w' := by
  have hb0 := (Below.refl w.heap.size w).alloc (Nat.le_refl _) (.cells (cells6 p vv va) 41)
  have hK := Blk.new w (cells6 p vv va) 41
  obtain ⟨w0, hw0⟩ : ∃ w0, w.alloc (.cells (cells6 p vv va) 41) = w0 := ⟨_, rfl⟩
  obtain ⟨pb, hpb⟩ : ∃ pb, w.heap.size = pb := ⟨_, rfl⟩
  rw [hw0] at hb0 hK
  rw [hpb] at hK
  have V1 := value_any p.h vv nCls _ (hm.later hb0) (hp.v.later hb0) hl
  have V2 := fun W hb => value_any p.h vv nDet W (hm.later hb) (hp.v.later hb) hl
  obtain ⟨R, hR⟩ : ∃ R, statR p = R := ⟨_, rfl⟩
  rw [hR]
  unfold statR hv at hR
  unfold RetNE headV at V1 V2
  unfold cells6 at hK hw0
  generalize valueR p.h nCls = r1 at V1 hR
  generalize valueR p.h nDet = r2 at V2 hR
  obtain ⟨n1, x1⟩ := r1
  obtain ⟨n2, x2⟩ := r2
  simp only at V1 V2 hR
  unfold nCls at V1
  unfold nDet at V2
  have V1 := Lib.hid V1
  have V2 := Lib.hid V2
  have Hb := Lib.hid hb0
  have HK := Lib.hid hK
  have HR := Lib.hid hR
  obtain ⟨k0, k1, k2, k3, k4, k5⟩ := hK.six
  clear hb0 hK hp hR
  unfold pduV
  go_enter Tryz.func16, Tryz.ntmps16
  go_wp2_with fail
  clear hw0 hpb
  refine V1.out.mono ?_
  rintro e w1 ⟨e1, rfl, he1, hb1⟩
  have HK1 := Lib.hid (HK.out.later hb1)
  have Hb1 := Lib.hid (below_then Hb.out hb1)
  have He1 := Lib.hid he1
  clear hb1 HK Hb k0 k1 k2 k3 k4 k5 he1
  obtain ⟨k0, k1, k2, k3, k4, k5⟩ := HK1.out.six
  have V2' := V2.out _ Hb1.out
  go_wp2_with fail
  refine V2'.mono ?_
  rintro e w2 ⟨e2, rfl, he2, hb2⟩
  have HK2 := Lib.hid (HK1.out.later hb2)
  have Hb2 := Lib.hid (below_then Hb1.out hb2)
  have He2 := Lib.hid he2
  clear hb2 HK1 Hb1 k0 k1 k2 k3 k4 k5 V2' he2 V2 V1
  obtain ⟨k0, k1, k2, k3, k4, k5⟩ := HK2.out.six
  by_cases h1 : x1 = 0
  · subst h1
    obtain rfl := He1.out.zero
    by_cases h2 : x2 = 0
    · subst h2
      obtain rfl := He2.out.zero
      by_cases h3 : p.h.op = 35
      · have hr := HR.out
        rw [if_neg (by simp [h3])] at hr
        subst hr
        go_wp2_with fail
        go_ret3
        exact ⟨rfl, Hb2.out⟩
      · have hr := HR.out
        rw [if_pos (by simp [h3])] at hr
        subst hr
        go_wp2_with fail
        go_ret3
        exact ⟨rfl, Hb2.out⟩
    · obtain ⟨ty, xv, rfl⟩ := He2.out.iface h2
      have hr := HR.out
      rw [if_pos (by simp [h2])] at hr
      subst hr
      go_wp2_with fail
      go_ret3
      exact ⟨rfl, Hb2.out⟩
  · obtain ⟨ty, xv, rfl⟩ := He1.out.iface h1
    have hr := HR.out
    rw [if_pos (by simp [h1])] at hr
    subst hr
    go_wp2_with fail
    go_ret3
    exact ⟨rfl, Hb2.out⟩
end Go.Proofs.YtmkebjdmkkjloaaGreatDoor
namespace Go.Proofs.YtmkebjdmkkjloaaGreatDoor
open Go.RowKit
set_option linter.unusedVariables false
def chalL : List UInt8 := [99, 104, 97, 108]
set_option maxRecDepth 100000 in
theorem draw_any (w : World) : Calls Tryz.prog 26 #[] w fun e w' => e = .returned (.agg #[.int .i64 7, .string (S chalL)]) ∧ Below w.heap.size w w' := by
  unfold chalL
  obtain ⟨w0, hw0⟩ : ∃ w0, w.alloc (.cells #[.int .i64 0, .string (S [])] 31) = w0 := ⟨_, rfl⟩
  have b0 : Below w.heap.size w w0 := by rw [← hw0]; exact (Below.refl _ _).alloc (Nat.le_refl _) _
  have k0 : Blk w0 w.heap.size #[.int .i64 0, .string (S [])] 31 := by rw [← hw0]; exact Blk.new w _ _
  obtain ⟨rb, hrb⟩ : ∃ rb, w.heap.size = rb := ⟨_, rfl⟩
  rw [hrb] at k0
  obtain ⟨g0, g1⟩ := k0.two
  have f0 := k0.frozen 0
  have f1 := k0.frozen 1
  obtain ⟨w1, hw1⟩ : ∃ w1, (w0.setCell ⟨rb, 0, none⟩ (.int .i64 7)).setCell ⟨rb, 1, none⟩ (.string (S [99, 104, 97, 108])) = w1 := ⟨_, rfl⟩
  have k1 : Blk w1 rb #[.int .i64 7, .string (S [99, 104, 97, 108])] 31 := by rw [← hw1]; exact (k0.set 0 (.int .i64 7)).set 1 (.string (S [99, 104, 97, 108]))
  have b1 : Below w.heap.size w w1 := by rw [← hw1]; exact (b0.setCell (p := ⟨rb, 0, none⟩) (Nat.le_of_eq hrb) _).setCell (p := ⟨rb, 1, none⟩) (Nat.le_of_eq hrb) _
  obtain ⟨s0, s1⟩ := k1.two
  have B1 := Lib.hid b1
  clear b0 k0 k1 b1
  go_enter Tryz.func26, Tryz.ntmps26
  go_wp2_with fail
  refine bodyPost_ret (v := .agg #[.int .i64 7, .string (S [99, 104, 97, 108])]) (by simp [results, Tryz.results26, go_sem, s0, s1]) rfl ?_
  exact ⟨rfl, B1.out⟩
end Go.Proofs.YtmkebjdmkkjloaaGreatDoor
namespace Go.Proofs.YtmkebjdmkkjloaaGreatDoor
open Go.RowKit
set_option linter.unusedVariables false
theorem value_ans (h : Hd) (fl t s c cls det : Int) (n : List UInt8) (i : Nat) (he : idxName kd11.fs n = some i) (hi : i < 10) : valueR (ansH h fl t s c cls det) n = ((ansH h fl t s c cls det).vs.getD i 0, 0) := by
  unfold valueR
  rw [show (ansH h fl t s c cls det).op = 35 from rfl, kind35]
  simp only [valueK]
  rw [he]
  simp only
  exact if_pos hi
theorem stat_ans (h : Hd) (fl t s c cls det : Int) (a : List Ah) (x : List UInt8) : statR ⟨ansH h fl t s c cls det, a, x⟩ = (fl, cls.toNat, det.toNat) := by
  unfold statR hv
  simp only
  rw [value_ans h fl t s c cls det nCls 8 (by kernel_rfl) (by decide), value_ans h fl t s c cls det nDet 9 (by kernel_rfl) (by decide)]
  rw [if_neg (by simp [ansH])]
  rfl
def knockL (c : Cf) (d : Dw) : Lg → Pd → List Pd → (Pd × Bool) × Lg
  | s, q, [] => ((q, true), s)
  | s, q, p :: l => if (takeL c d s p).1.2 ≠ 0 then ((q, false), (takeL c d s p).2) else knockL c d (takeL c d s p).2 (takeL c d s p).1.1 l
theorem knock_one {c : Cf} {d : Dw} {s : Lg} {p : Pd} (h : (takeL c d s p).1.2 = 0) : knockL c d s pd0 [p] = (((takeL c d s p).1.1, true), (takeL c d s p).2) := by
  unfold knockL
  rw [if_neg (by simp [h])]
  rfl
structure SameT (s t : Lg) : Prop where
  don : t.don = s.don
  fld : t.fld = s.fld
  sta : t.sta = s.sta
  cmd : t.cmd = s.cmd
  stg : t.stg = s.stg
  fst : t.fst = s.fst
theorem SameT.refl (s : Lg) : SameT s s := ⟨rfl, rfl, rfl, rfl, rfl, rfl⟩
theorem SameT.trans {s t u : Lg} (h : SameT s t) (k : SameT t u) : SameT s u := ⟨k.don.trans h.don, k.fld.trans h.fld, k.sta.trans h.sta, k.cmd.trans h.cmd, k.stg.trans h.stg, k.fst.trans h.fst⟩
theorem reply_stat (p : Pd) (r : (Int × List Pr × Int) × Lg) : statR (replyL p r).1 = if r.1.2.2 ≠ -1 then (4 * csgI p.h, 2, r.1.2.2.toNat) else (r.1.1, 0, 0) := by
  unfold replyL
  simp only
  rw [stat_ans]
  by_cases h : r.1.2.2 = -1
  · simp [h]
  · simp [h]
end Go.Proofs.YtmkebjdmkkjloaaGreatDoor
namespace Go.Proofs.YtmkebjdmkkjloaaGreatDoor
open Go Go.RowKit
set_option linter.unusedVariables false
def askNames : List (List UInt8) := [[73, 83, 73, 68], [73, 84, 84], [67, 73, 68], [67, 109, 100, 83, 78]]
def asksR (fl : Int) (l : List Pr) : Pd × Bool := (⟨(makeR 3 fl askNames [9, 5, 1, 77]).1, [], (prPrint l).1⟩, decide ((makeR 3 fl askNames [9, 5, 1, 77]).2.1 = 0) && decide ((prPrint l).2.1 = 0))
def RetAsks (w : World) (r : Pd × Bool) (e : Ending) (w' : World) : Prop := ∃ vv, e = .returned (.tuple #[pduV r.1 vv (.slice none 0 0), .bool r.2]) ∧ Vals w' vv r.1.h.vs ∧ OwnV w vv ∧ Below w.heap.size w w'
set_option maxRecDepth 100000 in
set_option maxHeartbeats 4000000 in
theorem asks_any (fl : Int) (l : List Pr) (v : Value) (w : World) (hfl : I64 fl) (hv : PrsV w v l) (hf : fitPs l) (hm : MaxCell w) :
    Calls Tryz.prog 27 #[.int .i64 fl, v] w (RetAsks w (asksR fl l)) := by
  obtain ⟨w0, hw0⟩ : ∃ w0, w.alloc (.cells #[.int .i64 0, .bool false, .int .i64 0, .slice none 0 0, .slice none 0 0, .string (S [])] 41) = w0 := ⟨_, rfl⟩
  have b0 : Below w.heap.size w w0 := by rw [← hw0]; exact (Below.refl _ _).alloc (Nat.le_refl _) _
  have k0 : Blk w0 w.heap.size #[.int .i64 0, .bool false, .int .i64 0, .slice none 0 0, .slice none 0 0, .string (S [])] 41 := by rw [← hw0]; exact Blk.new w _ _
  obtain ⟨w1, hw1⟩ : ∃ w1, w0.alloc (.cells #[.string (S [73, 83, 73, 68]), .string (S [73, 84, 84]), .string (S [67, 73, 68]), .string (S [67, 109, 100, 83, 78])] 9) = w1 := ⟨_, rfl⟩
  have b1 : Below w0.heap.size w0 w1 := by rw [← hw1]; exact (Below.refl _ _).alloc (Nat.le_refl _) _
  have k1 : Blk w1 w0.heap.size #[.string (S [73, 83, 73, 68]), .string (S [73, 84, 84]), .string (S [67, 73, 68]), .string (S [67, 109, 100, 83, 78])] 9 := by rw [← hw1]; exact Blk.new w0 _ _
  obtain ⟨w2, hw2⟩ : ∃ w2, w1.alloc (.cells #[.int .u64 9, .int .u64 5, .int .u64 1, .int .u64 77] 49) = w2 := ⟨_, rfl⟩
  have b2 : Below w1.heap.size w1 w2 := by rw [← hw2]; exact (Below.refl _ _).alloc (Nat.le_refl _) _
  have k2 : Blk w2 w1.heap.size #[.int .u64 9, .int .u64 5, .int .u64 1, .int .u64 77] 49 := by rw [← hw2]; exact Blk.new w1 _ _
  have b01 := below_then b0 b1
  have b02 := below_then b01 b2
  have hN : StrV w2 (.slice (some ⟨w0.heap.size, 0, none⟩) 4 4) askNames := strs_row (l := askNames) (k1.later b2)
  have hV : Vals w2 (.slice (some ⟨w1.heap.size, 0, none⟩) 4 4) [9, 5, 1, 77] := vals_row (l := [9, 5, 1, 77]) k2 (by decide)
  have MK := makeO_any 3 fl askNames [9, 5, 1, 77] _ _ w2 hfl (hm.later b02) hN hV (by decide) (by decide)
  have j0 := k0.later (below_then b1 b2)
  have hrl := k0.lt
  obtain ⟨rb, hrb⟩ : ∃ rb, w.heap.size = rb := ⟨_, rfl⟩
  obtain ⟨sb, hsb⟩ : ∃ sb, w0.heap.size = sb := ⟨_, rfl⟩
  obtain ⟨vb, hvb⟩ : ∃ vb, w1.heap.size = vb := ⟨_, rfl⟩
  rw [hrb] at j0
  rw [hsb, hvb] at MK
  have hr2 : rb < w2.heap.size := j0.lt
  have hwr : w.heap.size ≤ rb := by omega
  obtain ⟨R, hR⟩ : ∃ R, asksR fl l = R := ⟨_, rfl⟩
  rw [hR]
  unfold asksR at hR
  obtain ⟨⟨hh, e1, p1⟩, hmk⟩ : ∃ r, makeR 3 fl askNames [9, 5, 1, 77] = r := ⟨_, rfl⟩
  have PR := fun W hb => print_prs l v W (hv.later hb) hf
  obtain ⟨⟨tx, e2, p2⟩, hpr⟩ : ∃ r, prPrint l = r := ⟨_, rfl⟩
  rw [hmk] at hR MK
  rw [hpr] at hR PR
  simp only at hR
  have MK := Lib.hid MK
  have PR := Lib.hid PR
  have HR := Lib.hid hR
  have J0 := Lib.hid j0
  have B2 := Lib.hid b02
  have Hr2 := Lib.hid hr2
  have Hwr := Lib.hid hwr
  clear hfl hv hf hm b0 b1 b2 b01 b02 k0 k1 k2 hN hV j0 hr2 hwr hrl hR hmk hpr
  go_enter Tryz.func27, Tryz.ntmps27
  go_wp2_with fail
  try simp only [hw1, hw2]
  clear hw0 hw1 hw2
  refine MK.out.mono ?_
  rintro e w3 ⟨vh, ev, rfl, ⟨hvh, hown⟩, herr, hb3⟩
  obtain ⟨ph, ch, rfl⟩ : ∃ p c, vh = .slice p hh.vs.length c := by obtain ⟨p, c, h, _⟩ := hvh; exact ⟨p, c, h⟩
  obtain ⟨hb, hhb⟩ : ∃ hb, w3.heap.size = hb := ⟨_, rfl⟩
  obtain ⟨w4, hw4⟩ : ∃ w4, w3.alloc (.cells #[.int .i64 0, .bool false, .int .i64 0, .slice none 0 0] 38) = w4 := ⟨_, rfl⟩
  have k4 : Blk w4 hb #[.int .i64 0, .bool false, .int .i64 0, .slice none 0 0] 38 := by rw [← hw4, ← hhb]; exact Blk.new w3 _ _
  have b4 : Below w3.heap.size w3 w4 := by rw [← hw4]; exact (Below.refl _ _).alloc (Nat.le_refl _) _
  obtain ⟨w5, hw5⟩ : ∃ w5, (((w4.setCell ⟨hb, 0, none⟩ (.int .i64 hh.op)).setCell ⟨hb, 1, none⟩ (.bool hh.now)).setCell ⟨hb, 2, none⟩ (.int .i64 hh.fl)).setCell ⟨hb, 3, none⟩ (.slice ph hh.vs.length ch) = w5 := ⟨_, rfl⟩
  obtain ⟨k5, b5⟩ := four_stored (.int .i64 hh.op) (.bool hh.now) (.int .i64 hh.fl) (.slice ph hh.vs.length ch) k4 (by omega : w3.heap.size ≤ hb) b4
  rw [hw5] at k5 b5
  obtain ⟨g0, g1, g2, g3⟩ := k4.four
  have f0 := k4.frozen 0
  have f1 := k4.frozen 1
  have f2 := k4.frozen 2
  have f3 := k4.frozen 3
  have b35 := below_then hb3 b5
  have J5 := Lib.hid (J0.out.later b35)
  have B5 := Lib.hid (below_then B2.out b35)
  have HVH := Lib.hid (hvh.later b5)
  have HO := Lib.hid hown
  have He := Lib.hid (herr.later b5)
  have K5 := Lib.hid k5
  have PR5 := Lib.hid (PR.out _ B5.out)
  clear hb3 hvh hown herr b4 b5 k4 k5 b35 MK PR J0
  unfold headV
  simp only
  go_wp2_with fail
  clear hw4 hw5 g0 g1 g2 g3 f0 f1 f2 f3
  refine PR5.out.mono ?_
  rintro e w6 ⟨er, rfl, her, hb6⟩
  have J6 := Lib.hid (J5.out.later hb6)
  have B6 := Lib.hid (below_then B5.out hb6)
  have HV6 := Lib.hid (HVH.out.later hb6)
  have He6 := Lib.hid (He.out.later hb6)
  have K6 := Lib.hid (K5.out.later hb6)
  clear hb6 J5 HVH He K5 PR5
  go_wp2_with fail
  have hr := HR.out
  by_cases h1 : e1 = 0
  · subst h1
    obtain rfl := He6.out.zero
    by_cases h2 : e2 = 0
    · subst h2
      obtain rfl := her.zero
      rw [show (decide ((0 : Int) = 0) && decide ((0 : Int) = 0)) = true by decide] at hr
      refine wp_region_held (S := (fun w' => w'.cell? ⟨hb, 0, none⟩ = some (.int .i64 hh.op) ∧ w'.cell? ⟨hb, 1, none⟩ = some (.bool hh.now) ∧ w'.cell? ⟨hb, 2, none⟩ = some (.int .i64 hh.fl) ∧ w'.cell? ⟨hb, 3, none⟩ = some (.slice ph hh.vs.length ch))) (by kernel_rfl) ?_
      have e7 : Below w6.heap.size w6 { w6 with drawn := w6.drawn + 1 } := (Below.refl _ _).drew
      generalize ({ w6 with drawn := w6.drawn + 1 } : World) = w7 at e7 ⊢
      have K7 := K6.out.later e7
      have J7 := J6.out.later e7
      have hS := K7.four
      refine takeN (.agg #[.int .i64 hh.op, .bool hh.now, .int .i64 hh.fl, .slice ph hh.vs.length ch]) (some 22) (i := 0) rfl rfl (by kernel_rfl) (by kernel_rfl) (by kernel_rfl) (fun _ _ _ h => h) (Or.inl ⟨by rfl, fun w' hw' => ?_⟩) hS ?_
      · obtain ⟨x0, x1, x2, x3⟩ := hw'
        go_simp
      simp only [Act.put, List.setIfInBounds_toArray, List.set_cons_succ, List.set_cons_zero]
      refine takeN (.string (S tx)) (some 23) (i := 1) rfl rfl (by kernel_rfl) (by kernel_rfl) (by kernel_rfl) (fun _ _ _ h => h) (Or.inl ⟨by rfl, fun w' hw' => ?_⟩) hS ?_
      · obtain ⟨x0, x1, x2, x3⟩ := hw'
        go_simp
      simp only [Act.put, List.setIfInBounds_toArray, List.set_cons_succ, List.set_cons_zero]
      refine takeN (.agg #[.int .i64 hh.op, .bool hh.now, .int .i64 hh.fl, .slice ph hh.vs.length ch, .slice none 0 0, .string (S tx)]) (some 24) (i := 2) rfl rfl (by kernel_rfl) (by kernel_rfl) (by kernel_rfl) (fun _ _ _ h => h) (Or.inl ⟨by rfl, fun w' hw' => ?_⟩) hS ?_
      · obtain ⟨x0, x1, x2, x3⟩ := hw'
        go_simp
      simp only [Act.put, List.setIfInBounds_toArray, List.set_cons_succ, List.set_cons_zero]
      refine takeN (.nilIface) (some 25) (i := 3) rfl rfl (by kernel_rfl) (by kernel_rfl) (by kernel_rfl) (fun _ _ _ h => h) (Or.inl ⟨by rfl, fun w' hw' => ?_⟩) hS ?_
      · obtain ⟨x0, x1, x2, x3⟩ := hw'
        go_simp
      simp only [Act.put, List.setIfInBounds_toArray, List.set_cons_succ, List.set_cons_zero]
      refine takeN (.bool true) (some 26) (i := 4) rfl rfl (by kernel_rfl) (by kernel_rfl) (by kernel_rfl) (fun _ _ _ h => h) (Or.inl ⟨by rfl, fun w' hw' => ?_⟩) hS ?_
      · obtain ⟨x0, x1, x2, x3⟩ := hw'
        go_simp
      simp only [Act.put, List.setIfInBounds_toArray, List.set_cons_succ, List.set_cons_zero]
      refine takeN (.bool true) (some 27) (i := 5) rfl rfl (by kernel_rfl) (by kernel_rfl) (by kernel_rfl) (fun _ _ _ h => h) (Or.inl ⟨by rfl, fun w' hw' => ?_⟩) hS ?_
      · obtain ⟨x0, x1, x2, x3⟩ := hw'
        go_simp
      simp only [Act.put, List.setIfInBounds_toArray, List.set_cons_succ, List.set_cons_zero]
      refine takeN (.nilIface) (some 28) (i := 6) rfl rfl (by kernel_rfl) (by kernel_rfl) (by kernel_rfl) (fun _ _ _ h => h) (Or.inl ⟨by rfl, fun w' hw' => ?_⟩) hS ?_
      · obtain ⟨x0, x1, x2, x3⟩ := hw'
        go_simp
      simp only [Act.put, List.setIfInBounds_toArray, List.set_cons_succ, List.set_cons_zero]
      refine takeN (.bool true) (some 29) (i := 7) rfl rfl (by kernel_rfl) (by kernel_rfl) (by kernel_rfl) (fun _ _ _ h => h) (Or.inl ⟨by rfl, fun w' hw' => ?_⟩) hS ?_
      · obtain ⟨x0, x1, x2, x3⟩ := hw'
        go_simp
      simp only [Act.put, List.setIfInBounds_toArray, List.set_cons_succ, List.set_cons_zero]
      refine takeN (.bool true) (some 30) (i := 8) rfl rfl (by kernel_rfl) (by kernel_rfl) (by kernel_rfl) (fun _ _ _ h => h) (Or.inl ⟨by rfl, fun w' hw' => ?_⟩) hS ?_
      · obtain ⟨x0, x1, x2, x3⟩ := hw'
        go_simp
      simp only [Act.put, List.setIfInBounds_toArray, List.set_cons_succ, List.set_cons_zero]
      refine wpAnyH_all (rs := [9]) (by kernel_rfl) (by simp) (fun i hi => ?_)
      obtain rfl : i = 9 := by simpa using hi
      have hB8 := J7.whole (D := #[.int .i64 hh.op, .bool hh.now, .int .i64 hh.fl, .slice ph hh.vs.length ch, .slice none 0 0, .string (S tx)]) rfl
      have hg8 := setCells_grownB rb (#[.int .i64 hh.op, .bool hh.now, .int .i64 hh.fl, .slice ph hh.vs.length ch, .slice none 0 0, .string (S tx)] : Array Value).toList 0 w7
      have hSR := J7.there
      obtain ⟨w8, hw8⟩ : ∃ w8, w7.setCells rb 0 (#[.int .i64 hh.op, .bool hh.now, .int .i64 hh.fl, .slice ph hh.vs.length ch, .slice none 0 0, .string (S tx)] : Array Value).toList = w8 := ⟨_, rfl⟩
      rw [hw8] at hB8 hg8
      have hne : hb ≠ rb := fun e => by
        have h1 := K7
        rw [e] at h1
        have h2 := h1.symm.trans J7
        have h3 : (38 : TypeId) = 41 := congrArg (fun (o : Option Obj) => match o with | some (.cells _ t _) => t | _ => 0) h2
        exact absurd h3 (by decide)
      have K8 : Blk w8 hb #[.int .i64 hh.op, .bool hh.now, .int .i64 hh.fl, .slice ph hh.vs.length ch] 38 := (hg8.block hb K7.lt (fun e => hne (Option.some.inj e))).trans K7
      have hSU := K8.four
      have hv8 := (HV6.out.later e7).laid HO.out Hr2.out hg8
      have b8 : Below w.heap.size w w8 := Below.grown (below_then B6.out e7) hg8 (below_then B6.out e7).size (fun k hk => by cases hk; exact Hwr.out)
      refine wantN (i := 9) rfl (by rfl) (storeN none rfl _ _ _ rfl rb 0 #[.int .i64 hh.op, .bool hh.now, .int .i64 hh.fl, .slice ph hh.vs.length ch, .slice none 0 0, .string (S tx)] rfl rfl hSR (by kernel_rfl) (by simp [Value.oneCell']) ?_)
      rw [hw8]
      refine ⟨hSU, ?_⟩
      simp only [Act.put]
      refine takeN (.bool true) (some 5) (i := 10) rfl rfl (by kernel_rfl) (by kernel_rfl) (by kernel_rfl) (fun _ _ _ h => h) (Or.inl ⟨by rfl, fun w' hw' => ?_⟩) hSU ?_
      · obtain ⟨x0, x1, x2, x3⟩ := hw'
        go_simp
      simp only [Act.put, List.setIfInBounds_toArray, List.set_cons_succ, List.set_cons_zero]
      refine wpAnyH_done (by kernel_rfl) ?_ _
      obtain ⟨s0, s1, s2, s3, s4, s5⟩ := hB8.six
      go_wp2_with fail
      refine bodyPost_ret (v := .tuple #[.agg #[.int .i64 hh.op, .bool hh.now, .int .i64 hh.fl, .slice ph hh.vs.length ch, .slice none 0 0, .string (S tx)], .bool true]) (by simp [results, Tryz.results27, go_sem, s0, s1, s2, s3, s4, s5]) rfl ?_
      subst hr
      exact ⟨_, rfl, hv8, fun k hk => Nat.le_trans B2.out.size (HO.out k hk), b8⟩
    · obtain ⟨ty, xv, rfl⟩ := her.iface h2
      rw [show (decide ((0 : Int) = 0) && decide (e2 = 0)) = false by simp [h2]] at hr
      refine wp_region_held (S := (fun w' => w'.cell? ⟨hb, 0, none⟩ = some (.int .i64 hh.op) ∧ w'.cell? ⟨hb, 1, none⟩ = some (.bool hh.now) ∧ w'.cell? ⟨hb, 2, none⟩ = some (.int .i64 hh.fl) ∧ w'.cell? ⟨hb, 3, none⟩ = some (.slice ph hh.vs.length ch))) (by kernel_rfl) ?_
      have e7 : Below w6.heap.size w6 { w6 with drawn := w6.drawn + 1 } := (Below.refl _ _).drew
      generalize ({ w6 with drawn := w6.drawn + 1 } : World) = w7 at e7 ⊢
      have K7 := K6.out.later e7
      have J7 := J6.out.later e7
      have hS := K7.four
      refine takeN (.agg #[.int .i64 hh.op, .bool hh.now, .int .i64 hh.fl, .slice ph hh.vs.length ch]) (some 22) (i := 0) rfl rfl (by kernel_rfl) (by kernel_rfl) (by kernel_rfl) (fun _ _ _ h => h) (Or.inl ⟨by rfl, fun w' hw' => ?_⟩) hS ?_
      · obtain ⟨x0, x1, x2, x3⟩ := hw'
        go_simp
      simp only [Act.put, List.setIfInBounds_toArray, List.set_cons_succ, List.set_cons_zero]
      refine takeN (.string (S tx)) (some 23) (i := 1) rfl rfl (by kernel_rfl) (by kernel_rfl) (by kernel_rfl) (fun _ _ _ h => h) (Or.inl ⟨by rfl, fun w' hw' => ?_⟩) hS ?_
      · obtain ⟨x0, x1, x2, x3⟩ := hw'
        go_simp
      simp only [Act.put, List.setIfInBounds_toArray, List.set_cons_succ, List.set_cons_zero]
      refine takeN (.agg #[.int .i64 hh.op, .bool hh.now, .int .i64 hh.fl, .slice ph hh.vs.length ch, .slice none 0 0, .string (S tx)]) (some 24) (i := 2) rfl rfl (by kernel_rfl) (by kernel_rfl) (by kernel_rfl) (fun _ _ _ h => h) (Or.inl ⟨by rfl, fun w' hw' => ?_⟩) hS ?_
      · obtain ⟨x0, x1, x2, x3⟩ := hw'
        go_simp
      simp only [Act.put, List.setIfInBounds_toArray, List.set_cons_succ, List.set_cons_zero]
      refine takeN (.nilIface) (some 25) (i := 3) rfl rfl (by kernel_rfl) (by kernel_rfl) (by kernel_rfl) (fun _ _ _ h => h) (Or.inl ⟨by rfl, fun w' hw' => ?_⟩) hS ?_
      · obtain ⟨x0, x1, x2, x3⟩ := hw'
        go_simp
      simp only [Act.put, List.setIfInBounds_toArray, List.set_cons_succ, List.set_cons_zero]
      refine takeN (.bool true) (some 26) (i := 4) rfl rfl (by kernel_rfl) (by kernel_rfl) (by kernel_rfl) (fun _ _ _ h => h) (Or.inl ⟨by rfl, fun w' hw' => ?_⟩) hS ?_
      · obtain ⟨x0, x1, x2, x3⟩ := hw'
        go_simp
      simp only [Act.put, List.setIfInBounds_toArray, List.set_cons_succ, List.set_cons_zero]
      refine takeN (.bool true) (some 27) (i := 5) rfl rfl (by kernel_rfl) (by kernel_rfl) (by kernel_rfl) (fun _ _ _ h => h) (Or.inl ⟨by rfl, fun w' hw' => ?_⟩) hS ?_
      · obtain ⟨x0, x1, x2, x3⟩ := hw'
        go_simp
      simp only [Act.put, List.setIfInBounds_toArray, List.set_cons_succ, List.set_cons_zero]
      refine takeN (.iface ty xv) (some 28) (i := 6) rfl rfl (by kernel_rfl) (by kernel_rfl) (by kernel_rfl) (fun _ _ _ h => h) (Or.inl ⟨by rfl, fun w' hw' => ?_⟩) hS ?_
      · obtain ⟨x0, x1, x2, x3⟩ := hw'
        go_simp
      simp only [Act.put, List.setIfInBounds_toArray, List.set_cons_succ, List.set_cons_zero]
      refine takeN (.bool false) (some 29) (i := 7) rfl rfl (by kernel_rfl) (by kernel_rfl) (by kernel_rfl) (fun _ _ _ h => h) (Or.inl ⟨by rfl, fun w' hw' => ?_⟩) hS ?_
      · obtain ⟨x0, x1, x2, x3⟩ := hw'
        go_simp
      simp only [Act.put, List.setIfInBounds_toArray, List.set_cons_succ, List.set_cons_zero]
      refine takeN (.bool false) (some 30) (i := 8) rfl rfl (by kernel_rfl) (by kernel_rfl) (by kernel_rfl) (fun _ _ _ h => h) (Or.inl ⟨by rfl, fun w' hw' => ?_⟩) hS ?_
      · obtain ⟨x0, x1, x2, x3⟩ := hw'
        go_simp
      simp only [Act.put, List.setIfInBounds_toArray, List.set_cons_succ, List.set_cons_zero]
      refine wpAnyH_all (rs := [9]) (by kernel_rfl) (by simp) (fun i hi => ?_)
      obtain rfl : i = 9 := by simpa using hi
      have hB8 := J7.whole (D := #[.int .i64 hh.op, .bool hh.now, .int .i64 hh.fl, .slice ph hh.vs.length ch, .slice none 0 0, .string (S tx)]) rfl
      have hg8 := setCells_grownB rb (#[.int .i64 hh.op, .bool hh.now, .int .i64 hh.fl, .slice ph hh.vs.length ch, .slice none 0 0, .string (S tx)] : Array Value).toList 0 w7
      have hSR := J7.there
      obtain ⟨w8, hw8⟩ : ∃ w8, w7.setCells rb 0 (#[.int .i64 hh.op, .bool hh.now, .int .i64 hh.fl, .slice ph hh.vs.length ch, .slice none 0 0, .string (S tx)] : Array Value).toList = w8 := ⟨_, rfl⟩
      rw [hw8] at hB8 hg8
      have hne : hb ≠ rb := fun e => by
        have h1 := K7
        rw [e] at h1
        have h2 := h1.symm.trans J7
        have h3 : (38 : TypeId) = 41 := congrArg (fun (o : Option Obj) => match o with | some (.cells _ t _) => t | _ => 0) h2
        exact absurd h3 (by decide)
      have K8 : Blk w8 hb #[.int .i64 hh.op, .bool hh.now, .int .i64 hh.fl, .slice ph hh.vs.length ch] 38 := (hg8.block hb K7.lt (fun e => hne (Option.some.inj e))).trans K7
      have hSU := K8.four
      have hv8 := (HV6.out.later e7).laid HO.out Hr2.out hg8
      have b8 : Below w.heap.size w w8 := Below.grown (below_then B6.out e7) hg8 (below_then B6.out e7).size (fun k hk => by cases hk; exact Hwr.out)
      refine wantN (i := 9) rfl (by rfl) (storeN none rfl _ _ _ rfl rb 0 #[.int .i64 hh.op, .bool hh.now, .int .i64 hh.fl, .slice ph hh.vs.length ch, .slice none 0 0, .string (S tx)] rfl rfl hSR (by kernel_rfl) (by simp [Value.oneCell']) ?_)
      rw [hw8]
      refine ⟨hSU, ?_⟩
      simp only [Act.put]
      refine takeN (.bool false) (some 5) (i := 10) rfl rfl (by kernel_rfl) (by kernel_rfl) (by kernel_rfl) (fun _ _ _ h => h) (Or.inl ⟨by rfl, fun w' hw' => ?_⟩) hSU ?_
      · obtain ⟨x0, x1, x2, x3⟩ := hw'
        go_simp
      simp only [Act.put, List.setIfInBounds_toArray, List.set_cons_succ, List.set_cons_zero]
      refine wpAnyH_done (by kernel_rfl) ?_ _
      obtain ⟨s0, s1, s2, s3, s4, s5⟩ := hB8.six
      go_wp2_with fail
      refine bodyPost_ret (v := .tuple #[.agg #[.int .i64 hh.op, .bool hh.now, .int .i64 hh.fl, .slice ph hh.vs.length ch, .slice none 0 0, .string (S tx)], .bool false]) (by simp [results, Tryz.results27, go_sem, s0, s1, s2, s3, s4, s5]) rfl ?_
      subst hr
      exact ⟨_, rfl, hv8, fun k hk => Nat.le_trans B2.out.size (HO.out k hk), b8⟩
  · obtain ⟨ty, xv, rfl⟩ := He6.out.iface h1
    rw [show (decide (e1 = 0) && decide (e2 = 0)) = false by simp [h1]] at hr
    refine wp_region_held (S := (fun w' => w'.cell? ⟨hb, 0, none⟩ = some (.int .i64 hh.op) ∧ w'.cell? ⟨hb, 1, none⟩ = some (.bool hh.now) ∧ w'.cell? ⟨hb, 2, none⟩ = some (.int .i64 hh.fl) ∧ w'.cell? ⟨hb, 3, none⟩ = some (.slice ph hh.vs.length ch))) (by kernel_rfl) ?_
    have e7 : Below w6.heap.size w6 { w6 with drawn := w6.drawn + 1 } := (Below.refl _ _).drew
    generalize ({ w6 with drawn := w6.drawn + 1 } : World) = w7 at e7 ⊢
    have K7 := K6.out.later e7
    have J7 := J6.out.later e7
    have hS := K7.four
    refine takeN (.agg #[.int .i64 hh.op, .bool hh.now, .int .i64 hh.fl, .slice ph hh.vs.length ch]) (some 22) (i := 0) rfl rfl (by kernel_rfl) (by kernel_rfl) (by kernel_rfl) (fun _ _ _ h => h) (Or.inl ⟨by rfl, fun w' hw' => ?_⟩) hS ?_
    · obtain ⟨x0, x1, x2, x3⟩ := hw'
      go_simp
    simp only [Act.put, List.setIfInBounds_toArray, List.set_cons_succ, List.set_cons_zero]
    refine takeN (.string (S tx)) (some 23) (i := 1) rfl rfl (by kernel_rfl) (by kernel_rfl) (by kernel_rfl) (fun _ _ _ h => h) (Or.inl ⟨by rfl, fun w' hw' => ?_⟩) hS ?_
    · obtain ⟨x0, x1, x2, x3⟩ := hw'
      go_simp
    simp only [Act.put, List.setIfInBounds_toArray, List.set_cons_succ, List.set_cons_zero]
    refine takeN (.agg #[.int .i64 hh.op, .bool hh.now, .int .i64 hh.fl, .slice ph hh.vs.length ch, .slice none 0 0, .string (S tx)]) (some 24) (i := 2) rfl rfl (by kernel_rfl) (by kernel_rfl) (by kernel_rfl) (fun _ _ _ h => h) (Or.inl ⟨by rfl, fun w' hw' => ?_⟩) hS ?_
    · obtain ⟨x0, x1, x2, x3⟩ := hw'
      go_simp
    simp only [Act.put, List.setIfInBounds_toArray, List.set_cons_succ, List.set_cons_zero]
    refine takeN (.iface ty xv) (some 25) (i := 3) rfl rfl (by kernel_rfl) (by kernel_rfl) (by kernel_rfl) (fun _ _ _ h => h) (Or.inl ⟨by rfl, fun w' hw' => ?_⟩) hS ?_
    · obtain ⟨x0, x1, x2, x3⟩ := hw'
      go_simp
    simp only [Act.put, List.setIfInBounds_toArray, List.set_cons_succ, List.set_cons_zero]
    refine takeN (.bool false) (some 26) (i := 4) rfl rfl (by kernel_rfl) (by kernel_rfl) (by kernel_rfl) (fun _ _ _ h => h) (Or.inl ⟨by rfl, fun w' hw' => ?_⟩) hS ?_
    · obtain ⟨x0, x1, x2, x3⟩ := hw'
      go_simp
    simp only [Act.put, List.setIfInBounds_toArray, List.set_cons_succ, List.set_cons_zero]
    refine takeN (.bool false) (some 27) (i := 5) rfl rfl (by kernel_rfl) (by kernel_rfl) (by kernel_rfl) (fun _ _ _ h => h) (Or.inl ⟨by rfl, fun w' hw' => ?_⟩) hS ?_
    · obtain ⟨x0, x1, x2, x3⟩ := hw'
      go_simp
    simp only [Act.put, List.setIfInBounds_toArray, List.set_cons_succ, List.set_cons_zero]
    refine takeN undef (some 28) (i := 6) rfl rfl (by kernel_rfl) (by kernel_rfl) (by kernel_rfl) (fun _ _ _ h => h) (Or.inr ⟨by rfl, rfl⟩) hS ?_
    simp only [Act.put, List.setIfInBounds_toArray, List.set_cons_succ, List.set_cons_zero]
    refine takeN undef (some 29) (i := 7) rfl rfl (by kernel_rfl) (by kernel_rfl) (by kernel_rfl) (fun _ _ _ h => h) (Or.inr ⟨by rfl, rfl⟩) hS ?_
    simp only [Act.put, List.setIfInBounds_toArray, List.set_cons_succ, List.set_cons_zero]
    refine takeN (.bool false) (some 30) (i := 8) rfl rfl (by kernel_rfl) (by kernel_rfl) (by kernel_rfl) (fun _ _ _ h => h) (Or.inl ⟨by rfl, fun w' hw' => ?_⟩) hS ?_
    · obtain ⟨x0, x1, x2, x3⟩ := hw'
      go_simp
    simp only [Act.put, List.setIfInBounds_toArray, List.set_cons_succ, List.set_cons_zero]
    refine wpAnyH_all (rs := [9]) (by kernel_rfl) (by simp) (fun i hi => ?_)
    obtain rfl : i = 9 := by simpa using hi
    have hB8 := J7.whole (D := #[.int .i64 hh.op, .bool hh.now, .int .i64 hh.fl, .slice ph hh.vs.length ch, .slice none 0 0, .string (S tx)]) rfl
    have hg8 := setCells_grownB rb (#[.int .i64 hh.op, .bool hh.now, .int .i64 hh.fl, .slice ph hh.vs.length ch, .slice none 0 0, .string (S tx)] : Array Value).toList 0 w7
    have hSR := J7.there
    obtain ⟨w8, hw8⟩ : ∃ w8, w7.setCells rb 0 (#[.int .i64 hh.op, .bool hh.now, .int .i64 hh.fl, .slice ph hh.vs.length ch, .slice none 0 0, .string (S tx)] : Array Value).toList = w8 := ⟨_, rfl⟩
    rw [hw8] at hB8 hg8
    have hne : hb ≠ rb := fun e => by
      have h1 := K7
      rw [e] at h1
      have h2 := h1.symm.trans J7
      have h3 : (38 : TypeId) = 41 := congrArg (fun (o : Option Obj) => match o with | some (.cells _ t _) => t | _ => 0) h2
      exact absurd h3 (by decide)
    have K8 : Blk w8 hb #[.int .i64 hh.op, .bool hh.now, .int .i64 hh.fl, .slice ph hh.vs.length ch] 38 := (hg8.block hb K7.lt (fun e => hne (Option.some.inj e))).trans K7
    have hSU := K8.four
    have hv8 := (HV6.out.later e7).laid HO.out Hr2.out hg8
    have b8 : Below w.heap.size w w8 := Below.grown (below_then B6.out e7) hg8 (below_then B6.out e7).size (fun k hk => by cases hk; exact Hwr.out)
    refine wantN (i := 9) rfl (by rfl) (storeN none rfl _ _ _ rfl rb 0 #[.int .i64 hh.op, .bool hh.now, .int .i64 hh.fl, .slice ph hh.vs.length ch, .slice none 0 0, .string (S tx)] rfl rfl hSR (by kernel_rfl) (by simp [Value.oneCell']) ?_)
    rw [hw8]
    refine ⟨hSU, ?_⟩
    simp only [Act.put]
    refine takeN (.bool false) (some 5) (i := 10) rfl rfl (by kernel_rfl) (by kernel_rfl) (by kernel_rfl) (fun _ _ _ h => h) (Or.inl ⟨by rfl, fun w' hw' => ?_⟩) hSU ?_
    · obtain ⟨x0, x1, x2, x3⟩ := hw'
      go_simp
    simp only [Act.put, List.setIfInBounds_toArray, List.set_cons_succ, List.set_cons_zero]
    refine wpAnyH_done (by kernel_rfl) ?_ _
    obtain ⟨s0, s1, s2, s3, s4, s5⟩ := hB8.six
    go_wp2_with fail
    refine bodyPost_ret (v := .tuple #[.agg #[.int .i64 hh.op, .bool hh.now, .int .i64 hh.fl, .slice ph hh.vs.length ch, .slice none 0 0, .string (S tx)], .bool false]) (by simp [results, Tryz.results27, go_sem, s0, s1, s2, s3, s4, s5]) rfl ?_
    subst hr
    exact ⟨_, rfl, hv8, fun k hk => Nat.le_trans B2.out.size (HO.out k hk), b8⟩
end Go.Proofs.YtmkebjdmkkjloaaGreatDoor
namespace Go.Proofs.YtmkebjdmkkjloaaGreatDoor
open Go.RowKit
set_option linter.unusedVariables false
def reqH (fl : Int) (a b i t k c m e : Nat) : Hd := ⟨3, false, fl, [a, b, i, t, k, c, m, e]⟩
theorem value_req (fl : Int) (a b i t k c m e : Nat) (n : List UInt8) (j : Nat) (he : idxName kd3.fs n = some j) (hj : j < 8) : valueR (reqH fl a b i t k c m e) n = ([a, b, i, t, k, c, m, e].getD j 0, 0) := by
  unfold valueR
  rw [show (reqH fl a b i t k c m e).op = 3 from rfl, kind3]
  simp only [valueK]
  rw [he]
  simp only
  exact if_pos hj
theorem hv_req (fl : Int) (a b i t k c m e : Nat) :
    hv (reqH fl a b i t k c m e) nVMin = b ∧ hv (reqH fl a b i t k c m e) nTSIH = t ∧ hv (reqH fl a b i t k c m e) nISID = i ∧ hv (reqH fl a b i t k c m e) nCID = c ∧ hv (reqH fl a b i t k c m e) nITT = k ∧ hv (reqH fl a b i t k c m e) nCmd = m := by
  refine ⟨?_, ?_, ?_, ?_, ?_, ?_⟩
  · show (valueR _ nVMin).1 = _
    rw [value_req fl a b i t k c m e nVMin 1 (by kernel_rfl) (by decide)]; rfl
  · show (valueR _ nTSIH).1 = _
    rw [value_req fl a b i t k c m e nTSIH 3 (by kernel_rfl) (by decide)]; rfl
  · show (valueR _ nISID).1 = _
    rw [value_req fl a b i t k c m e nISID 2 (by kernel_rfl) (by decide)]; rfl
  · show (valueR _ nCID).1 = _
    rw [value_req fl a b i t k c m e nCID 5 (by kernel_rfl) (by decide)]; rfl
  · show (valueR _ nITT).1 = _
    rw [value_req fl a b i t k c m e nITT 4 (by kernel_rfl) (by decide)]; rfl
  · show (valueR _ nCmd).1 = _
    rw [value_req fl a b i t k c m e nCmd 6 (by kernel_rfl) (by decide)]; rfl
theorem req_right {fl : Int} {b i t k c m : Nat} (hfl : flOk fl 207 = true) (hb : b < 256) (hi : i < 281474976710656) (ht : t < 65536) (hk : k < 4294967296) (hc : c < 65536) (hm : m < 4294967296) : rightR (reqH fl 0 b i t k c m 0) = (0, -1) := by
  refine rightR_mk kind3 (fun h => by cases h) hfl rfl ?_
  have d1 : b / 2 ^ (8 * 1) = 0 := Nat.div_eq_of_lt (by omega)
  have d2 : i / 2 ^ (8 * 6) = 0 := Nat.div_eq_of_lt (by omega)
  have d3 : t / 2 ^ (8 * 2) = 0 := Nat.div_eq_of_lt (by omega)
  have d4 : k / 2 ^ (8 * 4) = 0 := Nat.div_eq_of_lt (by omega)
  have d5 : c / 2 ^ (8 * 2) = 0 := Nat.div_eq_of_lt (by omega)
  have d6 : m / 2 ^ (8 * 4) = 0 := Nat.div_eq_of_lt (by omega)
  unfold kd3 reqH
  simp only [badVal]
  rw [d1, d2, d3, d4, d5, d6]
  simp
theorem make_req {fl : Int} {ns : List (List UInt8)} {vs : List Nat} {b i t k c m : Nat} (hfl : flOk fl 207 = true) (hb : b < 256) (hi : i < 281474976710656) (ht : t < 65536) (hk : k < 4294967296) (hc : c < 65536) (hm : m < 4294967296)
    (hf : fill kd3.fs ns vs (List.replicate kd3.fs.length 0) = ([0, b, i, t, k, c, m, 0], 0)) : makeR 3 fl ns vs = (reqH fl 0 b i t k c m 0, 0, -1) := by
  have hr := req_right hfl hb hi ht hk hc hm
  unfold makeR
  rw [kind3]
  simp only
  rw [hf]
  simp only
  rw [if_neg (by simp)]
  unfold reqH at hr ⊢
  rw [hr]
  simp
theorem fill_asks : fill kd3.fs askNames [9, 5, 1, 77] (List.replicate kd3.fs.length 0) = ([0, 0, 9, 0, 5, 1, 77, 0], 0) := by kernel_rfl
theorem asks_req {fl : Int} {l : List Pr} (hfl : flOk fl 207 = true) (hl : okPs l) (h60 : l.length ≤ 60) : asksR fl l = (⟨reqH fl 0 0 9 0 5 1 77 0, [], prBytes l⟩, true) := by
  have hm := make_req (b := 0) (i := 9) (t := 0) (k := 5) (c := 1) (m := 77) hfl (by decide) (by decide) (by decide) (by decide) (by decide) (by decide) fill_asks
  have hp : prPrint l = (prBytes l, 0, -1) := by
    unfold prPrint
    rw [prRight_ok hl h60]
    rfl
  unfold asksR
  rw [hm, hp]
  rfl
theorem req_take {c : Cf} {d : Dw} {s : Lg} {h : Hd} {x : List UInt8} (hr : rightR h = (0, -1)) (ho : h.op = 3) (hx : x.length ≤ 100000) (hd : s.don = false) (hf : s.fld = false) :
    takeL c d s ⟨h, [], x⟩ = (((replyL ⟨h, [], x⟩ (asksL c d ⟨h, [], x⟩ s)).1, 0), (replyL ⟨h, [], x⟩ (asksL c d ⟨h, [], x⟩ s)).2) := by
  refine takeL_go (by rw [hd, hf]; decide) ho ?_
  unfold rightP
  rw [hr, if_neg (by decide), show (rightA ([] : List Ah)).1 = 0 from rfl, if_neg (by decide), if_neg (by simp only; omega)]
def doneL (h : Hd) (t : (List Pr × Int) × Lg) : (Int × List Pr × Int) × Lg :=
  if t.1.2 ≠ -1 then ((0, [], t.1.2), t.2)
  else if tB h = true ∧ t.2.knw = true then ((128 + 4 * csgI h + nsgI h, t.1.1, -1), { t.2 with stg := nsgI h, don := decide (nsgI h = 3) })
  else ((4 * csgI h, t.1.1, -1), t.2)
theorem asks_whole {c : Cf} {d : Dw} {s : Lg} {h : Hd} {l : List Pr} (hh : headL (decide (c.us ≠ [])) s h = -1) (hc : cB h = false) (hs : s.came = []) (hl : okPs l) (h60 : l.length ≤ 60) (hx : (prBytes l).length ≤ 8192) :
    asksL c d ⟨h, [], prBytes l⟩ s = doneL h (textL c d l (firstL c h s)) := by
  have hcm : (firstL c h s).came = [] := by unfold firstL; cases s.fst <;> exact hs
  have hA : addG ⟨8192, (firstL c h s).came⟩ (prBytes l) (cB h) = ((l, 0, -1), ⟨8192, []⟩) := by
    rw [hc, hcm, addG_end (by simpa using hx)]
    simp only [List.nil_append]
    rw [parse_bytes hl h60]
  have hs1 : ({ firstL c h s with came := [] } : Lg) = firstL c h s := by
    generalize firstL c h s = t at hcm
    cases t
    simp only at hcm
    subst hcm
    rfl
  unfold asksL
  rw [if_neg (not_not_intro hh)]
  simp only
  rw [hA]
  simp only
  rw [if_neg (by simp), hc, if_neg (by simp), hs1]
  unfold doneL
  cases textL c d l (firstL c h s) with
  | mk x s3 =>
    obtain ⟨x, e⟩ := x
    simp only
theorem text_later {c : Cf} {d : Dw} {l : List Pr} {s : Lg} (hb : s.bgn = true) :
    textL c d l s = (match secL c d l s with
    | ((x, e), s2) => if e ≠ -1 then (([], e), s2)
      else match ansN s2.mine s2.recd (restL l) true s2.dsc with
        | ((y, n, _), r) => if n ≠ 0 then (([], 0), s2) else ((x ++ y, -1), { s2 with recd := r })) := by
  unfold textL
  simp only
  rw [if_pos hb, if_neg (by simp [hb])]
theorem text_first {c : Cf} {d : Dw} {l : List Pr} {s : Lg} (hb : s.bgn = false) (h1 : (beginL c l).1 = -1) :
    textL c d l s = textL c d l { s with bgn := true, tgt := (beginL c l).2.1, dsc := (beginL c l).2.2 } := by
  rw [text_later (s := { s with bgn := true, tgt := (beginL c l).2.1, dsc := (beginL c l).2.2 }) rfl]
  have e1 : (if s.bgn = true then s else if (beginL c l).1 = -1 then { s with bgn := true, tgt := (beginL c l).2.1, dsc := (beginL c l).2.2 } else { s with bgn := true }) = { s with bgn := true, tgt := (beginL c l).2.1, dsc := (beginL c l).2.2 } := by
    rw [if_neg (by rw [hb]; exact Bool.false_ne_true), if_pos h1]
  unfold textL
  simp only
  rw [e1, if_neg (fun hh => hh.2 h1)]
end Go.Proofs.YtmkebjdmkkjloaaGreatDoor
