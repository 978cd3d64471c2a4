/- LB43: several texts in one. -/
import Derived.LaidLaws
import Derived.Lib.LaidTab
import Derived.Lib.LaidU8
import Derived.Test.YtmkebjdmkkjloaaGreatDoorRows
import Derived.Test.YtmkebjdmkkjloaaGreatDoorLB07
import Derived.Test.YtmkebjdmkkjloaaGreatDoorLB17
import Derived.Test.YtmkebjdmkkjloaaGreatDoorLB39
import Derived.Test.YtmkebjdmkkjloaaGreatDoorLB40
import Derived.Test.YtmkebjdmkkjloaaGreatDoorLB41
import Derived.Test.YtmkebjdmkkjloaaGreatDoorLB42
namespace Go.Proofs.YtmkebjdmkkjloaaGreatDoor
open Go.RowKit Go.ChangeShapes Go.WideShapes Go.Deep
theorem length6 {l : List Value} (h : l.length = 6) : ∃ c0 c1 c2 c3 c4 c5, l = [c0, c1, c2, c3, c4, c5] := by
 match l, h with
 | [c0, c1, c2, c3, c4, c5], _ => exact ⟨c0, c1, c2, c3, c4, c5, rfl⟩
set_option maxRecDepth 100000 in
theorem open_pdu_cells {H : Type} {enc : TypeId × Value → H} {W : World} {n : Nat} {c0 c1 c2 c3 c4 c5 : Value} {d : DataW H} {p : List MemPlace} (hwd : ∀ k ∈ DataW.weights Tryz.prog 41 d, k ≤ reachBytes)
  (hf : DataW.trod enc Tryz.prog W 0 (fun _ => true) true n 41 [c0, c1, c2, c3, c4, c5] = some (d, p)) :
  ∃ (q : Pd) (vv va : Value), (c0 = .int .i64 q.h.op ∧ c1 = .bool q.h.now ∧ c2 = .int .i64 q.h.fl ∧ c3 = vv ∧ c4 = va ∧ c5 = .string (S q.d)) ∧ PduAt W q vv va ∧ FitP q := by
 obtain ⟨y0, y1, y2, n, hx, _, h0, h1, h2⟩ := trod_struct3 Tryz.underlying41 hf
 simp only [Prod.mk.injEq] at hx
 obtain ⟨rfl, rfl⟩ := hx
 have hwm : ∀ (i : Nat) (t : TypeId) (y : DataW H), ([38, 39, 9] : List TypeId)[i]? = some t → ([y0.1, y1.1, y2.1] : List (DataW H))[i]? = some y → ∀ k ∈ DataW.weights Tryz.prog t y, k ≤ reachBytes := fun i t y ht hy k hk => by
  have h1 := DataW.weights_mem_each ht hy k hk
  refine hwd k ?_
  simp only [DataW.weights, Tryz.underlying41]
  exact h1
 have h0' : DataW.trod enc Tryz.prog W 0 (fun _ => true) true n 38 [c0, c1, c2, c3] = some y0 := by
  rw [show Tryz.prog.cellsOf _ = 4 by kernel_rfl] at h0
  simpa [Value.cells] using h0
 have h1' : DataW.trod enc Tryz.prog W 0 (fun _ => true) true n 39 [c4] = some y1 := by
  rw [show Tryz.prog.cellsOf _ = 1 by kernel_rfl] at h1
  simpa [Value.cells] using h1
 have h2' : DataW.trod enc Tryz.prog W 0 (fun _ => true) true n 9 [c5] = some y2 := by
  rw [show Tryz.prog.cellsOf _ = 1 by kernel_rfl] at h2
  simpa [Value.cells] using h2
 obtain ⟨z0, z1, z2, z3, k, _, _, g0, g1, g2, g3⟩ := Joins.trod_struct4 Tryz.underlying38 h0'
 rw [show Tryz.prog.cellsOf _ = 1 by kernel_rfl] at g0 g1 g2 g3
 obtain ⟨a0, e0, _, w0⟩ := DataW.trod_int Tryz.underlying3 g0
 obtain ⟨a1, e1, _⟩ := DataW.trod_bool Tryz.underlying4 g1
 obtain ⟨a2, e2, _, w2⟩ := DataW.trod_int Tryz.underlying3 g2
 obtain ⟨vs, hv, hl⟩ := open_nums (c := c3) (by simpa using g3)
 obtain rfl : c0 = .int .i64 a0 := by simpa using e0
 obtain rfl : c1 = .bool a1 := by simpa using e1
 obtain rfl : c2 = .int .i64 a2 := by simpa using e2
 obtain ⟨l, ha, hfa⟩ := open_ahs_cell (d := y1.1) (p := y1.2) (hwm 1 _ _ rfl rfl) h1'
 obtain ⟨b, e5, y5, _⟩ := DataW.trod_string Tryz.underlying9 h2'
 obtain ⟨s, rfl⟩ := S_of b
 obtain rfl : c5 = .string (S s) := by simpa using e5
 have hds : y2.1 = .lit (.string s) := by
  have := congrArg Prod.fst y5
  simpa [S] using this
 have hsl := hwm 2 _ _ rfl rfl s.length (by rw [hds]; simp [DataW.weights])
 exact ⟨⟨⟨a0, a1, a2, vs⟩, l, s⟩, c3, c4, ⟨rfl, rfl, rfl, rfl, rfl, rfl⟩, ⟨hv, ha⟩, ⟨I64_of_wf w2, hl, hfa, hsl⟩⟩
set_option maxRecDepth 100000 in
theorem open_pdus {H : Type} {enc : TypeId × Value → H} {W : World} {base : Nat} {ts : List TypeId} {ds : List (DataW H)} {v : Value} {d : DataW H} {p : List MemPlace} (hsz : (DataW.weightsEach Tryz.prog ts ds).all (· ≤ reachBytes) = true) {j : Nat} (hts : ts[j]? = some 32) (hds : ds[j]? = some d)
  (hval : Value.okWide Tryz.prog W .any base 32 v) (h : DataW.Trod enc Tryz.prog W 0 (fun _ => true) true 32 v d p) :
  ∃ l : List Pd, PdusV W v l ∧ (∀ q ∈ l, FitP q) ∧ l.length ≤ 140737488355328 := by
 obtain ⟨a0, len, cap, rfl⟩ := okWide_slice Tryz.underlying32 hval
 obtain ⟨fuel, hf⟩ := h
 have hf' : DataW.trod enc Tryz.prog W 0 (fun _ => true) true fuel 32 [.slice a0 len cap] = some (d, p) := by simpa [Value.cells] using hf
 have hall : ∀ k ∈ DataW.weights Tryz.prog 32 d, k ≤ reachBytes := fun k hk => by
  have := List.all_eq_true.1 hsz _ (DataW.weights_mem_each hts hds _ hk)
  simpa using this
 rcases open_slice Tryz.underlying32 hf' with ⟨hcs, _⟩ | ⟨a, len', cap', m, n, D, Pl, hcs, _, hl, hm, hmm, hx, hi⟩
 ·obtain ⟨rfl, rfl, rfl⟩ : a0 = none ∧ len = 0 ∧ cap = 0 := by simpa using hcs
  exact ⟨[], ⟨none, 0, rfl, fun h => absurd h (by decide)⟩, fun q h => absurd h List.not_mem_nil, by decide⟩
 ·obtain ⟨rfl, rfl, rfl⟩ : a0 = some a ∧ len = len' ∧ cap = cap' := by simpa using hcs
  simp only [Prod.mk.injEq] at hx
  obtain ⟨rfl, _⟩ := hx
  have hr := reachBytes_lt
  have hlm : len ≤ m := by rw [hmm]; split <;> omega
  have hs : (len + (m - len)) * 88 ≤ reachBytes := by
   refine hall _ ?_
   simp [DataW.weights, Tryz.underlying32, show Tryz.prog.bytesOf 41 = 88 by kernel_rfl]
  have hce : Tryz.prog.cellsOf 41 = 6 := by kernel_rfl
  obtain ⟨l, hll, hP⟩ := list_of (fun i (q : Pd) => FitP q ∧ ∃ vv va, PduAt W q vv va ∧ W.cell? (a.add (i * 6)) = some (.int .i64 q.h.op) ∧ W.cell? (a.add (i * 6 + 1)) = some (.bool q.h.now) ∧ W.cell? (a.add (i * 6 + 2)) = some (.int .i64 q.h.fl) ∧ W.cell? (a.add (i * 6 + 3)) = some vv ∧ W.cell? (a.add (i * 6 + 4)) = some va ∧ W.cell? (a.add (i * 6 + 5)) = some (.string (S q.d))) len (fun i hil => by
   obtain ⟨cs', g1, g2⟩ := hi i (by omega)
   rw [hce] at g1
   obtain ⟨_, hlen, hcell⟩ := World.cells?_some g1
   obtain ⟨c0, c1, c2, c3, c4, c5, rfl⟩ := length6 hlen
   have hwd : ∀ k ∈ DataW.weights Tryz.prog 41 (D i), k ≤ reachBytes := fun k hk => by
    refine hall k ?_
    have := weights_mem_all (P := Tryz.prog) (e := 41) (l := (List.range len).map D) (List.mem_map.2 ⟨i, List.mem_range.2 hil, rfl⟩) hk
    simp only [DataW.weights, Tryz.underlying32, List.mem_cons, List.mem_append]
    exact .inr (.inl this)
   obtain ⟨q, vv, va, ⟨rfl, rfl, rfl, rfl, rfl, rfl⟩, hA, hF⟩ := open_pdu_cells hwd g2
   have e := fun j (hj : j < 6) => hcell j (by simpa using hj)
   refine ⟨q, hF, _, _, hA, ?_, ?_, ?_, ?_, ?_, ?_⟩
   ·have := e 0 (by omega); rw [add_add] at this; simpa using this
   ·have := e 1 (by omega); rw [add_add] at this; simpa using this
   ·have := e 2 (by omega); rw [add_add] at this; simpa using this
   ·have := e 3 (by omega); rw [add_add] at this; simpa using this
   ·have := e 4 (by omega); rw [add_add] at this; simpa using this
   ·have := e 5 (by omega); rw [add_add] at this; simpa using this)
  refine ⟨l, ⟨some a, cap, by rw [hll], fun h0 => ?_⟩, fun q hq => ?_, by omega⟩
  ·obtain ⟨_, _, _, _, h1, _⟩ := hP 0 h0
   rw [Nat.zero_mul, show a.add 0 = a from rfl] at h1
   refine ⟨a.block, a.off, by rw [← ahs_spot h1], fun i hi => ?_⟩
   obtain ⟨_, vv, va, hA, g0, g1, g2, g3, g4, g5⟩ := hP i hi
   rw [ahs_add h1] at g0 g1 g2 g3 g4 g5
   exact ⟨vv, va, hA, g0, g1, g2, g3, g4, g5⟩
  ·obtain ⟨i, hi, rfl⟩ := List.getElem_of_mem hq
   exact (hP i hi).1
end Go.Proofs.YtmkebjdmkkjloaaGreatDoor
namespace Go.Proofs.YtmkebjdmkkjloaaGreatDoor
open Go.RowKit
theorem sy_of_reads {W : World} (h : Go.Lib.VarReads Tryz.prog W "strconv.ErrSyntax" Rows.laid_strconv_ErrSyntax) : ∃ v, W.cell? ⟨7, 0, none⟩ = some v ∧ (v = .nilIface ∨ ∃ t p, v = .iface t p) := by
 obtain ⟨g, t, cs, fuel, p, hg, hty, hvar, hd⟩ := h
 obtain rfl : 7 = g := Option.some.inj ((show Tryz.prog.globalNamed "strconv.ErrSyntax" = some 7 by kernel_rfl).symm.trans hg)
 obtain rfl : 43 = t := Option.some.inj ((show (Tryz.prog.globals[7]?).map (·.type) = some 43 by kernel_rfl).symm.trans hty)
 obtain ⟨f1, u, v, hcs, _, _⟩ := iface_of_trod Tryz.underlying43 hd
 refine ⟨.iface u v, ?_, .inr ⟨u, v, rfl⟩⟩
 have := World.var?_cell hg hvar 0
 rw [this, ← Array.getElem?_toList, hcs]
 rfl
theorem rg_of_reads {W : World} (h : Go.Lib.VarReads Tryz.prog W "strconv.ErrRange" Rows.laid_strconv_ErrRange) : ∃ v, W.cell? ⟨8, 0, none⟩ = some v ∧ (v = .nilIface ∨ ∃ t p, v = .iface t p) := by
 obtain ⟨g, t, cs, fuel, p, hg, hty, hvar, hd⟩ := h
 obtain rfl : 8 = g := Option.some.inj ((show Tryz.prog.globalNamed "strconv.ErrRange" = some 8 by kernel_rfl).symm.trans hg)
 obtain rfl : 43 = t := Option.some.inj ((show (Tryz.prog.globals[8]?).map (·.type) = some 43 by kernel_rfl).symm.trans hty)
 obtain ⟨f1, u, v, hcs, _, _⟩ := iface_of_trod Tryz.underlying43 hd
 refine ⟨.iface u v, ?_, .inr ⟨u, v, rfl⟩⟩
 have := World.var?_cell hg hvar 0
 rw [this, ← Array.getElem?_toList, hcs]
 rfl
theorem powData : (Rows.laid_internal_strconv_uint64pow10 : DataW Unit) = Go.Lib.tabData .u64 Lib.pow10Tab := by kernel_rfl
theorem tab_of_reads {W : World} (h : Go.Lib.VarReads Tryz.prog W "internal/strconv.uint64pow10" Rows.laid_internal_strconv_uint64pow10) : Lib.TabIs Tryz.prog W "internal/strconv.uint64pow10" .u64 Lib.pow10Tab := by
 rw [powData] at h
 obtain ⟨g, t, cs, fuel, p, hg, hty, hvar, hd⟩ := h
 obtain rfl : 6 = g := Option.some.inj ((show Tryz.prog.globalNamed "internal/strconv.uint64pow10" = some 6 by kernel_rfl).symm.trans hg)
 obtain rfl : 299 = t := Option.some.inj ((show (Tryz.prog.globals[6]?).map (·.type) = some 299 by kernel_rfl).symm.trans hty)
 have hcs := Go.Lib.cells_of_tab (n := 20) (e := 49) (by kernel_rfl) (by kernel_rfl) (by kernel_rfl) (by kernel_rfl) hd
 unfold Lib.TabIs
 rw [hvar, ← hcs]
theorem env_of {W : World} (hS : W.ShapedOpen Tryz.prog) (h1 : Go.Lib.VarReads Tryz.prog W "strconv.ErrSyntax" Rows.laid_strconv_ErrSyntax) (h2 : Go.Lib.VarReads Tryz.prog W "strconv.ErrRange" Rows.laid_strconv_ErrRange) (h3 : Go.Lib.VarReads Tryz.prog W "internal/strconv.uint64pow10" Rows.laid_internal_strconv_uint64pow10) : Env W :=
 ⟨maxCell_of_shaped hS, sy_of_reads h1, rg_of_reads h2, tab_of_reads h3⟩
end Go.Proofs.YtmkebjdmkkjloaaGreatDoor
namespace Go.Proofs.YtmkebjdmkkjloaaGreatDoor
open Go.RowKit
set_option linter.unusedVariables false
structure StOk (st : Int) (s : Lg) : Prop where
 lo : 0 ≤ st
 hi : st ≤ 3
 at_ : s.don = false → s.fld = false → (s.fst = none → st = 0) ∧ (s.fst.isSome = true → st ≤ s.stg)
theorem head_ok {us : Bool} {s : Lg} {h : Hd} (hh : headL us s h = -1) : csgI h ≤ 1 ∧ (s.fst.isSome = true → csgI h = s.stg) ∧ (tB h = true → nsgI h ≠ 2 ∧ csgI h < nsgI h) := by
 unfold headL at hh
 by_cases h1 : 0 < hv h nVMin
 ·rw [if_pos h1] at hh; exact absurd hh (by decide)
 rw [if_neg h1] at hh
 by_cases h2 : hv h nTSIH ≠ 0
 ·rw [if_pos h2] at hh; exact absurd hh (by decide)
 rw [if_neg h2] at hh
 by_cases h3 : tB h = true ∧ cB h = true
 ·rw [if_pos h3] at hh; exact absurd hh (by decide)
 rw [if_neg h3] at hh
 by_cases h4 : 1 < csgI h ∨ (s.fst.isSome = true ∧ csgI h ≠ s.stg) ∨ (tB h = true ∧ (nsgI h = 2 ∨ nsgI h ≤ csgI h))
 ·rw [if_pos h4] at hh; exact absurd hh (by decide)
 refine ⟨?_, fun hs => ?_, fun ht => ⟨fun he => h4 (.inr (.inr ⟨ht, .inl he⟩)), ?_⟩⟩
 ·have : ¬ 1 < csgI h := fun he => h4 (.inl he)
  omega
 ·exact Classical.not_not.1 (fun he => h4 (.inr (.inl ⟨hs, he⟩)))
 ·have : ¬ nsgI h ≤ csgI h := fun he => h4 (.inr (.inr ⟨ht, .inr he⟩))
  omega
def StWays (st : Int) (A : Pd) (s : Lg) : Prop := ∃ fl cs : Int, 0 ≤ fl ∧ bits .and .i64 (fl / 4) 3 = cs ∧ 0 ≤ cs ∧
 ((∃ dt, statR A = (fl, 2, dt) ∧ bits .and .i64 fl 128 = 0 ∧ bits .and .i64 fl 3 = 0 ∧ s.don = false ∧ s.fld = true ∧ StOk st s) ∨
  (statR A = (fl, 0, 0) ∧ bits .and .i64 fl 128 = 0 ∧ bits .and .i64 fl 3 = 0 ∧ st ≤ cs ∧ cs ≤ 1 ∧ s.don = false ∧ s.fld = false ∧ StOk st s) ∨
  (statR A = (fl, 0, 0) ∧ bits .and .i64 fl 128 = 128 ∧ bits .and .i64 fl 3 = 1 ∧ st ≤ cs ∧ cs ≤ 0 ∧ s.don = false ∧ s.fld = false ∧ StOk 1 s) ∨
  (statR A = (fl, 0, 0) ∧ bits .and .i64 fl 128 = 128 ∧ bits .and .i64 fl 3 = 3 ∧ st ≤ cs ∧ cs ≤ 1 ∧ s.don = true ∧ s.fld = false ∧ StOk 3 s))
theorem bits_4 {x : Int} (h : 0 ≤ x ∧ x ≤ 3) : bits .and .i64 (4 * x / 4) 3 = x ∧ bits .and .i64 (4 * x) 128 = 0 ∧ bits .and .i64 (4 * x) 3 = 0 := by
 have : x = 0 ∨ x = 1 ∨ x = 2 ∨ x = 3 := by omega
 rcases this with rfl | rfl | rfl | rfl <;> decide
theorem stage_ways {c : Cf} {d : Dw} {s : Lg} {p : Pd} {st : Int} (h : (takeL c d s p).1.2 = 0) (hst : StOk st s) : StWays st (takeL c d s p).1.1 (takeL c d s p).2 ∧ (takeL c d s p).1.1.h.vs.length = 10 := by
 obtain ⟨⟨hd, hf⟩, ho, hr, e⟩ := take_good h
 rw [e]
 refine ⟨?_, rfl⟩
 have hs := reply_stat p (asksL c d p s)
 have hc := csgI_range p.h
 have hn := nsgI_range p.h
 have don : (replyL p (asksL c d p s)).2.don = (asksL c d p s).2.don := rfl
 have fld : (replyL p (asksL c d p s)).2.fld = ((asksL c d p s).2.fld || decide ((asksL c d p s).1.2.2 ≠ -1)) := rfl
 have fst : (replyL p (asksL c d p s)).2.fst = (asksL c d p s).2.fst := rfl
 have stg : (replyL p (asksL c d p s)).2.stg = (asksL c d p s).2.stg := rfl
 obtain ⟨b1, b2, b3⟩ := bits_4 hc
 by_cases he : (asksL c d p s).1.2.2 = -1
 ·rw [if_neg (not_not_intro he)] at hs
  obtain ⟨hh, W⟩ := asks_good he
  obtain ⟨k1, k2, k3⟩ := head_ok hh
  have fld2 : (replyL p (asksL c d p s)).2.fld = false := by rw [fld, W.fld, hf, he]; rfl
  obtain ⟨a1, a2⟩ := hst.at_ hd hf
  have hle : st ≤ csgI p.h := by
   cases hfs : s.fst with
   | none => have := a1 hfs; omega
   | some q => have h1 := a2 (by rw [hfs]; rfl); have h2 := k2 (by rw [hfs]; rfl); omega
  rcases W.way with ⟨w1, w2, w3⟩ | ⟨w0, w1, w2, w3⟩
  ·rw [w1] at hs
   refine ⟨_, csgI p.h, by omega, b1, hc.1, .inr (.inl ⟨hs, b2, b3, hle, k1, by rw [don, w3, hd], fld2, ⟨hst.lo, hst.hi, fun _ _ => ⟨fun hx => ?_, fun _ => ?_⟩⟩⟩)⟩
   ·rw [fst] at hx
    have := W.fst
    rw [hx] at this
    exact absurd this (by decide)
   ·rw [stg, w2]
    unfold firstL
    cases hfs : s.fst with
    | none => exact hle
    | some q => exact a2 (by rw [hfs]; rfl)
  ·obtain ⟨n2, nc⟩ := k3 w0
   rw [w1] at hs
   have hfs : ∀ x : Int, (replyL p (asksL c d p s)).2.fst = none → x = 0 := fun x hx => by
    rw [fst] at hx
    have := W.fst
    rw [hx] at this
    exact absurd this (by decide)
   by_cases h3 : nsgI p.h = 3
   ·rw [h3] at hs w2 w3
    have hb : bits .and .i64 ((128 + 4 * csgI p.h + 3) / 4) 3 = csgI p.h ∧ bits .and .i64 (128 + 4 * csgI p.h + 3) 128 = 128 ∧ bits .and .i64 (128 + 4 * csgI p.h + 3) 3 = 3 := by
     have : csgI p.h = 0 ∨ csgI p.h = 1 := by omega
     rcases this with h | h <;> rw [h] <;> decide
    exact ⟨_, csgI p.h, by omega, hb.1, hc.1, .inr (.inr (.inr ⟨hs, hb.2.1, hb.2.2, hle, k1, by rw [don, w3]; rfl, fld2, ⟨by decide, by decide, fun hx => by rw [don, w3] at hx; exact absurd hx (by decide)⟩⟩))⟩
   ·have h1 : nsgI p.h = 1 := by omega
    have h0 : csgI p.h = 0 := by omega
    rw [h1] at hs w2 w3
    rw [h0] at hs hle
    exact ⟨_, 0, by omega, by decide, by omega, .inr (.inr (.inl ⟨hs, by decide, by decide, hle, by omega, by rw [don, w3]; rfl, fld2, ⟨by decide, by decide, fun _ _ => ⟨hfs 1, fun _ => by rw [stg, w2]; omega⟩⟩⟩))⟩
 ·rw [if_pos he] at hs
  obtain ⟨w1, w2, _, _⟩ := asks_bad he
  have fld2 : (replyL p (asksL c d p s)).2.fld = true := by rw [fld, decide_eq_true he]; simp
  exact ⟨_, csgI p.h, by omega, b1, hc.1, .inl ⟨_, hs, b2, b3, by rw [don, w1, hd], fld2, ⟨hst.lo, hst.hi, fun _ hx => by rw [fld2] at hx; exact absurd hx (by decide)⟩⟩⟩
theorem ans_right {c f : Int} (hc : 0 ≤ c ∧ c ≤ 3) (hf : OnFl f) {a b i s e m k t : Nat} (ha : a < 281474976710656) (hb : b < 65536) (hi : i < 4294967296) (hs : s < 4294967296) (he : e < 4294967296) (hm : m < 4294967296) (hk : k < 256) (ht : t < 256) :
  rightR ⟨35, false, 4 * c + f, [0, 0, a, b, i, s, e, m, k, t]⟩ = (0, -1) := by
 refine rightR_mk kind35 (fun h => by cases h) (fl_ans hc hf) rfl ?_
 have d6 : a / 2 ^ (8 * 6) = 0 := Nat.div_eq_of_lt (by omega)
 have d2 : b / 2 ^ (8 * 2) = 0 := Nat.div_eq_of_lt (by omega)
 have d4 : ∀ x, x < 4294967296 → x / 2 ^ (8 * 4) = 0 := fun x hx => Nat.div_eq_of_lt (by omega)
 have d1 : ∀ x, x < 256 → x / 2 ^ (8 * 1) = 0 := fun x hx => Nat.div_eq_of_lt (by omega)
 unfold kd11
 simp only [badVal]
 rw [d6, d2, d4 i hi, d4 s hs, d4 e he, d4 m hm, d1 k hk, d1 t ht]
 simp
theorem bytes_bound : ∀ l : List Pr, okPs l → (prBytes l).length ≤ 320 * l.length
 | [], _ => by simp [prBytes_nil]
 | p :: l, h => by
  have hp := ok_lens h p List.mem_cons_self
  have ih := bytes_bound l (fun q hq => h q (List.mem_cons_of_mem _ hq))
  have := bytes_len2 (k := p.k) (v := p.v) hp.1 hp.2 l
  have e : (⟨p.k, p.v⟩ : Pr) = p := rfl
  rw [e] at this
  rw [List.length_cons]
  omega
theorem print_bound (l : List Pr) : (prPrint l).1.length ≤ 19200 := by
 unfold prPrint
 by_cases h : (prRight l).1 = 0
 ·rw [if_pos h]
  obtain ⟨h1, h2, _⟩ := prRight_is h
  have := bytes_bound l h1
  simp only
  omega
 ·rw [if_neg h]; simp
theorem login_cmd {h : Hd} (ho : h.op = 3) (hr : rightR h = (0, -1)) : hv h nCmd < 4294967296 := by
 obtain ⟨k, hk, -, -, hl, hb⟩ := rightR_good hr
 rw [ho, kind3] at hk
 obtain rfl := Option.some.inj hk
 have g := badVal_good hb
 have hl8 : h.vs.length = 8 := hl
 have e1 : hv h nCmd = h.vs[6]'(by omega) := by
  unfold hv valueR
  rw [ho, kind3]
  simp only [valueK]
  rw [show idxName kd3.fs nCmd = some 6 by kernel_rfl]
  simp only
  rw [if_pos (by omega)]
  simp [List.getD_eq_getElem?_getD, List.getElem?_eq_getElem (show 6 < h.vs.length by omega)]
 have h6 := g 6 (by decide) (by omega)
 rw [e1]
 have k6 : (kd3.fs[6]'(by decide)).sz = 4 := rfl
 rw [k6] at h6
 rcases (Nat.div_eq_zero_iff).1 h6 with h | h
 ·exact absurd h (by decide)
 ·exact h
theorem headL_le {us : Bool} {s : Lg} {h : Hd} : headL us s h ≤ 11 := by
 unfold headL
 repeat' split
 all_goals decide
theorem beginL_le {c : Cf} {l : List Pr} : (beginL c l).1 ≤ 11 := by
 unfold beginL
 repeat' split
 all_goals (dsimp only; decide)
theorem secL_le {c : Cf} {d : Dw} {l : List Pr} {s : Lg} : (secL c d l s).1.2 ≤ 11 := by
 unfold secL
 repeat' split
 all_goals (dsimp only; decide)
theorem textL_le {c : Cf} {d : Dw} {l : List Pr} {s : Lg} : (textL c d l s).1.2 ≤ 11 := by
 unfold textL
 simp only
 generalize hs1 : (if s.bgn = true then s else if (beginL c l).1 = -1 then { s with bgn := true, tgt := (beginL c l).2.1, dsc := (beginL c l).2.2 } else { s with bgn := true }) = s1
 split
 ·exact beginL_le
 ·have h2 := secL_le (c := c) (d := d) (l := l) (s := s1)
  cases hS : secL c d l s1 with
  | mk x s2 =>
   obtain ⟨x, e⟩ := x
   rw [hS] at h2
   simp only
   split
   ·exact h2
   ·cases hN : ansN s2.mine s2.recd (restL l) true s2.dsc with
    | mk y r =>
     obtain ⟨y, n, k⟩ := y
     simp only
     split <;> (dsimp only; decide)
theorem asks_le {c : Cf} {d : Dw} {p : Pd} {s : Lg} : (asksL c d p s).1.2.2 ≤ 11 := by
 unfold asksL
 split
 ·exact headL_le
 ·simp only
  cases hA : addG ⟨8192, (firstL c p.h s).came⟩ p.d (cB p.h) with
  | mk r G =>
   obtain ⟨l, n, k⟩ := r
   simp only
   split
   ·dsimp only; decide
   ·split
    ·dsimp only; decide
    ·have hT := textL_le (c := c) (d := d) (l := l) (s := { firstL c p.h s with came := G.came })
     cases hX : textL c d l { firstL c p.h s with came := G.came } with
     | mk x s3 =>
      obtain ⟨x, e⟩ := x
      rw [hX] at hT
      simp only at hT ⊢
      split
      ·exact hT
      ·split <;> (dsimp only; decide)
structure Counts (s t : Lg) (p A : Pd) : Prop where
 sta : ((hv A.h [83, 116, 97, 116, 83, 78] : Nat) : Int) = s.sta
 itt : hv A.h nITT = hv p.h nITT
 isid : hv A.h nISID = hv p.h nISID
 exp : hv A.h [69, 120, 112, 67, 109, 100, 83, 78] = hv p.h nCmd
 mx : hv A.h [77, 97, 120, 67, 109, 100, 83, 78] = (hv p.h nCmd + 31) % 4294967296
 cmd : t.cmd = ((hv p.h nCmd : Nat) : Int)
 nxt : t.sta = (s.sta + 1) % 4294967296
 tsih : hv A.h nTSIH = if t.don = true then 1 else 0
 right : rightP A = 0
 few : hv p.h nCmd < 4294967296
 len : A.h.vs.length = 10
 ahs : A.a = []
theorem counts_of {c : Cf} {d : Dw} {s : Lg} {p : Pd} (h : (takeL c d s p).1.2 = 0) (hs : 0 ≤ s.sta ∧ s.sta < 4294967296) : Counts s (takeL c d s p).2 p (takeL c d s p).1.1 := by
 obtain ⟨⟨hd, hf⟩, ho, hr, e⟩ := take_good h
 rw [e]
 have hrr := (rightP_is hr).h
 have hk := login_cmd ho hrr
 obtain ⟨hi, ht⟩ := login_fields ho hrr
 have hc := csgI_range p.h
 have hn := nsgI_range p.h
 obtain ⟨r, hre⟩ : ∃ r, asksL c d p s = r := ⟨_, rfl⟩
 have hu : u32 (hv p.h nCmd) = ((hv p.h nCmd : Nat) : Int) := by unfold u32; rw [Nat.mod_eq_of_lt hk]
 have hst : r.2.sta = s.sta := by
  by_cases he : r.1.2.2 = -1
  ·obtain ⟨_, W⟩ := asks_good (c := c) (d := d) (p := p) (s := s) (by rw [hre]; exact he)
   rw [hre] at W
   exact W.sta
  ·have := (asks_bad (c := c) (d := d) (p := p) (s := s) (by rw [hre]; exact he)).2.2.1
   rw [hre] at this
   exact this
 have hfl : ∃ f, OnFl f ∧ (if decide (r.1.2.2 ≠ -1) = true then 4 * csgI p.h else r.1.1) = 4 * csgI p.h + f := by
  by_cases he : r.1.2.2 = -1
  ·obtain ⟨_, W⟩ := asks_good (c := c) (d := d) (p := p) (s := s) (by rw [hre]; exact he)
   rw [hre] at W
   rw [if_neg (by simp [he])]
   rcases W.way with ⟨w1, _⟩ | ⟨_, w1, _⟩
   ·exact ⟨0, .inl rfl, by rw [w1]; omega⟩
   ·exact ⟨128 + nsgI p.h, .inr (by omega), by rw [w1]; omega⟩
  ·exact ⟨0, .inl rfl, by rw [if_pos (decide_eq_true he)]; omega⟩
 have hdt : 0 ≤ r.1.2.2.toNat ∧ (r.1.2.2 = -1 ∨ r.1.2.2.toNat < 256) := by
  refine ⟨Nat.zero_le _, ?_⟩
  by_cases he : r.1.2.2 = -1
  ·exact .inl he
  ·exact .inr (by have := asks_le (c := c) (d := d) (p := p) (s := s); rw [hre] at this; omega)
 rw [hre]
 obtain ⟨a1, a2, a3, a4, a5, a6⟩ := hv_ans p.h (if decide (r.1.2.2 ≠ -1) = true then 4 * csgI p.h else r.1.1) (if r.2.don = true then 1 else 0) r.2.sta (u32 (hv p.h nCmd)) (if decide (r.1.2.2 ≠ -1) = true then 2 else 0) (if decide (r.1.2.2 ≠ -1) = true then r.1.2.2 else 0)
 refine ⟨?_, a3, a1, ?_, ?_, hu, ?_, ?_, ?_, hk, rfl, rfl⟩
 ·show ((hv (ansH _ _ _ _ _ _ _) _ : Nat) : Int) = _
  rw [a4, hst]; omega
 ·show hv (ansH _ _ _ _ _ _ _) _ = _
  rw [a5, hu]; rfl
 ·show hv (ansH _ _ _ _ _ _ _) _ = _
  rw [a6, hu]; unfold afterI; omega
 ·show (r.2.sta + 1) % 4294967296 = _
  rw [hst]
 ·show hv (ansH _ _ _ _ _ _ _) _ = _
  rw [a2]
  show _ = if r.2.don = true then 1 else 0
  cases r.2.don <;> rfl
 ·obtain ⟨f, hof, hff⟩ := hfl
  unfold rightP
  have hR : rightR (replyL p r).1.h = (0, -1) := by
   show rightR (ansH _ _ _ _ _ _ _) = _
   unfold ansH
   rw [hff]
   refine ans_right hc hof hi (by cases r.2.don <;> decide) ht (by rw [hst]; omega) (by rw [hu]; omega) (by rw [hu]; unfold afterI; omega) (by split <;> decide) ?_
   rcases hdt.2 with h | h
   ·rw [if_neg (by simp [h])]; decide
   ·split
    ·exact h
    ·decide
  rw [hR, if_neg (by decide), show (replyL p r).1.a = [] from rfl, show (rightA ([] : List Ah)).1 = 0 from rfl, if_neg (by decide)]
  rw [if_neg]
  show ¬ 100000 < (if decide (r.1.2.2 ≠ -1) = true then [] else (prPrint r.1.2.1).1).length
  have := print_bound r.1.2.1
  split
  ·simp
  ·omega
end Go.Proofs.YtmkebjdmkkjloaaGreatDoor
