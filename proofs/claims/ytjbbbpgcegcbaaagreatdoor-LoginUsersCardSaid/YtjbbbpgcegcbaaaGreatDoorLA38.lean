/- LA38: several texts in one. -/
import Derived.Carry
import Derived.Test.YtjbbbpgcegcbaaaGreatDoorLA13
import Derived.Test.YtjbbbpgcegcbaaaGreatDoorLA17
import Derived.Test.YtjbbbpgcegcbaaaGreatDoorLA20
import Derived.Test.YtjbbbpgcegcbaaaGreatDoorLA22
import Derived.Test.YtjbbbpgcegcbaaaGreatDoorLA30
import Derived.Test.YtjbbbpgcegcbaaaGreatDoorLA33
import Derived.Test.YtjbbbpgcegcbaaaGreatDoorLA37
namespace Go.Proofs.YtjbbbpgcegcbaaaGreatDoor
open Go Go.RowKit
set_option linter.unusedVariables false
theorem boxN {P : Program} {o : Oper} {a : Act} {w : World} {K : Act → World → Prop} {Q : Exit → Act → World → Prop} {x : Operand} (cells : Array Value) (t : TypeId) (dst : Option Tmp) (hd : o.dst = dst) (ho : o.op = .box t x) (hx : a.eval x = .agg cells)
  (hK : K (a.put dst (.pointer (some ⟨w.heap.size, 0, none⟩))) (w.alloc (.cells cells t))) : Oper.wp P o a w K Q := by
 subst hd
 refine opw_val ?_ hK
 have hc : (Value.agg cells).cells = cells := by simp [Value.cells]
 unfold execOp
 simp only [ho, hx, Sem.run_bind, Instr.box, newVar, newRow, run_newObj_alloc, Sem.run_pure, Result.andThen_ok, hc]
theorem mapN {P : Program} {o : Oper} {a : Act} {w : World} {K : Act → World → Prop} {Q : Exit → Act → World → Prop} (t : TypeId) (dst : Option Tmp) (hd : o.dst = dst) (ho : o.op = .makeMap t none)
  (hK : K (a.put dst (.map (some w.heap.size))) (w.alloc (.map #[] 0))) : Oper.wp P o a w K Q := by
 subst hd
 refine opw_val ?_ hK
 unfold execOp
 simp only [ho, Option.map_none, Sem.run_bind, run_makeMap, Result.andThen_ok]
 rfl
theorem StBuf.mono0 {base base2 : Nat} {W : World} {v : Value} {l : List (List UInt8)} (h : StBuf base W v l) (hb : base2 ≤ base) : StBuf base2 W v l := ⟨h.1, h.2.imp id (fun ⟨g, cap, cur, e, hg, r⟩ => ⟨g, cap, cur, e, Nat.le_trans hb hg, r⟩)⟩
theorem UsBuf.mono0 {base base2 : Nat} {W : World} {v : Value} {l : List Us} (h : UsBuf base W v l) (hb : base2 ≤ base) : UsBuf base2 W v l := ⟨h.1, h.2.imp id (fun ⟨g, cap, cur, e, hg, r⟩ => ⟨g, cap, cur, e, Nat.le_trans hb hg, r⟩)⟩
def RetLNew (w : World) (c : Cf) (d : Dw) (e : Ending) (w' : World) : Prop :=
 ((newL c d).1 = 0 ∧ ∃ lb m, e = .returned (.tuple #[.pointer (some ⟨lb, 0, none⟩), .nilIface]) ∧ LogIn w' w.heap.size lb m c d (lq0 c) ∧ (OwnV w m.mv ∧ OwnV w m.vt ∧ OwnV w m.vu) ∧ Below w.heap.size w w') ∨
 ((newL c d).1 ≠ 0 ∧ ∃ ev, e = .returned (.tuple #[.pointer none, ev]) ∧ ErrIs w' ev (newL c d).1 (newL c d).2 ∧ Below w.heap.size w w')
theorem newN_own {c : Cf} (h : CfOk c) : (newN c.own).1 = 0 := by
 have hr := h.rest
 unfold restR at hr
 split at hr
 ·exact absurd hr (by decide)
 ·split at hr
  ·exact absurd hr (by decide)
  ·exact hr
set_option maxRecDepth 100000 in
set_option maxHeartbeats 8000000 in
theorem lnew_any (c : Cf) (d : Dw) (vt vp vu vo : Value) (w : World) (hv : ConfAt w c vt vp vu vo) (hf : FitCf c) (hE : EnvL w) :
  Calls Tryz.prog 25 #[confV c vt vp vu vo, .agg #[.int .i64 d.id, .string (S d.ch)]] w (RetLNew w c d) := by
 obtain ⟨w0, hw0⟩ : ∃ w0, w.alloc (.cells #[vt, vp, vu, .string (S c.sn), .string (S c.ss), .int .i64 c.lim, vo] 29) = w0 := ⟨_, rfl⟩
 obtain ⟨w1, hw1⟩ : ∃ w1, w0.alloc (.cells #[.int .i64 d.id, .string (S d.ch)] 31) = w1 := ⟨_, rfl⟩
 have b0 : Below w.heap.size w w0 := by rw [← hw0]; exact (Below.refl _ _).alloc (Nat.le_refl _) _
 have b1 : Below w0.heap.size w0 w1 := by rw [← hw1]; exact (Below.refl _ _).alloc (Nat.le_refl _) _
 have k0 : Blk w0 w.heap.size #[vt, vp, vu, .string (S c.sn), .string (S c.ss), .int .i64 c.lim, vo] 29 := by rw [← hw0]; exact Blk.new w _ _
 have k1 : Blk w1 w0.heap.size #[.int .i64 d.id, .string (S d.ch)] 31 := by rw [← hw1]; exact Blk.new w0 _ _
 have b := below_then b0 b1
 have j0 := k0.later b1
 obtain ⟨cb, hcb⟩ : ∃ cb, w.heap.size = cb := ⟨_, rfl⟩
 obtain ⟨db, hdb⟩ : ∃ db, w0.heap.size = db := ⟨_, rfl⟩
 rw [hcb] at j0
 rw [hdb] at k1
 have TR := tright_any c vt vp vu vo w1 (hv.later b) hf (hE.env.later b) (hE.err.later b)
 obtain ⟨⟨tn, tp⟩, htr⟩ : ∃ r, tgtR c = r := ⟨_, rfl⟩
 have hok := @tgtR_ok c
 rw [htr] at TR hok
 simp only at hok
 have hN : newL c d = if tn ≠ 0 then (tn, tp) else if (respL d.id [] d.ch).2 ≠ 0 then ((respL d.id [] d.ch).2, -1) else (0, -1) := by unfold newL; rw [htr]
 obtain ⟨rn, hrn⟩ : ∃ n, (respL d.id [] d.ch).2 = n := ⟨_, rfl⟩
 have RE := fun W hb => response_any d.id [] d.ch W (hE.md.later hb)
 rw [hrn] at hN RE
 have hts := hv.ts
 have hus := hv.us
 have how := hv.own
 obtain ⟨pt, ct, rfl, -⟩ := hv.ts
 obtain ⟨pp, cp, rfl⟩ := hv.ps.form
 obtain ⟨pu, cu, rfl⟩ := hv.us.form
 obtain ⟨po, co, rfl⟩ := hv.own.form
 unfold confV at TR ⊢
 have HN := Lib.hid hN
 have TR := Lib.hid TR
 have RE := Lib.hid RE
 have Hok := Lib.hid hok
 have J0 := Lib.hid j0
 have J1 := Lib.hid k1
 have Hb1 := Lib.hid b
 have HE := Lib.hid hE
 have HF := Lib.hid hf
 have HT := Lib.hid hts
 have HU := Lib.hid hus
 have HO := Lib.hid how
 obtain ⟨i0, i1, i2, i3, i4, i5, i6⟩ := j0.seven
 clear hv hf hE b0 b1 k0 k1 b j0 htr hok hN hrn hts hus how
 go_enter Tryz.func25, Tryz.ntmps25
 go_wp2_with fail
 clear hw0 hw1 hcb hdb
 refine TR.out.mono ?_
 rintro e w2 ⟨ev, rfl, herr, hb2⟩
 have J2 := Lib.hid (J0.out.later hb2)
 have K2 := Lib.hid (J1.out.later hb2)
 have Hb2 := Lib.hid (below_then Hb1.out hb2)
 clear hb2 J0 J1 Hb1 TR i0 i1 i2 i3 i4 i5 i6
 by_cases h1 : tn = 0
 case neg =>
  have hn := HN.out
  rw [if_pos h1] at hn
  have Herr := Lib.hid herr
  obtain ⟨ty, xv, rfl⟩ := herr.iface h1
  clear herr
  go_wp2_with fail
  go_ret2
  refine .inr ⟨by rw [hn]; exact h1, _, rfl, ?_, Hb2.out⟩
  rw [hn]
  exact Herr.out
 subst h1
 obtain rfl := herr.zero
 have HC := Lib.hid (Hok.out.1 rfl)
 have hn := HN.out
 rw [if_neg (fun h => h rfl)] at hn
 have HN2 := Lib.hid hn
 clear hn HN Hok herr
 have RE1 := RE.out _ Hb2.out
 obtain ⟨t0, t1⟩ := K2.out.two
 go_wp2_with fail
 refine RE1.mono ?_
 rintro e w3 ⟨rfl, hb3⟩
 have J3 := Lib.hid (J2.out.later hb3)
 have K3 := Lib.hid (K2.out.later hb3)
 have Hb3 := Lib.hid (below_then Hb2.out hb3)
 clear hb3 J2 K2 Hb2 RE1 RE t0 t1
 by_cases h1 : rn = 0
 case neg =>
  have hn := HN2.out
  rw [if_pos h1] at hn
  rw [errV_pos _ h1]
  go_wp2_with fail
  go_ret2
  refine .inr ⟨by rw [hn]; exact h1, _, rfl, ?_, Hb3.out⟩
  rw [hn]
  exact .bare _ h1
 subst h1
 rw [errV_0]
 have hn := HN2.out
 rw [if_neg (fun h => h rfl)] at hn
 have HN3 := Lib.hid hn
 clear hn HN2
 have NN := newN_any c.own (.slice po c.own.length co) w3 (HO.out.later Hb3.out) HF.out.own.1 (HE.out.env.later Hb3.out) (HE.out.err.later Hb3.out)
 obtain ⟨i0, i1, i2, i3, i4, i5, i6⟩ := J3.out.seven
 go_wp2_with fail
 refine NN.mono ?_
 rintro e w4 h
 rcases h with ⟨h0, nb, mv, rfl, hNeg, hMv, hb4⟩ | ⟨h0, _⟩
 case inr => exact absurd (newN_own HC.out) h0
 have J4 := Lib.hid (J3.out.later hb4)
 have K4 := Lib.hid (K3.out.later hb4)
 have Hb4 := Lib.hid (below_then Hb3.out hb4)
 have HNeg := Lib.hid hNeg
 have HMv := Lib.hid hMv
 have HNb := Lib.hid hb4.size
 clear hb4 J3 K3 NN hNeg hMv h0 i0 i1 i2 i3 i4 i5 i6
 have NG := newG_ok 8192 w4 (by decide)
 go_wp2_with fail
 refine NG.mono ?_
 rintro e w5 ⟨gb, HG, rfl, hG, hb5⟩
 have J5 := Lib.hid (J4.out.later hb5)
 have K5 := Lib.hid (K4.out.later hb5)
 have Hb5 := Lib.hid (below_then Hb4.out hb5)
 have HGat := Lib.hid hG
 go_wp2_with fail
 have HEe := HE.out
 refine wp_region_held (S := (fun w' => w'.cell? ⟨cb, 0, none⟩ = some (.slice pt c.ts.length ct) ∧ w'.cell? ⟨cb, 2, none⟩ = some (.slice pu c.us.length cu) ∧ w'.cell? ⟨cb, 3, none⟩ = some (.string (S c.sn)) ∧ w'.cell? ⟨cb, 4, none⟩ = some (.string (S c.ss)) ∧ w'.cell? ⟨cb, 5, none⟩ = some (.int .i64 c.lim) ∧ w'.cell? ⟨db, 0, none⟩ = some (.int .i64 d.id) ∧ w'.cell? ⟨db, 1, none⟩ = some (.string (S d.ch)))) (by kernel_rfl) ?_
 have e6 : Below w5.heap.size w5 { w5 with drawn := w5.drawn + 1 } := (Below.refl _ _).drew
 generalize ({ w5 with drawn := w5.drawn + 1 } : World) = w6 at e6 ⊢
 have SF : ∀ W : World, Below w5.heap.size w5 W → (W.cell? ⟨cb, 0, none⟩ = some (.slice pt c.ts.length ct) ∧ W.cell? ⟨cb, 2, none⟩ = some (.slice pu c.us.length cu) ∧ W.cell? ⟨cb, 3, none⟩ = some (.string (S c.sn)) ∧ W.cell? ⟨cb, 4, none⟩ = some (.string (S c.ss)) ∧ W.cell? ⟨cb, 5, none⟩ = some (.int .i64 c.lim) ∧ W.cell? ⟨db, 0, none⟩ = some (.int .i64 d.id) ∧ W.cell? ⟨db, 1, none⟩ = some (.string (S d.ch))) := fun W hb => by
  obtain ⟨i0, i1, i2, i3, i4, i5, i6⟩ := (J5.out.later hb).seven
  obtain ⟨t0, t1⟩ := (K5.out.later hb).two
  exact ⟨i0, i2, i3, i4, i5, t0, t1⟩
 have BW : ∀ W : World, Below w5.heap.size w5 W → Below w.heap.size w W := fun W hb => below_then Hb5.out hb
 have hS := SF _ e6
 refine takeN (.pointer (some ⟨nb, 0, none⟩)) (some 39) (i := 0) rfl rfl (by kernel_rfl) (by kernel_rfl) (by kernel_rfl) (fun _ _ _ h => h) (Or.inl ⟨by rfl, fun w' hw' => ?_⟩) hS ?_
 ·obtain ⟨x0, x1, x2, x3, x4, y0, y1⟩ := hw'
  go_simp
 simp only [Act.put, iA, iB, iC]
 refine takeN (.pointer (some ⟨cb, 0, none⟩)) (some 40) (i := 1) rfl rfl (by kernel_rfl) (by kernel_rfl) (by kernel_rfl) (fun _ _ _ h => h) (Or.inl ⟨by rfl, fun w' hw' => ?_⟩) hS ?_
 ·obtain ⟨x0, x1, x2, x3, x4, y0, y1⟩ := hw'
  go_simp
 simp only [Act.put, iA, iB, iC]
 refine takeN (.slice pt c.ts.length ct) (some 41) (i := 2) rfl rfl (by kernel_rfl) (by kernel_rfl) (by kernel_rfl) (fun _ _ _ h => h) (Or.inl ⟨by rfl, fun w' hw' => ?_⟩) hS ?_
 ·obtain ⟨x0, x1, x2, x3, x4, y0, y1⟩ := hw'
  go_simp
 simp only [Act.put, iA, iB, iC]
 refine takeN (.pointer (some ⟨cb, 2, none⟩)) (some 43) (i := 4) rfl rfl (by kernel_rfl) (by kernel_rfl) (by kernel_rfl) (fun _ _ _ h => h) (Or.inl ⟨by rfl, fun w' hw' => ?_⟩) hS ?_
 ·obtain ⟨x0, x1, x2, x3, x4, y0, y1⟩ := hw'
  go_simp
 simp only [Act.put, iA, iB, iC]
 refine takeN (.slice pu c.us.length cu) (some 44) (i := 5) rfl rfl (by kernel_rfl) (by kernel_rfl) (by kernel_rfl) (fun _ _ _ h => h) (Or.inl ⟨by rfl, fun w' hw' => ?_⟩) hS ?_
 ·obtain ⟨x0, x1, x2, x3, x4, y0, y1⟩ := hw'
  go_simp
 simp only [Act.put, iA, iB, iC]
 refine takeN (.pointer (some ⟨cb, 3, none⟩)) (some 46) (i := 7) rfl rfl (by kernel_rfl) (by kernel_rfl) (by kernel_rfl) (fun _ _ _ h => h) (Or.inl ⟨by rfl, fun w' hw' => ?_⟩) hS ?_
 ·obtain ⟨x0, x1, x2, x3, x4, y0, y1⟩ := hw'
  go_simp
 simp only [Act.put, iA, iB, iC]
 refine takeN (.agg #[.string (S c.sn), .string (S c.ss)]) (some 47) (i := 8) rfl rfl (by kernel_rfl) (by kernel_rfl) (by kernel_rfl) (fun _ _ _ h => h) (Or.inl ⟨by rfl, fun w' hw' => ?_⟩) hS ?_
 ·obtain ⟨x0, x1, x2, x3, x4, y0, y1⟩ := hw'
  go_simp
 simp only [Act.put, iA, iB, iC]
 refine takeN (.agg #[.int .i64 d.id, .string (S d.ch)]) (some 49) (i := 10) rfl rfl (by kernel_rfl) (by kernel_rfl) (by kernel_rfl) (fun _ _ _ h => h) (Or.inl ⟨by rfl, fun w' hw' => ?_⟩) hS ?_
 ·obtain ⟨x0, x1, x2, x3, x4, y0, y1⟩ := hw'
  go_simp
 simp only [Act.put, iA, iB, iC]
 refine takeN (.pointer (some ⟨gb, 0, none⟩)) (some 50) (i := 11) rfl rfl (by kernel_rfl) (by kernel_rfl) (by kernel_rfl) (fun _ _ _ h => h) (Or.inl ⟨by rfl, fun w' hw' => ?_⟩) hS ?_
 ·obtain ⟨x0, x1, x2, x3, x4, y0, y1⟩ := hw'
  go_simp
 simp only [Act.put, iA, iB, iC]
 refine wpAnyH_all (rs := [3, 12]) (by kernel_rfl) (by simp) (fun i hi => ?_)
 obtain rfl | rfl : i = 3 ∨ i = 12 := by simpa using hi
 ·refine wantN (i := 3) rfl (by rfl) (callN (f := 71) (some 42) rfl Tryz.func71 (by kernel_rfl) (by kernel_rfl) rfl rfl ?_)
  simp only [List.map_toArray, List.map_cons, List.map_nil]
  refine (cloneS_any c.ts _ w6 (HT.out.later (BW _ e6)) HF.out.tb).mono ?_
  rintro e w7 ⟨vS, rfl, hSb, hb7⟩
  obtain ⟨ps, cs, rfl⟩ := hSb.form
  have e7 := below_then e6 hb7
  have hSb := hSb.mono0 e6.size
  have hS7 := SF _ e7
  refine ⟨_, rfl, hS7, ?_⟩
  try dsimp only
  simp only [Act.put, iA, iB, iC]
  refine wpAnyH_all (rs := [6, 12]) (by kernel_rfl) (by simp) (fun i hi => ?_)
  obtain rfl | rfl : i = 6 ∨ i = 12 := by simpa using hi
  ·refine wantN (i := 6) rfl (by rfl) (callN (f := 72) (some 45) rfl Tryz.func72 (by kernel_rfl) (by kernel_rfl) rfl rfl ?_)
   simp only [List.map_toArray, List.map_cons, List.map_nil]
   refine (cloneU_any c.us _ w7 (HU.out.later (BW _ e7)) (by have := HC.out.nu; omega)).mono ?_
   rintro e w8 ⟨vU, rfl, hUb, hb8⟩
   obtain ⟨pus, cus, rfl⟩ := hUb.form
   have e8 := below_then e7 hb8
   have hUb := hUb.mono0 e7.size
   have hS8 := SF _ e8
   refine ⟨_, rfl, hS8, ?_⟩
   try dsimp only
   simp only [Act.put, iA, iB, iC]
   have hSb := hSb.later hb8
   refine takeN (.agg #[.slice ps c.ts.length cs, .slice none 0 0, .slice pus c.us.length cus, .string (S c.sn), .string (S c.ss), .int .i64 0, .slice none 0 0]) (some 48) (i := 9) rfl rfl (by kernel_rfl) (by kernel_rfl) (by kernel_rfl) (fun _ _ _ h => h) (Or.inl ⟨by rfl, fun w' hw' => ?_⟩) hS8 ?_
   ·obtain ⟨x0, x1, x2, x3, x4, y0, y1⟩ := hw'
    go_simp
   simp only [Act.put, iA, iB, iC]
   refine wpAnyH_all (rs := [12]) (by kernel_rfl) (by simp) (fun i hi => ?_)
   obtain rfl : i = 12 := by simpa using hi
   refine wantN (i := 12) rfl (by rfl) (mapN _ (some 51) rfl rfl ?_)
   have hM := SMap.made w8
   have hb9 := (Below.refl w8.heap.size w8).alloc (Nat.le_refl _) (.map #[] 0)
   have hmb := e8.size
   obtain ⟨mb, hmbe⟩ : ∃ mb, w8.heap.size = mb := ⟨_, rfl⟩
   obtain ⟨w9, hw9⟩ : ∃ w9, w8.alloc (.map #[] 0) = w9 := ⟨_, rfl⟩
   rw [hw9, hmbe] at hM
   rw [hw9] at hb9
   rw [hmbe] at hmb
   have e9 := below_then e8 hb9
   rw [hmbe, hw9]
   have hS9 := SF _ e9
   refine ⟨hS9, ?_⟩
   try dsimp only
   simp only [Act.put, iA, iB, iC]
   have hSb := hSb.later hb9
   have hUb := hUb.later hb9
   refine takeN (.agg #[.pointer (some ⟨nb, 0, none⟩), .slice ps c.ts.length cs, .slice none 0 0, .slice pus c.us.length cus, .string (S c.sn), .string (S c.ss), .int .i64 0, .slice none 0 0, .int .i64 d.id, .string (S d.ch), .pointer (some ⟨gb, 0, none⟩), .int .u32 0, .int .u32 0, .bool false, .int .u64 0, .int .u64 0, .int .i64 0, .bool false, .map (some mb), .string (S []), .bool false, .bool false, .bool false]) (some 52) (i := 13) rfl rfl (by kernel_rfl) (by kernel_rfl) (by kernel_rfl) (fun _ _ _ h => h) (Or.inl ⟨by rfl, fun w' hw' => ?_⟩) hS9 ?_
   ·obtain ⟨x0, x1, x2, x3, x4, y0, y1⟩ := hw'
    go_simp
   simp only [Act.put, iA, iB, iC]
   refine wpAnyH_all (rs := [14]) (by kernel_rfl) (by simp) (fun i hi => ?_)
   obtain rfl : i = 14 := by simpa using hi
   obtain ⟨hL, hown⟩ := LogIn.made (d := d) (Hb3.out.size) HNb.out HNeg.out HMv.out HGat.out hb5 e9 hSb hUb hM hmb
   have bz := (Below.refl w9.heap.size w9).alloc (Nat.le_refl _) (.cells #[.pointer (some ⟨nb, 0, none⟩), .slice ps c.ts.length cs, .slice none 0 0, .slice pus c.us.length cus, .string (S c.sn), .string (S c.ss), .int .i64 0, .slice none 0 0, .int .i64 d.id, .string (S d.ch), .pointer (some ⟨gb, 0, none⟩), .int .u32 0, .int .u32 0, .bool false, .int .u64 0, .int .u64 0, .int .i64 0, .bool false, .map (some mb), .string (S []), .bool false, .bool false, .bool false] 95)
   refine wantN (i := 14) rfl (by rfl) (boxN #[.pointer (some ⟨nb, 0, none⟩), .slice ps c.ts.length cs, .slice none 0 0, .slice pus c.us.length cus, .string (S c.sn), .string (S c.ss), .int .i64 0, .slice none 0 0, .int .i64 d.id, .string (S d.ch), .pointer (some ⟨gb, 0, none⟩), .int .u32 0, .int .u32 0, .bool false, .int .u64 0, .int .u64 0, .int .i64 0, .bool false, .map (some mb), .string (S []), .bool false, .bool false, .bool false] _ (some 53) rfl rfl rfl ?_)
   have e20 := below_then e9 bz
   change LogIn (w9.alloc (.cells #[.pointer (some ⟨nb, 0, none⟩), .slice ps c.ts.length cs, .slice none 0 0, .slice pus c.us.length cus, .string (S c.sn), .string (S c.ss), .int .i64 0, .slice none 0 0, .int .i64 d.id, .string (S d.ch), .pointer (some ⟨gb, 0, none⟩), .int .u32 0, .int .u32 0, .bool false, .int .u64 0, .int .u64 0, .int .i64 0, .bool false, .map (some mb), .string (S []), .bool false, .bool false, .bool false] 95)) _ _ _ _ _ _ at hL
   obtain ⟨lb, hlb⟩ : ∃ lb, w9.heap.size = lb := ⟨_, rfl⟩
   obtain ⟨w20, hw20⟩ : ∃ w20, w9.alloc (.cells #[.pointer (some ⟨nb, 0, none⟩), .slice ps c.ts.length cs, .slice none 0 0, .slice pus c.us.length cus, .string (S c.sn), .string (S c.ss), .int .i64 0, .slice none 0 0, .int .i64 d.id, .string (S d.ch), .pointer (some ⟨gb, 0, none⟩), .int .u32 0, .int .u32 0, .bool false, .int .u64 0, .int .u64 0, .int .i64 0, .bool false, .map (some mb), .string (S []), .bool false, .bool false, .bool false] 95) = w20 := ⟨_, rfl⟩
   rw [hw20] at hL e20
   rw [hlb] at hL
   rw [hlb, hw20]
   have hS20 := SF _ e20
   refine ⟨hS20, ?_⟩
   try dsimp only
   simp only [Act.put, iA, iB, iC]
   refine takeN (.pointer (some ⟨lb, 0, none⟩)) (some 4) (i := 15) rfl rfl (by kernel_rfl) (by kernel_rfl) (by kernel_rfl) (fun _ _ _ h => h) (Or.inl ⟨by rfl, fun w' hw' => ?_⟩) hS20 ?_
   ·obtain ⟨x0, x1, x2, x3, x4, y0, y1⟩ := hw'
    go_simp
   simp only [Act.put, iA, iB, iC]
   refine takeN (.nilIface) (some 5) (i := 16) rfl rfl (by kernel_rfl) (by kernel_rfl) (by kernel_rfl) (fun _ _ _ h => h) (Or.inl ⟨by rfl, fun w' hw' => ?_⟩) hS20 ?_
   ·obtain ⟨x0, x1, x2, x3, x4, y0, y1⟩ := hw'
    go_simp
   simp only [Act.put, iA, iB, iC]
   refine wpAnyH_done (by kernel_rfl) ?_ _
   have bz := BW _ e20
   go_wp2_with fail
   go_ret2
   exact .inl ⟨by rw [HN3.out], lb, _, rfl, hL, hown, bz⟩
  ·refine wantN (i := 12) rfl (by rfl) (mapN _ (some 51) rfl rfl ?_)
   have hM := SMap.made w7
   have hb8 := (Below.refl w7.heap.size w7).alloc (Nat.le_refl _) (.map #[] 0)
   have hmb := e7.size
   obtain ⟨mb, hmbe⟩ : ∃ mb, w7.heap.size = mb := ⟨_, rfl⟩
   obtain ⟨w8, hw8⟩ : ∃ w8, w7.alloc (.map #[] 0) = w8 := ⟨_, rfl⟩
   rw [hw8, hmbe] at hM
   rw [hw8] at hb8
   rw [hmbe] at hmb
   have e8 := below_then e7 hb8
   rw [hmbe, hw8]
   have hS8 := SF _ e8
   refine ⟨hS8, ?_⟩
   try dsimp only
   simp only [Act.put, iA, iB, iC]
   have hSb := hSb.later hb8
   refine wpAnyH_all (rs := [6]) (by kernel_rfl) (by simp) (fun i hi => ?_)
   obtain rfl : i = 6 := by simpa using hi
   refine wantN (i := 6) rfl (by rfl) (callN (f := 72) (some 45) rfl Tryz.func72 (by kernel_rfl) (by kernel_rfl) rfl rfl ?_)
   simp only [List.map_toArray, List.map_cons, List.map_nil]
   refine (cloneU_any c.us _ w8 (HU.out.later (BW _ e8)) (by have := HC.out.nu; omega)).mono ?_
   rintro e w9 ⟨vU, rfl, hUb, hb9⟩
   obtain ⟨pus, cus, rfl⟩ := hUb.form
   have e9 := below_then e8 hb9
   have hUb := hUb.mono0 e8.size
   have hS9 := SF _ e9
   refine ⟨_, rfl, hS9, ?_⟩
   try dsimp only
   simp only [Act.put, iA, iB, iC]
   have hM := hM.later hb9
   have hSb := hSb.later hb9
   refine takeN (.agg #[.slice ps c.ts.length cs, .slice none 0 0, .slice pus c.us.length cus, .string (S c.sn), .string (S c.ss), .int .i64 0, .slice none 0 0]) (some 48) (i := 9) rfl rfl (by kernel_rfl) (by kernel_rfl) (by kernel_rfl) (fun _ _ _ h => h) (Or.inl ⟨by rfl, fun w' hw' => ?_⟩) hS9 ?_
   ·obtain ⟨x0, x1, x2, x3, x4, y0, y1⟩ := hw'
    go_simp
   simp only [Act.put, iA, iB, iC]
   refine takeN (.agg #[.pointer (some ⟨nb, 0, none⟩), .slice ps c.ts.length cs, .slice none 0 0, .slice pus c.us.length cus, .string (S c.sn), .string (S c.ss), .int .i64 0, .slice none 0 0, .int .i64 d.id, .string (S d.ch), .pointer (some ⟨gb, 0, none⟩), .int .u32 0, .int .u32 0, .bool false, .int .u64 0, .int .u64 0, .int .i64 0, .bool false, .map (some mb), .string (S []), .bool false, .bool false, .bool false]) (some 52) (i := 13) rfl rfl (by kernel_rfl) (by kernel_rfl) (by kernel_rfl) (fun _ _ _ h => h) (Or.inl ⟨by rfl, fun w' hw' => ?_⟩) hS9 ?_
   ·obtain ⟨x0, x1, x2, x3, x4, y0, y1⟩ := hw'
    go_simp
   simp only [Act.put, iA, iB, iC]
   refine wpAnyH_all (rs := [14]) (by kernel_rfl) (by simp) (fun i hi => ?_)
   obtain rfl : i = 14 := by simpa using hi
   obtain ⟨hL, hown⟩ := LogIn.made (d := d) (Hb3.out.size) HNb.out HNeg.out HMv.out HGat.out hb5 e9 hSb hUb hM hmb
   have bz := (Below.refl w9.heap.size w9).alloc (Nat.le_refl _) (.cells #[.pointer (some ⟨nb, 0, none⟩), .slice ps c.ts.length cs, .slice none 0 0, .slice pus c.us.length cus, .string (S c.sn), .string (S c.ss), .int .i64 0, .slice none 0 0, .int .i64 d.id, .string (S d.ch), .pointer (some ⟨gb, 0, none⟩), .int .u32 0, .int .u32 0, .bool false, .int .u64 0, .int .u64 0, .int .i64 0, .bool false, .map (some mb), .string (S []), .bool false, .bool false, .bool false] 95)
   refine wantN (i := 14) rfl (by rfl) (boxN #[.pointer (some ⟨nb, 0, none⟩), .slice ps c.ts.length cs, .slice none 0 0, .slice pus c.us.length cus, .string (S c.sn), .string (S c.ss), .int .i64 0, .slice none 0 0, .int .i64 d.id, .string (S d.ch), .pointer (some ⟨gb, 0, none⟩), .int .u32 0, .int .u32 0, .bool false, .int .u64 0, .int .u64 0, .int .i64 0, .bool false, .map (some mb), .string (S []), .bool false, .bool false, .bool false] _ (some 53) rfl rfl rfl ?_)
   have e20 := below_then e9 bz
   change LogIn (w9.alloc (.cells #[.pointer (some ⟨nb, 0, none⟩), .slice ps c.ts.length cs, .slice none 0 0, .slice pus c.us.length cus, .string (S c.sn), .string (S c.ss), .int .i64 0, .slice none 0 0, .int .i64 d.id, .string (S d.ch), .pointer (some ⟨gb, 0, none⟩), .int .u32 0, .int .u32 0, .bool false, .int .u64 0, .int .u64 0, .int .i64 0, .bool false, .map (some mb), .string (S []), .bool false, .bool false, .bool false] 95)) _ _ _ _ _ _ at hL
   obtain ⟨lb, hlb⟩ : ∃ lb, w9.heap.size = lb := ⟨_, rfl⟩
   obtain ⟨w20, hw20⟩ : ∃ w20, w9.alloc (.cells #[.pointer (some ⟨nb, 0, none⟩), .slice ps c.ts.length cs, .slice none 0 0, .slice pus c.us.length cus, .string (S c.sn), .string (S c.ss), .int .i64 0, .slice none 0 0, .int .i64 d.id, .string (S d.ch), .pointer (some ⟨gb, 0, none⟩), .int .u32 0, .int .u32 0, .bool false, .int .u64 0, .int .u64 0, .int .i64 0, .bool false, .map (some mb), .string (S []), .bool false, .bool false, .bool false] 95) = w20 := ⟨_, rfl⟩
   rw [hw20] at hL e20
   rw [hlb] at hL
   rw [hlb, hw20]
   have hS20 := SF _ e20
   refine ⟨hS20, ?_⟩
   try dsimp only
   simp only [Act.put, iA, iB, iC]
   refine takeN (.pointer (some ⟨lb, 0, none⟩)) (some 4) (i := 15) rfl rfl (by kernel_rfl) (by kernel_rfl) (by kernel_rfl) (fun _ _ _ h => h) (Or.inl ⟨by rfl, fun w' hw' => ?_⟩) hS20 ?_
   ·obtain ⟨x0, x1, x2, x3, x4, y0, y1⟩ := hw'
    go_simp
   simp only [Act.put, iA, iB, iC]
   refine takeN (.nilIface) (some 5) (i := 16) rfl rfl (by kernel_rfl) (by kernel_rfl) (by kernel_rfl) (fun _ _ _ h => h) (Or.inl ⟨by rfl, fun w' hw' => ?_⟩) hS20 ?_
   ·obtain ⟨x0, x1, x2, x3, x4, y0, y1⟩ := hw'
    go_simp
   simp only [Act.put, iA, iB, iC]
   refine wpAnyH_done (by kernel_rfl) ?_ _
   have bz := BW _ e20
   go_wp2_with fail
   go_ret2
   exact .inl ⟨by rw [HN3.out], lb, _, rfl, hL, hown, bz⟩
 ·refine wantN (i := 12) rfl (by rfl) (mapN _ (some 51) rfl rfl ?_)
  have hM := SMap.made w6
  have hb7 := (Below.refl w6.heap.size w6).alloc (Nat.le_refl _) (.map #[] 0)
  have hmb := e6.size
  obtain ⟨mb, hmbe⟩ : ∃ mb, w6.heap.size = mb := ⟨_, rfl⟩
  obtain ⟨w7, hw7⟩ : ∃ w7, w6.alloc (.map #[] 0) = w7 := ⟨_, rfl⟩
  rw [hw7, hmbe] at hM
  rw [hw7] at hb7
  rw [hmbe] at hmb
  have e7 := below_then e6 hb7
  rw [hmbe, hw7]
  have hS7 := SF _ e7
  refine ⟨hS7, ?_⟩
  try dsimp only
  simp only [Act.put, iA, iB, iC]
  refine wpAnyH_all (rs := [3]) (by kernel_rfl) (by simp) (fun i hi => ?_)
  obtain rfl : i = 3 := by simpa using hi
  refine wantN (i := 3) rfl (by rfl) (callN (f := 71) (some 42) rfl Tryz.func71 (by kernel_rfl) (by kernel_rfl) rfl rfl ?_)
  simp only [List.map_toArray, List.map_cons, List.map_nil]
  refine (cloneS_any c.ts _ w7 (HT.out.later (BW _ e7)) HF.out.tb).mono ?_
  rintro e w8 ⟨vS, rfl, hSb, hb8⟩
  obtain ⟨ps, cs, rfl⟩ := hSb.form
  have e8 := below_then e7 hb8
  have hSb := hSb.mono0 e7.size
  have hS8 := SF _ e8
  refine ⟨_, rfl, hS8, ?_⟩
  try dsimp only
  simp only [Act.put, iA, iB, iC]
  have hM := hM.later hb8
  refine wpAnyH_all (rs := [6]) (by kernel_rfl) (by simp) (fun i hi => ?_)
  obtain rfl : i = 6 := by simpa using hi
  refine wantN (i := 6) rfl (by rfl) (callN (f := 72) (some 45) rfl Tryz.func72 (by kernel_rfl) (by kernel_rfl) rfl rfl ?_)
  simp only [List.map_toArray, List.map_cons, List.map_nil]
  refine (cloneU_any c.us _ w8 (HU.out.later (BW _ e8)) (by have := HC.out.nu; omega)).mono ?_
  rintro e w9 ⟨vU, rfl, hUb, hb9⟩
  obtain ⟨pus, cus, rfl⟩ := hUb.form
  have e9 := below_then e8 hb9
  have hUb := hUb.mono0 e8.size
  have hS9 := SF _ e9
  refine ⟨_, rfl, hS9, ?_⟩
  try dsimp only
  simp only [Act.put, iA, iB, iC]
  have hM := hM.later hb9
  have hSb := hSb.later hb9
  refine takeN (.agg #[.slice ps c.ts.length cs, .slice none 0 0, .slice pus c.us.length cus, .string (S c.sn), .string (S c.ss), .int .i64 0, .slice none 0 0]) (some 48) (i := 9) rfl rfl (by kernel_rfl) (by kernel_rfl) (by kernel_rfl) (fun _ _ _ h => h) (Or.inl ⟨by rfl, fun w' hw' => ?_⟩) hS9 ?_
  ·obtain ⟨x0, x1, x2, x3, x4, y0, y1⟩ := hw'
   go_simp
  simp only [Act.put, iA, iB, iC]
  refine takeN (.agg #[.pointer (some ⟨nb, 0, none⟩), .slice ps c.ts.length cs, .slice none 0 0, .slice pus c.us.length cus, .string (S c.sn), .string (S c.ss), .int .i64 0, .slice none 0 0, .int .i64 d.id, .string (S d.ch), .pointer (some ⟨gb, 0, none⟩), .int .u32 0, .int .u32 0, .bool false, .int .u64 0, .int .u64 0, .int .i64 0, .bool false, .map (some mb), .string (S []), .bool false, .bool false, .bool false]) (some 52) (i := 13) rfl rfl (by kernel_rfl) (by kernel_rfl) (by kernel_rfl) (fun _ _ _ h => h) (Or.inl ⟨by rfl, fun w' hw' => ?_⟩) hS9 ?_
  ·obtain ⟨x0, x1, x2, x3, x4, y0, y1⟩ := hw'
   go_simp
  simp only [Act.put, iA, iB, iC]
  refine wpAnyH_all (rs := [14]) (by kernel_rfl) (by simp) (fun i hi => ?_)
  obtain rfl : i = 14 := by simpa using hi
  obtain ⟨hL, hown⟩ := LogIn.made (d := d) (Hb3.out.size) HNb.out HNeg.out HMv.out HGat.out hb5 e9 hSb hUb hM hmb
  have bz := (Below.refl w9.heap.size w9).alloc (Nat.le_refl _) (.cells #[.pointer (some ⟨nb, 0, none⟩), .slice ps c.ts.length cs, .slice none 0 0, .slice pus c.us.length cus, .string (S c.sn), .string (S c.ss), .int .i64 0, .slice none 0 0, .int .i64 d.id, .string (S d.ch), .pointer (some ⟨gb, 0, none⟩), .int .u32 0, .int .u32 0, .bool false, .int .u64 0, .int .u64 0, .int .i64 0, .bool false, .map (some mb), .string (S []), .bool false, .bool false, .bool false] 95)
  refine wantN (i := 14) rfl (by rfl) (boxN #[.pointer (some ⟨nb, 0, none⟩), .slice ps c.ts.length cs, .slice none 0 0, .slice pus c.us.length cus, .string (S c.sn), .string (S c.ss), .int .i64 0, .slice none 0 0, .int .i64 d.id, .string (S d.ch), .pointer (some ⟨gb, 0, none⟩), .int .u32 0, .int .u32 0, .bool false, .int .u64 0, .int .u64 0, .int .i64 0, .bool false, .map (some mb), .string (S []), .bool false, .bool false, .bool false] _ (some 53) rfl rfl rfl ?_)
  have e20 := below_then e9 bz
  change LogIn (w9.alloc (.cells #[.pointer (some ⟨nb, 0, none⟩), .slice ps c.ts.length cs, .slice none 0 0, .slice pus c.us.length cus, .string (S c.sn), .string (S c.ss), .int .i64 0, .slice none 0 0, .int .i64 d.id, .string (S d.ch), .pointer (some ⟨gb, 0, none⟩), .int .u32 0, .int .u32 0, .bool false, .int .u64 0, .int .u64 0, .int .i64 0, .bool false, .map (some mb), .string (S []), .bool false, .bool false, .bool false] 95)) _ _ _ _ _ _ at hL
  obtain ⟨lb, hlb⟩ : ∃ lb, w9.heap.size = lb := ⟨_, rfl⟩
  obtain ⟨w20, hw20⟩ : ∃ w20, w9.alloc (.cells #[.pointer (some ⟨nb, 0, none⟩), .slice ps c.ts.length cs, .slice none 0 0, .slice pus c.us.length cus, .string (S c.sn), .string (S c.ss), .int .i64 0, .slice none 0 0, .int .i64 d.id, .string (S d.ch), .pointer (some ⟨gb, 0, none⟩), .int .u32 0, .int .u32 0, .bool false, .int .u64 0, .int .u64 0, .int .i64 0, .bool false, .map (some mb), .string (S []), .bool false, .bool false, .bool false] 95) = w20 := ⟨_, rfl⟩
  rw [hw20] at hL e20
  rw [hlb] at hL
  rw [hlb, hw20]
  have hS20 := SF _ e20
  refine ⟨hS20, ?_⟩
  try dsimp only
  simp only [Act.put, iA, iB, iC]
  refine takeN (.pointer (some ⟨lb, 0, none⟩)) (some 4) (i := 15) rfl rfl (by kernel_rfl) (by kernel_rfl) (by kernel_rfl) (fun _ _ _ h => h) (Or.inl ⟨by rfl, fun w' hw' => ?_⟩) hS20 ?_
  ·obtain ⟨x0, x1, x2, x3, x4, y0, y1⟩ := hw'
   go_simp
  simp only [Act.put, iA, iB, iC]
  refine takeN (.nilIface) (some 5) (i := 16) rfl rfl (by kernel_rfl) (by kernel_rfl) (by kernel_rfl) (fun _ _ _ h => h) (Or.inl ⟨by rfl, fun w' hw' => ?_⟩) hS20 ?_
  ·obtain ⟨x0, x1, x2, x3, x4, y0, y1⟩ := hw'
   go_simp
  simp only [Act.put, iA, iB, iC]
  refine wpAnyH_done (by kernel_rfl) ?_ _
  have bz := BW _ e20
  go_wp2_with fail
  go_ret2
  exact .inl ⟨by rw [HN3.out], lb, _, rfl, hL, hown, bz⟩
end Go.Proofs.YtjbbbpgcegcbaaaGreatDoor
