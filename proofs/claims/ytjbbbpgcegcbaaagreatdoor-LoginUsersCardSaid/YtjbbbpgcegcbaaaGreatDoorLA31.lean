/- LA31: several texts in one. -/
import Derived.Test.YtjbbbpgcegcbaaaGreatDoorLA18
import Derived.Test.YtjbbbpgcegcbaaaGreatDoorLA20
import Derived.Test.YtjbbbpgcegcbaaaGreatDoorLA23
import Derived.Test.YtjbbbpgcegcbaaaGreatDoorLA24
import Derived.Test.YtjbbbpgcegcbaaaGreatDoorLA30
namespace Go.Proofs.YtjbbbpgcegcbaaaGreatDoor
open Go Go.RowKit
set_option linter.unusedVariables false
def RetHear (w : World) (B lb : Nat) (m0 : LgM) (c : Cf) (d : Dw) (q0 : Lq) (r : (Int × List Pr × Int) × Lq) (e : Ending) (w' : World) : Prop :=
 ∃ m, LogIn w' B lb m c d r.2 ∧ Keeps w.heap.size w w' (m0.H lb) (m.H lb) ∧ (m.mv = m0.mv ∧ m.vt = m0.vt ∧ m.vu = m0.vu ∧ r.2.mine = q0.mine) ∧ (if r.1.1 = -1 then ∃ v, e = .returned (.agg #[v, .int .i64 r.1.2.2, .int .i64 0, .int .i64 0]) ∧ PrBuf w.heap.size (offW (m.H lb) w') v r.1.2.1 else e = thrown r.1.1)
theorem InH.begin {w w0 w1 : World} {B lb : Nat} {m : LgM} {c : Cf} {d : Dw} {q : Lq} {C R : Array Value} (h : LogIn w B lb m c d q) (h0 : w.alloc (.cells C 41) = w0) (h1 : w0.alloc (.cells R 114) = w1) : InH w w1 B lb m m c d q q w.heap.size w0.heap.size C R ∧ w.heap.size ≠ w0.heap.size := by
 have b0 : Below w.heap.size w w0 := by rw [← h0]; exact (Below.refl _ _).alloc (Nat.le_refl _) _
 have b1 : Below w0.heap.size w0 w1 := by rw [← h1]; exact (Below.refl _ _).alloc (Nat.le_refl _) _
 have k0 : Blk w0 w.heap.size C 41 := by rw [← h0]; exact Blk.new w _ _
 have k1 : Blk w1 w0.heap.size R 114 := by rw [← h1]; exact Blk.new w0 _ _
 have b := below_then b0 b1
 have hlt := k0.lt
 exact ⟨⟨h, k0.later b1, k1, h.later b, Keeps.of b _, ⟨fun hh => by have := (h.ge _ hh).2; omega, fun hh => by have := (h.ge _ hh).2; omega⟩, ⟨Nat.le_refl _, b0.size⟩, ⟨rfl, rfl, rfl, rfl⟩⟩, by omega⟩
theorem fit_rest {l : List Pr} (h : okPs l) (hl : l.length ≤ 60) : fitPs (restL l) :=
 ⟨Nat.le_trans (List.length_filter_le _ _) (by omega), fun p hp => by
  have := ok_lens h p (List.mem_filter.1 hp).1
  omega⟩
theorem Keeps.cells (W : World) (b : Nat) (vs : List Value) (o : Nat) : Keeps W.heap.size W (W.setCells b o vs) (fun k => k = b) (fun k => k = b) := by
 have hg := setCells_grownB b vs o W
 exact ⟨hg.os, hg.tape, hg.output, hg.size, fun k hk hne => hg.block k hk (fun e => hne (Option.some.inj e)), fun _ h => h, fun _ h => .inl h⟩
section
variable {w : World} {B lb : Nat} {m0 : LgM} {c : Cf} {d : Dw} {q : Lq}
set_option maxRecDepth 100000 in
set_option maxHeartbeats 8000000 in
theorem hear_any (p : Pd) (vv va : Value) (h : LogIn w B lb m0 c d q) (hp : PduAt (offW (m0.H lb) w) p vv va) (hE : EnvL (offW (m0.H lb) w)) (h0 : 0 ≤ p.h.fl ∧ p.h.fl < 256) (hvl : p.h.vs.length ≤ 9223372036854775807) (hdl : p.d.length ≤ 140737488351232) (hxv : ∀ x ∈ p.h.vs, x < 18446744073709551616) (hc : CfOk c) (hM : MineOk c.own) (hQk : QOk c q) (hd : 0 ≤ d.id ∧ d.id ≤ 255 ∧ d.ch.length ≤ 100) :
  Calls Tryz.prog 92 #[.pointer (some ⟨lb, 0, none⟩), pduV p vv va] w (RetHear w B lb m0 c d q (hearQ c d p q)) := by
 obtain ⟨⟨op, now, fl, vs⟩, al, dt⟩ := p
 obtain ⟨pv, cv, hvv⟩ : ∃ p c, vv = .slice p vs.length c := by obtain ⟨p, c, h, _⟩ := hp.v; exact ⟨p, c, h⟩
 obtain ⟨pa, ca, hva⟩ : ∃ p c, va = .slice p al.length c := by obtain ⟨p, c, h, _⟩ := hp.a; exact ⟨p, c, h⟩
 subst hvv hva
 obtain ⟨w0, hw0⟩ : ∃ w0, w.alloc (.cells #[.int .i64 op, .bool now, .int .i64 fl, .slice pv vs.length cv, .slice pa al.length ca, .string (S dt)] 41) = w0 := ⟨_, rfl⟩
 obtain ⟨w1, hw1⟩ : ∃ w1, w0.alloc (.cells #[.slice none 0 0, .int .i64 0, .int .i64 0, .int .i64 0] 114) = w1 := ⟨_, rfl⟩
 obtain ⟨hS1, hne⟩ := InH.begin h hw0 hw1
 obtain ⟨pb, hpb⟩ : ∃ pb, w.heap.size = pb := ⟨_, rfl⟩
 obtain ⟨rb, hrb⟩ : ∃ rb, w0.heap.size = rb := ⟨_, rfl⟩
 rw [hpb, hrb] at hS1 hne
 have AD := admit_any (d := d) ⟨⟨op, now, fl, vs⟩, al, dt⟩ (.slice pv vs.length cv) (.slice pa al.length ca) hS1.log (hp.later hS1.keep.off') (hE.later hS1.keep.off') h0 hvl
 have GO := fun (W : World) (m : LgM) (q' : Lq) (hl : LogIn W B lb m c d q') => goOn_any (d := d) ⟨⟨op, now, fl, vs⟩, al, dt⟩ (.slice pv vs.length cv) (.slice pa al.length ca) hl h0
 obtain ⟨hd', hhd⟩ : ∃ hd' : Hd, (⟨op, now, fl, vs⟩ : Hd) = hd' := ⟨_, rfl⟩
 obtain ⟨-, -, -, fb4⟩ := fl_and h0
 have QB := beg_ok (h := (⟨op, now, fl, vs⟩ : Hd)) hQk hxv
 unfold pduV at AD GO ⊢
 simp only at AD GO fb4 hdl ⊢
 simp only [hhd] at AD GO fb4 QB ⊢
 obtain ⟨Q, hQ⟩ : ∃ Q, hearQ c d ⟨hd', al, dt⟩ q = Q := ⟨_, rfl⟩
 rw [hQ]
 unfold hearQ admQ at hQ
 unfold admQ at AD
 simp only at hQ
 obtain ⟨ea, hea⟩ : ∃ ea, admE c hd' (!q.bgn) (begQ hd' q) = ea := ⟨_, rfl⟩
 rw [hea] at hQ AD
 obtain ⟨q1, hq1⟩ : ∃ q1, begQ hd' q = q1 := ⟨_, rfl⟩
 have hmine1 : q1.mine = q.mine := by rw [← hq1]; unfold begQ; split <;> rfl
 rw [hq1] at hQ AD QB
 obtain ⟨cb, hcb⟩ : ∃ b, cB hd' = b := ⟨_, rfl⟩
 rw [hcb] at hQ fb4
 have HQ := Lib.hid hQ
 have AD := Lib.hid AD
 have GO := Lib.hid GO
 have HS1 := Lib.hid hS1
 have Hne := Lib.hid hne
 have HE := Lib.hid hE
 have QB := Lib.hid QB
 have HC := Lib.hid hc
 have HM := Lib.hid hM
 have HD := Lib.hid hd
 have Hdl := Lib.hid hdl
 have Hm1 := Lib.hid hmine1
 have Hfb := Lib.hid fb4
 have N0 := Lib.hid (fun W => needN 0 W)
 have Y0 := Lib.hid (fun W => needY 0 W)
 clear h hp hE hvl hxv hc hM hQk hd hS1 hne hQ hea hq1 hcb hmine1 fb4 h0 hdl hhd
 go_enter Tryz.func92, Tryz.ntmps92
 obtain ⟨k0, k1, k2, k3, k4, k5⟩ := HS1.out.pbk.six
 go_wp2_with fail
 clear hw0 hw1 hpb hrb
 refine AD.out.mono ?_
 rintro e w2 ⟨he, hL2, hK2⟩
 simp only at he hL2
 have HS2 := Lib.hid (HS1.out.step hL2 hK2 ⟨rfl, rfl, rfl, Hm1.out⟩)
 clear hL2 hK2 AD HS1 k0 k1 k2 k3 k4 k5
 by_cases h1 : ea = -1
 case neg =>
  rw [if_neg h1] at he
  subst he
  have hq := HQ.out
  rw [if_pos h1] at hq
  subst hq
  unfold thrown
  go_wp2_with fail
  refine ⟨rfl, m0, HS2.out.log, HS2.out.keep, HS2.out.same, ?_⟩
  rw [if_neg h1]
  rfl
 rw [if_pos h1] at he
 subst he
 have hq := HQ.out
 rw [if_neg (fun h => h h1)] at hq
 have HQ2 := Lib.hid hq
 obtain ⟨k0, k1, k2, k3, k4, k5⟩ := HS2.out.pbk.six
 have fb4 : (bits BinOp.and IntKind.i64 fl 64 != 0) = cb := by rw [Hfb.out]; cases cb <;> rfl
 clear hq HQ h1
 go_wp2_with fail
 refine wp_region_held (S := (fun w' => w'.cell? ⟨lb, 10, none⟩ = some (.pointer (some ⟨m0.gb, 0, none⟩)) ∧ w'.cell? ⟨pb, 5, none⟩ = some (.string (S dt)))) (by kernel_rfl) ?_
 have e9 : Below w2.heap.size w2 { w2 with drawn := w2.drawn + 1 } := (Below.refl _ _).drew
 generalize ({ w2 with drawn := w2.drawn + 1 } : World) = w4 at e9 ⊢
 have hS4 := HS2.out.later e9
 have hS : w4.cell? ⟨lb, 10, none⟩ = some (.pointer (some ⟨m0.gb, 0, none⟩)) ∧ w4.cell? ⟨pb, 5, none⟩ = some (.string (S dt)) := ⟨(pcells hS4.log.blk).q10, hS4.pbk.six.2.2.2.2.2⟩
 refine takeN (.pointer (some ⟨lb, 0, none⟩)) (some 21) (i := 0) rfl rfl (by kernel_rfl) (by kernel_rfl) (by kernel_rfl) (fun _ _ _ h => h) (Or.inl ⟨by rfl, fun w' hw' => ?_⟩) hS ?_
 ·obtain ⟨x0, x1⟩ := hw'
  go_simp
 simp only [Act.put, iA, iB, iC]
 refine takeN (.pointer (some ⟨lb, 0, none⟩)) (some 22) (i := 1) rfl rfl (by kernel_rfl) (by kernel_rfl) (by kernel_rfl) (fun _ _ _ h => h) (Or.inl ⟨by rfl, fun w' hw' => ?_⟩) hS ?_
 ·obtain ⟨x0, x1⟩ := hw'
  go_simp
 simp only [Act.put, iA, iB, iC]
 refine takeN (.pointer (some ⟨lb, 10, none⟩)) (some 23) (i := 2) rfl rfl (by kernel_rfl) (by kernel_rfl) (by kernel_rfl) (fun _ _ _ h => h) (Or.inl ⟨by rfl, fun w' hw' => ?_⟩) hS ?_
 ·obtain ⟨x0, x1⟩ := hw'
  go_simp
 simp only [Act.put, iA, iB, iC]
 refine takeN (.pointer (some ⟨m0.gb, 0, none⟩)) (some 24) (i := 3) rfl rfl (by kernel_rfl) (by kernel_rfl) (by kernel_rfl) (fun _ _ _ h => h) (Or.inl ⟨by rfl, fun w' hw' => ?_⟩) hS ?_
 ·obtain ⟨x0, x1⟩ := hw'
  go_simp
 simp only [Act.put, iA, iB, iC]
 refine takeN (.pointer (some ⟨pb, 5, none⟩)) (some 25) (i := 4) rfl rfl (by kernel_rfl) (by kernel_rfl) (by kernel_rfl) (fun _ _ _ h => h) (Or.inl ⟨by rfl, fun w' hw' => ?_⟩) hS ?_
 ·obtain ⟨x0, x1⟩ := hw'
  go_simp
 simp only [Act.put, iA, iB, iC]
 refine takeN (.string (S dt)) (some 26) (i := 5) rfl rfl (by kernel_rfl) (by kernel_rfl) (by kernel_rfl) (fun _ _ _ h => h) (Or.inl ⟨by rfl, fun w' hw' => ?_⟩) hS ?_
 ·obtain ⟨x0, x1⟩ := hw'
  go_simp
 simp only [Act.put, iA, iB, iC]
 refine takeN (.bool cb) (some 27) (i := 6) rfl rfl (by kernel_rfl) (by kernel_rfl) (by kernel_rfl) (fun _ _ _ h => h) (Or.inl ⟨by rfl, fun w' hw' => ?_⟩) hS ?_
 ·obtain ⟨x0, x1⟩ := hw'
  go_simp
 simp only [Act.put, iA, iB, iC]
 refine wpAnyH_all (rs := [7]) (by kernel_rfl) (by simp) (fun i hi => ?_)
 obtain rfl : i = 7 := by simpa using hi
 refine wantN (i := 7) rfl (by rfl) (callN (f := 126) (some 28) rfl Tryz.func126 (by kernel_rfl) (by kernel_rfl) rfl rfl ?_)
 simp only [List.map_toArray, List.map_cons, List.map_nil]
 refine (add_own dt cb Hdl.out ((HE.out.later hS4.keep.off').gl (fun k h => LgM.H.gat k h)) hS4.log.gat).mono ?_
 rintro e w5 ⟨v5, ev5, HG5, rfl, hv5, he5, hG5, hk5⟩
 have hne5 : ∀ b, b < w4.heap.size → ¬ m0.HG b → w5.heap[b]? = w4.heap[b]? := hk5.block
 have hS5 : w5.cell? ⟨lb, 10, none⟩ = some (.pointer (some ⟨m0.gb, 0, none⟩)) ∧ w5.cell? ⟨pb, 5, none⟩ = some (.string (S dt)) := ⟨by rw [World.cell?_of_block (w := w4) (a := ⟨lb, 10, none⟩) (hne5 lb hS4.log.blk.lt hS4.log.d2.2)]; exact hS.1, by rw [World.cell?_of_block (w := w4) (a := ⟨pb, 5, none⟩) (hne5 pb hS4.pbk.lt (fun h => hS4.sep.1 (LgM.H.gat pb h)))]; exact hS.2⟩
 refine ⟨_, rfl, hS5, ?_⟩
 try dsimp only
 simp only [Act.put, iA, iB, iC]
 refine takeN (.tuple #[v5, ev5]) (some 20) (i := 8) rfl rfl (by kernel_rfl) (by kernel_rfl) (by kernel_rfl) (fun _ _ _ h => h) (Or.inl ⟨by rfl, fun w' hw' => ?_⟩) hS5 ?_
 ·obtain ⟨x0, x1⟩ := hw'
  go_simp
 simp only [Act.put, iA, iB, iC]
 refine takeN (v5) (some 29) (i := 9) rfl rfl (by kernel_rfl) (by kernel_rfl) (by kernel_rfl) (fun _ _ _ h => h) (Or.inl ⟨by rfl, fun w' hw' => ?_⟩) hS5 ?_
 ·obtain ⟨x0, x1⟩ := hw'
  go_simp
 simp only [Act.put, iA, iB, iC]
 refine takeN (ev5) (some 30) (i := 10) rfl rfl (by kernel_rfl) (by kernel_rfl) (by kernel_rfl) (fun _ _ _ h => h) (Or.inl ⟨by rfl, fun w' hw' => ?_⟩) hS5 ?_
 ·obtain ⟨x0, x1⟩ := hw'
  go_simp
 simp only [Act.put, iA, iB, iC]
 refine takeN (v5) (some 6) (i := 11) rfl rfl (by kernel_rfl) (by kernel_rfl) (by kernel_rfl) (fun _ _ _ h => h) (Or.inl ⟨by rfl, fun w' hw' => ?_⟩) hS5 ?_
 ·obtain ⟨x0, x1⟩ := hw'
  go_simp
 simp only [Act.put, iA, iB, iC]
 refine takeN (ev5) (some 7) (i := 12) rfl rfl (by kernel_rfl) (by kernel_rfl) (by kernel_rfl) (fun _ _ _ h => h) (Or.inl ⟨by rfl, fun w' hw' => ?_⟩) hS5 ?_
 ·obtain ⟨x0, x1⟩ := hw'
  go_simp
 simp only [Act.put, iA, iB, iC]
 refine wpAnyH_done (by kernel_rfl) ?_ _
 have hfit := addG_fits ⟨8192, q1.came⟩ dt cb QB.out.came
 obtain ⟨⟨l, n, pl⟩, ⟨most, came⟩, hG⟩ : ∃ a G, addG ⟨8192, q1.came⟩ dt cb = (a, G) := ⟨_, _, rfl⟩
 have hq := HQ2.out
 rw [hG] at hq hG5 hfit hv5 he5
 simp only at hq hG5 hfit hv5 he5
 obtain ⟨hfit, rfl⟩ := hfit
 obtain ⟨hL5, hK5⟩ := hS4.log.gather hG5 hk5
 have hS5 := hS4.step hL5 hK5 ⟨rfl, rfl, rfl, rfl⟩
 have hv5 := PrBuf.offG (K := (m0.setG HG5).H lb) hG5 hv5 (fun k hk => by
  rcases hk with rfl | rfl | hk | hk
  ·exact .inl hS4.log.blk.lt
  ·exact .inl hS4.log.who.lt
  ·exact .inl (hS4.log.neg.base k hk).2
  ·exact .inr hk)
 have HS5 := Lib.hid hS5
 have HV5 := Lib.hid hv5
 have Q2 := Lib.hid (came_ok QB.out hfit)
 have HQ3 := Lib.hid hq
 have hl : n = 0 → okPs l ∧ l.length ≤ 60 := fun hn00 => by
  by_cases hm : 8192 < q1.came.length + dt.length
  ·rw [addG_full cb hm] at hG
   have := congrArg (fun x => x.1.2.1) hG
   simp only at this
   omega
  ·cases cb with
   | true =>
    rw [addG_more (by simp only; omega)] at hG
    have := congrArg (fun x => x.1.1) hG
    simp only at this
    rw [← this]
    exact ⟨(fun _ h => absurd h List.not_mem_nil), by simp⟩
   | false =>
    rw [addG_end (by simp only; omega)] at hG
    have e1 := congrArg (fun x => x.1) hG
    simp only at e1
    obtain ⟨l2, e2, -, h3, h4⟩ := parse_is (s := q1.came ++ dt) (by rw [e1]; exact hn00)
    rw [e1] at e2
    obtain rfl := congrArg (fun x => x.1) e2
    exact ⟨h3, h4⟩
 have Hl := Lib.hid hl
 have HE5 := Lib.hid he5
 clear hS hS4 hG hG5 hk5 hK5 hL5 hS5 hv5 hq e9 HQ2 hne5 hfit hl HS2 k0 k1 k2 k3 k4 k5 he5 hi QB
 by_cases hn : n = 0
 case neg =>
  have hq := HQ3.out
  rw [if_pos hn] at hq
  subst hq
  obtain ⟨ty, xv, rfl⟩ := HE5.out.iface hn
  clear fb4
  go_wp2_with fail
  refine (N0.out _).mono ?_
  rintro e w6 ⟨rfl, rfl⟩
  unfold thrown
  go_wp2_with fail
  refine ⟨rfl, _, HS5.out.log, HS5.out.keep, HS5.out.same, ?_⟩
  rw [if_neg (show ¬ (0 : Int) = -1 by decide)]
  rfl
 obtain ⟨hok, hl60⟩ := Hl.out hn
 have hq := HQ3.out
 rw [if_neg (fun h => h hn)] at hq
 subst hn
 obtain rfl := HE5.out.zero
 have HQ4 := Lib.hid hq
 have Hok := Lib.hid hok
 clear hq HQ3 Hl hok HE5
 go_wp2_with fail
 refine (Y0.out _).mono ?_
 rintro e w6 ⟨rfl, rfl⟩
 obtain ⟨m1, hm1⟩ : ∃ m1, m0.setG HG5 = m1 := ⟨_, rfl⟩
 obtain ⟨q2, hq2⟩ : ∃ q2, ({ q1 with came := came } : Lq) = q2 := ⟨_, rfl⟩
 rw [hm1, hq2] at HS5
 rw [hm1] at HV5
 rw [hq2] at HQ4 Q2
 clear hm1 hq2 N0 Hdl
 cases cb with
 | true =>
  have hq := HQ4.out
  rw [if_pos rfl] at hq
  subst hq
  have hR := HS5.out.rbk
  obtain ⟨r0, r1, r2, r3⟩ := hR.four
  have f0 := hR.frozen 0
  have f1 := hR.frozen 1
  have f2 := hR.frozen 2
  have f3 := hR.frozen 3
  obtain ⟨w7, hw7⟩ : ∃ w7, (((w5.setCell ⟨rb, 0, none⟩ (.slice none 0 0)).setCell ⟨rb, 1, none⟩ (.int .i64 0)).setCell ⟨rb, 2, none⟩ (.int .i64 0)).setCell ⟨rb, 3, none⟩ (.int .i64 0) = w7 := ⟨_, rfl⟩
  have hB7 : Blk w7 rb #[.slice none 0 0, .int .i64 0, .int .i64 0, .int .i64 0] 114 := by rw [← hw7]; exact (((hR.set 0 (.slice none 0 0)).set 1 (.int .i64 0)).set 2 (.int .i64 0)).set 3 (.int .i64 0)
  have hK7 : Keeps w5.heap.size w5 w7 (fun k => k = rb) (fun k => k = rb) := by rw [← hw7]; exact ((((Keeps.refl _ w5 (fun k => k = rb)).putC rfl 0 _).putC rfl 1 _).putC rfl 2 _).putC rfl 3 _
  have hS7 := HS5.out.laid Hne.out hK7 hB7
  obtain ⟨s0, s1, s2, s3⟩ := hB7.four
  have HS7 := Lib.hid hS7
  clear hR hB7 hK7 hS7
  go_wp2_with fail
  refine bodyPost_ret (v := .agg #[.slice none 0 0, .int .i64 0, .int .i64 0, .int .i64 0]) (by simp [results, Tryz.results92, go_sem, s0, s1, s2, s3]) rfl ?_
  exact ⟨m1, HS7.out.log, HS7.out.keep, HS7.out.same, by rw [if_pos (show (-1 : Int) = -1 from rfl)]; exact ⟨_, rfl, PrBuf.nil _ _⟩⟩
 | false =>
  have hq := HQ4.out
  rw [if_neg (by simp)] at hq
  have HQ5 := Lib.hid hq
  have q17 := (pcells HS5.out.log.blk).q17
  have f17 := HS5.out.log.blk.frozen 17
  obtain ⟨mt, hmt⟩ : ∃ b, q2.met = b := ⟨_, rfl⟩
  rw [hmt] at q17
  obtain ⟨pr5, cr5, rfl⟩ := HV5.out.form
  have Hmt := Lib.hid hmt
  clear hq HQ4 hmt
  cases mt
  case' true =>
   have e : metQ c l q2 = (-1, q2) := by unfold metQ; rw [if_pos Hmt.out]
   have hq := HQ5.out
   rw [e] at hq
   simp only at hq
   rw [if_neg (by simp)] at hq
   have HQ7 := Lib.hid hq
   obtain ⟨q4, rfl⟩ : ∃ q4, q4 = q2 := ⟨_, rfl⟩
   obtain ⟨w7, rfl⟩ : ∃ w7, w7 = w5 := ⟨_, rfl⟩
   have HS7 := HS5
   have HV7 := HV5
   have Q7 := Q2
   clear e hq HQ5 HS5 HV5 Q2 Hmt
   go_wp2_with fail
   clear q17 f17
  case' false =>
   have e : metQ c l q2 = meetQ c l { q2 with met := true } := by unfold metQ; rw [if_neg (by rw [Hmt.out]; decide)]
   have hq := HQ5.out
   rw [e] at hq
   obtain ⟨w6, hw6⟩ : ∃ w6, w5.setCell ⟨lb, 17, none⟩ (.bool true) = w6 := ⟨_, rfl⟩
   obtain ⟨hL6, hK6⟩ := HS5.out.log.turn (q' := { q2 with met := true }) ((Keeps.refl _ w5 (fun k => k = lb)).putC rfl 17 (.bool true)) (HS5.out.log.blk.set 17 (.bool true)) rfl rfl rfl ⟨rfl, rfl, rfl⟩
   rw [hw6] at hL6 hK6
   have hS6 := HS5.out.step hL6 hK6 ⟨rfl, rfl, rfl, rfl⟩
   have hV6 := HV5.out.later hK6.off'
   have ME := meet_any l _ hL6 hV6 (by omega) (fun p hp => (ok_lens Hok.out p hp).2) (by have := HC.out.nt; omega) (Q2.out.new Hmt.out)
   have QM := meet_ok (l := l) (q := { q2 with met := true }) ⟨Q2.out.mine, Q2.out.recd, Q2.out.came, Q2.out.stg, Q2.out.sta, Q2.out.cmd, Q2.out.wN, (fun h => by cases h), Q2.out.isd⟩ rfl
   obtain ⟨em, q4, hem⟩ : ∃ em q4, meetQ c l { q2 with met := true } = (em, q4) := ⟨_, _, rfl⟩
   rw [hem] at hq ME QM
   simp only at hq QM
   have HQ6 := Lib.hid hq
   have ME := Lib.hid ME
   have HS6 := Lib.hid hS6
   have HV6 := Lib.hid hV6
   have QM := Lib.hid QM
   clear e hq hL6 hK6 hS6 hV6 hem HQ5
   go_wp2_with fail
   refine ME.out.mono ?_
   clear q17 f17 hw6
   rintro e w7 ⟨he, hL7, hK7⟩
   simp only at he hL7
   have HS7 := Lib.hid (HS6.out.step hL7 hK7 ⟨rfl, rfl, rfl, QM.out.mine.trans Q2.out.mine.symm⟩)
   have HV7 := Lib.hid (HV6.out.later hK7.off')
   have Q7 := QM
   clear hL7 hK7 ME HS6 HV6 QM
   by_cases h1 : em = -1
   case neg =>
    rw [if_neg h1] at he
    subst he
    have hq := HQ6.out
    rw [if_pos h1] at hq
    subst hq
    unfold thrown
    go_wp2_with fail
    refine ⟨rfl, m1, HS7.out.log, HS7.out.keep, HS7.out.same, ?_⟩
    rw [if_neg h1]
    rfl
   rw [if_pos h1] at he
   subst he
   have hq := HQ6.out
   rw [if_neg (fun h => h h1)] at hq
   have HQ7 := Lib.hid hq
   clear hq HQ6 h1 Q2 Hmt HS5 HV5
   go_wp2_with fail
  all_goals
   refine (part_any l _ HS7.out.log HV7.out.off hl60 (ok_lens Hok.out)).mono ?_
   rintro e w8 ⟨he, hb8⟩
   have HS8 := Lib.hid (HS7.out.later hb8)
   have hq := HQ7.out
   unfold tellQ at hq
   by_cases h1 : secBad (decide (q4.stg ≠ 0)) [] l = true
   ·rw [if_pos h1] at he hq
    subst hq
    subst he
    unfold thrown
    go_wp2_with fail
    refine ⟨rfl, m1, HS8.out.log, HS8.out.keep, HS8.out.same, ?_⟩
    rw [if_neg (show ¬ (0 : Int) = -1 by decide)]
    rfl
   rw [if_neg h1] at he hq
   obtain ⟨mp, n8, vo, rfl, hM8, hO8, hmp⟩ := he
   rw [← prFind_told (l := l) (k := kAM) (by decide), ← prFind_told (l := l) (k := kCA) (by decide), ← prFind_told (l := l) (k := kCN) (by decide), ← prFind_told (l := l) (k := kCR) (by decide), ← prFind_told (l := l) (k := kCI) (by decide), ← prFind_told (l := l) (k := kCC) (by decide)] at hq
   change (match chsQ c (partF l kAM) q4 with
    | (none, q1) => (((1, [], 0), q1) : (Int × List Pr × Int) × Lq)
    | (some a, q1) => match chlQ d (partF l kCA) q1 with
     | (none, q2) => ((1, [], 0), q2)
     | (some b, q2) => match chkQ c d (partF l kCN) (partF l kCR) (partF l kCI) (partF l kCC) q2 with
      | (none, q3) => ((1, [], 0), q3)
      | (some x, q3) => match ansN q3.mine q3.recd (restL l) true (dscQ q3) with
       | ((y, n, _), r) => if n ≠ 0 then ((0, [], 0), { q3 with recd := r }) else ((-1, a ++ b ++ x ++ y, (goQ c hd' { q3 with recd := r }).1), (goQ c hd' { q3 with recd := r }).2)) = Q at hq
   have hlen : ∀ k x, partF l k = some x → x.length ≤ 255 := fun k x hk => find_len (l := toldL l) (fun p hp => Hok.out p (List.mem_filter.1 hp).1) hk
   have hfit : fitPs (restL l) := fit_rest Hok.out hl60
   generalize partF l = pf at hM8 hq hlen
   generalize restL l = lo at hO8 hq hfit
   have HM8 := Lib.hid hM8
   have Hrb := Lib.hid HS8.out.rbk.lt
   have HO8 := Lib.hid (show PrBuf w7.heap.size (offW (m1.H lb) w8) vo lo from row_off (H := m1.H lb) hO8 (fun k hk hh => by
    have h1 := hO8.ge k hk
    have h2 := (HS7.out.log.ge k hh).2
    omega))
   have Hmo := Lib.hid (fun k hk => (World.ownsRow.lt hO8 k hk).2)
   have Hmp := Lib.hid (show ¬ m1.H lb mp from fun hh => by
    have := (HS7.out.log.ge mp hh).2
    omega)
   have Hlen := Lib.hid hlen
   have Hfit := Lib.hid hfit
   have Hwz := Lib.hid HS8.out.keep.size
   have CH := choose_any HM8.out HS8.out.log (HE.out.later HS8.out.keep.off') hlen
   have QC := chs_ok (o := pf kAM) Q7.out
   obtain ⟨o1, q5, hc1⟩ : ∃ o q5, chsQ c (pf kAM) q4 = (o, q5) := ⟨_, _, rfl⟩
   have La := fun a => chs_len (c := c) (o := pf kAM) (q := q4) (a := a)
   rw [hc1] at CH QC hq La
   simp only at QC La
   have hmine5 : q5.mine = q4.mine := QC.mine.trans Q7.out.mine.symm
   have CH := Lib.hid CH
   have HQ8 := Lib.hid hq
   have La := Lib.hid La
   have Q8 := Lib.hid QC
   have Hm5 := Lib.hid hmine5
   clear hb8 h1 hM8 hO8 hmp hlen hfit hc1 QC hmine5 HQ7 Q7 hq HS7 HV7
   go_wp2_with fail
   refine CH.out.mono ?_
   rintro e w9 ⟨he, hL9, hK9⟩
   simp only at he hL9
   have HS9 := Lib.hid (HS8.out.step hL9 hK9 ⟨rfl, rfl, rfl, Hm5.out⟩)
   have HM9 := Lib.hid (HM8.out.same (hK9.block mp HM8.out.lt Hmp.out))
   have HO9 := Lib.hid (HO8.out.later hK9.off')
   have Hk89 := Lib.hid hK9.size
   clear hL9 hK9 CH HM8 HO8 HS8 Hm5
   cases o1 with
   | none =>
    have hq := HQ8.out
    simp only at hq
    subst hq
    simp only [SaidE] at he
    subst he
    unfold thrown
    go_wp2_with fail
    refine ⟨rfl, m1, HS9.out.log, HS9.out.keep, HS9.out.same, ?_⟩
    rw [if_neg (show ¬ (1 : Int) = -1 by decide)]
    rfl
   | some sa =>
    have hq := HQ8.out
    simp only at hq
    simp only [SaidE] at he
    obtain ⟨v9, rfl, hv9⟩ := he
    have HV9 := Lib.hid hv9
    have la := La.out sa rfl
    have CL := challenge_any HM9.out HS9.out.log (HE.out.later HS9.out.keep.off') Hlen.out HD.out
    have QC := chl_ok (d := d) (o := pf kCA) Q8.out
    obtain ⟨o2, q6, hc1⟩ : ∃ o q6, chlQ d (pf kCA) q5 = (o, q6) := ⟨_, _, rfl⟩
    have Lb := fun a => chl_len (d := d) (o := pf kCA) (q := q5) (a := a)
    rw [hc1] at CL QC hq Lb
    simp only at QC Lb
    have Hm6 := Lib.hid (show q6.mine = q5.mine from QC.mine.trans Q8.out.mine.symm)
    have CL := Lib.hid CL
    have HQ9 := Lib.hid hq
    have Lb := Lib.hid Lb
    have Q9 := Lib.hid QC
    clear hv9 La hq HQ8 hc1 QC Q8
    go_wp2_with fail
    refine CL.out.mono ?_
    rintro e w10 ⟨he, hL10, hK10⟩
    simp only at he hL10
    have HS10 := Lib.hid (HS9.out.step hL10 hK10 ⟨rfl, rfl, rfl, Hm6.out⟩)
    have HM10 := Lib.hid (HM9.out.same (hK10.block mp HM9.out.lt Hmp.out))
    have HO10 := Lib.hid (HO9.out.later hK10.off')
    have HV10 := Lib.hid (HV9.out.later hK10.off')
    have hk := hK10.size
    clear hL10 hK10 CL HM9 HO9 HS9 HV9 Hm6
    cases o2 with
    | none =>
     have hq := HQ9.out
     simp only at hq
     subst hq
     simp only [SaidE] at he
     subst he
     unfold thrown
     go_wp2_with fail
     refine ⟨rfl, m1, HS10.out.log, HS10.out.keep, HS10.out.same, ?_⟩
     rw [if_neg (show ¬ (1 : Int) = -1 by decide)]
     rfl
    | some sb =>
     have hq := HQ9.out
     simp only at hq
     simp only [SaidE] at he
     obtain ⟨vb, rfl, hvb⟩ := he
     have lb3 := Lb.out sb rfl
     obtain ⟨v11, w11, hr11, hv11, hS11, hg11⟩ := HS10.out.said HV10.out hvb (by omega) Hwz.out (Nat.le_trans Hk89.out hk)
     have hl11 : (sa ++ sb).length ≤ 4 := by rw [List.length_append]; omega
     have HM11 := Lib.hid (HM10.out.grown HV10.out.off hg11)
     have HO11 := Lib.hid (HO10.out.apartG Hmo.out HV10.out.off hg11)
     have Hk11 := Lib.hid (Nat.le_trans (Nat.le_trans Hk89.out hk) hg11.size)
     generalize sa ++ sb = sab at hv11 hl11 hq
     have HV11 := Lib.hid hv11
     have HS11 := Lib.hid hS11
     have Hr11 := Lib.hid hr11
     have CK := lcheck_any HM11.out HS11.out.log (HE.out.later HS11.out.keep.off') Hlen.out (by have := HC.out.nu; omega) Q9.out.wN
     have QC := chk_ok (d := d) (n := pf kCN) (r := pf kCR) (i := pf kCI) (cc := pf kCC) HC.out Q9.out
     obtain ⟨o3, q7, hc1⟩ : ∃ o q7, chkQ c d (pf kCN) (pf kCR) (pf kCI) (pf kCC) q6 = (o, q7) := ⟨_, _, rfl⟩
     have Lx := fun a => chk_len (c := c) (d := d) (n := pf kCN) (r := pf kCR) (i := pf kCI) (cc := pf kCC) (q := q6) (a := a)
     rw [hc1] at CK QC hq Lx
     simp only at QC Lx
     have Hm7 := Lib.hid (show q7.mine = q6.mine from QC.mine.trans Q9.out.mine.symm)
     have CK := Lib.hid CK
     have HQ10 := Lib.hid hq
     have Lx := Lib.hid Lx
     have Q10 := Lib.hid QC
     clear hv11 hS11 hr11 hg11 hvb Lb hq HQ9 hc1 QC Q9 hk Hk89 HM10 HO10 HS10 HV10 lb3
     go_wp2_with (at_builtin; refine Lib.wpList_append_run _ rfl _ _ _ _ rfl _ _ rfl rfl _ _ Hr11.out ?_)
     refine CK.out.mono ?_
     rintro e w12 ⟨he, hL12, hK12⟩
     simp only at he hL12
     have HS12 := Lib.hid (HS11.out.step hL12 hK12 ⟨rfl, rfl, rfl, Hm7.out⟩)
     have HO12 := Lib.hid (HO11.out.later hK12.off')
     have HV12 := Lib.hid (HV11.out.later hK12.off')
     have hk := hK12.size
     clear hL12 hK12 CK HM11 HO11 HS11 HV11 Hm7 Hr11
     cases o3 with
     | none =>
      have hq := HQ10.out
      simp only at hq
      subst hq
      simp only [SaidE] at he
      subst he
      unfold thrown
      go_wp2_with fail
      refine ⟨rfl, m1, HS12.out.log, HS12.out.keep, HS12.out.same, ?_⟩
      rw [if_neg (show ¬ (1 : Int) = -1 by decide)]
      rfl
     | some sx =>
      have hq := HQ10.out
      simp only at hq
      simp only [SaidE] at he
      obtain ⟨vx, rfl, hvx⟩ := he
      have lx := Lx.out sx rfl
      obtain ⟨v13, w13, hr13, hv13, hS13, hg13⟩ := HS12.out.said HV12.out hvx (by omega) Hwz.out (Nat.le_trans Hk11.out hk)
      have hl13 : (sab ++ sx).length ≤ 6 := by rw [List.length_append]; omega
      have HO13 := Lib.hid (HO12.out.apartG Hmo.out HV12.out.off hg13)
      have Hk13 := Lib.hid (Nat.le_trans (Nat.le_trans Hk11.out hk) hg13.size)
      generalize sab ++ sx = sax at hv13 hl13 hq
      have HV13 := Lib.hid hv13
      have HS13 := Lib.hid hS13
      have Hr13 := Lib.hid hr13
      have Hl13 := Lib.hid hl13
      have HQ13 := Lib.hid hq
      clear hv13 hS13 hr13 hg13 hvx Lx hq HQ10 hk Hk11 HO12 HS12 HV12 lx hl11 la hl13
      go_wp2_with (at_builtin; refine Lib.wpList_append_run _ rfl _ _ _ _ rfl _ _ rfl rfl _ _ Hr13.out ?_)
      refine wp_region_held (S := (fun w' => w'.cell? ⟨lb, 0, none⟩ = some (.pointer (some ⟨m1.nb, 0, none⟩)))) (by kernel_rfl) ?_
      have e14 : Below w13.heap.size w13 { w13 with drawn := w13.drawn + 1 } := (Below.refl _ _).drew
      generalize ({ w13 with drawn := w13.drawn + 1 } : World) = w14 at e14 ⊢
      have hS14 := HS13.out.later e14
      have hO14 := HO13.out.later (Keeps.of e14 (m1.H lb)).off'
      have hV14 := HV13.out.later (Keeps.of e14 (m1.H lb)).off'
      have hk14 := Nat.le_trans Hk13.out e14.size
      have hS : w14.cell? ⟨lb, 0, none⟩ = some (.pointer (some ⟨m1.nb, 0, none⟩)) := (pcells hS14.log.blk).q0
      clear HV13 HO13 HS13 Hk13 Hr13
      refine takeN (.pointer (some ⟨lb, 0, none⟩)) (some 67) (i := 0) rfl rfl (by kernel_rfl) (by kernel_rfl) (by kernel_rfl) (fun _ _ _ h => h) (Or.inl ⟨by rfl, fun w' hw' => ?_⟩) hS ?_
      ·obtain x0 := hw'
       go_simp
      simp only [Act.put, iA, iB, iC]
      refine takeN (.pointer (some ⟨lb, 0, none⟩)) (some 68) (i := 1) rfl rfl (by kernel_rfl) (by kernel_rfl) (by kernel_rfl) (fun _ _ _ h => h) (Or.inl ⟨by rfl, fun w' hw' => ?_⟩) hS ?_
      ·obtain x0 := hw'
       go_simp
      simp only [Act.put, iA, iB, iC]
      refine takeN (.pointer (some ⟨lb, 0, none⟩)) (some 69) (i := 2) rfl rfl (by kernel_rfl) (by kernel_rfl) (by kernel_rfl) (fun _ _ _ h => h) (Or.inl ⟨by rfl, fun w' hw' => ?_⟩) hS ?_
      ·obtain x0 := hw'
       go_simp
      simp only [Act.put, iA, iB, iC]
      refine takeN (.pointer (some ⟨m1.nb, 0, none⟩)) (some 70) (i := 3) rfl rfl (by kernel_rfl) (by kernel_rfl) (by kernel_rfl) (fun _ _ _ h => h) (Or.inl ⟨by rfl, fun w' hw' => ?_⟩) hS ?_
      ·obtain x0 := hw'
       go_simp
      simp only [Act.put, iA, iB, iC]
      refine takeN (vo) (some 71) (i := 4) rfl rfl (by kernel_rfl) (by kernel_rfl) (by kernel_rfl) (fun _ _ _ h => h) (Or.inl ⟨by rfl, fun w' hw' => ?_⟩) hS ?_
      ·obtain x0 := hw'
       go_simp
      simp only [Act.put, iA, iB, iC]
      refine takeN (.pointer (some ⟨lb, 0, none⟩)) (some 72) (i := 5) rfl rfl (by kernel_rfl) (by kernel_rfl) (by kernel_rfl) (fun _ _ _ h => h) (Or.inl ⟨by rfl, fun w' hw' => ?_⟩) hS ?_
      ·obtain x0 := hw'
       go_simp
      simp only [Act.put, iA, iB, iC]
      refine wpAnyH_all (rs := [6]) (by kernel_rfl) (by simp) (fun i hi => ?_)
      obtain rfl : i = 6 := by simpa using hi
      refine wantN (i := 6) rfl (by rfl) (callN (f := 61) (some 73) rfl Tryz.func61 (by kernel_rfl) (by kernel_rfl) rfl rfl ?_)
      simp only [List.map_toArray, List.map_cons, List.map_nil]
      refine (disc_any hS14.log).mono ?_
      rintro e w' ⟨rfl, rfl⟩
      refine ⟨_, rfl, hS, ?_⟩
      try dsimp only
      simp only [Act.put, iA, iB, iC]
      refine wpAnyH_all (rs := [7]) (by kernel_rfl) (by simp) (fun i hi => ?_)
      obtain rfl : i = 7 := by simpa using hi
      refine wantN (i := 7) rfl (by rfl) (callN (f := 48) (some 74) rfl Tryz.func48 (by kernel_rfl) (by kernel_rfl) rfl rfl ?_)
      simp only [List.map_toArray, List.map_cons, List.map_nil]
      refine (answer_any lo vo true (dscQ q7) hS14.log.neg (hO14.prs.sub (fun k hn => LgM.H.neg k hn)) Hfit.out (by rw [Q10.out.mine]; exact HM.out) Q10.out.recd ((HE.out.later hS14.keep.off').sub (fun k h => LgM.H.neg k h)).env).mono ?_
      rintro e w15 ⟨va', eva, H', rfl, hA, hErr, hN15, hK15⟩
      have hq := HQ13.out
      obtain ⟨⟨y, n, pl'⟩, r, hr⟩ : ∃ a r, ansN q7.mine q7.recd lo true (dscQ q7) = (a, r) := ⟨_, _, rfl⟩
      have hly := fun (_ : True) => said_len2 hr
      rw [hr] at hA hErr hN15 hq
      simp only at hA hErr hN15 hq
      have hly := hly trivial
      obtain ⟨hL15, hK15'⟩ := hS14.log.nego hN15 hK15
      have hS15 := hS14.step hL15 hK15' ⟨rfl, rfl, rfl, rfl⟩
      have hV15 := hV14.later hK15'.off'
      have hA15 : PrBuf w14.heap.size (offW ((m1.setN H').H lb) w15) va' y := row_off (off_row hA).1 (fun k hk hh => by
       have h1 := hA.ge k hk
       rcases hh with rfl | rfl | hh | hh
       ·have := hS14.log.blk.lt; omega
       ·exact absurd hS14.log.who.lt (Nat.not_lt.2 h1)
       ·exact (off_row hA).2 k hk hh
       ·have := (hS14.log.ge k (LgM.H.gat k hh)).2; omega)
      have hk15 := Nat.le_trans hk14 hK15.size
      have hS' : w15.cell? ⟨lb, 0, none⟩ = some (.pointer (some ⟨m1.nb, 0, none⟩)) := (pcells hL15.blk).q0
      refine ⟨_, rfl, hS', ?_⟩
      try dsimp only
      simp only [Act.put, iA, iB, iC]
      refine takeN (.tuple #[va', eva]) (some 66) (i := 8) rfl rfl (by kernel_rfl) (by kernel_rfl) (by kernel_rfl) (fun _ _ _ h => h) (Or.inl ⟨by rfl, fun w' hw' => ?_⟩) hS' ?_
      ·obtain x0 := hw'
       go_simp
      simp only [Act.put, iA, iB, iC]
      refine takeN (va') (some 75) (i := 9) rfl rfl (by kernel_rfl) (by kernel_rfl) (by kernel_rfl) (fun _ _ _ h => h) (Or.inl ⟨by rfl, fun w' hw' => ?_⟩) hS' ?_
      ·obtain x0 := hw'
       go_simp
      simp only [Act.put, iA, iB, iC]
      refine takeN (eva) (some 76) (i := 10) rfl rfl (by kernel_rfl) (by kernel_rfl) (by kernel_rfl) (fun _ _ _ h => h) (Or.inl ⟨by rfl, fun w' hw' => ?_⟩) hS' ?_
      ·obtain x0 := hw'
       go_simp
      simp only [Act.put, iA, iB, iC]
      refine takeN (va') (some 11) (i := 11) rfl rfl (by kernel_rfl) (by kernel_rfl) (by kernel_rfl) (fun _ _ _ h => h) (Or.inl ⟨by rfl, fun w' hw' => ?_⟩) hS' ?_
      ·obtain x0 := hw'
       go_simp
      simp only [Act.put, iA, iB, iC]
      refine takeN (eva) (some 7) (i := 12) rfl rfl (by kernel_rfl) (by kernel_rfl) (by kernel_rfl) (fun _ _ _ h => h) (Or.inl ⟨by rfl, fun w' hw' => ?_⟩) hS' ?_
      ·obtain x0 := hw'
       go_simp
      simp only [Act.put, iA, iB, iC]
      refine wpAnyH_done (by kernel_rfl) ?_ _
      obtain ⟨q8, hq8⟩ : ∃ q8, ({ q7 with recd := r } : Lq) = q8 := ⟨_, rfl⟩
      have hQ8 : QOk c q8 := by
       have := ans_ok (l := lo) (dc := dscQ q7) Q10.out
       rw [hr, hq8] at this
       exact this
      rw [hq8] at hq hS15
      obtain ⟨m2, hm2⟩ : ∃ m2, m1.setN H' = m2 := ⟨_, rfl⟩
      rw [hm2] at hS15 hV15 hA15
      have hw14 := Nat.le_trans Hwz.out hk14
      have HS15 := Lib.hid hS15
      have HV15 := Lib.hid hV15
      have HA15 := Lib.hid hA15
      have HErr := Lib.hid hErr
      have Hk15 := Lib.hid hk15
      have Hw14 := Lib.hid hw14
      have Hk1415 := Lib.hid hK15.size
      have HQ14 := Lib.hid hq
      have Q11 := Lib.hid hQ8
      have Hly := Lib.hid hly
      clear hS hS' hS14 hO14 hV14 hk14 hA hErr hN15 hK15 hK15' hL15 hS15 hV15 hA15 hk15 hw14 hq hQ8 hly hm2 hq8 hr HQ13 e14 hi Q10
      by_cases hn : n = 0
      case neg =>
       have hq := HQ14.out
       rw [if_pos hn] at hq
       subst hq
       obtain ⟨ty, xv, rfl⟩ := HErr.out.iface hn
       go_wp2_with fail
       refine (needN 0 _).mono ?_
       rintro e w16 ⟨rfl, rfl⟩
       unfold thrown
       go_wp2_with fail
       refine ⟨rfl, m2, HS15.out.log, HS15.out.keep, HS15.out.same, ?_⟩
       rw [if_neg (show ¬ (0 : Int) = -1 by decide)]
       rfl
      have hq := HQ14.out
      rw [if_neg (fun h => h hn)] at hq
      subst hn
      obtain rfl := HErr.out.zero
      have HQ15 := Lib.hid hq
      clear hq HQ14 HErr
      go_wp2_with fail
      refine (Y0.out _).mono ?_
      rintro e w16 ⟨rfl, rfl⟩
      go_wp2_with fail
      refine wp_region_held (S := (fun w' => w'.cell? ⟨pb, 0, none⟩ = some (.int .i64 op) ∧ w'.cell? ⟨pb, 1, none⟩ = some (.bool now) ∧ w'.cell? ⟨pb, 2, none⟩ = some (.int .i64 fl) ∧ w'.cell? ⟨pb, 3, none⟩ = some (.slice pv vs.length cv) ∧ w'.cell? ⟨pb, 4, none⟩ = some (.slice pa al.length ca) ∧ w'.cell? ⟨pb, 5, none⟩ = some (.string (S dt)))) (by kernel_rfl) ?_
      have e16 : Below w15.heap.size w15 { w15 with drawn := w15.drawn + 1 } := (Below.refl _ _).drew
      generalize ({ w15 with drawn := w15.drawn + 1 } : World) = w16 at e16 ⊢
      have hS16 := HS15.out.later e16
      have hV16 := HV15.out.later (Keeps.of e16 (m2.H lb)).off'
      have hA16 := HA15.out.later (Keeps.of e16 (m2.H lb)).off'
      have hS := hS16.pbk.six
      obtain ⟨v17, w17, hr17, hv17, hS17, hg17⟩ := hS16.said hV16 hA16 (by have := Hly.out; have := Hl13.out; omega) Hwz.out (Nat.le_trans Hk15.out e16.size)
      have hq := HQ15.out
      generalize sax ++ y = said at hv17 hq
      obtain ⟨p17, c17, rfl⟩ := hv17.form
      have hSS := hS17.pbk.six
      refine takeN (v13) (some 80) (i := 0) rfl rfl (by kernel_rfl) (by kernel_rfl) (by kernel_rfl) (fun _ _ _ h => h) (Or.inl ⟨by rfl, fun w' hw' => ?_⟩) hS ?_
      ·obtain ⟨x0, x1, x2, x3, x4, x5⟩ := hw'
       go_simp
      simp only [Act.put, iA, iB, iC]
      refine takeN (va') (some 81) (i := 1) rfl rfl (by kernel_rfl) (by kernel_rfl) (by kernel_rfl) (fun _ _ _ h => h) (Or.inl ⟨by rfl, fun w' hw' => ?_⟩) hS ?_
      ·obtain ⟨x0, x1, x2, x3, x4, x5⟩ := hw'
       go_simp
      simp only [Act.put, iA, iB, iC]
      refine takeN (.pointer (some ⟨lb, 0, none⟩)) (some 83) (i := 3) rfl rfl (by kernel_rfl) (by kernel_rfl) (by kernel_rfl) (fun _ _ _ h => h) (Or.inl ⟨by rfl, fun w' hw' => ?_⟩) hS ?_
      ·obtain ⟨x0, x1, x2, x3, x4, x5⟩ := hw'
       go_simp
      simp only [Act.put, iA, iB, iC]
      refine takeN (.agg #[.int .i64 op, .bool now, .int .i64 fl, .slice pv vs.length cv, .slice pa al.length ca, .string (S dt)]) (some 84) (i := 4) rfl rfl (by kernel_rfl) (by kernel_rfl) (by kernel_rfl) (fun _ _ _ h => h) (Or.inl ⟨by rfl, fun w' hw' => ?_⟩) hS ?_
      ·obtain ⟨x0, x1, x2, x3, x4, x5⟩ := hw'
       go_simp
      simp only [Act.put, iA, iB, iC]
      refine wpAnyH_all (rs := [2]) (by kernel_rfl) (by simp) (fun i hi => ?_)
      obtain rfl : i = 2 := by simpa using hi
      refine wantN (i := 2) rfl (by rfl) (appR (some 82) rfl rfl rfl rfl hr17 ?_)
      refine ⟨hSS, ?_⟩
      try dsimp only
      simp only [Act.put, iA, iB, iC]
      refine wpAnyH_all (rs := [5]) (by kernel_rfl) (by simp) (fun i hi => ?_)
      obtain rfl : i = 5 := by simpa using hi
      refine wantN (i := 5) rfl (by rfl) (callN (f := 133) (some 85) rfl Tryz.func133 (by kernel_rfl) (by kernel_rfl) rfl rfl ?_)
      simp only [List.map_toArray, List.map_cons, List.map_nil]
      refine (GO.out w17 m2 q8 hS17.log).mono ?_
      rintro e w18 ⟨rfl, hL18, hK18⟩
      have hgm := go_ok (h := hd') Q11.out
      obtain ⟨fl', q9, hgo⟩ : ∃ f q9, goQ c hd' q8 = (f, q9) := ⟨_, _, rfl⟩
      rw [hgo] at hL18 hq hgm ⊢
      simp only at hL18 hq hgm ⊢
      have hS18 := hS17.step hL18 hK18 ⟨rfl, rfl, rfl, hgm.mine.trans Q11.out.mine.symm⟩
      have hv18 := hv17.later hK18.off'
      have hST := hS18.pbk.six
      refine ⟨_, rfl, hST, ?_⟩
      try dsimp only
      simp only [Act.put, iA, iB, iC]
      refine takeN (.agg #[.slice p17 said.length c17, .int .i64 fl', .int .i64 0, .int .i64 0]) (some 86) (i := 6) rfl rfl (by kernel_rfl) (by kernel_rfl) (by kernel_rfl) (fun _ _ _ h => h) (Or.inl ⟨by rfl, fun w' hw' => ?_⟩) hST ?_
      ·obtain ⟨x0, x1, x2, x3, x4, x5⟩ := hw'
       go_simp
      simp only [Act.put, iA, iB, iC]
      refine wpAnyH_all (rs := [7]) (by kernel_rfl) (by simp) (fun i hi => ?_)
      obtain rfl : i = 7 := by simpa using hi
      have hB19 := hS18.rbk.whole (D := #[.slice p17 said.length c17, .int .i64 fl', .int .i64 0, .int .i64 0]) rfl
      have hK19 := Keeps.cells w18 rb (#[.slice p17 said.length c17, .int .i64 fl', .int .i64 0, .int .i64 0] : Array Value).toList 0
      have hSR := hS18.rbk.there
      obtain ⟨w19, hw19⟩ : ∃ w19, w18.setCells rb 0 (#[.slice p17 said.length c17, .int .i64 fl', .int .i64 0, .int .i64 0] : Array Value).toList = w19 := ⟨_, rfl⟩
      rw [hw19] at hB19 hK19
      have hS19 := hS18.laid Hne.out hK19 hB19
      have hv19 : PrBuf w8.heap.size (offW (m2.H lb) w19) (.slice p17 said.length c17) said := by
       have hgr := setCells_grownB rb (#[.slice p17 said.length c17, .int .i64 fl', .int .i64 0, .int .i64 0] : Array Value).toList 0 w18
       rw [hw19] at hgr
       refine row_off (World.ownsRow.kept (row := some rb) hv18.off hgr (.inr (fun e => ?_))) (off_row hv18).2
       have h1 := hv18.ge rb e
       have h2 := Hrb.out
       omega
      have hSU := hS19.pbk.six
      refine wantN (i := 7) rfl (by rfl) (storeN none rfl _ _ _ rfl rb 0 #[.slice p17 said.length c17, .int .i64 fl', .int .i64 0, .int .i64 0] rfl rfl hSR (by kernel_rfl) (by simp [Value.oneCell']) ?_)
      rw [hw19]
      refine ⟨hSU, ?_⟩
      simp only [Act.put]
      obtain ⟨s0, s1, s2, s3⟩ := hB19.four
      refine wpAnyH_done (by kernel_rfl) ?_ _
      go_wp2_with fail
      refine bodyPost_ret (v := .agg #[.slice p17 said.length c17, .int .i64 fl', .int .i64 0, .int .i64 0]) (by simp [results, Tryz.results92, go_sem, s0, s1, s2, s3]) rfl ?_
      subst hq
      exact ⟨m2, hS19.log, hS19.keep, hS19.same, by rw [if_pos (show (-1 : Int) = -1 from rfl)]; exact ⟨_, rfl, hv19.down Hwz.out⟩⟩
end
end Go.Proofs.YtjbbbpgcegcbaaaGreatDoor
