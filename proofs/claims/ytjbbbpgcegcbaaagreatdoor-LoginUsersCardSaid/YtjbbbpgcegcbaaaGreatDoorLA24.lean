/- LA24: several texts in one. -/
import Derived.Deep.Upon
import Derived.Lib.SliceRun
import Derived.Test.YtjbbbpgcegcbaaaGreatDoorLA09
import Derived.Test.YtjbbbpgcegcbaaaGreatDoorLA15
import Derived.Test.YtjbbbpgcegcbaaaGreatDoorLA17
import Derived.Test.YtjbbbpgcegcbaaaGreatDoorLA18
import Derived.Test.YtjbbbpgcegcbaaaGreatDoorLA20
import Derived.Test.YtjbbbpgcegcbaaaGreatDoorLA21
import Derived.Test.YtjbbbpgcegcbaaaGreatDoorLA23
namespace Go.Proofs.YtjbbbpgcegcbaaaGreatDoor
open Go.RowKit Go.Maps
set_option linter.unusedVariables false
def partF (l : List Pr) (k : List UInt8) : Option (List UInt8) := prFind (toldL l) k
theorem six_ways (k : List UInt8) : (k ∉ sixK ∧ (k == kAM) = false ∧ (k == kCA) = false ∧ (k == kCI) = false ∧ (k == kCC) = false ∧ (k == kCN) = false ∧ (k == kCR) = false) ∨
  (k ∈ sixK ∧ ((k == kAM) = true ∨ ((k == kAM) = false ∧ (k == kCA) = true) ∨ ((k == kAM) = false ∧ (k == kCA) = false ∧ (k == kCI) = true) ∨ ((k == kAM) = false ∧ (k == kCA) = false ∧ (k == kCI) = false ∧ (k == kCC) = true) ∨
   ((k == kAM) = false ∧ (k == kCA) = false ∧ (k == kCI) = false ∧ (k == kCC) = false ∧ (k == kCN) = true) ∨ ((k == kAM) = false ∧ (k == kCA) = false ∧ (k == kCI) = false ∧ (k == kCC) = false ∧ (k == kCN) = false ∧ (k == kCR) = true))) := by
 have e : k ∈ sixK ↔ ((k == kAM) = true ∨ (k == kCA) = true ∨ (k == kCI) = true ∨ (k == kCC) = true ∨ (k == kCN) = true ∨ (k == kCR) = true) := by
  simp only [sixK, List.mem_cons, List.not_mem_nil, or_false, beq_iff_eq]
 rw [e]
 cases (k == kAM) <;> cases (k == kCA) <;> cases (k == kCI) <;> cases (k == kCC) <;> cases (k == kCN) <;> cases (k == kCR) <;> simp
theorem SMap.notRow {W : World} {b n : Nat} {f : List UInt8 → Option (List UInt8)} (h : SMap W b n f) {v : Value} {base : Nat} {l : List Pr} (hv : PrBuf base W v l) : v.ownBlock ≠ some b := fun e => by
 obtain ⟨D, ⟨es, clock, h1, _⟩, _⟩ := h
 rcases hv.2 with ⟨rfl, _⟩ | ⟨g, cap, cur, rfl, _, hgc, _⟩
 ·simp [Value.ownBlock] at e
 ·have : g = b := by simpa [Value.ownBlock] using e
  subst this
  rw [h1] at hgc
  cases hgc
theorem SMap.grown {W W' : World} {b n : Nat} {f : List UInt8 → Option (List UInt8)} (h : SMap W b n f) {v : Value} {base : Nat} {l : List Pr} (hv : PrBuf base W v l) (hg : W.grownBy W' v.ownBlock) : SMap W' b n f :=
 h.same (hg.block b h.lt (fun e => h.notRow hv e.symm))
def RetPart (w : World) (late : Bool) (l : List Pr) (e : Ending) (w' : World) : Prop :=
 (if secBad late [] l = true then e = thrown 0 else ∃ pb n v, e = .returned (.tuple #[.map (some pb), v]) ∧ SMap w' pb n (partF l) ∧ PrBuf w.heap.size w' v (restL l) ∧ w.heap.size ≤ pb) ∧ Below w.heap.size w w'
section
variable {w : World} {B lb : Nat} {m : LgM} {c : Cf} {d : Dw} {q : Lq}
set_option maxRecDepth 100000 in
set_option maxHeartbeats 8000000 in
theorem part_any (l : List Pr) (v : Value) (h : LogIn w B lb m c d q) (hv : PrsV w v l) (hl : l.length ≤ 60) (hx : ∀ p ∈ l, p.k.length ≤ 63 ∧ p.v.length ≤ 255) :
  Calls Tryz.prog 129 #[.pointer (some ⟨lb, 0, none⟩), v] w (RetPart w (decide (q.stg ≠ 0)) l) := by
 have HV := Lib.hid hv
 have HX := Lib.hid hx
 have HL := Lib.hid h
 obtain ⟨pv, cv, rfl⟩ := hv.form
 obtain ⟨late, hlate⟩ : ∃ b, decide (q.stg ≠ 0) = b := ⟨_, rfl⟩
 rw [hlate]
 have Hlate := Lib.hid hlate
 obtain ⟨mb, hmb⟩ : ∃ mb, w.heap.size = mb := ⟨_, rfl⟩
 have hM := SMap.made w
 have hA := (Below.refl w.heap.size w).alloc (Nat.le_refl _) (.map #[] 0)
 obtain ⟨w1, hw1⟩ : ∃ w1, w.alloc (.map #[] 0) = w1 := ⟨_, rfl⟩
 rw [hw1, hmb] at hM
 rw [hw1] at hA
 have HM := Lib.hid (hM.as (g := partF (l.take 0)) (fun k => rfl))
 have HA := Lib.hid hA
 have Hmb := Lib.hid hmb
 have hmm := @run_makeMap Tryz.prog
 have N := Lib.hid (fun W => needN 0 W)
 have Y := Lib.hid (fun W => needY 0 W)
 have hli : (l.length : Int) ≤ 60 := by omega
 clear h hv hx hM hA hlate
 go_enter Tryz.func129, Tryz.ntmps129
 go_wp2_with fail
 clear hmm
 go_loopw [5, 13] (fun v5 i wr => ∃ j : Nat, j ≤ l.length ∧ i = .int .i64 j ∧ Hid (SMap wr mb (toldL (l.take j)).length (partF (l.take j))) ∧ Hid (PrBuf w.heap.size wr v5 (restL (l.take j))) ∧ Hid (secBad late [] (l.take j) = false) ∧ Below w.heap.size w wr) (fun _ i _ => l.length - (intOf i).toNat)
 case atStart => exact ⟨0, by omega, rfl, HM, Lib.hid (PrBuf.nil _ _), Lib.hid rfl, HA.out⟩
 case round =>
  obtain ⟨j, hj, rfl, Hm, Hp, Hs, hb⟩ := hrel
  by_cases hlt : j < l.length
  ·obtain ⟨b, o, rfl, g0, g1⟩ := (HV.out.later hb).cell hlt
   have hbad := bad_snoc late (l.take j) l[j]
   have htold := told_snoc (l.take j) l[j]
   have hrest := rest_snoc (l.take j) l[j]
   have hfind := find_snoc (toldL (l.take j)) l[j]
   rw [← take_snoc hlt] at hbad htold hrest
   rw [Hs.out, Bool.false_or] at hbad
   have hxl := HX.out l[j] (List.getElem_mem hlt)
   obtain ⟨⟨k, x⟩, ha⟩ : ∃ a, l[j] = a := ⟨_, rfl⟩
   rw [ha] at g0 g1 hbad htold hrest hfind hxl
   simp only at g0 g1 hbad htold hrest hfind hxl
   obtain ⟨w4, hw4⟩ : ∃ w4, wr.alloc (.cells #[.string (S k), .string (S x)] 60) = w4 := ⟨_, rfl⟩
   have hb4 : Below wr.heap.size wr w4 := by rw [← hw4]; exact (Below.refl _ _).alloc (Nat.le_refl _) _
   have hP4 : Blk w4 wr.heap.size #[.string (S k), .string (S x)] 60 := by rw [← hw4]; exact Blk.new wr _ _
   have hjI : (j : Int) < (l.length : Int) := by omega
   have hbw4 := below_then hb hb4
   have Hb4 := Lib.hid hbw4
   have HP4 := Lib.hid hP4
   have HM4 := Lib.hid (Hm.out.later hb4)
   have HR4 := Lib.hid (Hp.out.later hb4)
   obtain ⟨y0, y1⟩ := hP4.two
   have q16 := (pcells (HL.out.later hbw4).blk).q16
   have Hbad := Lib.hid hbad
   have Htold := Lib.hid htold
   have Hrest := Lib.hid hrest
   have Hfind := Lib.hid hfind
   have Hxl := Lib.hid hxl
   have Hlt := Lib.hid hlt
   obtain ⟨pr, cr, rfl⟩ := Hp.out.form
   clear hb hb4 hP4 hbw4 Hm Hp Hs hbad htold hrest hfind hxl ha
   rcases six_ways k with ⟨hno, e1, e2, e3, e4, e5, e6⟩ | ⟨hyes, hways⟩
   ·have hA5 := (Below.refl w4.heap.size w4).alloc (Nat.le_refl _) (.cells #[.string (S k), .string (S x)] 60)
    obtain ⟨ab, hab⟩ : ∃ ab, w4.heap.size = ab := ⟨_, rfl⟩
    obtain ⟨w5, hw5⟩ : ∃ w5, w4.alloc (.cells #[.string (S k), .string (S x)] 60) = w5 := ⟨_, rfl⟩
    have hB5 := Blk.new w4 #[.string (S k), .string (S x)] 60
    rw [hw5] at hA5 hB5
    rw [hab] at hB5
    have hM5 := HM4.out.later hA5
    have hR5 : PrBuf w.heap.size w5 (.slice pr (restL (l.take j)).length cr) (restL (l.take j)) := HR4.out.later hA5
    have hrl : (restL (l.take j)).length ≤ 60 := by
     have h1 : (restL (l.take j)).length ≤ (l.take j).length := List.length_filter_le _ _
     have h2 : (l.take j).length ≤ j := List.length_take_le _ _
     omega
    obtain ⟨v6, w6, hr6, hp6, hg6⟩ := run_append_one (k := k) (d := x) (a := ⟨ab, 0, none⟩) hR5 (fun i u hu => by
     have e1 : (⟨ab, 0, none⟩ : Addr).add i = ⟨ab, i, none⟩ := by simp only [Addr.add]; split <;> simp_all
     rw [e1, hB5.cell i]
     simpa using hu) (by omega) (Nat.le_trans Hb4.out.size hA5.size)
    have hb5 := below_then Hb4.out hA5
    have HB6 := Lib.hid (hb5.grown hg6 hb5.size hR5.ge)
    have HM6 := Lib.hid (show SMap w6 mb (toldL (l.take (j + 1))).length (partF (l.take (j + 1))) from by
     unfold partF
     rw [Htold.out, if_neg hno, List.append_nil]
     exact hM5.grown hR5 hg6)
    have HR6 := Lib.hid (show PrBuf w.heap.size w6 v6 (restL (l.take (j + 1))) from by
     rw [Hrest.out, if_neg hno]
     exact hp6)
    have HS6 := Lib.hid (show secBad late [] (l.take (j + 1)) = false from by
     rw [Hbad.out]
     exact decide_eq_false (fun h => hno h.1))
    have Hr6 := Lib.hid hr6
    unfold kAM at e1
    unfold kCA at e2
    unfold kCI at e3
    unfold kCC at e4
    unfold kCN at e5
    unfold kCR at e6
    clear hA5 hB5 hM5 hR5 hrl hp6 hg6 hb5 hr6 hno q16
    go_wp2_with (at_builtin; refine Lib.wpList_append_run _ rfl _ _ _ _ rfl _ _ rfl rfl _ _ Hr6.out ?_)
    go_roundw
    case rel => exact ⟨j + 1, by have := Hlt.out; omega, by go_num, HM6, HR6, HS6, HB6.out⟩
    case measure => simp [intOf]; omega
   ·have hL := HM4.out.look Tryz.underlying93 k (by have := Hxl.out.1; omega)
    have L := hL.1
    have hsome : (partF (l.take j) k).isSome = true ↔ k ∈ keysP (toldL (l.take j)) := prFind_iff
    generalize (partF (l.take j) k).getD [] = z at L
    generalize (partF (l.take j) k).isSome = seen at L hsome
    have Hsome := Lib.hid hsome
    have es : (q.stg == 0) = !late := by rw [← Hlate.out]; by_cases h : q.stg = 0 <;> simp [h]
    unfold kAM kCA kCI kCC kCN kCR at hways
    have Hyes := Lib.hid hyes
    clear hL hsome hyes
    by_cases hgo : seen = true ∨ late = true
    ·have hB : secBad late [] l = true := bad_whole (j := j + 1) (by
      rw [Hbad.out]
      refine decide_eq_true ⟨Hyes.out, ?_⟩
      rcases hgo with h | h
      ·exact .inl (Hsome.out.1 h)
      ·exact .inr h)
     have HB := Lib.hid hB
     have hg2 : seen = true ∨ (seen = false ∧ late = true) := by cases seen <;> simp_all
     clear hB hgo
     rcases hg2 with rfl | ⟨rfl, rfl⟩
     all_goals
      rcases hways with e1 | ⟨e1, e2⟩ | ⟨e1, e2, e3⟩ | ⟨e1, e2, e3, e4⟩ | ⟨e1, e2, e3, e4, e5⟩ | ⟨e1, e2, e3, e4, e5, e6⟩
      all_goals
       go_wp2_with fail
       refine (N.out _).mono ?_
       rintro e w5 ⟨rfl, rfl⟩
       unfold thrown
       go_wp2_with fail
       exact ⟨rfl, by rw [if_pos HB.out]; rfl, Hb4.out⟩
    ·have hg2 : seen = false ∧ late = false := by cases seen <;> cases late <;> simp_all
     obtain ⟨rfl, rfl⟩ := hg2
     have hnew : k ∉ keysP (toldL (l.take j)) := fun hk => by have := Hsome.out.2 hk; cases this
     have hbad2 : secBad false [] (l.take (j + 1)) = false := by
      rw [Hbad.out]
      exact decide_eq_false (fun h => by rcases h.2 with h | h; exact hnew h; cases h)
     obtain ⟨w5, hr5, hm5, hg5⟩ := HM4.out.put Tryz.underlying93 (by
      have h1 : (toldL (l.take j)).length ≤ (l.take j).length := List.length_filter_le _ _
      have h2 : (l.take j).length ≤ j := List.length_take_le _ _
      omega) k x (by have := Hxl.out.1; omega) (by have := Hxl.out.2; omega)
     have HM5 := Lib.hid (show SMap w5 mb (toldL (l.take (j + 1))).length (partF (l.take (j + 1))) from by
      rw [Htold.out, if_pos Hyes.out, List.length_append]
      refine hm5.as fun k' => ?_
      unfold partF
      rw [Htold.out, if_pos Hyes.out]
      exact (Hfind.out hnew k').symm)
     have HR5 := Lib.hid (show PrBuf w.heap.size w5 (.slice pr (restL (l.take j)).length cr) (restL (l.take (j + 1))) from by
      rw [Hrest.out, if_pos Hyes.out, List.append_nil]
      exact World.ownsRow.kept (row := some mb) HR4.out hg5 (.inr (HM4.out.notRow HR4.out)))
     have HB5 := Lib.hid (Below.grownB Hb4.out hg5 (by have := Hmb.out; omega) Hb4.out.size)
     have HS5 := Lib.hid hbad2
     have Hr5 := Lib.hid hr5
     clear hm5 hg5 hbad2 hgo hnew
     rcases hways with e1 | ⟨e1, e2⟩ | ⟨e1, e2, e3⟩ | ⟨e1, e2, e3, e4⟩ | ⟨e1, e2, e3, e4, e5⟩ | ⟨e1, e2, e3, e4, e5, e6⟩
     all_goals
      go_wp2_with fail
      refine (Y.out _).mono ?_
      rintro e w6 ⟨rfl, rfl⟩
      go_wp2_with fail
      go_roundw
      case rel => exact ⟨j + 1, by have := Hlt.out; omega, by go_num, HM5, HR5, HS5, HB5.out⟩
      case measure => simp [intOf]; omega
  ·obtain rfl : j = l.length := by omega
   have hm := Hm.out
   have hp := Hp.out
   have hs := Hs.out
   rw [List.take_length] at hm hp hs
   obtain ⟨pr, cr, hform⟩ := hp.form
   subst hform
   have HM := Lib.hid hm
   have HP := Lib.hid hp
   have HS := Lib.hid hs
   have Hb := Lib.hid hb
   clear hm hp hs hb Hm Hp Hs
   go_wp2_with fail
   go_ret2
   refine ⟨?_, Hb.out⟩
   rw [if_neg (by rw [HS.out]; decide)]
   exact ⟨mb, _, _, rfl, HM.out, HP.out, by have := Hmb.out; omega⟩
end
end Go.Proofs.YtjbbbpgcegcbaaaGreatDoor
namespace Go.Proofs.YtjbbbpgcegcbaaaGreatDoor
open Go.RowKit
set_option linter.unusedVariables false
section
variable {w : World} {B lb : Nat} {m : LgM} {c : Cf} {d : Dw} {q : Lq}
def RetGo (w : World) (B lb : Nat) (m : LgM) (c : Cf) (d : Dw) (r : Int × Lq) (e : Ending) (w' : World) : Prop :=
 e = .returned (.int .i64 r.1) ∧ LogIn w' B lb m c d r.2 ∧ Keeps w.heap.size w w' (m.H lb) (m.H lb)
set_option maxRecDepth 100000 in
set_option maxHeartbeats 4000000 in
theorem goOn_any (p : Pd) (pv va : Value) (h : LogIn w B lb m c d q) (h0 : 0 ≤ p.h.fl ∧ p.h.fl < 256) :
  Calls Tryz.prog 133 #[.pointer (some ⟨lb, 0, none⟩), pduV p pv va] w (RetGo w B lb m c d (goQ c p.h q)) := by
 obtain ⟨w0, hw0⟩ : ∃ w0, w.alloc (.cells (cells6 p pv va) 41) = w0 := ⟨_, rfl⟩
 have hA : Below w.heap.size w w0 := by rw [← hw0]; exact (Below.refl w.heap.size w).alloc (Nat.le_refl _) _
 have hK : Blk w0 w.heap.size (cells6 p pv va) 41 := by rw [← hw0]; exact Blk.new w _ _
 obtain ⟨pb, hpb⟩ : ∃ pb, w.heap.size = pb := ⟨_, rfl⟩
 rw [hpb] at hK
 have hL0 := h.later hA
 have Hpl := Lib.hid (show pb ≠ lb from fun e => by have := h.blk.lt; omega)
 obtain ⟨fb1, fb2, fb3, fb4⟩ := fl_and h0
 have hns := nsgI_range p.h
 obtain ⟨Q, hQ⟩ : ∃ Q, goQ c p.h q = Q := ⟨_, rfl⟩
 rw [hQ]
 unfold goQ at hQ
 have KN := knw_any hL0
 have HK0 := Lib.hid (Keeps.of hA (m.H lb))
 have HL0 := Lib.hid hL0
 unfold cells6 at hw0 hK
 have HK := Lib.hid hK
 obtain ⟨k0, k1, k2, k3, k4, k5⟩ := hK.six
 unfold pduV
 obtain ⟨⟨op, now, fl, vs⟩, al, dt⟩ := p
 obtain ⟨hd, hhd⟩ : ∃ hd : Hd, (⟨op, now, fl, vs⟩ : Hd) = hd := ⟨_, rfl⟩
 simp only at fb2 fb3 hns hQ hw0 k0 k1 k2 k3 k4 k5 ⊢
 simp only [hhd] at fb2 fb3 hns hQ
 obtain ⟨T, hT⟩ : ∃ T, tB hd = T := ⟨_, rfl⟩
 rw [hT] at fb3 hQ
 generalize knwQ c q = kb at KN hQ
 have KN := Lib.hid KN
 have HQ := Lib.hid hQ
 have Hns := Lib.hid hns
 clear h hA hL0 hK hQ fb1 fb4 hT h0
 cases T with
 | false =>
  have hq := HQ.out
  rw [if_pos (.inl rfl)] at hq
  subst hq
  simp only [Bool.false_eq_true, if_false] at fb3
  go_enter Tryz.func133, Tryz.ntmps133
  go_wp2_with fail
  go_ret
  exact ⟨rfl, HL0.out, HK0.out⟩
 | true =>
  simp only [if_true] at fb3
  cases kb with
  | false =>
   have hq := HQ.out
   rw [if_pos (.inr rfl)] at hq
   subst hq
   go_enter Tryz.func133, Tryz.ntmps133
   go_wp2_with fail
   refine KN.out.mono ?_
   rintro e w' ⟨rfl, rfl⟩
   go_wp2_with fail
   go_ret
   exact ⟨rfl, HL0.out, HK0.out⟩
  | true =>
   have hq := HQ.out
   rw [if_neg (by rintro (h | h) <;> cases h)] at hq
   subst hq
   have eo := or_128 (nsgI hd) Hns.out
   have f16 := HL0.out.blk.frozen 16
   have f21 := HL0.out.blk.frozen 21
   have q16 := (pcells HL0.out.blk).q16
   have q21 := (pcells HL0.out.blk).q21
   have hb1 := (HL0.out.blk.set 16 (.int .i64 (nsgI hd))).set 21 (.bool (decide (nsgI hd = 3)))
   have ebe : (nsgI hd == 3) = decide (nsgI hd = 3) := by by_cases h : nsgI hd = 3 <;> simp [h]
   obtain ⟨hL1, hK1⟩ := HL0.out.turn (q' := { q with stg := nsgI hd, don := decide (nsgI hd = 3) }) (((Keeps.refl _ w0 (fun k => k = lb)).putC rfl 16 (.int .i64 (nsgI hd))).putC rfl 21 (.bool (decide (nsgI hd = 3)))) hb1 rfl rfl rfl ⟨rfl, rfl, rfl⟩
   obtain ⟨w2, hw2⟩ : ∃ w2, (w0.setCell ⟨lb, 16, none⟩ (.int .i64 (nsgI hd))).setCell ⟨lb, 21, none⟩ (.bool (decide (nsgI hd = 3))) = w2 := ⟨_, rfl⟩
   rw [hw2] at hL1 hK1
   have p16 := (pcells hL1.blk).q16
   have HL1 := Lib.hid hL1
   have HK1 := Lib.hid (HK0.out.then hK1)
   clear hL1 hK1 hb1
   go_enter Tryz.func133, Tryz.ntmps133
   go_wp2_with fail
   refine KN.out.mono ?_
   rintro e w' ⟨rfl, rfl⟩
   go_wp2_with fail
   go_ret
   exact ⟨rfl, HL1.out, HK1.out⟩
end
end Go.Proofs.YtjbbbpgcegcbaaaGreatDoor
namespace Go.Proofs.YtjbbbpgcegcbaaaGreatDoor
open Go Go.RowKit
set_option linter.unusedVariables false
def RetVE (w : World) (r : List UInt8 × Int) (e : Ending) (w' : World) : Prop := e = .returned (.tuple #[.string (S r.1), errV r.2]) ∧ Below w.heap.size w w'
set_option maxRecDepth 100000 in
theorem toldN_any (l : List Pr) (v : Value) (key : List UInt8) (w : World) (hv : PrsV w v l) (hl : l.length ≤ 140737488355328) :
  Calls Tryz.prog 112 #[v, .string (S key)] w (RetVE w (valN l key)) := by
 have HV := Lib.hid hv
 obtain ⟨p, c, rfl⟩ := hv.form
 clear hv
 cases hr : rowOf key with
 | none =>
  have R := Lib.hid (show valN l key = ([], 5) by unfold valN; rw [hr])
  have C := Lib.hid (of_no w hr)
  clear hr
  go_enter Tryz.func112, Tryz.ntmps112
  go_wp2_with fail
  refine C.out.mono ?_
  rintro e w1 ⟨rfl, hb1⟩
  have Hb1 := Lib.hid (hb1.alloc hb1.size (.cells #[.string (S []), .int .i64 0, .int .i64 0, .int .i64 0, .string (S []), .bool false, .bool false] 202))
  clear hb1
  go_wp2_with fail
  go_ret2
  rw [R.out]
  exact ⟨rfl, Hb1.out⟩
 | some k =>
  have hR := show valN l key = ((prFind l key).getD k.df, 0) by unfold valN; rw [hr]
  rw [hR]
  clear hR
  obtain ⟨kn, kd, lo, hi, df, no, lg⟩ := k
  have C := Lib.hid (of_row w hr)
  have FP := Lib.hid (fun W (h : PrsV W (.slice p l.length c) l) => find_prs l key (.slice p l.length c) W h hl)
  obtain ⟨r, hfr⟩ : ∃ r, prFind l key = r := ⟨_, rfl⟩
  rw [hfr] at FP ⊢
  clear hr hfr
  go_enter Tryz.func112, Tryz.ntmps112
  go_wp2_with fail
  refine C.out.mono ?_
  rintro e w1 ⟨rfl, hb1⟩
  obtain ⟨w2, hw2⟩ : ∃ w2, w1.alloc (.cells #[.string (S kn), .int .i64 (kd : Int), .int .i64 (lo : Int), .int .i64 (hi : Int), .string (S df), .bool no, .bool lg] 202) = w2 := ⟨_, rfl⟩
  have hb2 : Below w.heap.size w w2 := by rw [← hw2]; exact hb1.alloc hb1.size _
  have Hb2 := Lib.hid hb2
  have bK : Blk w2 w1.heap.size #[.string (S kn), .int .i64 (kd : Int), .int .i64 (lo : Int), .int .i64 (hi : Int), .string (S df), .bool no, .bool lg] 202 := by rw [← hw2]; exact Blk.new w1 _ _
  have HK2 := Lib.hid bK
  obtain ⟨_, _, _, _, c4, _, _⟩ := bK.seven
  have F2 := Lib.hid (FP.out w2 (HV.out.later hb2))
  clear hb1 hb2 bK C FP
  cases r with
  | none =>
   go_wp2_with fail
   refine F2.out.mono ?_
   unfold findR
   rintro e w' ⟨rfl, hb'⟩
   have Hb' := Lib.hid (below_then Hb2.out hb')
   obtain ⟨_, _, _, _, d4, _, _⟩ := (HK2.out.later hb').seven
   clear hb' c4
   go_wp2_with fail
   go_ret2
   exact ⟨rfl, Hb'.out⟩
  | some x =>
   go_wp2_with fail
   refine F2.out.mono ?_
   unfold findR
   rintro e w' ⟨rfl, hb'⟩
   have Hb' := Lib.hid (below_then Hb2.out hb')
   clear hb' c4
   go_wp2_with fail
   go_ret2
   exact ⟨rfl, Hb'.out⟩
set_option maxRecDepth 100000 in
theorem ownN_any {w : World} {B : Nat} {H : Nat → Prop} {nb : Nat} {mv : Value} {mine recd : List Pr} (key : List UInt8) (h : NegAt w B H nb mv mine recd) (hl : mine.length ≤ 140737488355328) :
  Calls Tryz.prog 117 #[.pointer (some ⟨nb, 0, none⟩), .string (S key)] w (RetVE w (valN mine key)) := by
 have O := Lib.hid (toldN_any mine mv key w h.mine.off hl)
 obtain ⟨rv, hblk, hrec, _⟩ := h.at_
 obtain ⟨q0, q1⟩ := hblk.two
 obtain ⟨p, c, rfl⟩ := h.mine.form
 obtain ⟨p', c', rfl⟩ := hrec.form
 obtain ⟨r, hr⟩ : ∃ r, valN mine key = r := ⟨_, rfl⟩
 rw [hr] at O ⊢
 obtain ⟨x, n⟩ := r
 unfold RetVE at *
 obtain ⟨ev, hev⟩ : ∃ ev, errV n = ev := ⟨_, rfl⟩
 simp only [hev] at O ⊢
 clear h hr hblk hrec hev
 go_enter Tryz.func117, Tryz.ntmps117
 go_wp2_with fail
 refine O.out.mono ?_
 rintro e w1 ⟨rfl, hb1⟩
 have Hb1 := Lib.hid hb1
 clear hb1
 go_wp2_with fail
 go_ret2
 exact ⟨rfl, Hb1.out⟩
structure RowP (W : World) (g cap : Nat) (l : List Pr) : Prop where
 at_ : ∃ C, Blk W g C 60 ∧ C.size = cap * 2 ∧ ∀ a (h : a < l.length), C[a * 2]? = some (.string (S l[a].k)) ∧ C[a * 2 + 1]? = some (.string (S l[a].v))
 len : l.length ≤ cap
 cap : cap ≤ maxLen
theorem take_prs (C : List Value) (l : List Pr) (h : ∀ a (h : a < l.length), C[a * 2]? = some (.string (S l[a].k)) ∧ C[a * 2 + 1]? = some (.string (S l[a].v))) : C.take (l.length * 2) = prsVs l := by
 apply List.ext_getElem?
 intro i
 by_cases hi : i < l.length * 2
 ·rw [List.getElem?_take, if_pos hi]
  obtain ⟨a, r, rfl, hr⟩ : ∃ a r, i = a * 2 + r ∧ r < 2 := ⟨i / 2, i % 2, by omega, by omega⟩
  have ha : a < l.length := by omega
  obtain ⟨g0, g1⟩ := prsVs_get l a ha
  obtain ⟨h0, h1⟩ := h a ha
  obtain rfl | rfl : r = 0 ∨ r = 1 := by omega
  ·rw [Nat.add_zero, g0, h0]
  ·rw [g1, h1]
 ·rw [List.getElem?_take, if_neg hi, List.getElem?_eq_none (by rw [prsVs_len]; omega)]
theorem RowP.of {base : Nat} {W : World} {g n c : Nat} {l : List Pr} (h : PrBuf base W (.slice (some ⟨g, 0, none⟩) n c) l) : RowP W g c l ∧ base ≤ g := by
 rcases h.2 with ⟨h0, _⟩ | ⟨g', cap, cur, hv, hbg, hg, hnc, hcm, hcs, htake⟩
 ·cases h0
 ·obtain ⟨rfl, rfl, rfl⟩ : g = g' ∧ n = l.length ∧ c = cap := by
   simp only [Value.slice.injEq, Option.some.injEq, Addr.mk.injEq] at hv
   exact ⟨hv.1.1, hv.2.1, hv.2.2⟩
  refine ⟨⟨⟨cur, hg, hcs, fun a ha => ?_⟩, hnc, hcm⟩, hbg⟩
  obtain ⟨g0, g1⟩ := prsVs_get l a ha
  rw [← htake, List.getElem?_take, if_pos (by omega), Array.getElem?_toList] at g0 g1
  exact ⟨g0, g1⟩
theorem RowP.buf {base : Nat} {W : World} {g c : Nat} {l m : List Pr} (h : RowP W g c l) (hm : l.take m.length = m) (hb : base ≤ g) : PrBuf base W (.slice (some ⟨g, 0, none⟩) m.length c) m := by
 obtain ⟨C, hC, hs, hc⟩ := h.at_
 have hml : m.length ≤ l.length := by
  have := congrArg List.length hm
  rw [List.length_take] at this
  omega
 refine ⟨prsVs_len m, .inr ⟨g, c, C, rfl, hb, hC, Nat.le_trans hml h.len, h.cap, hs, take_prs _ _ (fun a ha => ?_)⟩⟩
 have e : m[a] = l[a]'(by omega) := by
  have h1 : (l.take m.length)[a]? = m[a]? := by rw [hm]
  rw [List.getElem?_take, if_pos ha, List.getElem?_eq_getElem (by omega), List.getElem?_eq_getElem ha] at h1
  exact (Option.some.inj h1).symm
 rw [e, Array.getElem?_toList, Array.getElem?_toList]
 exact hc a (by omega)
theorem RowP.cell {W : World} {g c : Nat} {l : List Pr} (h : RowP W g c l) {a : Nat} (ha : a < l.length) : W.cell? ⟨g, a * 2, none⟩ = some (.string (S l[a].k)) ∧ W.cell? ⟨g, a * 2 + 1, none⟩ = some (.string (S l[a].v)) := by
 obtain ⟨C, hC, _, hc⟩ := h.at_
 rw [hC.cell, hC.cell]
 exact hc a ha
theorem RowP.frozen {W : World} {g c : Nat} {l : List Pr} (h : RowP W g c l) (i : Nat) : W.frozen? ⟨g, i, none⟩ = false := by
 obtain ⟨C, hC, _⟩ := h.at_
 exact hC.frozen i
theorem RowP.lt {W : World} {g c : Nat} {l : List Pr} (h : RowP W g c l) : g < W.heap.size := by
 obtain ⟨C, hC, _⟩ := h.at_
 exact hC.lt
theorem RowP.kept {W W' : World} {g c : Nat} {l : List Pr} (h : RowP W g c l) (e : W'.heap[g]? = W.heap[g]?) : RowP W' g c l := by
 obtain ⟨C, hC, r⟩ := h.at_
 exact ⟨⟨C, e.trans hC, r⟩, h.len, h.cap⟩
theorem RowP.later {W W' : World} {g c : Nat} {l : List Pr} (h : RowP W g c l) (hb : Below W.heap.size W W') : RowP W' g c l := h.kept (hb.block g h.lt)
theorem RowP.set {W : World} {g c : Nat} {l : List Pr} (h : RowP W g c l) (i : Nat) (x : Pr) : RowP ((W.setCell ⟨g, i * 2, none⟩ (.string (S x.k))).setCell ⟨g, i * 2 + 1, none⟩ (.string (S x.v))) g c (l.set i x) := by
 obtain ⟨C, hC, hs, hc⟩ := h.at_
 refine ⟨⟨_, (hC.set (i * 2) _).set (i * 2 + 1) _, by simp [hs], fun a ha => ?_⟩, by simpa using h.len, h.cap⟩
 rw [List.length_set] at ha
 obtain ⟨h0, h1⟩ := hc a ha
 have hsz : a * 2 + 1 < C.size := by rw [hs]; have := h.len; omega
 by_cases e : i = a
 ·subst e
  rw [List.getElem_set_self]
  constructor
  ·rw [Array.getElem?_setIfInBounds_ne (by omega), Array.getElem?_setIfInBounds_self_of_lt (by omega)]
  ·rw [Array.getElem?_setIfInBounds_self_of_lt (by simp; omega)]
 ·rw [List.getElem_set_ne e]
  constructor
  ·rw [Array.getElem?_setIfInBounds_ne (by omega), Array.getElem?_setIfInBounds_ne (by omega)]
   exact h0
  ·rw [Array.getElem?_setIfInBounds_ne (by omega), Array.getElem?_setIfInBounds_ne (by omega)]
   exact h1
theorem setCells_blk {b : Nat} {t : TypeId} : ∀ (vs : List Value) (o : Nat) (W : World) (C : Array Value), Blk W b C t → ∃ C', Blk (W.setCells b o vs) b C' t ∧ C'.size = C.size ∧ ∀ j, j < o → C'[j]? = C[j]?
 | [], _, W, C, h => ⟨C, h, rfl, fun _ _ => rfl⟩
 | v :: vs, o, W, C, h => by
  obtain ⟨C', h1, h2, h3⟩ := setCells_blk vs (o + 1) _ _ (h.set o v)
  exact ⟨C', h1, by rw [h2]; simp, fun j hj => by rw [h3 j (by omega), Array.getElem?_setIfInBounds_ne (by omega)]⟩
theorem setCells_grown (b : Nat) : ∀ (vs : List Value) (o : Nat) (W : World), W.grownBy (W.setCells b o vs) (some b)
 | [], _, W => ⟨rfl, rfl, rfl, Nat.le_refl _, fun _ _ _ => rfl⟩
 | v :: vs, o, W => by
  have h := setCells_grown b vs (o + 1) (W.setCell ⟨b, o, none⟩ v)
  have h0 := grownBy_cell W b o v
  exact ⟨h.os.trans h0.os, h.tape.trans h0.tape, h.output.trans h0.output, Nat.le_trans h0.size h.size, fun k hk hne => (h.block k (Nat.lt_of_lt_of_le hk h0.size) hne).trans (h0.block k hk hne)⟩
theorem RowP.cut {W : World} {g c : Nat} {l : List Pr} (h : RowP W g c l) (i : Nat) (hi : i ≤ l.length) (vs : List Value) : RowP (W.setCells g (i * 2) vs) g c (l.take i) := by
 obtain ⟨C, hC, hs, hc⟩ := h.at_
 obtain ⟨C', h1, h2, h3⟩ := setCells_blk vs (i * 2) W C hC
 refine ⟨⟨C', h1, h2.trans hs, fun a ha => ?_⟩, by rw [List.length_take]; have := h.len; omega, h.cap⟩
 rw [List.length_take] at ha
 rw [h3 _ (by omega), h3 _ (by omega), List.getElem_take]
 exact hc a (by omega)
theorem run_clear_pr (W : World) (g o n c : Nat) (hn : 0 < n) (hc : ∀ j, j < n * 2 → (W.cell? ⟨g, o + j, none⟩).isSome = true) (hf : ∀ j, j < n * 2 → W.frozen? ⟨g, o + j, none⟩ = false) :
  ∃ vs : List Value, (∀ ty, (Builtin.clear_ #[27] ty #[.slice (some ⟨g, o, none⟩) n c]).run Tryz.prog W = .ok (.tuple #[]) (W.setCells g o vs)) ∧ vs.length = n * 2 ∧ ∀ v ∈ vs, v = .string (S []) := by
 obtain ⟨i0, hi, hz0, hz1, hz2⟩ := infoPr
 have hv : ∀ w, (zeroValue 60).run Tryz.prog w = .ok (.agg #[.string (S []), .string (S [])]) w := fun w => by
  simp [zeroValue, typeInfo, hi, hz0]
 have hcl : (Value.agg #[.string (S []), .string (S [])]).cells = #[.string (S []), .string (S [])] := by simp [Value.cells]
 obtain ⟨m, rfl⟩ : ∃ m, n = m + 1 := ⟨n - 1, by omega⟩
 obtain ⟨vs, hvs⟩ : ∃ vs, (Builtin.zeroCells #[.string (S []), .string (S [])] (m + 1)).toList = vs := ⟨_, rfl⟩
 have hlen : vs.length = (m + 1) * 2 := by rw [← hvs]; simp [Builtin.zeroCells]
 have hall : ∀ v ∈ vs, v = .string (S []) := by
  intro v hm
  rw [← hvs] at hm
  simp only [Builtin.zeroCells] at hm
  rw [Array.mem_toList_iff] at hm
  obtain ⟨j, hj, e⟩ := Array.mem_iff_getElem.1 hm
  rw [← e]
  have : j % 2 = 0 ∨ j % 2 = 1 := by omega
  rcases this with h | h <;> simp [h]
 refine ⟨vs, fun ty => ?_, hlen, hall⟩
 have hst := run_storeCells_cells (P := Tryz.prog) g o vs 0 W (by rw [hlen]; simpa using hc) (by rw [hlen]; simpa using hf) (by intro v hm; rw [hall v hm]; rfl)
 simp only [Nat.add_zero] at hst
 simp [Builtin.clear_, run_underlying Tryz.underlying27, hv, hcl, hvs, hst]
theorem filter_upto {l : List Pr} {j : Nat} (hj : j < l.length) (f : Pr → Bool) : (l.take (j + 1)).filter f = (l.take j).filter f ++ (if f l[j] = true then [l[j]] else []) := by
 rw [← List.take_append_getElem hj, List.filter_append]
 congr 1
 by_cases h : f l[j] = true <;> simp [h]
structure DelAt (q : Pr → Bool) (l cur : List Pr) (i j : Nat) : Prop where
 len : cur.length = l.length
 lt : i < j
 le : j ≤ l.length
 acc : cur.take i = (l.take j).filter (fun x => !q x)
 rest : cur.drop j = l.drop j
theorem DelAt.start {q : Pr → Bool} {l : List Pr} {k : Nat} (hk : k < l.length) (hn : ∀ a (h : a < l.length), a < k → q l[a] = false) (hq : q l[k] = true) : DelAt q l l k (k + 1) := by
 refine ⟨rfl, by omega, by omega, ?_, rfl⟩
 rw [filter_upto hk, if_neg (by simp [hq]), List.append_nil]
 refine (List.filter_eq_self.2 (fun x hx => ?_)).symm
 obtain ⟨a, ha, rfl⟩ := List.getElem_of_mem hx
 rw [List.length_take] at ha
 rw [List.getElem_take, hn a (by omega) (by omega)]
 rfl
theorem DelAt.get {q : Pr → Bool} {l cur : List Pr} {i j : Nat} (h : DelAt q l cur i j) (hj : j < l.length) : cur[j]'(by rw [h.len]; exact hj) = l[j] := by
 have h1 : (cur.drop j)[0]? = (l.drop j)[0]? := by rw [h.rest]
 rw [List.getElem?_drop, List.getElem?_drop, Nat.add_zero, List.getElem?_eq_getElem (by rw [h.len]; exact hj), List.getElem?_eq_getElem hj] at h1
 exact Option.some.inj h1
theorem DelAt.next {q : Pr → Bool} {l cur : List Pr} {i j : Nat} (h : DelAt q l cur i j) : cur.drop (j + 1) = l.drop (j + 1) := by
 have h1 : (cur.drop j).drop 1 = (l.drop j).drop 1 := by rw [h.rest]
 rwa [List.drop_drop, List.drop_drop] at h1
theorem DelAt.keep {q : Pr → Bool} {l cur : List Pr} {i j : Nat} (h : DelAt q l cur i j) (hj : j < l.length) (hq : q l[j] = false) : DelAt q l (cur.set i l[j]) (i + 1) (j + 1) := by
 have hlt := h.lt
 have hlen := h.len
 refine ⟨by rw [List.length_set]; exact h.len, by omega, by omega, ?_, ?_⟩
 ·rw [filter_upto hj, if_pos (by simp [hq]), ← h.acc, ← List.take_append_getElem (by rw [List.length_set]; omega), List.getElem_set_self, List.take_set_of_le (Nat.le_refl _)]
 ·rw [List.drop_set_of_lt (by omega)]
  exact h.next
theorem DelAt.skip {q : Pr → Bool} {l cur : List Pr} {i j : Nat} (h : DelAt q l cur i j) (hj : j < l.length) (hq : q l[j] = true) : DelAt q l cur i (j + 1) := by
 have hlt := h.lt
 refine ⟨h.len, by omega, by omega, ?_, h.next⟩
 rw [filter_upto hj, if_neg (by simp [hq]), List.append_nil]
 exact h.acc
theorem DelAt.done {q : Pr → Bool} {l cur : List Pr} {i : Nat} (h : DelAt q l cur i l.length) : cur.take i = l.filter (fun x => !q x) ∧ (l.filter (fun x => !q x)).length = i := by
 have h1 := h.acc
 rw [List.take_length] at h1
 refine ⟨h1, ?_⟩
 rw [← h1, List.length_take]
 have := h.len
 have := h.lt
 omega
end Go.Proofs.YtjbbbpgcegcbaaaGreatDoor
