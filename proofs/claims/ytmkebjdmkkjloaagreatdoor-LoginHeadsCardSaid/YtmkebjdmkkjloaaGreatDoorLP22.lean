/- LP22: several texts in one. -/
import Derived.BigQuiet
import Derived.BigRegion
import Derived.Deep.QuietTactic
import Derived.Deep.Upon
import Derived.Lib.SliceRun
import Derived.Shelf.Abstract
import Derived.Test.YtmkebjdmkkjloaaGreatDoorLP07
import Derived.Test.YtmkebjdmkkjloaaGreatDoorLP08
import Derived.Test.YtmkebjdmkkjloaaGreatDoorLP13
import Derived.Test.YtmkebjdmkkjloaaGreatDoorLP15
import Derived.Test.YtmkebjdmkkjloaaGreatDoorLP16
import Derived.Test.YtmkebjdmkkjloaaGreatDoorLP18
import Derived.Test.YtmkebjdmkkjloaaGreatDoorLP19
namespace Go.Proofs.YtmkebjdmkkjloaaGreatDoor
open Go.RowKit
set_option linter.unusedVariables false
section
variable {w : World} {B lb : Nat} {m : LgM} {c : Cf} {d : Dw} {q : Lq}
def RetGo (w : World) (B lb : Nat) (m : LgM) (c : Cf) (d : Dw) (r : Int × Lq) (e : Ending) (w' : World) : Prop :=
  e = .returned (.int .i64 r.1) ∧ LogIn w' B lb m c d r.2 ∧ Keeps w.heap.size w w' (m.H lb) (m.H lb)
set_option maxRecDepth 100000 in
set_option maxHeartbeats 4000000 in
theorem goOn_any (p : Pd) (pv va : Value) (h : LogIn w B lb m c d q) (h0 : 0 ≤ p.h.fl ∧ p.h.fl < 256) :
    Calls Tryz.prog 106 #[.pointer (some ⟨lb, 0, none⟩), pduV p pv va] w (RetGo w B lb m c d (goQ c p.h q)) := by
  obtain ⟨w0, hw0⟩ : ∃ w0, w.alloc (.cells (cells6 p pv va) 41) = w0 := ⟨_, rfl⟩
  have hA : Below w.heap.size w w0 := by rw [← hw0]; exact (Below.refl w.heap.size w).alloc (Nat.le_refl _) _
  have hK : Blk w0 w.heap.size (cells6 p pv va) 41 := by rw [← hw0]; exact Blk.new w _ _
  obtain ⟨pb, hpb⟩ : ∃ pb, w.heap.size = pb := ⟨_, rfl⟩
  rw [hpb] at hK
  have hL0 := h.later hA
  have Hpl := Lib.hid (show pb ≠ lb from fun e => by have := h.blk.lt; omega)
  obtain ⟨fb1, fb2, fb3, fb4⟩ := fl_and h0
  have hns := nsgI_range p.h
  obtain ⟨Q, hQ⟩ : ∃ Q, goQ c p.h q = Q := ⟨_, rfl⟩
  rw [hQ]
  unfold goQ at hQ
  have KN := knw_any hL0
  have HK0 := Lib.hid (Keeps.of hA (m.H lb))
  have HL0 := Lib.hid hL0
  unfold cells6 at hw0 hK
  have HK := Lib.hid hK
  obtain ⟨k0, k1, k2, k3, k4, k5⟩ := hK.six
  unfold pduV
  obtain ⟨⟨op, now, fl, vs⟩, al, dt⟩ := p
  obtain ⟨hd, hhd⟩ : ∃ hd : Hd, (⟨op, now, fl, vs⟩ : Hd) = hd := ⟨_, rfl⟩
  simp only at fb2 fb3 hns hQ hw0 k0 k1 k2 k3 k4 k5 ⊢
  simp only [hhd] at fb2 fb3 hns hQ
  obtain ⟨T, hT⟩ : ∃ T, tB hd = T := ⟨_, rfl⟩
  rw [hT] at fb3 hQ
  generalize knwQ c q = kb at KN hQ
  have KN := Lib.hid KN
  have HQ := Lib.hid hQ
  have Hns := Lib.hid hns
  clear h hA hL0 hK hQ fb1 fb4 hT h0
  cases T with
  | false =>
    have hq := HQ.out
    rw [if_pos (.inl rfl)] at hq
    subst hq
    simp only [Bool.false_eq_true, if_false] at fb3
    go_enter Tryz.func106, Tryz.ntmps106
    go_wp2_with fail
    go_ret
    exact ⟨rfl, HL0.out, HK0.out⟩
  | true =>
    simp only [if_true] at fb3
    cases kb with
    | false =>
      have hq := HQ.out
      rw [if_pos (.inr rfl)] at hq
      subst hq
      go_enter Tryz.func106, Tryz.ntmps106
      go_wp2_with fail
      refine KN.out.mono ?_
      rintro e w' ⟨rfl, rfl⟩
      go_wp2_with fail
      go_ret
      exact ⟨rfl, HL0.out, HK0.out⟩
    | true =>
      have hq := HQ.out
      rw [if_neg (by rintro (h | h) <;> cases h)] at hq
      subst hq
      have eo := or_128 (nsgI hd) Hns.out
      have f16 := HL0.out.blk.frozen 16
      have f21 := HL0.out.blk.frozen 21
      have q16 := (pcells HL0.out.blk).q16
      have q21 := (pcells HL0.out.blk).q21
      have hb1 := (HL0.out.blk.set 16 (.int .i64 (nsgI hd))).set 21 (.bool (decide (nsgI hd = 3)))
      have ebe : (nsgI hd == 3) = decide (nsgI hd = 3) := by by_cases h : nsgI hd = 3 <;> simp [h]
      obtain ⟨hL1, hK1⟩ := HL0.out.turn (q' := { q with stg := nsgI hd, don := decide (nsgI hd = 3) }) (((Keeps.refl _ w0 (fun k => k = lb)).putC rfl 16 (.int .i64 (nsgI hd))).putC rfl 21 (.bool (decide (nsgI hd = 3)))) hb1 rfl rfl rfl ⟨rfl, rfl, rfl⟩
      obtain ⟨w2, hw2⟩ : ∃ w2, (w0.setCell ⟨lb, 16, none⟩ (.int .i64 (nsgI hd))).setCell ⟨lb, 21, none⟩ (.bool (decide (nsgI hd = 3))) = w2 := ⟨_, rfl⟩
      rw [hw2] at hL1 hK1
      have p16 := (pcells hL1.blk).q16
      have HL1 := Lib.hid hL1
      have HK1 := Lib.hid (HK0.out.then hK1)
      clear hL1 hK1 hb1
      go_enter Tryz.func106, Tryz.ntmps106
      go_wp2_with fail
      refine KN.out.mono ?_
      rintro e w' ⟨rfl, rfl⟩
      go_wp2_with fail
      go_ret
      exact ⟨rfl, HL1.out, HK1.out⟩
end
end Go.Proofs.YtmkebjdmkkjloaaGreatDoor
namespace Go.Proofs.YtmkebjdmkkjloaaGreatDoor
open Go Go.RowKit
set_option linter.unusedVariables false
def RetVE (w : World) (r : List UInt8 × Int) (e : Ending) (w' : World) : Prop := e = .returned (.tuple #[.string (S r.1), errV r.2]) ∧ Below w.heap.size w w'
set_option maxRecDepth 100000 in
theorem toldN_any (l : List Pr) (v : Value) (key : List UInt8) (w : World) (hv : PrsV w v l) (hl : l.length ≤ 140737488355328) :
    Calls Tryz.prog 178 #[v, .string (S key)] w (RetVE w (valN l key)) := by
  have HV := Lib.hid hv
  obtain ⟨p, c, rfl⟩ := hv.form
  clear hv
  cases hr : rowOf key with
  | none =>
    have R := Lib.hid (show valN l key = ([], 5) by unfold valN; rw [hr])
    have C := Lib.hid (of_no w hr)
    clear hr
    go_enter Tryz.func178, Tryz.ntmps178
    go_wp2_with fail
    refine C.out.mono ?_
    rintro e w1 ⟨rfl, hb1⟩
    have Hb1 := Lib.hid (hb1.alloc hb1.size (.cells #[.string (S []), .int .i64 0, .int .i64 0, .int .i64 0, .string (S []), .bool false, .bool false] 187))
    clear hb1
    go_wp2_with fail
    go_ret2
    rw [R.out]
    exact ⟨rfl, Hb1.out⟩
  | some k =>
    have hR := show valN l key = ((prFind l key).getD k.df, 0) by unfold valN; rw [hr]
    rw [hR]
    clear hR
    obtain ⟨kn, kd, lo, hi, df, no, lg⟩ := k
    have C := Lib.hid (of_row w hr)
    have FP := Lib.hid (fun W (h : PrsV W (.slice p l.length c) l) => find_prs l key (.slice p l.length c) W h hl)
    obtain ⟨r, hfr⟩ : ∃ r, prFind l key = r := ⟨_, rfl⟩
    rw [hfr] at FP ⊢
    clear hr hfr
    go_enter Tryz.func178, Tryz.ntmps178
    go_wp2_with fail
    refine C.out.mono ?_
    rintro e w1 ⟨rfl, hb1⟩
    obtain ⟨w2, hw2⟩ : ∃ w2, w1.alloc (.cells #[.string (S kn), .int .i64 (kd : Int), .int .i64 (lo : Int), .int .i64 (hi : Int), .string (S df), .bool no, .bool lg] 187) = w2 := ⟨_, rfl⟩
    have hb2 : Below w.heap.size w w2 := by rw [← hw2]; exact hb1.alloc hb1.size _
    have Hb2 := Lib.hid hb2
    have bK : Blk w2 w1.heap.size #[.string (S kn), .int .i64 (kd : Int), .int .i64 (lo : Int), .int .i64 (hi : Int), .string (S df), .bool no, .bool lg] 187 := by rw [← hw2]; exact Blk.new w1 _ _
    have HK2 := Lib.hid bK
    obtain ⟨_, _, _, _, c4, _, _⟩ := bK.seven
    have F2 := Lib.hid (FP.out w2 (HV.out.later hb2))
    clear hb1 hb2 bK C FP
    cases r with
    | none =>
      go_wp2_with fail
      refine F2.out.mono ?_
      unfold findR
      rintro e w' ⟨rfl, hb'⟩
      have Hb' := Lib.hid (below_then Hb2.out hb')
      obtain ⟨_, _, _, _, d4, _, _⟩ := (HK2.out.later hb').seven
      clear hb' c4
      go_wp2_with fail
      go_ret2
      exact ⟨rfl, Hb'.out⟩
    | some x =>
      go_wp2_with fail
      refine F2.out.mono ?_
      unfold findR
      rintro e w' ⟨rfl, hb'⟩
      have Hb' := Lib.hid (below_then Hb2.out hb')
      clear hb' c4
      go_wp2_with fail
      go_ret2
      exact ⟨rfl, Hb'.out⟩
set_option maxRecDepth 100000 in
theorem ownN_any {w : World} {B : Nat} {H : Nat → Prop} {nb : Nat} {mv : Value} {mine recd : List Pr} (key : List UInt8) (h : NegAt w B H nb mv mine recd) (hl : mine.length ≤ 140737488355328) :
    Calls Tryz.prog 152 #[.pointer (some ⟨nb, 0, none⟩), .string (S key)] w (RetVE w (valN mine key)) := by
  have O := Lib.hid (toldN_any mine mv key w h.mine.off hl)
  obtain ⟨rv, hblk, hrec, _⟩ := h.at_
  obtain ⟨q0, q1⟩ := hblk.two
  obtain ⟨p, c, rfl⟩ := h.mine.form
  obtain ⟨p', c', rfl⟩ := hrec.form
  obtain ⟨r, hr⟩ : ∃ r, valN mine key = r := ⟨_, rfl⟩
  rw [hr] at O ⊢
  obtain ⟨x, n⟩ := r
  unfold RetVE at *
  obtain ⟨ev, hev⟩ : ∃ ev, errV n = ev := ⟨_, rfl⟩
  simp only [hev] at O ⊢
  clear h hr hblk hrec hev
  go_enter Tryz.func152, Tryz.ntmps152
  go_wp2_with fail
  refine O.out.mono ?_
  rintro e w1 ⟨rfl, hb1⟩
  have Hb1 := Lib.hid hb1
  clear hb1
  go_wp2_with fail
  go_ret2
  exact ⟨rfl, Hb1.out⟩
end Go.Proofs.YtmkebjdmkkjloaaGreatDoor
namespace Go.Proofs.YtmkebjdmkkjloaaGreatDoor
open Go Go.RowKit
set_option linter.unusedVariables false
structure RowP (W : World) (g cap : Nat) (l : List Pr) : Prop where
  at_ : ∃ C, Blk W g C 61 ∧ C.size = cap * 2 ∧ ∀ a (h : a < l.length), C[a * 2]? = some (.string (S l[a].k)) ∧ C[a * 2 + 1]? = some (.string (S l[a].v))
  len : l.length ≤ cap
  cap : cap ≤ maxLen
theorem take_prs (C : List Value) (l : List Pr) (h : ∀ a (h : a < l.length), C[a * 2]? = some (.string (S l[a].k)) ∧ C[a * 2 + 1]? = some (.string (S l[a].v))) : C.take (l.length * 2) = prsVs l := by
  apply List.ext_getElem?
  intro i
  by_cases hi : i < l.length * 2
  · rw [List.getElem?_take, if_pos hi]
    obtain ⟨a, r, rfl, hr⟩ : ∃ a r, i = a * 2 + r ∧ r < 2 := ⟨i / 2, i % 2, by omega, by omega⟩
    have ha : a < l.length := by omega
    obtain ⟨g0, g1⟩ := prsVs_get l a ha
    obtain ⟨h0, h1⟩ := h a ha
    obtain rfl | rfl : r = 0 ∨ r = 1 := by omega
    · rw [Nat.add_zero, g0, h0]
    · rw [g1, h1]
  · rw [List.getElem?_take, if_neg hi, List.getElem?_eq_none (by rw [prsVs_len]; omega)]
theorem RowP.of {base : Nat} {W : World} {g n c : Nat} {l : List Pr} (h : PrBuf base W (.slice (some ⟨g, 0, none⟩) n c) l) : RowP W g c l ∧ base ≤ g := by
  rcases h.2 with ⟨h0, _⟩ | ⟨g', cap, cur, hv, hbg, hg, hnc, hcm, hcs, htake⟩
  · cases h0
  · obtain ⟨rfl, rfl, rfl⟩ : g = g' ∧ n = l.length ∧ c = cap := by
      simp only [Value.slice.injEq, Option.some.injEq, Addr.mk.injEq] at hv
      exact ⟨hv.1.1, hv.2.1, hv.2.2⟩
    refine ⟨⟨⟨cur, hg, hcs, fun a ha => ?_⟩, hnc, hcm⟩, hbg⟩
    obtain ⟨g0, g1⟩ := prsVs_get l a ha
    rw [← htake, List.getElem?_take, if_pos (by omega), Array.getElem?_toList] at g0 g1
    exact ⟨g0, g1⟩
theorem RowP.buf {base : Nat} {W : World} {g c : Nat} {l m : List Pr} (h : RowP W g c l) (hm : l.take m.length = m) (hb : base ≤ g) : PrBuf base W (.slice (some ⟨g, 0, none⟩) m.length c) m := by
  obtain ⟨C, hC, hs, hc⟩ := h.at_
  have hml : m.length ≤ l.length := by
    have := congrArg List.length hm
    rw [List.length_take] at this
    omega
  refine ⟨prsVs_len m, .inr ⟨g, c, C, rfl, hb, hC, Nat.le_trans hml h.len, h.cap, hs, take_prs _ _ (fun a ha => ?_)⟩⟩
  have e : m[a] = l[a]'(by omega) := by
    have h1 : (l.take m.length)[a]? = m[a]? := by rw [hm]
    rw [List.getElem?_take, if_pos ha, List.getElem?_eq_getElem (by omega), List.getElem?_eq_getElem ha] at h1
    exact (Option.some.inj h1).symm
  rw [e, Array.getElem?_toList, Array.getElem?_toList]
  exact hc a (by omega)
theorem RowP.cell {W : World} {g c : Nat} {l : List Pr} (h : RowP W g c l) {a : Nat} (ha : a < l.length) : W.cell? ⟨g, a * 2, none⟩ = some (.string (S l[a].k)) ∧ W.cell? ⟨g, a * 2 + 1, none⟩ = some (.string (S l[a].v)) := by
  obtain ⟨C, hC, _, hc⟩ := h.at_
  rw [hC.cell, hC.cell]
  exact hc a ha
theorem RowP.frozen {W : World} {g c : Nat} {l : List Pr} (h : RowP W g c l) (i : Nat) : W.frozen? ⟨g, i, none⟩ = false := by
  obtain ⟨C, hC, _⟩ := h.at_
  exact hC.frozen i
theorem RowP.lt {W : World} {g c : Nat} {l : List Pr} (h : RowP W g c l) : g < W.heap.size := by
  obtain ⟨C, hC, _⟩ := h.at_
  exact hC.lt
theorem RowP.kept {W W' : World} {g c : Nat} {l : List Pr} (h : RowP W g c l) (e : W'.heap[g]? = W.heap[g]?) : RowP W' g c l := by
  obtain ⟨C, hC, r⟩ := h.at_
  exact ⟨⟨C, e.trans hC, r⟩, h.len, h.cap⟩
theorem RowP.later {W W' : World} {g c : Nat} {l : List Pr} (h : RowP W g c l) (hb : Below W.heap.size W W') : RowP W' g c l := h.kept (hb.block g h.lt)
theorem RowP.set {W : World} {g c : Nat} {l : List Pr} (h : RowP W g c l) (i : Nat) (x : Pr) : RowP ((W.setCell ⟨g, i * 2, none⟩ (.string (S x.k))).setCell ⟨g, i * 2 + 1, none⟩ (.string (S x.v))) g c (l.set i x) := by
  obtain ⟨C, hC, hs, hc⟩ := h.at_
  refine ⟨⟨_, (hC.set (i * 2) _).set (i * 2 + 1) _, by simp [hs], fun a ha => ?_⟩, by simpa using h.len, h.cap⟩
  rw [List.length_set] at ha
  obtain ⟨h0, h1⟩ := hc a ha
  have hsz : a * 2 + 1 < C.size := by rw [hs]; have := h.len; omega
  by_cases e : i = a
  · subst e
    rw [List.getElem_set_self]
    constructor
    · rw [Array.getElem?_setIfInBounds_ne (by omega), Array.getElem?_setIfInBounds_self_of_lt (by omega)]
    · rw [Array.getElem?_setIfInBounds_self_of_lt (by simp; omega)]
  · rw [List.getElem_set_ne e]
    constructor
    · rw [Array.getElem?_setIfInBounds_ne (by omega), Array.getElem?_setIfInBounds_ne (by omega)]
      exact h0
    · rw [Array.getElem?_setIfInBounds_ne (by omega), Array.getElem?_setIfInBounds_ne (by omega)]
      exact h1
theorem setCells_blk {b : Nat} {t : TypeId} : ∀ (vs : List Value) (o : Nat) (W : World) (C : Array Value), Blk W b C t → ∃ C', Blk (W.setCells b o vs) b C' t ∧ C'.size = C.size ∧ ∀ j, j < o → C'[j]? = C[j]?
  | [], _, W, C, h => ⟨C, h, rfl, fun _ _ => rfl⟩
  | v :: vs, o, W, C, h => by
    obtain ⟨C', h1, h2, h3⟩ := setCells_blk vs (o + 1) _ _ (h.set o v)
    exact ⟨C', h1, by rw [h2]; simp, fun j hj => by rw [h3 j (by omega), Array.getElem?_setIfInBounds_ne (by omega)]⟩
theorem setCells_grown (b : Nat) : ∀ (vs : List Value) (o : Nat) (W : World), W.grownBy (W.setCells b o vs) (some b)
  | [], _, W => ⟨rfl, rfl, rfl, Nat.le_refl _, fun _ _ _ => rfl⟩
  | v :: vs, o, W => by
    have h := setCells_grown b vs (o + 1) (W.setCell ⟨b, o, none⟩ v)
    have h0 := grownBy_cell W b o v
    exact ⟨h.os.trans h0.os, h.tape.trans h0.tape, h.output.trans h0.output, Nat.le_trans h0.size h.size, fun k hk hne => (h.block k (Nat.lt_of_lt_of_le hk h0.size) hne).trans (h0.block k hk hne)⟩
theorem RowP.cut {W : World} {g c : Nat} {l : List Pr} (h : RowP W g c l) (i : Nat) (hi : i ≤ l.length) (vs : List Value) : RowP (W.setCells g (i * 2) vs) g c (l.take i) := by
  obtain ⟨C, hC, hs, hc⟩ := h.at_
  obtain ⟨C', h1, h2, h3⟩ := setCells_blk vs (i * 2) W C hC
  refine ⟨⟨C', h1, h2.trans hs, fun a ha => ?_⟩, by rw [List.length_take]; have := h.len; omega, h.cap⟩
  rw [List.length_take] at ha
  rw [h3 _ (by omega), h3 _ (by omega), List.getElem_take]
  exact hc a (by omega)
theorem run_clear_pr (W : World) (g o n c : Nat) (hn : 0 < n) (hc : ∀ j, j < n * 2 → (W.cell? ⟨g, o + j, none⟩).isSome = true) (hf : ∀ j, j < n * 2 → W.frozen? ⟨g, o + j, none⟩ = false) :
    ∃ vs : List Value, (∀ ty, (Builtin.clear_ #[27] ty #[.slice (some ⟨g, o, none⟩) n c]).run Tryz.prog W = .ok (.tuple #[]) (W.setCells g o vs)) ∧ vs.length = n * 2 ∧ ∀ v ∈ vs, v = .string (S []) := by
  obtain ⟨i0, hi, hz0, hz1, hz2⟩ := infoPr
  have hv : ∀ w, (zeroValue 61).run Tryz.prog w = .ok (.agg #[.string (S []), .string (S [])]) w := fun w => by
    simp [zeroValue, typeInfo, hi, hz0]
  have hcl : (Value.agg #[.string (S []), .string (S [])]).cells = #[.string (S []), .string (S [])] := by simp [Value.cells]
  obtain ⟨m, rfl⟩ : ∃ m, n = m + 1 := ⟨n - 1, by omega⟩
  obtain ⟨vs, hvs⟩ : ∃ vs, (Builtin.zeroCells #[.string (S []), .string (S [])] (m + 1)).toList = vs := ⟨_, rfl⟩
  have hlen : vs.length = (m + 1) * 2 := by rw [← hvs]; simp [Builtin.zeroCells]
  have hall : ∀ v ∈ vs, v = .string (S []) := by
    intro v hm
    rw [← hvs] at hm
    simp only [Builtin.zeroCells] at hm
    rw [Array.mem_toList_iff] at hm
    obtain ⟨j, hj, e⟩ := Array.mem_iff_getElem.1 hm
    rw [← e]
    have : j % 2 = 0 ∨ j % 2 = 1 := by omega
    rcases this with h | h <;> simp [h]
  refine ⟨vs, fun ty => ?_, hlen, hall⟩
  have hst := run_storeCells_cells (P := Tryz.prog) g o vs 0 W (by rw [hlen]; simpa using hc) (by rw [hlen]; simpa using hf) (by intro v hm; rw [hall v hm]; rfl)
  simp only [Nat.add_zero] at hst
  simp [Builtin.clear_, run_underlying Tryz.underlying27, hv, hcl, hvs, hst]
theorem filter_upto {l : List Pr} {j : Nat} (hj : j < l.length) (f : Pr → Bool) : (l.take (j + 1)).filter f = (l.take j).filter f ++ (if f l[j] = true then [l[j]] else []) := by
  rw [← List.take_append_getElem hj, List.filter_append]
  congr 1
  by_cases h : f l[j] = true <;> simp [h]
structure DelAt (q : Pr → Bool) (l cur : List Pr) (i j : Nat) : Prop where
  len : cur.length = l.length
  lt : i < j
  le : j ≤ l.length
  acc : cur.take i = (l.take j).filter (fun x => !q x)
  rest : cur.drop j = l.drop j
theorem DelAt.start {q : Pr → Bool} {l : List Pr} {k : Nat} (hk : k < l.length) (hn : ∀ a (h : a < l.length), a < k → q l[a] = false) (hq : q l[k] = true) : DelAt q l l k (k + 1) := by
  refine ⟨rfl, by omega, by omega, ?_, rfl⟩
  rw [filter_upto hk, if_neg (by simp [hq]), List.append_nil]
  refine (List.filter_eq_self.2 (fun x hx => ?_)).symm
  obtain ⟨a, ha, rfl⟩ := List.getElem_of_mem hx
  rw [List.length_take] at ha
  rw [List.getElem_take, hn a (by omega) (by omega)]
  rfl
theorem DelAt.get {q : Pr → Bool} {l cur : List Pr} {i j : Nat} (h : DelAt q l cur i j) (hj : j < l.length) : cur[j]'(by rw [h.len]; exact hj) = l[j] := by
  have h1 : (cur.drop j)[0]? = (l.drop j)[0]? := by rw [h.rest]
  rw [List.getElem?_drop, List.getElem?_drop, Nat.add_zero, List.getElem?_eq_getElem (by rw [h.len]; exact hj), List.getElem?_eq_getElem hj] at h1
  exact Option.some.inj h1
theorem DelAt.next {q : Pr → Bool} {l cur : List Pr} {i j : Nat} (h : DelAt q l cur i j) : cur.drop (j + 1) = l.drop (j + 1) := by
  have h1 : (cur.drop j).drop 1 = (l.drop j).drop 1 := by rw [h.rest]
  rwa [List.drop_drop, List.drop_drop] at h1
theorem DelAt.keep {q : Pr → Bool} {l cur : List Pr} {i j : Nat} (h : DelAt q l cur i j) (hj : j < l.length) (hq : q l[j] = false) : DelAt q l (cur.set i l[j]) (i + 1) (j + 1) := by
  have hlt := h.lt
  have hlen := h.len
  refine ⟨by rw [List.length_set]; exact h.len, by omega, by omega, ?_, ?_⟩
  · rw [filter_upto hj, if_pos (by simp [hq]), ← h.acc, ← List.take_append_getElem (by rw [List.length_set]; omega), List.getElem_set_self, List.take_set_of_le (Nat.le_refl _)]
  · rw [List.drop_set_of_lt (by omega)]
    exact h.next
theorem DelAt.skip {q : Pr → Bool} {l cur : List Pr} {i j : Nat} (h : DelAt q l cur i j) (hj : j < l.length) (hq : q l[j] = true) : DelAt q l cur i (j + 1) := by
  have hlt := h.lt
  refine ⟨h.len, by omega, by omega, ?_, h.next⟩
  rw [filter_upto hj, if_neg (by simp [hq]), List.append_nil]
  exact h.acc
theorem DelAt.done {q : Pr → Bool} {l cur : List Pr} {i : Nat} (h : DelAt q l cur i l.length) : cur.take i = l.filter (fun x => !q x) ∧ (l.filter (fun x => !q x)).length = i := by
  have h1 := h.acc
  rw [List.take_length] at h1
  refine ⟨h1, ?_⟩
  rw [← h1, List.length_take]
  have := h.len
  have := h.lt
  omega
end Go.Proofs.YtmkebjdmkkjloaaGreatDoor
namespace Go.Proofs.YtmkebjdmkkjloaaGreatDoor
open Go Go.RowKit
set_option linter.unusedVariables false
theorem grown_trans {w w1 w2 : World} {r : Option Nat} (h : w.grownBy w1 r) (k : w1.grownBy w2 r) : w.grownBy w2 r :=
  ⟨k.os.trans h.os, k.tape.trans h.tape, k.output.trans h.output, Nat.le_trans h.size k.size, fun i hi hne => (k.block i (Nat.lt_of_lt_of_le hi h.size) hne).trans (h.block i hi hne)⟩
theorem grown_of {w w' : World} (h : Below w.heap.size w w') (r : Option Nat) : w.grownBy w' r := ⟨h.os, h.tape, h.output, h.size, fun k hk _ => h.block k hk⟩
def Says (W : World) (r : Option Nat) (g : Nat) (lb : Array Value) (q : Pr → Bool) : Prop :=
  ∀ W', W.grownBy W' r → ∀ x : Pr, Calls Tryz.prog g (#[.agg #[.string (S x.k), .string (S x.v)]] ++ lb) W' fun e W'' => e = .returned (.bool (q x)) ∧ Below W'.heap.size W' W''
def FirstAt (q : Pr → Bool) (l : List Pr) (n : Int) : Prop := (n = -1 ∧ ∀ x ∈ l, q x = false) ∨ ∃ k, ∃ h : k < l.length, n = (k : Int) ∧ q l[k] = true ∧ ∀ a (h : a < l.length), a < k → q l[a] = false
set_option maxRecDepth 100000 in
theorem indexFuncP_any (g : Nat) (lb : Array Value) (q : Pr → Bool) (eg : ∀ args w, (callFunc g args).run Tryz.prog w = .ok (.enter g args) w) (l : List Pr) (v : Value) (w : World) (hv : PrsV w v l) (hl : l.length ≤ 140737488355328) (hs : Says w none g lb q) :
    Calls Tryz.prog 202 #[v, .func (.func g) #[] lb] w fun e w' => ∃ n, e = .returned (.int .i64 n) ∧ FirstAt q l n ∧ Below w.heap.size w w' := by
  obtain ⟨p, c, rfl, _, hc⟩ := hv
  have Hc := Lib.hid hc
  have Hs := Lib.hid hs
  clear hc hs
  go_enter Tryz.func202, Tryz.ntmps202
  go_wp2_with fail
  go_loopw [8] (fun i wr => ∃ j : Nat, j ≤ l.length ∧ i = .int .i64 j ∧ Hid (∀ a (h : a < l.length), a < j → q l[a] = false) ∧ Below w.heap.size w wr) (fun i _ => l.length - (intOf i).toNat)
  case atStart => exact ⟨0, by omega, rfl, Lib.hid (fun a _ h => by omega), Below.refl _ _⟩
  case round =>
    obtain ⟨j, hj, rfl, Hno, hb⟩ := hrel
    have Hb := Lib.hid hb
    by_cases hlt : j < l.length
    · obtain ⟨b, o, rfl, hcl⟩ := Hc.out (by omega)
      obtain ⟨q0, q1⟩ := hcl j hlt
      rw [← (bcell hb).1 b (o + j * 2) (block_lt_of_cell (w := w) (a := ⟨b, o + j * 2, none⟩) q0)] at q0
      rw [← (bcell hb).1 b (o + j * 2 + 1) (block_lt_of_cell (w := w) (a := ⟨b, o + j * 2 + 1, none⟩) q1)] at q1
      have C := Hs.out wr (grown_of hb none) l[j]
      obtain ⟨qv, hq⟩ : ∃ b, q l[j] = b := ⟨_, rfl⟩
      have Hq := Lib.hid hq
      rw [hq] at C
      obtain ⟨y, hy⟩ : ∃ y, l[j] = y := ⟨_, rfl⟩
      rw [hy] at q0 q1 C
      have C := Lib.hid C
      have hjI : (j : Int) < (l.length : Int) := by omega
      clear hb hcl hy hq
      cases qv with
      | true =>
        go_wp2_with (go_at_fn g; refine C.out.mono ?_; rintro e w' ⟨rfl, hb'⟩; have Hb' := Lib.hid (below_then Hb.out hb'); clear hb')
        go_ret
        exact ⟨_, rfl, .inr ⟨j, hlt, rfl, Hq.out, Hno.out⟩, Hb'.out⟩
      | false =>
        go_wp2_with (go_at_fn g; refine C.out.mono ?_; rintro e w' ⟨rfl, hb'⟩; have Hb' := Lib.hid (below_then Hb.out hb'); clear hb')
        go_roundw
        case rel => exact ⟨j + 1, by omega, by go_num, Lib.hid (fun a h h' => by
          by_cases e : a = j
          · subst e; exact Hq.out
          · exact Hno.out a h (by omega)), Hb'.out⟩
        case measure => simp [intOf]; omega
    · clear hb
      go_wp2_with fail
      go_ret
      exact ⟨_, rfl, .inl ⟨rfl, fun x hx => by
        obtain ⟨a, ha, rfl⟩ := List.getElem_of_mem hx
        exact Hno.out a ha (by omega)⟩, Hb.out⟩
def RetDel (w : World) (B : Nat) (v : Value) (m : List Pr) (e : Ending) (w' : World) : Prop := ∃ v', e = .returned v' ∧ PrBuf B w' v' m ∧ v'.ownBlock = v.ownBlock ∧ w.grownBy w' v.ownBlock ∧ ∀ g, v.ownBlock = some g → (∃ s, w.cell? ⟨g, 0, none⟩ = some (.string s)) → ∃ s, w'.cell? ⟨g, 0, none⟩ = some (.string s)
set_option maxRecDepth 100000 in
set_option maxHeartbeats 1000000 in
theorem deleteFuncP_any (g : Nat) (lb : Array Value) (q : Pr → Bool) (eg : ∀ args w, (callFunc g args).run Tryz.prog w = .ok (.enter g args) w) (l : List Pr) (v : Value) (B : Nat) (w : World) (hv : PrBuf B w v l) (hl : l.length ≤ 1000) (hs : Says w v.ownBlock g lb q) :
    Calls Tryz.prog 176 #[v, .func (.func g) #[] lb] w (RetDel w B v (l.filter (fun x => !q x))) := by
  have I := Lib.hid (indexFuncP_any g lb q eg l v w hv.prs (by omega) (fun W' hW x => hs W' ⟨hW.os, hW.tape, hW.output, hW.size, fun k hk _ => hW.block k hk (by simp)⟩ x))
  have HV := Lib.hid hv
  have Hs := Lib.hid hs
  obtain ⟨p, c, rfl⟩ := hv.form
  have hnil : p = none → l = [] := by
    rintro rfl
    rcases hv.2 with ⟨_, h0⟩ | ⟨g', cap, cur, e, _⟩
    · exact List.eq_nil_of_length_eq_zero h0
    · cases e
  have hrow : ∀ a, p = some a → ∃ rb, a = ⟨rb, 0, none⟩ := fun a h => by
    rcases hv.2 with ⟨e, h0⟩ | ⟨g', cap, cur, e, _⟩
    · rw [h] at e; cases e
    · simp only [Value.slice.injEq] at e
      rw [h] at e
      exact ⟨g', by injection e.1⟩
  clear hv hs
  obtain ⟨R, hR⟩ : ∃ R, RetDel w B (.slice p l.length c) (l.filter (fun x => !q x)) = R := ⟨_, rfl⟩
  rw [hR]
  have HR := Lib.hid hR
  clear hR
  go_enter Tryz.func176, Tryz.ntmps176
  go_wp2_with fail
  refine I.out.mono ?_
  rintro e w1 ⟨n, rfl, hf, hb1⟩
  rcases hf with ⟨rfl, hall⟩ | ⟨k0, hk0, rfl, hq0, hn0⟩
  · have Hb1 := Lib.hid hb1
    have Hall := Lib.hid hall
    clear hb1 hall I
    go_wp2_with fail
    rw [← HR.out]
    have hfl : l.filter (fun x => !q x) = l := List.filter_eq_self.2 (fun x hx => by rw [Hall.out x hx]; rfl)
    rw [hfl]
    exact ⟨_, rfl, HV.out.later Hb1.out, rfl, grown_of Hb1.out _, fun g' _ ⟨s, hs⟩ => ⟨s, ((bcell Hb1.out).1 g' 0 (block_lt_of_cell (w := w) (a := ⟨g', 0, none⟩) hs)).trans hs⟩⟩
  · have hne1 : ((k0 : Int) == -1) = false := beq_eq_false_iff_ne.2 (by omega)
    obtain ⟨a, rfl⟩ : ∃ a, p = some a := by
      cases p with
      | some a => exact ⟨a, rfl⟩
      | none => rw [hnil rfl] at hk0; simp at hk0
    obtain ⟨rb, rfl⟩ := hrow a rfl
    obtain ⟨hrp, hbr⟩ := RowP.of HV.out
    have HP1 := Lib.hid (hrp.later hb1)
    have HD1 := Lib.hid (DelAt.start hk0 hn0 hq0)
    have Hg1 := Lib.hid (grown_of hb1 (some rb))
    have Hbr := Lib.hid hbr
    have Hlc := Lib.hid hrp.len
    have hk0I : (k0 : Int) < (l.length : Int) := by omega
    have hll : (l.length : Int) ≤ 1000 := by omega
    clear hnil hrow hrp hbr hb1 hq0 hn0 I
    go_wp2_with fail
    go_loopw [5, 6] (fun iv jv wr => ∃ (i j : Nat) (cur : List Pr), iv = .int .i64 i ∧ jv = .int .i64 j ∧ j ≤ l.length ∧ i < j ∧ Hid (DelAt q l cur i j) ∧ Hid (RowP wr rb c cur) ∧ Hid (w.grownBy wr (some rb))) (fun _ j _ => l.length - (intOf j).toNat)
    case atStart => exact ⟨k0, k0 + 1, l, rfl, by go_num, by omega, by omega, HD1, HP1, Hg1⟩
    case round =>
      obtain ⟨i, j, cur, rfl, rfl, hj, hij, HD, HP, Hg⟩ := hrel
      by_cases hlt : j < l.length
      · have hcl : j < cur.length := by rw [HD.out.len]; exact hlt
        obtain ⟨q0, q1⟩ := HP.out.cell hcl
        rw [HD.out.get hlt] at q0 q1
        have hil : i < cur.length := by omega
        obtain ⟨r0, r1⟩ := HP.out.cell hil
        have f0 := HP.out.frozen (i * 2)
        have f1 := HP.out.frozen (i * 2 + 1)
        obtain ⟨w4, hw4⟩ : ∃ w4, wr.alloc (.cells #[.string (S l[j].k), .string (S l[j].v)] 61) = w4 := ⟨_, rfl⟩
        have hb4 : Below wr.heap.size wr w4 := by rw [← hw4]; exact (Below.refl _ _).alloc (Nat.le_refl _) _
        have hX4 : Blk w4 wr.heap.size #[.string (S l[j].k), .string (S l[j].v)] 61 := by rw [← hw4]; exact Blk.new wr _ _
        have HP4 := Lib.hid (HP.out.later hb4)
        have Hg4 := Lib.hid (grown_trans Hg.out (grown_of hb4 _))
        have C := Hs.out w4 Hg4.out l[j]
        obtain ⟨qv, hq⟩ : ∃ b, q l[j] = b := ⟨_, rfl⟩
        have Hq := Lib.hid hq
        rw [hq] at C
        have Hkeep := Lib.hid (fun h => HD.out.keep hlt h)
        have Hskip := Lib.hid (fun h => HD.out.skip hlt h)
        obtain ⟨⟨yk, yd⟩, hy⟩ : ∃ y, l[j] = y := ⟨_, rfl⟩
        rw [hy] at q0 q1 C Hkeep hw4 hX4
        simp only at q0 q1 C hw4 hX4
        have Hy := Lib.hid hy
        have C := Lib.hid C
        obtain ⟨xb, hxb⟩ : ∃ xb, wr.heap.size = xb := ⟨_, rfl⟩
        rw [hxb] at hX4
        have HX4 := Lib.hid hX4
        obtain ⟨x0, x1⟩ := HX4.out.two
        have hjI : (j : Int) < (l.length : Int) := by omega
        have hiI : (i : Int) < (l.length : Int) := by omega
        have Hrl := Lib.hid HP.out.lt
        clear hcl hy hq hb4 hX4
        cases qv with
        | true =>
          go_wp2_with (go_at_fn g; refine C.out.mono ?_; rintro e w' ⟨rfl, hb'⟩; have HP' := Lib.hid (HP4.out.later hb'); have Hg' := Lib.hid (grown_trans Hg4.out (grown_of hb' _)); clear hb')
          go_roundw
          case rel => exact ⟨i, j + 1, cur, rfl, by go_num, by omega, by omega, Lib.hid (Hskip.out Hq.out), HP', Hg'⟩
          case measure => simp [intOf]; omega
        | false =>
          have hcl4 : i < cur.length := by rw [HD.out.len]; omega
          go_wp2_with (go_at_fn g; refine C.out.mono ?_; rintro e w' ⟨rfl, hb'⟩; have HP' := Lib.hid (HP4.out.later hb'); have Hg' := Lib.hid (grown_trans Hg4.out (grown_of hb' _)); have f0' := HP'.out.frozen (i * 2); have f1' := HP'.out.frozen (i * 2 + 1); have r0' := (HP'.out.cell hcl4).1; have r1' := (HP'.out.cell hcl4).2; have z0 := (HX4.out.later hb').two.1; have z1 := (HX4.out.later hb').two.2; clear hb')
          go_roundw
          case rel => exact ⟨i + 1, j + 1, cur.set i ⟨yk, yd⟩, by go_num, by go_num, by omega, by omega, Lib.hid (Hkeep.out (by rw [← Hy.out]; exact Hq.out)), Lib.hid (HP'.out.set i ⟨yk, yd⟩), Lib.hid (grown_trans (grown_trans Hg'.out (grownBy_cell _ _ _ _)) (grownBy_cell _ _ _ _))⟩
          case measure => simp [intOf]; omega
      · obtain rfl : j = l.length := by omega
        obtain ⟨hd1, hd2⟩ := HD.out.done
        have hlen := HD.out.len
        obtain ⟨vs, hclr, hvl, hvz⟩ := run_clear_pr wr rb (i * 2) (l.length - i) (c - i) (by omega) (fun t ht => by
            obtain ⟨a, r, e, hr⟩ : ∃ a r, i * 2 + t = a * 2 + r ∧ r < 2 := ⟨(i * 2 + t) / 2, (i * 2 + t) % 2, by omega, by omega⟩
            rw [e]
            obtain ⟨c0, c1⟩ := HP.out.cell (a := a) (by omega)
            obtain rfl | rfl : r = 0 ∨ r = 1 := by omega
            · rw [Nat.add_zero, c0]; rfl
            · rw [c1]; rfl) (fun t _ => HP.out.frozen _)
        have Hcut := Lib.hid (HP.out.cut i (by omega) vs)
        have Hgr := Lib.hid (grown_trans Hg.out (setCells_grown rb vs (i * 2) wr))
        have Hclr := Lib.hid hclr
        have Hd1 := Lib.hid hd1
        have Hd2 := Lib.hid hd2
        have Hz := Lib.hid (show ∃ s, (wr.setCells rb (i * 2) vs).cell? ⟨rb, 0, none⟩ = some (.string s) from by
          by_cases h0 : i = 0
          · subst h0
            have := World.cell?_setCells_in rb vs 0 wr (fun t ht => by
              obtain ⟨a, r, e, hr⟩ : ∃ a r, 0 + t = a * 2 + r ∧ r < 2 := ⟨t / 2, t % 2, by omega, by omega⟩
              rw [e]
              obtain ⟨c0, c1⟩ := HP.out.cell (a := a) (by omega)
              obtain rfl | rfl : r = 0 ∨ r = 1 := by omega
              · rw [Nat.add_zero, c0]; rfl
              · rw [c1]; rfl) 0 (by omega)
            exact ⟨S [], by rw [Nat.zero_mul]; rw [show (⟨rb, 0, none⟩ : Addr) = ⟨rb, 0 + 0, none⟩ from rfl, this, hvz _ (List.getElem_mem _)]⟩
          · have := (Hcut.out.cell (a := 0) (by rw [List.length_take]; omega)).1
            exact ⟨_, by simpa using this⟩)
        have hiI : (i : Int) < (l.length : Int) := by omega
        have hci : i < c := by have := Hlc.out; omega
        have hci1 : ¬ c = i := by omega
        have hci2 : ¬ i = c := by omega
        have hci3 : ¬ c - i = 0 := by omega
        have hci4 : ¬ c ≤ i := by omega
        have hciI : (i : Int) ≤ (c : Int) := by omega
        have hllc : (l.length : Int) ≤ (c : Int) := by have := Hlc.out; omega
        clear hd1 hd2 hvl hvz
        go_wp2_with fail
        rw [← HR.out]
        refine ⟨_, rfl, ?_, rfl, Hgr.out, fun g' e _ => by cases e; exact Hz.out⟩
        have hb := Hcut.out.buf (base := B) (m := l.filter (fun x => !q x)) (by rw [Hd2.out, ← Hd1.out, List.take_take, Nat.min_self]) Hbr.out
        rw [Hd2.out] at hb
        exact hb
end Go.Proofs.YtmkebjdmkkjloaaGreatDoor
namespace Go.Proofs.YtmkebjdmkkjloaaGreatDoor
open Go Go.RowKit
set_option linter.unusedVariables false
theorem appP_two {base : Nat} {v : Value} {l : List Pr} {x : Pr} {w : World} {a : Addr} (h : PrBuf base w v l) (ha : ∀ j u, ([.string (S x.k), .string (S x.v)] : List Value)[j]? = some u → w.cell? (a.add j) = some u) (hl : l.length ≤ 1000) (hb : base ≤ w.heap.size) :
    ∃ v' w', (Builtin.append_ #[27, 27] 27 #[v, .slice (some a) 1 1]).run Tryz.prog w = .ok v' w' ∧ PrBuf base w' v' (l ++ [x]) ∧ w.grownBy w' v.ownBlock ∧ (v'.ownBlock = v.ownBlock ∨ (Below w.heap.size w w' ∧ ∀ k, v'.ownBlock = some k → w.heap.size ≤ k)) := by
  obtain ⟨i0, hi, hz0, hz1, hz2⟩ := infoPr
  obtain ⟨v5, w5, hrun, hown, hgrow, hblk⟩ := appP_own h ha hl hb
  refine ⟨v5, w5, hrun, hown, hgrow, ?_⟩
  have h' := h
  rcases h'.2 with ⟨rfl, h0⟩ | ⟨g, cap, cur, rfl, hbg, hg, hnc, hcm, hcs, htake⟩
  · refine .inr ⟨⟨hgrow.os, hgrow.tape, hgrow.output, hgrow.size, fun k hk => hgrow.block k hk (by simp [Value.ownBlock])⟩, fun k hk => ?_⟩
    rcases hblk k hk with h | h
    · simp [Value.ownBlock] at h
    · exact h
  · have hsrc : Src Tryz.prog i0.size 27 (.slice (some a) 1 1) 1 [.string (S x.k), .string (S x.v)] w := by
      rw [hz1]
      exact Src.ofSlice w Tryz.underlying27 a 1 1 [.string (S x.k), .string (S x.v)] rfl ha (prsVs_one [x])
    by_cases hroom : l.length + 1 ≤ cap
    · have hr := run_append_room_src (P := Tryz.prog) (w := w) 27 27 27 61 i0 Tryz.underlying27 hi g 0 l.length cap (.slice (some a) 1 1) 1 [.string (S x.k), .string (S x.v)] hsrc hroom
        (fun j hj => by
          have hj0 : j = 0 ∨ j = 1 := by simp at hj; omega
          rw [cell_of_row w g _ cur 61 (0, 0) hg, hz1, Array.getElem?_eq_getElem (by rcases hj0 with rfl | rfl <;> omega)]
          rfl)
        (fun j hj => by
          unfold World.frozen?
          rw [hg]
          simp)
      rw [hrun] at hr
      have hv : v5 = .slice (some ⟨g, 0, none⟩) (l.length + 1) cap := by injection hr
      rw [hv]
      exact .inl rfl
    · have hr := run_append_grow_src (P := Tryz.prog) (w := w) 27 27 27 61 i0 (.agg #[.string (S []), .string (S [])]) Tryz.underlying27 hi hz0 (some ⟨g, 0, none⟩) l.length cap (prsVs l)
        (by rw [hz1]; exact run_firstCells_some w.drew 2 l.length ⟨g, 0, none⟩ l.length cap (prsVs l) (prsVs_len l) (fun j u hu => World.ownsRow.cells h (g := g) rfl j u hu)) (.slice (some a) 1 1) 1 [.string (S x.k), .string (S x.v)] hsrc (by omega) (by omega)
        (by
          rw [hz2]
          have := nextslicecap_le (need := l.length + 1) (old := cap) (by omega)
          omega)
      rw [hrun] at hr
      have hw := (Result.ok.inj hr).2
      have hv : v5 = .slice (some ⟨w.heap.size, 0, none⟩) (l.length + 1) (grownCap w (l.length + 1) cap 61) := (Result.ok.inj hr).1
      refine .inr ⟨?_, fun k hk => ?_⟩
      · rw [hw]
        exact (Below.refl _ _).drew.alloc (Nat.le_refl _) _
      · rw [hv] at hk
        have : w.heap.size = k := by simpa [Value.ownBlock] using hk
        omega
end Go.Proofs.YtmkebjdmkkjloaaGreatDoor
