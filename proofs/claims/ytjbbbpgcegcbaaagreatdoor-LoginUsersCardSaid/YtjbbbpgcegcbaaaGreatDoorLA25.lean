/- LA25: several texts in one. -/
import Derived.BigQuiet
import Derived.BigRegion
import Derived.Deep.QuietTactic
import Derived.Shelf.Abstract
import Derived.Test.YtjbbbpgcegcbaaaGreatDoorLA06
import Derived.Test.YtjbbbpgcegcbaaaGreatDoorLA18
import Derived.Test.YtjbbbpgcegcbaaaGreatDoorLA20
import Derived.Test.YtjbbbpgcegcbaaaGreatDoorLA21
import Derived.Test.YtjbbbpgcegcbaaaGreatDoorLA24
namespace Go.Proofs.YtjbbbpgcegcbaaaGreatDoor
open Go Go.RowKit
set_option linter.unusedVariables false
theorem grown_trans {w w1 w2 : World} {r : Option Nat} (h : w.grownBy w1 r) (k : w1.grownBy w2 r) : w.grownBy w2 r :=
 ⟨k.os.trans h.os, k.tape.trans h.tape, k.output.trans h.output, Nat.le_trans h.size k.size, fun i hi hne => (k.block i (Nat.lt_of_lt_of_le hi h.size) hne).trans (h.block i hi hne)⟩
theorem grown_of {w w' : World} (h : Below w.heap.size w w') (r : Option Nat) : w.grownBy w' r := ⟨h.os, h.tape, h.output, h.size, fun k hk _ => h.block k hk⟩
def Says (W : World) (r : Option Nat) (g : Nat) (lb : Array Value) (q : Pr → Bool) : Prop :=
 ∀ W', W.grownBy W' r → ∀ x : Pr, Calls Tryz.prog g (#[.agg #[.string (S x.k), .string (S x.v)]] ++ lb) W' fun e W'' => e = .returned (.bool (q x)) ∧ Below W'.heap.size W' W''
def FirstAt (q : Pr → Bool) (l : List Pr) (n : Int) : Prop := (n = -1 ∧ ∀ x ∈ l, q x = false) ∨ ∃ k, ∃ h : k < l.length, n = (k : Int) ∧ q l[k] = true ∧ ∀ a (h : a < l.length), a < k → q l[a] = false
set_option maxRecDepth 100000 in
theorem indexFuncP_any (g : Nat) (lb : Array Value) (q : Pr → Bool) (eg : ∀ args w, (callFunc g args).run Tryz.prog w = .ok (.enter g args) w) (l : List Pr) (v : Value) (w : World) (hv : PrsV w v l) (hl : l.length ≤ 140737488355328) (hs : Says w none g lb q) :
  Calls Tryz.prog 66 #[v, .func (.func g) #[] lb] w fun e w' => ∃ n, e = .returned (.int .i64 n) ∧ FirstAt q l n ∧ Below w.heap.size w w' := by
 obtain ⟨p, c, rfl, _, hc⟩ := hv
 have Hc := Lib.hid hc
 have Hs := Lib.hid hs
 clear hc hs
 go_enter Tryz.func66, Tryz.ntmps66
 go_wp2_with fail
 go_loopw [8] (fun i wr => ∃ j : Nat, j ≤ l.length ∧ i = .int .i64 j ∧ Hid (∀ a (h : a < l.length), a < j → q l[a] = false) ∧ Below w.heap.size w wr) (fun i _ => l.length - (intOf i).toNat)
 case atStart => exact ⟨0, by omega, rfl, Lib.hid (fun a _ h => by omega), Below.refl _ _⟩
 case round =>
  obtain ⟨j, hj, rfl, Hno, hb⟩ := hrel
  have Hb := Lib.hid hb
  by_cases hlt : j < l.length
  ·obtain ⟨b, o, rfl, hcl⟩ := Hc.out (by omega)
   obtain ⟨q0, q1⟩ := hcl j hlt
   rw [← (bcell hb).1 b (o + j * 2) (block_lt_of_cell (w := w) (a := ⟨b, o + j * 2, none⟩) q0)] at q0
   rw [← (bcell hb).1 b (o + j * 2 + 1) (block_lt_of_cell (w := w) (a := ⟨b, o + j * 2 + 1, none⟩) q1)] at q1
   have C := Hs.out wr (grown_of hb none) l[j]
   obtain ⟨qv, hq⟩ : ∃ b, q l[j] = b := ⟨_, rfl⟩
   have Hq := Lib.hid hq
   rw [hq] at C
   obtain ⟨y, hy⟩ : ∃ y, l[j] = y := ⟨_, rfl⟩
   rw [hy] at q0 q1 C
   have C := Lib.hid C
   have hjI : (j : Int) < (l.length : Int) := by omega
   clear hb hcl hy hq
   cases qv with
   | true =>
    go_wp2_with (go_at_fn g; refine C.out.mono ?_; rintro e w' ⟨rfl, hb'⟩; have Hb' := Lib.hid (below_then Hb.out hb'); clear hb')
    go_ret
    exact ⟨_, rfl, .inr ⟨j, hlt, rfl, Hq.out, Hno.out⟩, Hb'.out⟩
   | false =>
    go_wp2_with (go_at_fn g; refine C.out.mono ?_; rintro e w' ⟨rfl, hb'⟩; have Hb' := Lib.hid (below_then Hb.out hb'); clear hb')
    go_roundw
    case rel => exact ⟨j + 1, by omega, by go_num, Lib.hid (fun a h h' => by
     by_cases e : a = j
     ·subst e; exact Hq.out
     ·exact Hno.out a h (by omega)), Hb'.out⟩
    case measure => simp [intOf]; omega
  ·clear hb
   go_wp2_with fail
   go_ret
   exact ⟨_, rfl, .inl ⟨rfl, fun x hx => by
    obtain ⟨a, ha, rfl⟩ := List.getElem_of_mem hx
    exact Hno.out a ha (by omega)⟩, Hb.out⟩
def RetDel (w : World) (B : Nat) (v : Value) (m : List Pr) (e : Ending) (w' : World) : Prop := ∃ v', e = .returned v' ∧ PrBuf B w' v' m ∧ v'.ownBlock = v.ownBlock ∧ w.grownBy w' v.ownBlock ∧ ∀ g, v.ownBlock = some g → (∃ s, w.cell? ⟨g, 0, none⟩ = some (.string s)) → ∃ s, w'.cell? ⟨g, 0, none⟩ = some (.string s)
set_option maxRecDepth 100000 in
set_option maxHeartbeats 1000000 in
theorem deleteFuncP_any (g : Nat) (lb : Array Value) (q : Pr → Bool) (eg : ∀ args w, (callFunc g args).run Tryz.prog w = .ok (.enter g args) w) (l : List Pr) (v : Value) (B : Nat) (w : World) (hv : PrBuf B w v l) (hl : l.length ≤ 1000) (hs : Says w v.ownBlock g lb q) :
  Calls Tryz.prog 43 #[v, .func (.func g) #[] lb] w (RetDel w B v (l.filter (fun x => !q x))) := by
 have I := Lib.hid (indexFuncP_any g lb q eg l v w hv.prs (by omega) (fun W' hW x => hs W' ⟨hW.os, hW.tape, hW.output, hW.size, fun k hk _ => hW.block k hk (by simp)⟩ x))
 have HV := Lib.hid hv
 have Hs := Lib.hid hs
 obtain ⟨p, c, rfl⟩ := hv.form
 have hnil : p = none → l = [] := by
  rintro rfl
  rcases hv.2 with ⟨_, h0⟩ | ⟨g', cap, cur, e, _⟩
  ·exact List.eq_nil_of_length_eq_zero h0
  ·cases e
 have hrow : ∀ a, p = some a → ∃ rb, a = ⟨rb, 0, none⟩ := fun a h => by
  rcases hv.2 with ⟨e, h0⟩ | ⟨g', cap, cur, e, _⟩
  ·rw [h] at e; cases e
  ·simp only [Value.slice.injEq] at e
   rw [h] at e
   exact ⟨g', by injection e.1⟩
 clear hv hs
 obtain ⟨R, hR⟩ : ∃ R, RetDel w B (.slice p l.length c) (l.filter (fun x => !q x)) = R := ⟨_, rfl⟩
 rw [hR]
 have HR := Lib.hid hR
 clear hR
 go_enter Tryz.func43, Tryz.ntmps43
 go_wp2_with fail
 refine I.out.mono ?_
 rintro e w1 ⟨n, rfl, hf, hb1⟩
 rcases hf with ⟨rfl, hall⟩ | ⟨k0, hk0, rfl, hq0, hn0⟩
 ·have Hb1 := Lib.hid hb1
  have Hall := Lib.hid hall
  clear hb1 hall I
  go_wp2_with fail
  rw [← HR.out]
  have hfl : l.filter (fun x => !q x) = l := List.filter_eq_self.2 (fun x hx => by rw [Hall.out x hx]; rfl)
  rw [hfl]
  exact ⟨_, rfl, HV.out.later Hb1.out, rfl, grown_of Hb1.out _, fun g' _ ⟨s, hs⟩ => ⟨s, ((bcell Hb1.out).1 g' 0 (block_lt_of_cell (w := w) (a := ⟨g', 0, none⟩) hs)).trans hs⟩⟩
 ·have hne1 : ((k0 : Int) == -1) = false := beq_eq_false_iff_ne.2 (by omega)
  obtain ⟨a, rfl⟩ : ∃ a, p = some a := by
   cases p with
   | some a => exact ⟨a, rfl⟩
   | none => rw [hnil rfl] at hk0; simp at hk0
  obtain ⟨rb, rfl⟩ := hrow a rfl
  obtain ⟨hrp, hbr⟩ := RowP.of HV.out
  have HP1 := Lib.hid (hrp.later hb1)
  have HD1 := Lib.hid (DelAt.start hk0 hn0 hq0)
  have Hg1 := Lib.hid (grown_of hb1 (some rb))
  have Hbr := Lib.hid hbr
  have Hlc := Lib.hid hrp.len
  have hk0I : (k0 : Int) < (l.length : Int) := by omega
  have hll : (l.length : Int) ≤ 1000 := by omega
  clear hnil hrow hrp hbr hb1 hq0 hn0 I
  go_wp2_with fail
  go_loopw [5, 6] (fun iv jv wr => ∃ (i j : Nat) (cur : List Pr), iv = .int .i64 i ∧ jv = .int .i64 j ∧ j ≤ l.length ∧ i < j ∧ Hid (DelAt q l cur i j) ∧ Hid (RowP wr rb c cur) ∧ Hid (w.grownBy wr (some rb))) (fun _ j _ => l.length - (intOf j).toNat)
  case atStart => exact ⟨k0, k0 + 1, l, rfl, by go_num, by omega, by omega, HD1, HP1, Hg1⟩
  case round =>
   obtain ⟨i, j, cur, rfl, rfl, hj, hij, HD, HP, Hg⟩ := hrel
   by_cases hlt : j < l.length
   ·have hcl : j < cur.length := by rw [HD.out.len]; exact hlt
    obtain ⟨q0, q1⟩ := HP.out.cell hcl
    rw [HD.out.get hlt] at q0 q1
    have hil : i < cur.length := by omega
    obtain ⟨r0, r1⟩ := HP.out.cell hil
    have f0 := HP.out.frozen (i * 2)
    have f1 := HP.out.frozen (i * 2 + 1)
    obtain ⟨w4, hw4⟩ : ∃ w4, wr.alloc (.cells #[.string (S l[j].k), .string (S l[j].v)] 60) = w4 := ⟨_, rfl⟩
    have hb4 : Below wr.heap.size wr w4 := by rw [← hw4]; exact (Below.refl _ _).alloc (Nat.le_refl _) _
    have hX4 : Blk w4 wr.heap.size #[.string (S l[j].k), .string (S l[j].v)] 60 := by rw [← hw4]; exact Blk.new wr _ _
    have HP4 := Lib.hid (HP.out.later hb4)
    have Hg4 := Lib.hid (grown_trans Hg.out (grown_of hb4 _))
    have C := Hs.out w4 Hg4.out l[j]
    obtain ⟨qv, hq⟩ : ∃ b, q l[j] = b := ⟨_, rfl⟩
    have Hq := Lib.hid hq
    rw [hq] at C
    have Hkeep := Lib.hid (fun h => HD.out.keep hlt h)
    have Hskip := Lib.hid (fun h => HD.out.skip hlt h)
    obtain ⟨⟨yk, yd⟩, hy⟩ : ∃ y, l[j] = y := ⟨_, rfl⟩
    rw [hy] at q0 q1 C Hkeep hw4 hX4
    simp only at q0 q1 C hw4 hX4
    have Hy := Lib.hid hy
    have C := Lib.hid C
    obtain ⟨xb, hxb⟩ : ∃ xb, wr.heap.size = xb := ⟨_, rfl⟩
    rw [hxb] at hX4
    have HX4 := Lib.hid hX4
    obtain ⟨x0, x1⟩ := HX4.out.two
    have hjI : (j : Int) < (l.length : Int) := by omega
    have hiI : (i : Int) < (l.length : Int) := by omega
    have Hrl := Lib.hid HP.out.lt
    clear hcl hy hq hb4 hX4
    cases qv with
    | true =>
     go_wp2_with (go_at_fn g; refine C.out.mono ?_; rintro e w' ⟨rfl, hb'⟩; have HP' := Lib.hid (HP4.out.later hb'); have Hg' := Lib.hid (grown_trans Hg4.out (grown_of hb' _)); clear hb')
     go_roundw
     case rel => exact ⟨i, j + 1, cur, rfl, by go_num, by omega, by omega, Lib.hid (Hskip.out Hq.out), HP', Hg'⟩
     case measure => simp [intOf]; omega
    | false =>
     have hcl4 : i < cur.length := by rw [HD.out.len]; omega
     go_wp2_with (go_at_fn g; refine C.out.mono ?_; rintro e w' ⟨rfl, hb'⟩; have HP' := Lib.hid (HP4.out.later hb'); have Hg' := Lib.hid (grown_trans Hg4.out (grown_of hb' _)); have f0' := HP'.out.frozen (i * 2); have f1' := HP'.out.frozen (i * 2 + 1); have r0' := (HP'.out.cell hcl4).1; have r1' := (HP'.out.cell hcl4).2; have z0 := (HX4.out.later hb').two.1; have z1 := (HX4.out.later hb').two.2; clear hb')
     go_roundw
     case rel => exact ⟨i + 1, j + 1, cur.set i ⟨yk, yd⟩, by go_num, by go_num, by omega, by omega, Lib.hid (Hkeep.out (by rw [← Hy.out]; exact Hq.out)), Lib.hid (HP'.out.set i ⟨yk, yd⟩), Lib.hid (grown_trans (grown_trans Hg'.out (grownBy_cell _ _ _ _)) (grownBy_cell _ _ _ _))⟩
     case measure => simp [intOf]; omega
   ·obtain rfl : j = l.length := by omega
    obtain ⟨hd1, hd2⟩ := HD.out.done
    have hlen := HD.out.len
    obtain ⟨vs, hclr, hvl, hvz⟩ := run_clear_pr wr rb (i * 2) (l.length - i) (c - i) (by omega) (fun t ht => by
      obtain ⟨a, r, e, hr⟩ : ∃ a r, i * 2 + t = a * 2 + r ∧ r < 2 := ⟨(i * 2 + t) / 2, (i * 2 + t) % 2, by omega, by omega⟩
      rw [e]
      obtain ⟨c0, c1⟩ := HP.out.cell (a := a) (by omega)
      obtain rfl | rfl : r = 0 ∨ r = 1 := by omega
      ·rw [Nat.add_zero, c0]; rfl
      ·rw [c1]; rfl) (fun t _ => HP.out.frozen _)
    have Hcut := Lib.hid (HP.out.cut i (by omega) vs)
    have Hgr := Lib.hid (grown_trans Hg.out (setCells_grown rb vs (i * 2) wr))
    have Hclr := Lib.hid hclr
    have Hd1 := Lib.hid hd1
    have Hd2 := Lib.hid hd2
    have Hz := Lib.hid (show ∃ s, (wr.setCells rb (i * 2) vs).cell? ⟨rb, 0, none⟩ = some (.string s) from by
     by_cases h0 : i = 0
     ·subst h0
      have := World.cell?_setCells_in rb vs 0 wr (fun t ht => by
       obtain ⟨a, r, e, hr⟩ : ∃ a r, 0 + t = a * 2 + r ∧ r < 2 := ⟨t / 2, t % 2, by omega, by omega⟩
       rw [e]
       obtain ⟨c0, c1⟩ := HP.out.cell (a := a) (by omega)
       obtain rfl | rfl : r = 0 ∨ r = 1 := by omega
       ·rw [Nat.add_zero, c0]; rfl
       ·rw [c1]; rfl) 0 (by omega)
      exact ⟨S [], by rw [Nat.zero_mul]; rw [show (⟨rb, 0, none⟩ : Addr) = ⟨rb, 0 + 0, none⟩ from rfl, this, hvz _ (List.getElem_mem _)]⟩
     ·have := (Hcut.out.cell (a := 0) (by rw [List.length_take]; omega)).1
      exact ⟨_, by simpa using this⟩)
    have hiI : (i : Int) < (l.length : Int) := by omega
    have hci : i < c := by have := Hlc.out; omega
    have hci1 : ¬ c = i := by omega
    have hci2 : ¬ i = c := by omega
    have hci3 : ¬ c - i = 0 := by omega
    have hci4 : ¬ c ≤ i := by omega
    have hciI : (i : Int) ≤ (c : Int) := by omega
    have hllc : (l.length : Int) ≤ (c : Int) := by have := Hlc.out; omega
    clear hd1 hd2 hvl hvz
    go_wp2_with fail
    rw [← HR.out]
    refine ⟨_, rfl, ?_, rfl, Hgr.out, fun g' e _ => by cases e; exact Hz.out⟩
    have hb := Hcut.out.buf (base := B) (m := l.filter (fun x => !q x)) (by rw [Hd2.out, ← Hd1.out, List.take_take, Nat.min_self]) Hbr.out
    rw [Hd2.out] at hb
    exact hb
theorem appP_two {base : Nat} {v : Value} {l : List Pr} {x : Pr} {w : World} {a : Addr} (h : PrBuf base w v l) (ha : ∀ j u, ([.string (S x.k), .string (S x.v)] : List Value)[j]? = some u → w.cell? (a.add j) = some u) (hl : l.length ≤ 1000) (hb : base ≤ w.heap.size) :
  ∃ v' w', (Builtin.append_ #[27, 27] 27 #[v, .slice (some a) 1 1]).run Tryz.prog w = .ok v' w' ∧ PrBuf base w' v' (l ++ [x]) ∧ w.grownBy w' v.ownBlock ∧ (v'.ownBlock = v.ownBlock ∨ (Below w.heap.size w w' ∧ ∀ k, v'.ownBlock = some k → w.heap.size ≤ k)) := by
 obtain ⟨i0, hi, hz0, hz1, hz2⟩ := infoPr
 obtain ⟨v5, w5, hrun, hown, hgrow, hblk⟩ := appP_own h ha hl hb
 refine ⟨v5, w5, hrun, hown, hgrow, ?_⟩
 have h' := h
 rcases h'.2 with ⟨rfl, h0⟩ | ⟨g, cap, cur, rfl, hbg, hg, hnc, hcm, hcs, htake⟩
 ·refine .inr ⟨⟨hgrow.os, hgrow.tape, hgrow.output, hgrow.size, fun k hk => hgrow.block k hk (by simp [Value.ownBlock])⟩, fun k hk => ?_⟩
  rcases hblk k hk with h | h
  ·simp [Value.ownBlock] at h
  ·exact h
 ·have hsrc : Src Tryz.prog i0.size 27 (.slice (some a) 1 1) 1 [.string (S x.k), .string (S x.v)] w := by
   rw [hz1]
   exact Src.ofSlice w Tryz.underlying27 a 1 1 [.string (S x.k), .string (S x.v)] rfl ha (prsVs_one [x])
  by_cases hroom : l.length + 1 ≤ cap
  ·have hr := run_append_room_src (P := Tryz.prog) (w := w) 27 27 27 60 i0 Tryz.underlying27 hi g 0 l.length cap (.slice (some a) 1 1) 1 [.string (S x.k), .string (S x.v)] hsrc hroom
    (fun j hj => by
     have hj0 : j = 0 ∨ j = 1 := by simp at hj; omega
     rw [cell_of_row w g _ cur 60 (0, 0) hg, hz1, Array.getElem?_eq_getElem (by rcases hj0 with rfl | rfl <;> omega)]
     rfl)
    (fun j hj => by
     unfold World.frozen?
     rw [hg]
     simp)
   rw [hrun] at hr
   have hv : v5 = .slice (some ⟨g, 0, none⟩) (l.length + 1) cap := by injection hr
   rw [hv]
   exact .inl rfl
  ·have hr := run_append_grow_src (P := Tryz.prog) (w := w) 27 27 27 60 i0 (.agg #[.string (S []), .string (S [])]) Tryz.underlying27 hi hz0 (some ⟨g, 0, none⟩) l.length cap (prsVs l)
    (by rw [hz1]; exact run_firstCells_some w.drew 2 l.length ⟨g, 0, none⟩ l.length cap (prsVs l) (prsVs_len l) (fun j u hu => World.ownsRow.cells h (g := g) rfl j u hu)) (.slice (some a) 1 1) 1 [.string (S x.k), .string (S x.v)] hsrc (by omega) (by omega)
    (by
     rw [hz2]
     have := nextslicecap_le (need := l.length + 1) (old := cap) (by omega)
     omega)
   rw [hrun] at hr
   have hw := (Result.ok.inj hr).2
   have hv : v5 = .slice (some ⟨w.heap.size, 0, none⟩) (l.length + 1) (grownCap w (l.length + 1) cap 60) := (Result.ok.inj hr).1
   refine .inr ⟨?_, fun k hk => ?_⟩
   ·rw [hw]
    exact (Below.refl _ _).drew.alloc (Nat.le_refl _) _
   ·rw [hv] at hk
    have : w.heap.size = k := by simpa [Value.ownBlock] using hk
    omega
theorem putIs_any (q : Pr) (k d : List UInt8) (b : Nat) (w : World) (hB : Blk w b #[.string (S k), .string (S d)] 60) :
  Calls Tryz.prog 151 #[.agg #[.string (S q.k), .string (S q.v)], .pointer (some ⟨b, 0, none⟩)] w fun e w' => e = .returned (.bool (decide (q.k = k))) ∧ Below w.heap.size w w' := by
 have hb0 := (Below.refl w.heap.size w).alloc (Nat.le_refl _) (.cells #[.string (S q.k), .string (S q.v)] 60)
 obtain ⟨c0, c1⟩ := (hB.later hb0).two
 have hS : (q.k == k) = decide (q.k = k) := by by_cases h : q.k = k <;> simp [h]
 have Hb0 := Lib.hid hb0
 clear hb0 hB
 go_enter Tryz.func151, Tryz.ntmps151
 go_wp2_with fail
 go_ret
 exact ⟨by simp, Hb0.out⟩
theorem PrBuf.first {B : Nat} {W : World} {v : Value} {l : List Pr} {x : Pr} (h : PrBuf B W v (l ++ [x])) : ∃ g, v.ownBlock = some g ∧ B ≤ g ∧ g < W.heap.size ∧ ∃ s, W.cell? ⟨g, 0, none⟩ = some (.string s) := by
 rcases h.2 with ⟨_, h0⟩ | ⟨g, cap, cur, rfl, hbg, _⟩
 ·simp at h0
 ·obtain ⟨h1, _⟩ := RowP.of h
  refine ⟨g, rfl, hbg, h1.lt, ?_⟩
  exact ⟨_, by simpa using (h1.cell (a := 0) (by simp)).1⟩
def RetPut (w : World) (B : Nat) (H : Nat → Prop) (nb : Nat) (mv : Value) (mine m : List Pr) (e : Ending) (w' : World) : Prop := ∃ H', e = .returned (.tuple #[]) ∧ NegAt w' B H' nb mv mine m ∧ Keeps w.heap.size w w' H H'
theorem put_laid {w w1 w2 WA w5 : World} {B : Nat} {H : Nat → Prop} {nb : Nat} {mv rv v2 v5 : Value} {mine recd m : List Pr} {x : Pr} (h : NegAt w B H nb mv mine recd) (hblk : Blk w nb #[mv, rv] 140) (hown : ∀ k, rv.ownBlock = some k → H k ∧ k ≠ nb)
  (hb1 : Below w.heap.size w w1) (hg2 : w1.grownBy w2 rv.ownBlock) (hob : v2.ownBlock = rv.ownBlock) (hc2 : ∀ g, rv.ownBlock = some g → (∃ s, w1.cell? ⟨g, 0, none⟩ = some (.string s)) → ∃ s, w2.cell? ⟨g, 0, none⟩ = some (.string s))
  (hbA : Below w2.heap.size (w2.setCell ⟨nb, 1, none⟩ v2) WA) (hrow : PrBuf B w5 v5 (m ++ [x])) (hg5 : WA.grownBy w5 v2.ownBlock) (h5 : v5.ownBlock = v2.ownBlock ∨ (Below WA.heap.size WA w5 ∧ ∀ k, v5.ownBlock = some k → WA.heap.size ≤ k)) :
  Blk w5 nb #[mv, v2] 140 ∧ (fun H' : Nat → Prop => NegAt (w5.setCell ⟨nb, 1, none⟩ v5) B H' nb mv mine (m ++ [x]) ∧ Keeps w.heap.size w (w5.setCell ⟨nb, 1, none⟩ v5) H H') (fun k => H k ∨ v5.ownBlock = some k) := by
 have hs1 := hb1.size
 have hs2 := hg2.size
 have hsA := hbA.size
 rw [show (w2.setCell ⟨nb, 1, none⟩ v2).heap.size = w2.heap.size by simp [World.setCell]] at hsA
 have hs5 := hg5.size
 have hnb := h.base nb h.own
 have hne : ∀ k, rv.ownBlock = some k → nb ≠ k := fun k hk e => (hown k hk).2 e.symm
 -- what becomes of the blocks that were there
 have step : ∀ k, k < w.heap.size → k ≠ nb → rv.ownBlock ≠ some k → (w5.setCell ⟨nb, 1, none⟩ v5).heap[k]? = w.heap[k]? := fun k hk hkn hkr =>
  (setCell_heap_other hkn v5).trans ((hg5.block k (by omega) (by rw [hob]; exact fun e => hkr e.symm)).trans ((hbA.block k (by omega)).trans ((setCell_heap_other hkn v2).trans ((hg2.block k (by omega) (fun e => hkr e.symm)).trans (hb1.block k hk)))))
 have b2 : Blk w2 nb #[mv, rv] 140 := (hg2.block nb (by omega) (fun e => hne nb e.symm rfl)).trans ((hb1.block nb hnb.2).trans hblk)
 have b5 : Blk w5 nb #[mv, v2] 140 := (hg5.block nb (by omega) (by rw [hob]; exact fun e => hne nb e.symm rfl)).trans ((hbA.block nb (by omega)).trans (b2.set 1 v2))
 refine ⟨b5, ?_⟩
 have hkeep : Keeps w.heap.size w (w5.setCell ⟨nb, 1, none⟩ v5) H (fun k => H k ∨ v5.ownBlock = some k) := by
  refine ⟨?_, ?_, ?_, by simp [World.setCell]; omega, fun k hk hH => step k hk (fun e => hH (by rw [e]; exact h.own)) (fun e => hH (hown k e).1), fun k hk => .inl hk, fun k hk => ?_⟩
  ·exact hg5.os.trans (hbA.os.trans (hg2.os.trans hb1.os))
  ·exact hg5.tape.trans (hbA.tape.trans (hg2.tape.trans hb1.tape))
  ·exact hg5.output.trans (hbA.output.trans (hg2.output.trans hb1.output))
  ·rcases hk with hk | hk
   ·exact .inl hk
   ·rcases h5 with e | ⟨_, hn⟩
    ·rw [e, hob] at hk; exact .inl (hown k hk).1
    ·have := hn k hk; exact .inr (by omega)
 refine ⟨⟨⟨v5, ?_, ?_, fun k hk => ⟨.inr hk, ?_⟩⟩, h.mine.later hkeep.off', .inl h.own, fun k hk => ?_, fun k hk hkn => ?_⟩, hkeep⟩
 ·exact b5.set 1 v5
 ·refine World.ownsRow.kept hrow (grownBy_cell w5 nb 1 v5) (.inr (fun e => ?_))
  rcases h5 with e5 | ⟨_, hn⟩
  ·rw [e5, hob] at e; exact (hown nb e).2 rfl
  ·have := hn nb e; omega
 ·rcases h5 with e5 | ⟨_, hn⟩
  ·rw [e5, hob] at hk; exact (hown k hk).2
  ·have := hn k hk; omega
 ·show B ≤ k ∧ k < (w5.setCell ⟨nb, 1, none⟩ v5).heap.size
  rw [show (w5.setCell ⟨nb, 1, none⟩ v5).heap.size = w5.heap.size by simp [World.setCell]]
  rcases hk with hk | hk
  ·have := h.base k hk; omega
  ·exact World.ownsRow.lt hrow k hk
 ·have hcell : ∀ W : World, ∀ b i u, b ≠ k → (W.setCell ⟨b, i, none⟩ u).cell? ⟨k, 0, none⟩ = W.cell? ⟨k, 0, none⟩ := fun W b i u hb => World.cell?_of_block (w := W) (a := ⟨k, 0, none⟩) (setCell_heap_other (fun e => hb e.symm) u)
  rw [hcell w5 nb 1 v5 (fun e => hkn e.symm)]
  by_cases h5k : v5.ownBlock = some k
  ·obtain ⟨g, e, _, _, s, hs⟩ := PrBuf.first hrow
   rw [h5k] at e
   cases e
   exact ⟨s, hs⟩
  ·have hH : H k := hk.resolve_right h5k
   have hkb := h.base k hH
   obtain ⟨s, hs⟩ := h.str k hH hkn
   have hs1 : w1.cell? ⟨k, 0, none⟩ = some (.string s) := ((bcell hb1).1 k 0 hkb.2).trans hs
   have hs2 : ∃ s, w2.cell? ⟨k, 0, none⟩ = some (.string s) := by
    by_cases e : rv.ownBlock = some k
    ·exact hc2 k e ⟨s, hs1⟩
    ·exact ⟨s, (World.cell?_of_block (w := w1) (a := ⟨k, 0, none⟩) (hg2.block k (by omega) (fun e' => e e'.symm))).trans hs1⟩
   obtain ⟨s2, hs2⟩ := hs2
   have hsA2 : WA.cell? ⟨k, 0, none⟩ = some (.string s2) := (hbA.cell (p := ⟨k, 0, none⟩) (show k < w2.heap.size by omega)).trans ((hcell w2 nb 1 v2 (fun e => hkn e.symm)).trans hs2)
   refine ⟨s2, ?_⟩
   rcases h5 with e5 | ⟨hb5, _⟩
   ·refine (World.cell?_of_block (w := WA) (a := ⟨k, 0, none⟩) (hg5.block k (by omega) (fun e => h5k (by rw [e5]; exact e.symm)))).trans hsA2
   ·exact ((bcell hb5).1 k 0 (by omega)).trans hsA2
set_option maxRecDepth 100000 in
set_option maxHeartbeats 2000000 in
theorem put_any {w : World} {B : Nat} {H : Nat → Prop} {nb : Nat} {mv : Value} {mine recd : List Pr} (k d : List UInt8) (h : NegAt w B H nb mv mine recd) (hl : recd.length ≤ 900) :
  Calls Tryz.prog 116 #[.pointer (some ⟨nb, 0, none⟩), .agg #[.string (S k), .string (S d)]] w (RetPut w B H nb mv mine (recN recd k (some d))) := by
 have hm : recN recd k (some d) = recd.filter (fun x => !decide (x.k = k)) ++ [⟨k, d⟩] := by
  have e : (fun q : Pr => decide (q.k ≠ k)) = (fun x => !decide (x.k = k)) := by funext x; simp
  show recd.filter (fun q => decide (q.k ≠ k)) ++ [⟨k, d⟩] = _
  rw [e]
 rw [hm]
 have hml : (recd.filter (fun x => !decide (x.k = k))).length ≤ 900 := Nat.le_trans (List.length_filter_le _ _) hl
 obtain ⟨rv, hblk, hrec, hown⟩ := h.at_
 have HN := Lib.hid h
 have hnbB := h.base nb h.own
 obtain ⟨pm, cm, rfl⟩ := h.mine.form
 obtain ⟨pr, cr, rfl⟩ := hrec.form
 obtain ⟨w1, hw1⟩ : ∃ w1, w.alloc (.cells #[.string (S k), .string (S d)] 60) = w1 := ⟨_, rfl⟩
 have hb1 : Below w.heap.size w w1 := by rw [← hw1]; exact (Below.refl _ _).alloc (Nat.le_refl _) _
 have hP1 : Blk w1 w.heap.size #[.string (S k), .string (S d)] 60 := by rw [← hw1]; exact Blk.new w _ _
 have hblk1 := hblk.later hb1
 obtain ⟨q0, q1⟩ := hblk1.two
 have hne : ∀ g, (Value.slice pr recd.length cr).ownBlock = some g → w.heap.size ≠ g := hrec.ne (Nat.le_refl _)
 have hnn : ∀ g, (Value.slice pr recd.length cr).ownBlock = some g → nb ≠ g := fun g hg e => (hown g hg).2 e.symm
 have D := Lib.hid (deleteFuncP_any 151 #[.pointer (some ⟨w.heap.size, 0, none⟩)] (fun x => decide (x.k = k)) (enters_of Tryz.func151 (by kernel_rfl) rfl) recd (.slice pr recd.length cr) B w1 (hrec.later hb1) (by omega) (fun W' hg x => putIs_any x k d w.heap.size W' (hP1.grownP hg hne)))
 obtain ⟨m, hmm⟩ : ∃ m, recd.filter (fun x => !decide (x.k = k)) = m := ⟨_, rfl⟩
 rw [hmm] at D hml ⊢
 have HP1 := Lib.hid hP1
 have Hb1 := Lib.hid hb1
 have Hblk1 := Lib.hid hblk1
 have Hblk := Lib.hid hblk
 have Hown := Lib.hid hown
 have Hne := Lib.hid hne
 have Hnn := Lib.hid hnn
 have HnbB := Lib.hid hnbB
 clear h hblk hrec hb1 hP1 hne hnn hown hblk1 hm hmm hnbB
 go_enter Tryz.func116, Tryz.ntmps116
 go_wp2_with fail
 refine D.out.mono ?_
 rintro e w2 ⟨v2, rfl, hbuf2, hob2, hg2, hc2⟩
 have hblk2 := Hblk1.out.grownP hg2 Hnn.out
 obtain ⟨r0, r1⟩ := hblk2.two
 have r2 := hblk2.frozen 1
 have hP2 := HP1.out.grownP hg2 Hne.out
 have hnb2 := hblk2.lt
 have hno2 : ∀ g, v2.ownBlock = some g → nb ≠ g := by rw [hob2]; exact Hnn.out
 have hbuf3 : PrBuf B (w2.setCell ⟨nb, 1, none⟩ v2) v2 m := World.ownsRow.kept hbuf2 (grownBy_cell w2 nb 1 v2) (.inr (fun e => hno2 nb e rfl))
 have hblk3 : Blk (w2.setCell ⟨nb, 1, none⟩ v2) nb #[.slice pm mine.length cm, v2] 140 := hblk2.set 1 v2
 have hP3 : Blk (w2.setCell ⟨nb, 1, none⟩ v2) w.heap.size #[.string (S k), .string (S d)] 60 := hP2.other (by have := HnbB.out; omega) v2
 have hs3 : (w2.setCell ⟨nb, 1, none⟩ v2).heap.size = w2.heap.size := by simp [World.setCell]
 have HW3 := Lib.hid (rfl : w2.setCell ⟨nb, 1, none⟩ v2 = w2.setCell ⟨nb, 1, none⟩ v2)
 obtain ⟨p2, c2, rfl⟩ := hbuf2.form
 obtain ⟨w3, hw3⟩ : ∃ w3, w2.setCell ⟨nb, 1, none⟩ (.slice p2 m.length c2) = w3 := ⟨_, rfl⟩
 have Hw3 := Lib.hid hw3
 rw [hw3] at hbuf3 hblk3 hP3 hs3
 obtain ⟨WA, hWA⟩ : ∃ WA, w3.drew.alloc (.cells #[.string (S k), .string (S d)] 60) = WA := ⟨_, rfl⟩
 have hbA : Below w3.heap.size w3 WA := by rw [← hWA]; exact (Below.refl _ _).drew.alloc (Nat.le_refl _) _
 have hNA : Blk WA w3.heap.size #[.string (S k), .string (S d)] 60 := by rw [← hWA]; exact Blk.new w3.drew _ _
 obtain ⟨v5, w5, hrun, hown5, hgrow5, h5⟩ := appP_two (x := ⟨k, d⟩) (a := ⟨w3.heap.size, 0, none⟩) (hbuf3.later hbA) (fun j u hu => by
  have e1 : (⟨w3.heap.size, 0, none⟩ : Addr).add j = ⟨w3.heap.size, j, none⟩ := by simp only [Addr.add]; split <;> simp_all
  rw [e1, hNA.cell j]
  simpa using hu) (by omega) (by have h1 := HnbB.out; have h2 := hblk3.lt; have h3 := hbA.size; omega)
 obtain ⟨b5, hlaid⟩ := put_laid HN.out Hblk.out Hown.out Hb1.out hg2 hob2 hc2 (by rw [hw3, ← hs3]; exact hbA) hown5 hgrow5 h5
 have HL := Lib.hid hlaid
 obtain ⟨p5, c5, rfl⟩ := hown5.form
 have hv5 : (m ++ [(⟨k, d⟩ : Pr)]).length = m.length + 1 := by simp
 rw [hv5] at hrun HL
 have HRun := Lib.hid hrun
 obtain ⟨x0, x1⟩ := hP3.two
 obtain ⟨y0, y1⟩ := hblk3.two
 obtain ⟨x2, x3⟩ := (hP3.later hbA).two
 obtain ⟨y2, y3⟩ := (hblk3.later hbA).two
 obtain ⟨z0, z1⟩ := b5.two
 have z2 := b5.frozen 1
 clear hbuf2 hob2 hg2 hc2 hblk2 hP2 hnb2 hno2 hbuf3 hblk3 hP3 hbA hNA hrun hown5 hgrow5 h5 b5 hlaid q0 q1 HW3 Hw3 hs3 hv5
 go_wp2_with fail
 go_region_law (first
  | (refine step_append_run rfl rfl rfl rfl HRun.out ?_))
 all_goals
  go_wp2_with fail
  go_end0
  exact ⟨_, rfl, HL.out.1, HL.out.2⟩
end Go.Proofs.YtjbbbpgcegcbaaaGreatDoor
namespace Go.Proofs.YtjbbbpgcegcbaaaGreatDoor
open Go.RowKit
set_option linter.unusedVariables false
theorem ownV_len {mine : List Pr} {k : Ke} (hM : MineOk mine) (h : k.df.length ≤ 63) : (ownV mine k).length ≤ 255 := by
 unfold ownV
 cases hf : prFind mine k.nm with
 | none => simp only [Option.getD_none]; omega
 | some v =>
  obtain ⟨j, hj, e⟩ := prFind_some hf
  have := thick_okP (hM.ok mine[j] (List.getElem_mem hj))
  rw [e] at this
  exact this.2
theorem valN_own {mine : List Pr} {k : Ke} {key : List UInt8} (h : rowOf key = some k) : valN mine key = (ownV mine k, 0) := by
 unfold valN ownV
 rw [h, (rowOf_isKey h).2]
theorem keyFits_of {nm v : List UInt8} {k : Ke} (h : rowOf nm = some k) : keyFits nm v = fitK k v := by unfold keyFits; rw [h]
theorem keyRes_of {nm a b : List UInt8} {k : Ke} (h : rowOf nm = some k) : keyRes nm a b = resK k a b := by unfold keyRes; rw [h]
theorem one_some {mine : List Pr} {lg dc : Bool} {p : Pr} (hp : wrongP p = 0) : (∀ x, (oneN mine lg dc p).1 = some x → x ≠ []) ∧ (∀ x, (oneN mine lg dc p).2 = some x → x ≠ []) := by
 refine ⟨fun x h => ?_, fun x h => ?_⟩
 ·cases hr : rowOf p.k with
  | none => rw [oneN_no hr] at h; cases h; decide
  | some k =>
   rw [oneN_row hr] at h
   have hk := rowOf_ok hr
   exact oneK_said ⟨hk.2.2.1, hk.2.2.2.1⟩ hk.2.1 (wrongP_ok hp).2 h
 ·obtain ⟨_, _, _, _, h3⟩ := oneN_rec hp h
  exact h3
theorem asP_getD {k : List UInt8} {o : Option (List UInt8)} (h : ∀ x, o = some x → x ≠ []) : asP k o = if o.getD [] = [] then [] else [⟨k, o.getD []⟩] := by
 cases o with
 | none => simp [asP]
 | some x => simp [asP, h x rfl]
end Go.Proofs.YtjbbbpgcegcbaaaGreatDoor
namespace Go.Proofs.YtjbbbpgcegcbaaaGreatDoor
open Go Go.RowKit
theorem yesOrNo_any (b : Bool) (w : World) : Calls Tryz.prog 152 #[.bool b] w fun e w' => e = .returned (.string (S (yesNo b))) ∧ w = w' := by
 cases b with
 | true =>
  go_enter Tryz.func152, Tryz.ntmps152
  go_wp2_with fail
  go_ret
  exact ⟨rfl, rfl⟩
 | false =>
  go_enter Tryz.func152, Tryz.ntmps152
  go_wp2_with fail
  go_ret
  exact ⟨rfl, rfl⟩
end Go.Proofs.YtjbbbpgcegcbaaaGreatDoor
