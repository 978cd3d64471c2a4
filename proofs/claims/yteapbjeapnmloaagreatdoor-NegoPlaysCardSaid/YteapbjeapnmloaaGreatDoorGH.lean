/- Several texts in one: nego.told, stands; Own, Value, Record.  | slices.IndexFunc, DeleteFunc of pairs, with any function that says yes or no of a pair.  | nego.put: a pair behind all others, instead of what was recorded of its key.  -/
import Derived.Test.YteapbjeapnmloaaGreatDoorGD
import Derived.Test.YteapbjeapnmloaaGreatDoorGB
import Derived.Test.YteapbjeapnmloaaGreatDoorGG
import Derived.Shelf.Abstract
import Derived.BigRegion
import Derived.Deep.QuietTactic
import Derived.BigQuiet
namespace Go.Proofs.YteapbjeapnmloaaGreatDoor
open Go Go.RowKit
set_option linter.unusedVariables false
/-- a value and an error are returned -/
def RetVE (w : World) (r : List UInt8 × Int) (e : Ending) (w' : World) : Prop := e = .returned (.tuple #[.string (S r.1), errV r.2]) ∧ Below w.heap.size w w'
set_option maxRecDepth 100000 in
theorem toldN_any (l : List Pr) (v : Value) (key : List UInt8) (w : World) (hv : PrsV w v l) (hl : l.length ≤ 140737488355328) :
    Calls Tryz.prog 58 #[v, .string (S key)] w (RetVE w (valN l key)) := by
  have HV := Lib.hid hv
  obtain ⟨p, c, rfl⟩ := hv.form
  clear hv
  cases hr : rowOf key with
  | none =>
    have R := Lib.hid (show valN l key = ([], 5) by unfold valN; rw [hr])
    have C := Lib.hid (of_no w hr)
    clear hr
    go_enter Tryz.func58, Tryz.ntmps58
    go_wp2_with fail
    refine C.out.mono ?_
    rintro e w1 ⟨rfl, hb1⟩
    have Hb1 := Lib.hid (hb1.alloc hb1.size (.cells #[.string (S []), .int .i64 0, .int .i64 0, .int .i64 0, .string (S []), .bool false, .bool false] 48))
    clear hb1
    go_wp2_with fail
    go_ret2
    rw [R.out]
    exact ⟨rfl, Hb1.out⟩
  | some k =>
    have hR := show valN l key = ((prFind l key).getD k.df, 0) by unfold valN; rw [hr]
    rw [hR]
    clear hR
    obtain ⟨kn, kd, lo, hi, df, no, lg⟩ := k
    have C := Lib.hid (of_row w hr)
    have FP := Lib.hid (fun W (h : PrsV W (.slice p l.length c) l) => find_prs l key (.slice p l.length c) W h hl)
    obtain ⟨r, hfr⟩ : ∃ r, prFind l key = r := ⟨_, rfl⟩
    rw [hfr] at FP ⊢
    clear hr hfr
    go_enter Tryz.func58, Tryz.ntmps58
    go_wp2_with fail
    refine C.out.mono ?_
    rintro e w1 ⟨rfl, hb1⟩
    obtain ⟨w2, hw2⟩ : ∃ w2, w1.alloc (.cells #[.string (S kn), .int .i64 (kd : Int), .int .i64 (lo : Int), .int .i64 (hi : Int), .string (S df), .bool no, .bool lg] 48) = w2 := ⟨_, rfl⟩
    have hb2 : Below w.heap.size w w2 := by rw [← hw2]; exact hb1.alloc hb1.size _
    have Hb2 := Lib.hid hb2
    have bK : Blk w2 w1.heap.size #[.string (S kn), .int .i64 (kd : Int), .int .i64 (lo : Int), .int .i64 (hi : Int), .string (S df), .bool no, .bool lg] 48 := by rw [← hw2]; exact Blk.new w1 _ _
    have HK2 := Lib.hid bK
    obtain ⟨_, _, _, _, c4, _, _⟩ := bK.seven
    have F2 := Lib.hid (FP.out w2 (HV.out.later hb2))
    clear hb1 hb2 bK C FP
    cases r with
    | none =>
      go_wp2_with fail
      refine F2.out.mono ?_
      unfold findR
      rintro e w' ⟨rfl, hb'⟩
      have Hb' := Lib.hid (below_then Hb2.out hb')
      obtain ⟨_, _, _, _, d4, _, _⟩ := (HK2.out.later hb').seven
      clear hb' c4
      go_wp2_with fail
      go_ret2
      exact ⟨rfl, Hb'.out⟩
    | some x =>
      go_wp2_with fail
      refine F2.out.mono ?_
      unfold findR
      rintro e w' ⟨rfl, hb'⟩
      have Hb' := Lib.hid (below_then Hb2.out hb')
      clear hb' c4
      go_wp2_with fail
      go_ret2
      exact ⟨rfl, Hb'.out⟩
theorem stands_any (l : List Pr) (v : Value) (key : List UInt8) (w : World) (hv : PrsV w v l) (hl : l.length ≤ 140737488355328) :
    Calls Tryz.prog 54 #[v, .string (S key)] w fun e w' => e = .returned (.bool (prFind l key).isSome) ∧ Below w.heap.size w w' := by
  have FP := find_prs l key v w hv hl
  obtain ⟨p, c, rfl⟩ := hv.form
  obtain ⟨r, hfr⟩ : ∃ r, prFind l key = r := ⟨_, rfl⟩
  rw [hfr] at FP ⊢
  have FP := Lib.hid FP
  clear hv hfr
  cases r with
  | none =>
    go_enter Tryz.func54, Tryz.ntmps54
    go_wp2_with fail
    refine FP.out.mono ?_
    unfold findR
    rintro e w' ⟨rfl, hb'⟩
    have Hb' := Lib.hid hb'
    clear hb'
    go_wp2_with fail
    go_ret
    exact ⟨rfl, Hb'.out⟩
  | some x =>
    go_enter Tryz.func54, Tryz.ntmps54
    go_wp2_with fail
    refine FP.out.mono ?_
    unfold findR
    rintro e w' ⟨rfl, hb'⟩
    have Hb' := Lib.hid hb'
    clear hb'
    go_wp2_with fail
    go_ret
    exact ⟨rfl, Hb'.out⟩
set_option maxRecDepth 100000 in
theorem ownN_any {w : World} {B : Nat} {H : Nat → Prop} {nb : Nat} {mv : Value} {mine recd : List Pr} (key : List UInt8) (h : NegAt w B H nb mv mine recd) (hl : mine.length ≤ 140737488355328) :
    Calls Tryz.prog 35 #[.pointer (some ⟨nb, 0, none⟩), .string (S key)] w (RetVE w (valN mine key)) := by
  have O := Lib.hid (toldN_any mine mv key w h.mine.off hl)
  obtain ⟨rv, hblk, hrec, _⟩ := h.at_
  obtain ⟨q0, q1⟩ := hblk.two
  obtain ⟨p, c, rfl⟩ := h.mine.form
  obtain ⟨p', c', rfl⟩ := hrec.form
  obtain ⟨r, hr⟩ : ∃ r, valN mine key = r := ⟨_, rfl⟩
  rw [hr] at O ⊢
  obtain ⟨x, n⟩ := r
  unfold RetVE at *
  obtain ⟨ev, hev⟩ : ∃ ev, errV n = ev := ⟨_, rfl⟩
  simp only [hev] at O ⊢
  clear h hr hblk hrec hev
  go_enter Tryz.func35, Tryz.ntmps35
  go_wp2_with fail
  refine O.out.mono ?_
  rintro e w1 ⟨rfl, hb1⟩
  have Hb1 := Lib.hid hb1
  clear hb1
  go_wp2_with fail
  go_ret2
  exact ⟨rfl, Hb1.out⟩
set_option maxRecDepth 100000 in
theorem valueN_any {w : World} {B : Nat} {H : Nat → Prop} {nb : Nat} {mv : Value} {mine recd : List Pr} (key : List UInt8) (h : NegAt w B H nb mv mine recd) (hl : recd.length ≤ 140737488355328) :
    Calls Tryz.prog 27 #[.pointer (some ⟨nb, 0, none⟩), .string (S key)] w (RetVE w (valN recd key)) := by
  obtain ⟨rv, hblk, hrec, _⟩ := h.at_
  have O := Lib.hid (toldN_any recd rv key w hrec.prs hl)
  obtain ⟨q0, q1⟩ := hblk.two
  obtain ⟨p, c, rfl⟩ := h.mine.form
  obtain ⟨p', c', rfl⟩ := hrec.form
  obtain ⟨r, hr⟩ : ∃ r, valN recd key = r := ⟨_, rfl⟩
  rw [hr] at O ⊢
  obtain ⟨x, n⟩ := r
  unfold RetVE at *
  obtain ⟨ev, hev⟩ : ∃ ev, errV n = ev := ⟨_, rfl⟩
  simp only [hev] at O ⊢
  clear h hr hblk hrec hev
  go_enter Tryz.func27, Tryz.ntmps27
  go_wp2_with fail
  refine O.out.mono ?_
  rintro e w1 ⟨rfl, hb1⟩
  have Hb1 := Lib.hid hb1
  clear hb1
  go_wp2_with fail
  go_ret2
  exact ⟨rfl, Hb1.out⟩
set_option maxRecDepth 100000 in
theorem recordN_any {w : World} {B : Nat} {H : Nat → Prop} {nb : Nat} {mv : Value} {mine recd : List Pr} (h : NegAt w B H nb mv mine recd) (hl : recd.length ≤ 1000) :
    Calls Tryz.prog 22 #[.pointer (some ⟨nb, 0, none⟩)] w (RetPB w recd) := by
  obtain ⟨rv, hblk, hrec, _⟩ := h.at_
  have O := Lib.hid (cloneP_any recd rv w hrec.prs (by omega))
  obtain ⟨q0, q1⟩ := hblk.two
  obtain ⟨p, c, rfl⟩ := h.mine.form
  obtain ⟨p', c', rfl⟩ := hrec.form
  clear h hblk hrec
  go_enter Tryz.func22, Tryz.ntmps22
  go_wp2_with fail
  refine O.out.mono ?_
  rintro e w1 ⟨v, rfl, hbuf, hb1⟩
  obtain ⟨p1, c1, rfl⟩ := hbuf.form
  have Hb1 := Lib.hid hb1
  have HB := Lib.hid hbuf
  clear hb1 hbuf
  go_wp2_with fail
  go_ret
  exact ⟨_, rfl, HB.out, Hb1.out⟩
end Go.Proofs.YteapbjeapnmloaaGreatDoor
namespace Go.Proofs.YteapbjeapnmloaaGreatDoor
open Go Go.RowKit
set_option linter.unusedVariables false
theorem grown_trans {w w1 w2 : World} {r : Option Nat} (h : w.grownBy w1 r) (k : w1.grownBy w2 r) : w.grownBy w2 r :=
  ⟨k.os.trans h.os, k.tape.trans h.tape, k.output.trans h.output, Nat.le_trans h.size k.size, fun i hi hne => (k.block i (Nat.lt_of_lt_of_le hi h.size) hne).trans (h.block i hi hne)⟩
theorem grown_of {w w' : World} (h : Below w.heap.size w w') (r : Option Nat) : w.grownBy w' r := ⟨h.os, h.tape, h.output, h.size, fun k hk _ => h.block k hk⟩
/-- the function value f says q, wherever no more than this row has turned -/
def Says (W : World) (r : Option Nat) (g : Nat) (lb : Array Value) (q : Pr → Bool) : Prop :=
  ∀ W', W.grownBy W' r → ∀ x : Pr, Calls Tryz.prog g (#[.agg #[.string (S x.k), .string (S x.v)]] ++ lb) W' fun e W'' => e = .returned (.bool (q x)) ∧ Below W'.heap.size W' W''
/-- the first pair of which q says yes -/
def FirstAt (q : Pr → Bool) (l : List Pr) (n : Int) : Prop := (n = -1 ∧ ∀ x ∈ l, q x = false) ∨ ∃ k, ∃ h : k < l.length, n = (k : Int) ∧ q l[k] = true ∧ ∀ a (h : a < l.length), a < k → q l[a] = false
set_option maxRecDepth 100000 in
theorem indexFuncP_any (g : Nat) (lb : Array Value) (q : Pr → Bool) (eg : ∀ args w, (callFunc g args).run Tryz.prog w = .ok (.enter g args) w) (l : List Pr) (v : Value) (w : World) (hv : PrsV w v l) (hl : l.length ≤ 140737488355328) (hs : Says w none g lb q) :
    Calls Tryz.prog 62 #[v, .func (.func g) #[] lb] w fun e w' => ∃ n, e = .returned (.int .i64 n) ∧ FirstAt q l n ∧ Below w.heap.size w w' := by
  obtain ⟨p, c, rfl, _, hc⟩ := hv
  have Hc := Lib.hid hc
  have Hs := Lib.hid hs
  clear hc hs
  go_enter Tryz.func62, Tryz.ntmps62
  go_wp2_with fail
  go_loopw [8] (fun i wr => ∃ j : Nat, j ≤ l.length ∧ i = .int .i64 j ∧ Hid (∀ a (h : a < l.length), a < j → q l[a] = false) ∧ Below w.heap.size w wr) (fun i _ => l.length - (intOf i).toNat)
  case atStart => exact ⟨0, by omega, rfl, Lib.hid (fun a _ h => by omega), Below.refl _ _⟩
  case round =>
    obtain ⟨j, hj, rfl, Hno, hb⟩ := hrel
    have Hb := Lib.hid hb
    by_cases hlt : j < l.length
    · obtain ⟨b, o, rfl, hcl⟩ := Hc.out (by omega)
      obtain ⟨q0, q1⟩ := hcl j hlt
      rw [← (bcell hb).1 b (o + j * 2) (block_lt_of_cell (w := w) (a := ⟨b, o + j * 2, none⟩) q0)] at q0
      rw [← (bcell hb).1 b (o + j * 2 + 1) (block_lt_of_cell (w := w) (a := ⟨b, o + j * 2 + 1, none⟩) q1)] at q1
      have C := Hs.out wr (grown_of hb none) l[j]
      obtain ⟨qv, hq⟩ : ∃ b, q l[j] = b := ⟨_, rfl⟩
      have Hq := Lib.hid hq
      rw [hq] at C
      obtain ⟨y, hy⟩ : ∃ y, l[j] = y := ⟨_, rfl⟩
      rw [hy] at q0 q1 C
      have C := Lib.hid C
      have hjI : (j : Int) < (l.length : Int) := by omega
      clear hb hcl hy hq
      cases qv with
      | true =>
        go_wp2_with (go_at_fn g; refine C.out.mono ?_; rintro e w' ⟨rfl, hb'⟩; have Hb' := Lib.hid (below_then Hb.out hb'); clear hb')
        go_ret
        exact ⟨_, rfl, .inr ⟨j, hlt, rfl, Hq.out, Hno.out⟩, Hb'.out⟩
      | false =>
        go_wp2_with (go_at_fn g; refine C.out.mono ?_; rintro e w' ⟨rfl, hb'⟩; have Hb' := Lib.hid (below_then Hb.out hb'); clear hb')
        go_roundw
        case rel => exact ⟨j + 1, by omega, by go_num, Lib.hid (fun a h h' => by
          by_cases e : a = j
          · subst e; exact Hq.out
          · exact Hno.out a h (by omega)), Hb'.out⟩
        case measure => simp [intOf]; omega
    · clear hb
      go_wp2_with fail
      go_ret
      exact ⟨_, rfl, .inl ⟨rfl, fun x hx => by
        obtain ⟨a, ha, rfl⟩ := List.getElem_of_mem hx
        exact Hno.out a ha (by omega)⟩, Hb.out⟩
/-- the row without what q says yes to is returned -/
def RetDel (w : World) (B : Nat) (v : Value) (m : List Pr) (e : Ending) (w' : World) : Prop := ∃ v', e = .returned v' ∧ PrBuf B w' v' m ∧ v'.ownBlock = v.ownBlock ∧ w.grownBy w' v.ownBlock ∧ ∀ g, v.ownBlock = some g → (∃ s, w.cell? ⟨g, 0, none⟩ = some (.string s)) → ∃ s, w'.cell? ⟨g, 0, none⟩ = some (.string s)
set_option maxRecDepth 100000 in
set_option maxHeartbeats 1000000 in
theorem deleteFuncP_any (g : Nat) (lb : Array Value) (q : Pr → Bool) (eg : ∀ args w, (callFunc g args).run Tryz.prog w = .ok (.enter g args) w) (l : List Pr) (v : Value) (B : Nat) (w : World) (hv : PrBuf B w v l) (hl : l.length ≤ 1000) (hs : Says w v.ownBlock g lb q) :
    Calls Tryz.prog 31 #[v, .func (.func g) #[] lb] w (RetDel w B v (l.filter (fun x => !q x))) := by
  have I := Lib.hid (indexFuncP_any g lb q eg l v w hv.prs (by omega) (fun W' hW x => hs W' ⟨hW.os, hW.tape, hW.output, hW.size, fun k hk _ => hW.block k hk (by simp)⟩ x))
  have HV := Lib.hid hv
  have Hs := Lib.hid hs
  obtain ⟨p, c, rfl⟩ := hv.form
  have hnil : p = none → l = [] := by
    rintro rfl
    rcases hv.2 with ⟨_, h0⟩ | ⟨g', cap, cur, e, _⟩
    · exact List.eq_nil_of_length_eq_zero h0
    · cases e
  have hrow : ∀ a, p = some a → ∃ rb, a = ⟨rb, 0, none⟩ := fun a h => by
    rcases hv.2 with ⟨e, h0⟩ | ⟨g', cap, cur, e, _⟩
    · rw [h] at e; cases e
    · simp only [Value.slice.injEq] at e
      rw [h] at e
      exact ⟨g', by injection e.1⟩
  clear hv hs
  obtain ⟨R, hR⟩ : ∃ R, RetDel w B (.slice p l.length c) (l.filter (fun x => !q x)) = R := ⟨_, rfl⟩
  rw [hR]
  have HR := Lib.hid hR
  clear hR
  go_enter Tryz.func31, Tryz.ntmps31
  go_wp2_with fail
  refine I.out.mono ?_
  rintro e w1 ⟨n, rfl, hf, hb1⟩
  rcases hf with ⟨rfl, hall⟩ | ⟨k0, hk0, rfl, hq0, hn0⟩
  · have Hb1 := Lib.hid hb1
    have Hall := Lib.hid hall
    clear hb1 hall I
    go_wp2_with fail
    rw [← HR.out]
    have hfl : l.filter (fun x => !q x) = l := List.filter_eq_self.2 (fun x hx => by rw [Hall.out x hx]; rfl)
    rw [hfl]
    exact ⟨_, rfl, HV.out.later Hb1.out, rfl, grown_of Hb1.out _, fun g' _ ⟨s, hs⟩ => ⟨s, ((bcell Hb1.out).1 g' 0 (block_lt_of_cell (w := w) (a := ⟨g', 0, none⟩) hs)).trans hs⟩⟩
  · have hne1 : ((k0 : Int) == -1) = false := beq_eq_false_iff_ne.2 (by omega)
    obtain ⟨a, rfl⟩ : ∃ a, p = some a := by
      cases p with
      | some a => exact ⟨a, rfl⟩
      | none => rw [hnil rfl] at hk0; simp at hk0
    obtain ⟨rb, rfl⟩ := hrow a rfl
    obtain ⟨hrp, hbr⟩ := RowP.of HV.out
    have HP1 := Lib.hid (hrp.later hb1)
    have HD1 := Lib.hid (DelAt.start hk0 hn0 hq0)
    have Hg1 := Lib.hid (grown_of hb1 (some rb))
    have Hbr := Lib.hid hbr
    have Hlc := Lib.hid hrp.len
    have hk0I : (k0 : Int) < (l.length : Int) := by omega
    have hll : (l.length : Int) ≤ 1000 := by omega
    clear hnil hrow hrp hbr hb1 hq0 hn0 I
    go_wp2_with fail
    go_loopw [5, 6] (fun iv jv wr => ∃ (i j : Nat) (cur : List Pr), iv = .int .i64 i ∧ jv = .int .i64 j ∧ j ≤ l.length ∧ i < j ∧ Hid (DelAt q l cur i j) ∧ Hid (RowP wr rb c cur) ∧ Hid (w.grownBy wr (some rb))) (fun _ j _ => l.length - (intOf j).toNat)
    case atStart => exact ⟨k0, k0 + 1, l, rfl, by go_num, by omega, by omega, HD1, HP1, Hg1⟩
    case round =>
      obtain ⟨i, j, cur, rfl, rfl, hj, hij, HD, HP, Hg⟩ := hrel
      by_cases hlt : j < l.length
      · have hcl : j < cur.length := by rw [HD.out.len]; exact hlt
        obtain ⟨q0, q1⟩ := HP.out.cell hcl
        rw [HD.out.get hlt] at q0 q1
        have hil : i < cur.length := by omega
        obtain ⟨r0, r1⟩ := HP.out.cell hil
        have f0 := HP.out.frozen (i * 2)
        have f1 := HP.out.frozen (i * 2 + 1)
        obtain ⟨w4, hw4⟩ : ∃ w4, wr.alloc (.cells #[.string (S l[j].k), .string (S l[j].v)] 35) = w4 := ⟨_, rfl⟩
        have hb4 : Below wr.heap.size wr w4 := by rw [← hw4]; exact (Below.refl _ _).alloc (Nat.le_refl _) _
        have hX4 : Blk w4 wr.heap.size #[.string (S l[j].k), .string (S l[j].v)] 35 := by rw [← hw4]; exact Blk.new wr _ _
        have HP4 := Lib.hid (HP.out.later hb4)
        have Hg4 := Lib.hid (grown_trans Hg.out (grown_of hb4 _))
        have C := Hs.out w4 Hg4.out l[j]
        obtain ⟨qv, hq⟩ : ∃ b, q l[j] = b := ⟨_, rfl⟩
        have Hq := Lib.hid hq
        rw [hq] at C
        have Hkeep := Lib.hid (fun h => HD.out.keep hlt h)
        have Hskip := Lib.hid (fun h => HD.out.skip hlt h)
        obtain ⟨⟨yk, yd⟩, hy⟩ : ∃ y, l[j] = y := ⟨_, rfl⟩
        rw [hy] at q0 q1 C Hkeep hw4 hX4
        simp only at q0 q1 C hw4 hX4
        have Hy := Lib.hid hy
        have C := Lib.hid C
        obtain ⟨xb, hxb⟩ : ∃ xb, wr.heap.size = xb := ⟨_, rfl⟩
        rw [hxb] at hX4
        have HX4 := Lib.hid hX4
        obtain ⟨x0, x1⟩ := HX4.out.two
        have hjI : (j : Int) < (l.length : Int) := by omega
        have hiI : (i : Int) < (l.length : Int) := by omega
        have Hrl := Lib.hid HP.out.lt
        clear hcl hy hq hb4 hX4
        cases qv with
        | true =>
          go_wp2_with (go_at_fn g; refine C.out.mono ?_; rintro e w' ⟨rfl, hb'⟩; have HP' := Lib.hid (HP4.out.later hb'); have Hg' := Lib.hid (grown_trans Hg4.out (grown_of hb' _)); clear hb')
          go_roundw
          case rel => exact ⟨i, j + 1, cur, rfl, by go_num, by omega, by omega, Lib.hid (Hskip.out Hq.out), HP', Hg'⟩
          case measure => simp [intOf]; omega
        | false =>
          have hcl4 : i < cur.length := by rw [HD.out.len]; omega
          go_wp2_with (go_at_fn g; refine C.out.mono ?_; rintro e w' ⟨rfl, hb'⟩; have HP' := Lib.hid (HP4.out.later hb'); have Hg' := Lib.hid (grown_trans Hg4.out (grown_of hb' _)); have f0' := HP'.out.frozen (i * 2); have f1' := HP'.out.frozen (i * 2 + 1); have r0' := (HP'.out.cell hcl4).1; have r1' := (HP'.out.cell hcl4).2; have z0 := (HX4.out.later hb').two.1; have z1 := (HX4.out.later hb').two.2; clear hb')
          go_roundw
          case rel => exact ⟨i + 1, j + 1, cur.set i ⟨yk, yd⟩, by go_num, by go_num, by omega, by omega, Lib.hid (Hkeep.out (by rw [← Hy.out]; exact Hq.out)), Lib.hid (HP'.out.set i ⟨yk, yd⟩), Lib.hid (grown_trans (grown_trans Hg'.out (grownBy_cell _ _ _ _)) (grownBy_cell _ _ _ _))⟩
          case measure => simp [intOf]; omega
      · obtain rfl : j = l.length := by omega
        obtain ⟨hd1, hd2⟩ := HD.out.done
        have hlen := HD.out.len
        obtain ⟨vs, hclr, hvl, hvz⟩ := run_clear_pr wr rb (i * 2) (l.length - i) (c - i) (by omega) (fun t ht => by
            obtain ⟨a, r, e, hr⟩ : ∃ a r, i * 2 + t = a * 2 + r ∧ r < 2 := ⟨(i * 2 + t) / 2, (i * 2 + t) % 2, by omega, by omega⟩
            rw [e]
            obtain ⟨c0, c1⟩ := HP.out.cell (a := a) (by omega)
            obtain rfl | rfl : r = 0 ∨ r = 1 := by omega
            · rw [Nat.add_zero, c0]; rfl
            · rw [c1]; rfl) (fun t _ => HP.out.frozen _)
        have Hcut := Lib.hid (HP.out.cut i (by omega) vs)
        have Hgr := Lib.hid (grown_trans Hg.out (setCells_grown rb vs (i * 2) wr))
        have Hclr := Lib.hid hclr
        have Hd1 := Lib.hid hd1
        have Hd2 := Lib.hid hd2
        have Hz := Lib.hid (show ∃ s, (wr.setCells rb (i * 2) vs).cell? ⟨rb, 0, none⟩ = some (.string s) from by
          by_cases h0 : i = 0
          · subst h0
            have := World.cell?_setCells_in rb vs 0 wr (fun t ht => by
              obtain ⟨a, r, e, hr⟩ : ∃ a r, 0 + t = a * 2 + r ∧ r < 2 := ⟨t / 2, t % 2, by omega, by omega⟩
              rw [e]
              obtain ⟨c0, c1⟩ := HP.out.cell (a := a) (by omega)
              obtain rfl | rfl : r = 0 ∨ r = 1 := by omega
              · rw [Nat.add_zero, c0]; rfl
              · rw [c1]; rfl) 0 (by omega)
            exact ⟨S [], by rw [Nat.zero_mul]; rw [show (⟨rb, 0, none⟩ : Addr) = ⟨rb, 0 + 0, none⟩ from rfl, this, hvz _ (List.getElem_mem _)]⟩
          · have := (Hcut.out.cell (a := 0) (by rw [List.length_take]; omega)).1
            exact ⟨_, by simpa using this⟩)
        have hiI : (i : Int) < (l.length : Int) := by omega
        have hci : i < c := by have := Hlc.out; omega
        have hci1 : ¬ c = i := by omega
        have hci2 : ¬ i = c := by omega
        have hci3 : ¬ c - i = 0 := by omega
        have hci4 : ¬ c ≤ i := by omega
        have hciI : (i : Int) ≤ (c : Int) := by omega
        have hllc : (l.length : Int) ≤ (c : Int) := by have := Hlc.out; omega
        clear hd1 hd2 hvl hvz
        go_wp2_with fail
        rw [← HR.out]
        refine ⟨_, rfl, ?_, rfl, Hgr.out, fun g' e _ => by cases e; exact Hz.out⟩
        have hb := Hcut.out.buf (base := B) (m := l.filter (fun x => !q x)) (by rw [Hd2.out, ← Hd1.out, List.take_take, Nat.min_self]) Hbr.out
        rw [Hd2.out] at hb
        exact hb
end Go.Proofs.YteapbjeapnmloaaGreatDoor
namespace Go.Proofs.YteapbjeapnmloaaGreatDoor
open Go Go.RowKit
set_option linter.unusedVariables false
theorem putIs_any (q : Pr) (k d : List UInt8) (b : Nat) (w : World) (hB : Blk w b #[.string (S k), .string (S d)] 35) :
    Calls Tryz.prog 100 #[.agg #[.string (S q.k), .string (S q.v)], .pointer (some ⟨b, 0, none⟩)] w fun e w' => e = .returned (.bool (decide (q.k = k))) ∧ Below w.heap.size w w' := by
  have hb0 := (Below.refl w.heap.size w).alloc (Nat.le_refl _) (.cells #[.string (S q.k), .string (S q.v)] 35)
  obtain ⟨c0, c1⟩ := (hB.later hb0).two
  have hS : (q.k == k) = decide (q.k = k) := by by_cases h : q.k = k <;> simp [h]
  have Hb0 := Lib.hid hb0
  clear hb0 hB
  go_enter Tryz.func100, Tryz.ntmps100
  go_wp2_with fail
  go_ret
  exact ⟨by simp, Hb0.out⟩
/-- the block of a row that has grown, and its first cell -/
theorem PrBuf.first {B : Nat} {W : World} {v : Value} {l : List Pr} {x : Pr} (h : PrBuf B W v (l ++ [x])) : ∃ g, v.ownBlock = some g ∧ B ≤ g ∧ g < W.heap.size ∧ ∃ s, W.cell? ⟨g, 0, none⟩ = some (.string s) := by
  rcases h.2 with ⟨_, h0⟩ | ⟨g, cap, cur, rfl, hbg, _⟩
  · simp at h0
  · obtain ⟨h1, _⟩ := RowP.of h
    refine ⟨g, rfl, hbg, h1.lt, ?_⟩
    exact ⟨_, by simpa using (h1.cell (a := 0) (by simp)).1⟩
def RetPut (w : World) (B : Nat) (H : Nat → Prop) (nb : Nat) (mv : Value) (mine m : List Pr) (e : Ending) (w' : World) : Prop := ∃ H', e = .returned (.tuple #[]) ∧ NegAt w' B H' nb mv mine m ∧ Keeps w.heap.size w w' H H'
/-- the record's new row laid: all facts in one -/
theorem put_laid {w w1 w2 WA w5 : World} {B : Nat} {H : Nat → Prop} {nb : Nat} {mv rv v2 v5 : Value} {mine recd m : List Pr} {x : Pr} (h : NegAt w B H nb mv mine recd) (hblk : Blk w nb #[mv, rv] 93) (hown : ∀ k, rv.ownBlock = some k → H k ∧ k ≠ nb)
    (hb1 : Below w.heap.size w w1) (hg2 : w1.grownBy w2 rv.ownBlock) (hob : v2.ownBlock = rv.ownBlock) (hc2 : ∀ g, rv.ownBlock = some g → (∃ s, w1.cell? ⟨g, 0, none⟩ = some (.string s)) → ∃ s, w2.cell? ⟨g, 0, none⟩ = some (.string s))
    (hbA : Below w2.heap.size (w2.setCell ⟨nb, 1, none⟩ v2) WA) (hrow : PrBuf B w5 v5 (m ++ [x])) (hg5 : WA.grownBy w5 v2.ownBlock) (h5 : v5.ownBlock = v2.ownBlock ∨ (Below WA.heap.size WA w5 ∧ ∀ k, v5.ownBlock = some k → WA.heap.size ≤ k)) :
    Blk w5 nb #[mv, v2] 93 ∧ (fun H' : Nat → Prop => NegAt (w5.setCell ⟨nb, 1, none⟩ v5) B H' nb mv mine (m ++ [x]) ∧ Keeps w.heap.size w (w5.setCell ⟨nb, 1, none⟩ v5) H H') (fun k => H k ∨ v5.ownBlock = some k) := by
  have hs1 := hb1.size
  have hs2 := hg2.size
  have hsA := hbA.size
  rw [show (w2.setCell ⟨nb, 1, none⟩ v2).heap.size = w2.heap.size by simp [World.setCell]] at hsA
  have hs5 := hg5.size
  have hnb := h.base nb h.own
  have hne : ∀ k, rv.ownBlock = some k → nb ≠ k := fun k hk e => (hown k hk).2 e.symm
  -- what becomes of the blocks that were there
  have step : ∀ k, k < w.heap.size → k ≠ nb → rv.ownBlock ≠ some k → (w5.setCell ⟨nb, 1, none⟩ v5).heap[k]? = w.heap[k]? := fun k hk hkn hkr =>
    (setCell_heap_other hkn v5).trans ((hg5.block k (by omega) (by rw [hob]; exact fun e => hkr e.symm)).trans ((hbA.block k (by omega)).trans ((setCell_heap_other hkn v2).trans ((hg2.block k (by omega) (fun e => hkr e.symm)).trans (hb1.block k hk)))))
  have b2 : Blk w2 nb #[mv, rv] 93 := (hg2.block nb (by omega) (fun e => hne nb e.symm rfl)).trans ((hb1.block nb hnb.2).trans hblk)
  have b5 : Blk w5 nb #[mv, v2] 93 := (hg5.block nb (by omega) (by rw [hob]; exact fun e => hne nb e.symm rfl)).trans ((hbA.block nb (by omega)).trans (b2.set 1 v2))
  refine ⟨b5, ?_⟩
  have hkeep : Keeps w.heap.size w (w5.setCell ⟨nb, 1, none⟩ v5) H (fun k => H k ∨ v5.ownBlock = some k) := by
    refine ⟨?_, ?_, ?_, by simp [World.setCell]; omega, fun k hk hH => step k hk (fun e => hH (by rw [e]; exact h.own)) (fun e => hH (hown k e).1), fun k hk => .inl hk, fun k hk => ?_⟩
    · exact hg5.os.trans (hbA.os.trans (hg2.os.trans hb1.os))
    · exact hg5.tape.trans (hbA.tape.trans (hg2.tape.trans hb1.tape))
    · exact hg5.output.trans (hbA.output.trans (hg2.output.trans hb1.output))
    · rcases hk with hk | hk
      · exact .inl hk
      · rcases h5 with e | ⟨_, hn⟩
        · rw [e, hob] at hk; exact .inl (hown k hk).1
        · have := hn k hk; exact .inr (by omega)
  refine ⟨⟨⟨v5, ?_, ?_, fun k hk => ⟨.inr hk, ?_⟩⟩, h.mine.later hkeep.off', .inl h.own, fun k hk => ?_, fun k hk hkn => ?_⟩, hkeep⟩
  · exact b5.set 1 v5
  · refine World.ownsRow.kept hrow (grownBy_cell w5 nb 1 v5) (.inr (fun e => ?_))
    rcases h5 with e5 | ⟨_, hn⟩
    · rw [e5, hob] at e; exact (hown nb e).2 rfl
    · have := hn nb e; omega
  · rcases h5 with e5 | ⟨_, hn⟩
    · rw [e5, hob] at hk; exact (hown k hk).2
    · have := hn k hk; omega
  · show B ≤ k ∧ k < (w5.setCell ⟨nb, 1, none⟩ v5).heap.size
    rw [show (w5.setCell ⟨nb, 1, none⟩ v5).heap.size = w5.heap.size by simp [World.setCell]]
    rcases hk with hk | hk
    · have := h.base k hk; omega
    · exact World.ownsRow.lt hrow k hk
  · have hcell : ∀ W : World, ∀ b i u, b ≠ k → (W.setCell ⟨b, i, none⟩ u).cell? ⟨k, 0, none⟩ = W.cell? ⟨k, 0, none⟩ := fun W b i u hb => World.cell?_of_block (w := W) (a := ⟨k, 0, none⟩) (setCell_heap_other (fun e => hb e.symm) u)
    rw [hcell w5 nb 1 v5 (fun e => hkn e.symm)]
    by_cases h5k : v5.ownBlock = some k
    · obtain ⟨g, e, _, _, s, hs⟩ := PrBuf.first hrow
      rw [h5k] at e
      cases e
      exact ⟨s, hs⟩
    · have hH : H k := hk.resolve_right h5k
      have hkb := h.base k hH
      obtain ⟨s, hs⟩ := h.str k hH hkn
      have hs1 : w1.cell? ⟨k, 0, none⟩ = some (.string s) := ((bcell hb1).1 k 0 hkb.2).trans hs
      have hs2 : ∃ s, w2.cell? ⟨k, 0, none⟩ = some (.string s) := by
        by_cases e : rv.ownBlock = some k
        · exact hc2 k e ⟨s, hs1⟩
        · exact ⟨s, (World.cell?_of_block (w := w1) (a := ⟨k, 0, none⟩) (hg2.block k (by omega) (fun e' => e e'.symm))).trans hs1⟩
      obtain ⟨s2, hs2⟩ := hs2
      have hsA2 : WA.cell? ⟨k, 0, none⟩ = some (.string s2) := (hbA.cell (p := ⟨k, 0, none⟩) (show k < w2.heap.size by omega)).trans ((hcell w2 nb 1 v2 (fun e => hkn e.symm)).trans hs2)
      refine ⟨s2, ?_⟩
      rcases h5 with e5 | ⟨hb5, _⟩
      · refine (World.cell?_of_block (w := WA) (a := ⟨k, 0, none⟩) (hg5.block k (by omega) (fun e => h5k (by rw [e5]; exact e.symm)))).trans hsA2
      · exact ((bcell hb5).1 k 0 (by omega)).trans hsA2
set_option maxRecDepth 100000 in
set_option maxHeartbeats 2000000 in
theorem put_any {w : World} {B : Nat} {H : Nat → Prop} {nb : Nat} {mv : Value} {mine recd : List Pr} (k d : List UInt8) (h : NegAt w B H nb mv mine recd) (hl : recd.length ≤ 900) :
    Calls Tryz.prog 77 #[.pointer (some ⟨nb, 0, none⟩), .agg #[.string (S k), .string (S d)]] w (RetPut w B H nb mv mine (recN recd k (some d))) := by
  have hm : recN recd k (some d) = recd.filter (fun x => !decide (x.k = k)) ++ [⟨k, d⟩] := by
    have e : (fun q : Pr => decide (q.k ≠ k)) = (fun x => !decide (x.k = k)) := by funext x; simp
    show recd.filter (fun q => decide (q.k ≠ k)) ++ [⟨k, d⟩] = _
    rw [e]
  rw [hm]
  have hml : (recd.filter (fun x => !decide (x.k = k))).length ≤ 900 := Nat.le_trans (List.length_filter_le _ _) hl
  obtain ⟨rv, hblk, hrec, hown⟩ := h.at_
  have HN := Lib.hid h
  have hnbB := h.base nb h.own
  obtain ⟨pm, cm, rfl⟩ := h.mine.form
  obtain ⟨pr, cr, rfl⟩ := hrec.form
  obtain ⟨w1, hw1⟩ : ∃ w1, w.alloc (.cells #[.string (S k), .string (S d)] 35) = w1 := ⟨_, rfl⟩
  have hb1 : Below w.heap.size w w1 := by rw [← hw1]; exact (Below.refl _ _).alloc (Nat.le_refl _) _
  have hP1 : Blk w1 w.heap.size #[.string (S k), .string (S d)] 35 := by rw [← hw1]; exact Blk.new w _ _
  have hblk1 := hblk.later hb1
  obtain ⟨q0, q1⟩ := hblk1.two
  have hne : ∀ g, (Value.slice pr recd.length cr).ownBlock = some g → w.heap.size ≠ g := hrec.ne (Nat.le_refl _)
  have hnn : ∀ g, (Value.slice pr recd.length cr).ownBlock = some g → nb ≠ g := fun g hg e => (hown g hg).2 e.symm
  have D := Lib.hid (deleteFuncP_any 100 #[.pointer (some ⟨w.heap.size, 0, none⟩)] (fun x => decide (x.k = k)) (enters_of Tryz.func100 (by kernel_rfl) rfl) recd (.slice pr recd.length cr) B w1 (hrec.later hb1) (by omega) (fun W' hg x => putIs_any x k d w.heap.size W' (hP1.grownP hg hne)))
  obtain ⟨m, hmm⟩ : ∃ m, recd.filter (fun x => !decide (x.k = k)) = m := ⟨_, rfl⟩
  rw [hmm] at D hml ⊢
  have HP1 := Lib.hid hP1
  have Hb1 := Lib.hid hb1
  have Hblk1 := Lib.hid hblk1
  have Hblk := Lib.hid hblk
  have Hown := Lib.hid hown
  have Hne := Lib.hid hne
  have Hnn := Lib.hid hnn
  have HnbB := Lib.hid hnbB
  clear h hblk hrec hb1 hP1 hne hnn hown hblk1 hm hmm hnbB
  go_enter Tryz.func77, Tryz.ntmps77
  go_wp2_with fail
  refine D.out.mono ?_
  rintro e w2 ⟨v2, rfl, hbuf2, hob2, hg2, hc2⟩
  have hblk2 := Hblk1.out.grownP hg2 Hnn.out
  obtain ⟨r0, r1⟩ := hblk2.two
  have r2 := hblk2.frozen 1
  have hP2 := HP1.out.grownP hg2 Hne.out
  have hnb2 := hblk2.lt
  have hno2 : ∀ g, v2.ownBlock = some g → nb ≠ g := by rw [hob2]; exact Hnn.out
  have hbuf3 : PrBuf B (w2.setCell ⟨nb, 1, none⟩ v2) v2 m := World.ownsRow.kept hbuf2 (grownBy_cell w2 nb 1 v2) (.inr (fun e => hno2 nb e rfl))
  have hblk3 : Blk (w2.setCell ⟨nb, 1, none⟩ v2) nb #[.slice pm mine.length cm, v2] 93 := hblk2.set 1 v2
  have hP3 : Blk (w2.setCell ⟨nb, 1, none⟩ v2) w.heap.size #[.string (S k), .string (S d)] 35 := hP2.other (by have := HnbB.out; omega) v2
  have hs3 : (w2.setCell ⟨nb, 1, none⟩ v2).heap.size = w2.heap.size := by simp [World.setCell]
  have HW3 := Lib.hid (rfl : w2.setCell ⟨nb, 1, none⟩ v2 = w2.setCell ⟨nb, 1, none⟩ v2)
  obtain ⟨p2, c2, rfl⟩ := hbuf2.form
  obtain ⟨w3, hw3⟩ : ∃ w3, w2.setCell ⟨nb, 1, none⟩ (.slice p2 m.length c2) = w3 := ⟨_, rfl⟩
  have Hw3 := Lib.hid hw3
  rw [hw3] at hbuf3 hblk3 hP3 hs3
  obtain ⟨WA, hWA⟩ : ∃ WA, w3.drew.alloc (.cells #[.string (S k), .string (S d)] 35) = WA := ⟨_, rfl⟩
  have hbA : Below w3.heap.size w3 WA := by rw [← hWA]; exact (Below.refl _ _).drew.alloc (Nat.le_refl _) _
  have hNA : Blk WA w3.heap.size #[.string (S k), .string (S d)] 35 := by rw [← hWA]; exact Blk.new w3.drew _ _
  obtain ⟨v5, w5, hrun, hown5, hgrow5, h5⟩ := appP_two (x := ⟨k, d⟩) (a := ⟨w3.heap.size, 0, none⟩) (hbuf3.later hbA) (fun j u hu => by
    have e1 : (⟨w3.heap.size, 0, none⟩ : Addr).add j = ⟨w3.heap.size, j, none⟩ := by simp only [Addr.add]; split <;> simp_all
    rw [e1, hNA.cell j]
    simpa using hu) (by omega) (by have h1 := HnbB.out; have h2 := hblk3.lt; have h3 := hbA.size; omega)
  obtain ⟨b5, hlaid⟩ := put_laid HN.out Hblk.out Hown.out Hb1.out hg2 hob2 hc2 (by rw [hw3, ← hs3]; exact hbA) hown5 hgrow5 h5
  have HL := Lib.hid hlaid
  obtain ⟨p5, c5, rfl⟩ := hown5.form
  have hv5 : (m ++ [(⟨k, d⟩ : Pr)]).length = m.length + 1 := by simp
  rw [hv5] at hrun HL
  have HRun := Lib.hid hrun
  obtain ⟨x0, x1⟩ := hP3.two
  obtain ⟨y0, y1⟩ := hblk3.two
  obtain ⟨x2, x3⟩ := (hP3.later hbA).two
  obtain ⟨y2, y3⟩ := (hblk3.later hbA).two
  obtain ⟨z0, z1⟩ := b5.two
  have z2 := b5.frozen 1
  clear hbuf2 hob2 hg2 hc2 hblk2 hP2 hnb2 hno2 hbuf3 hblk3 hP3 hbA hNA hrun hown5 hgrow5 h5 b5 hlaid q0 q1 HW3 Hw3 hs3 hv5
  go_wp2_with fail
  go_region_law (first
    | (refine step_append_run rfl rfl rfl rfl HRun.out ?_))
  all_goals
    go_wp2_with fail
    go_end0
    exact ⟨_, rfl, HL.out.1, HL.out.2⟩
end Go.Proofs.YteapbjeapnmloaaGreatDoor
