/- Several texts in one: pairs.Right, first, Parse, Find.  | pairs.Parse, pairs.Find.  | strings.Builder: WriteString and String, by the shelf's contracts, laid by hand (the shelf's own laying can't find two types that this closure doesn't name).  | pairs.Print.  | quaymasterkeep.paired.  -/
import Derived.Test.YtlcadichpcdgpaaGreatDoorGI
import Derived.Test.YtlcadichpcdgpaaGreatDoorShCut
import Derived.Test.YtlcadichpcdgpaaGreatDoorGB
import Derived.StillTailTactics
import Derived.Test.YtlcadichpcdgpaaGreatDoorGD
import Derived.Test.YtlcadichpcdgpaaGreatDoorRows
import Derived.Shelf.Strings.BuilderF
namespace Go.Proofs.YtlcadichpcdgpaaGreatDoor
open Go.RowKit
theorem cut0_any (c : UInt8) (s : List UInt8) (w : World) (hl : s.length ≤ 1000000) (hm : MaxCell w) :
    Calls Tryz.prog 55 #[.string (S s), .string (S [c])] w fun e w' => e = .returned (match cut1 c s with
      | none => .tuple #[.string (S s), .string (S []), .bool false]
      | some (a, b) => .tuple #[.string (S a), .string (S b), .bool true]) ∧ ∃ n, w' = w.drewN n := by
  obtain ⟨m, hm⟩ := hm
  have C := Tryz.strings_Cut (S s) (S [c]) m w (by rw [S_size]; omega) hm
  have e1 : (S s).data.toList = s := by simp [S]
  have e2 : (S [c]).data.toList = [c] := by simp [S]
  rw [e1, e2, cut_one] at C
  cases h : cut1 c s with
  | none => rw [h] at C; exact C
  | some q => obtain ⟨a, b⟩ := q; rw [h] at C; exact C
theorem cut0_none {c : UInt8} {s : List UInt8} (w : World) (hl : s.length ≤ 1000000) (hm : MaxCell w) (h : cut1 c s = none) :
    Calls Tryz.prog 55 #[.string (S s), .string (S [c])] w fun e w' => e = .returned (.tuple #[.string (S s), .string (S []), .bool false]) ∧ ∃ n, w' = w.drewN n := by
  have C := cut0_any c s w hl hm
  rw [h] at C
  exact C
theorem cut0_some {c : UInt8} {s a b : List UInt8} (w : World) (hl : s.length ≤ 1000000) (hm : MaxCell w) (h : cut1 c s = some (a, b)) :
    Calls Tryz.prog 55 #[.string (S s), .string (S [c])] w fun e w' => e = .returned (.tuple #[.string (S a), .string (S b), .bool true]) ∧ ∃ n, w' = w.drewN n := by
  have C := cut0_any c s w hl hm
  rw [h] at C
  exact C
/-- a pair, a rest and a number are returned -/
def RetFirst (w : World) (r : Int × Pr × List UInt8) (e : Ending) (w' : World) : Prop := e = .returned (.tuple #[.agg #[.string (S r.2.1.k), .string (S r.2.1.v)], .string (S r.2.2), .int .i64 r.1]) ∧ Below w.heap.size w w'
set_option maxRecDepth 100000 in
theorem first_pr (s : List UInt8) (w : World) (hl : s.length ≤ 1000000) (hm : MaxCell w) :
    Calls Tryz.prog 42 #[.string (S s)] w (RetFirst w (prFirst s)) := by
  have hb0 := (Below.refl w.heap.size w).alloc (Nat.le_refl _) (.cells #[.string (S []), .string (S [])] 40)
  have Hb0 := Lib.hid hb0
  have hm1 := hm.later hb0
  have HM := Lib.hid hm1
  have HK := Lib.hid (Blk.new w #[.string (S []), .string (S [])] 40)
  cases h : cut1 0 s with
  | none =>
    have E := Lib.hid (prFirst_end h)
    have C := Lib.hid (cut0_none _ hl hm1 h)
    clear hb0 hm hm1 h
    go_enter Tryz.func42, Tryz.ntmps42
    go_wp2_with fail
    refine C.out.mono ?_
    rintro e w1 ⟨rfl, n, rfl⟩
    obtain ⟨q0, q1⟩ := (HK.out.drewN n).two
    have f0 := (HK.out.drewN n).frozen 0
    have f1 := (HK.out.drewN n).frozen 1
    have Hb1 := Lib.hid (below_drewN Hb0.out n)
    generalize (w.alloc (.cells #[.string (S []), .string (S [])] 40)).drewN n = w1 at q0 q1 f0 f1 Hb1 ⊢
    go_wp2_with fail
    refine bodyPost_ret (v := .tuple #[.agg #[.string (S []), .string (S [])], .string (S []), .int .i64 7]) (by simp [results, Tryz.results42, go_sem, q0, q1]) rfl ?_
    rw [E.out]
    exact ⟨rfl, (Hb1.out.setCell (Nat.le_refl _) _).setCell (Nat.le_refl _) _⟩
  | some q =>
    obtain ⟨t, r⟩ := q
    have hs := (cut1_some h).1
    have hlt : t.length ≤ 1000000 := by have := congrArg List.length hs; simp at this; omega
    have C := Lib.hid (cut0_some _ hl hm1 h)
    cases h2 : cut1 61 t with
    | none =>
      have E := Lib.hid (prFirst_form h h2)
      have C2 := fun n => Lib.hid (cut0_none _ hlt (hm1.later (below_drawn n)) h2)
      clear hb0 hm hm1 h hs h2
      go_enter Tryz.func42, Tryz.ntmps42
      go_wp2_with fail
      refine C.out.mono ?_
      rintro e w1 ⟨rfl, n, rfl⟩
      go_wp2_with fail
      refine (C2 _).out.mono ?_
      rintro e w1 ⟨rfl, n2, rfl⟩
      have HK2 := (HK.out.drewN n).drewN n2
      obtain ⟨q0, q1⟩ := HK2.two
      have f0 := HK2.frozen 0
      have f1 := HK2.frozen 1
      have Hb1 := Lib.hid (below_drewN (below_drewN Hb0.out n) n2)
      clear HK2
      generalize ((w.alloc (.cells #[.string (S []), .string (S [])] 40)).drewN n).drewN n2 = w1 at q0 q1 f0 f1 Hb1 ⊢
      go_wp2_with fail
      refine bodyPost_ret (v := .tuple #[.agg #[.string (S []), .string (S [])], .string (S []), .int .i64 3]) (by simp [results, Tryz.results42, go_sem, q0, q1]) rfl ?_
      rw [E.out]
      exact ⟨rfl, (Hb1.out.setCell (Nat.le_refl _) _).setCell (Nat.le_refl _) _⟩
    | some q =>
      obtain ⟨k, v⟩ := q
      have E := Lib.hid (prFirst_good h h2)
      have C2 := fun n => Lib.hid (cut0_some _ hlt (hm1.later (below_drawn n)) h2)
      clear hb0 hm hm1 h hs h2
      go_enter Tryz.func42, Tryz.ntmps42
      go_wp2_with fail
      refine C.out.mono ?_
      rintro e w1 ⟨rfl, n, rfl⟩
      go_wp2_with fail
      refine (C2 _).out.mono ?_
      rintro e w1 ⟨rfl, n2, rfl⟩
      have HK2 := (HK.out.drewN n).drewN n2
      obtain ⟨q0, q1⟩ := HK2.two
      have f0 := HK2.frozen 0
      have f1 := HK2.frozen 1
      have Hb1 := Lib.hid (below_drewN (below_drewN Hb0.out n) n2)
      clear HK2
      generalize ((w.alloc (.cells #[.string (S []), .string (S [])] 40)).drewN n).drewN n2 = w1 at q0 q1 f0 f1 Hb1 ⊢
      go_wp2_with fail
      refine bodyPost_ret (v := .tuple #[.agg #[.string (S k), .string (S v)], .string (S r), .int .i64 0]) (by simp [results, Tryz.results42, go_sem, q0, q1]) rfl ?_
      rw [E.out]
      exact ⟨rfl, (Hb1.out.setCell (Nat.le_refl _) _).setCell (Nat.le_refl _) _⟩
end Go.Proofs.YtlcadichpcdgpaaGreatDoor
namespace Go.Proofs.YtlcadichpcdgpaaGreatDoor
open Go.RowKit
set_option maxRecDepth 100000 in
set_option maxHeartbeats 1000000 in
theorem parse_any (s : List UInt8) (w : World) (hl : s.length ≤ 1000000) (hm : MaxCell w) :
    Calls Tryz.prog 26 #[.string (S s)] w (RetPE w (prParse s)) := by
  have Hm := Lib.hid hm
  obtain ⟨i0, hi, hz0, hz1, hz2⟩ := infoPr
  clear hm
  go_enter Tryz.func26, Tryz.ntmps26
  go_wp2_with fail
  go_loopg [0, 4] s.length (fun g t x wr => ∃ (r : List UInt8) (acc : List Pr), t = .string (S r) ∧ r.length ≤ g ∧ r.length ≤ s.length ∧ acc.length ≤ 60 ∧ prReadF g r acc = prParse s ∧ PrBuf w.heap.size wr x acc ∧ Below w.heap.size w wr)
  case atStart => exact ⟨s, [], rfl, Nat.le_refl _, Nat.le_refl _, by simp, rfl, PrBuf.nil _ _, Below.refl _ _⟩
  case round =>
    obtain ⟨r, acc, rfl, hg, hrs, ha, hr, hbuf, hb⟩ := hrel
    have Hb := Lib.hid hb
    have Hbuf := Lib.hid hbuf
    obtain ⟨pv, cv, rfl⟩ := hbuf.form
    by_cases h0 : r = []
    · subst h0
      rw [prReadF_nil] at hr
      have Hr := Lib.hid hr
      clear hb hbuf hr hg
      go_wp2_with fail
      go_ret2
      rw [← Hr.out]
      exact ⟨_, _, rfl, Hbuf.out.prs, .good, Hb.out⟩
    · have hpos := List.length_pos_iff.2 h0
      obtain ⟨g1, rfl⟩ : ∃ g1, gk = g1 + 1 := ⟨gk - 1, by omega⟩
      rw [prReadF_succ, if_neg h0] at hr
      have FA := Lib.hid (first_pr r _ (by omega) (Hm.out.later hb))
      have FW := prFirst_wr (s := r)
      obtain ⟨⟨n, ⟨k, d⟩, t⟩, hfa⟩ : ∃ q, prFirst r = q := ⟨_, rfl⟩
      rw [hfa] at hr FW FA
      simp only at hr FW
      have hie : r.isEmpty = false := by cases r with
        | nil => exact absurd rfl h0
        | cons _ _ => rfl
      have Hr := Lib.hid hr
      have HFW := Lib.hid FW
      have Hg := Lib.hid hg
      have Hrs := Lib.hid hrs
      clear hb hbuf hfa FW hr hg hrs hpos
      go_wp2_with fail
      refine FA.out.mono ?_
      rintro e w1 ⟨rfl, hb1⟩
      have hb1' := below_then Hb.out hb1
      have Hlow1 := Lib.hid (hb1'.alloc hb1'.size (.cells #[.string (S k), .string (S d)] 40))
      have HB1 := Lib.hid ((Hbuf.out.later hb1).alloc (.cells #[.string (S k), .string (S d)] 40))
      have HBlk := Lib.hid (Blk.new w1 #[.string (S k), .string (S d)] 40)
      have Hne := Lib.hid (Hbuf.out.ne hb1.size)
      have Hge := Lib.hid Hbuf.out.ge
      have hsz1 : w.heap.size ≤ w1.heap.size := hb1'.size
      clear hb1 hb1' FA
      by_cases hn : n = 0
      · subst hn
        rw [if_neg (by simp)] at Hr
        by_cases h60 : acc.length = 60
        · rw [if_pos h60] at Hr
          clear HFW
          go_wp2_with fail
          go_ret2
          rw [← Hr.out]
          exact ⟨_, _, rfl, PrsV.nil _, .bare 4 (by decide), Hlow1.out⟩
        · rw [if_neg h60] at Hr
          have h60b : ((acc.length : Int) == 60) = false := by simp; omega
          have hw := HFW.out rfl
          have hwl := congrArg List.length hw
          rw [List.length_append, wrP_len] at hwl
          simp only at hwl
          have hrs := Hrs.out
          have WW := fun W => Lib.hid (wrong_pr ⟨k, d⟩ W (by simp only; omega) (by simp only; omega))
          obtain ⟨m, hwm⟩ : ∃ m, wrongP ⟨k, d⟩ = m := ⟨_, rfl⟩
          rw [hwm] at Hr
          simp only [hwm] at WW
          have Htl := Lib.hid (show t.length + 2 ≤ r.length by omega)
          obtain ⟨HA1, HA2, HA3, HA4, HA5⟩ := appP_sides k d (w1.alloc (.cells #[.string (S k), .string (S d)] 40)) (w1.heap.size + 1) acc.length w.heap.size (by simp) (by omega) (by omega)
          clear hw hwl hrs hwm HFW
          go_wp2_with fail
          refine (WW _).out.mono ?_
          rintro e w2 ⟨rfl, hb2⟩
          have Hlow2 := Lib.hid (below_then Hlow1.out hb2)
          have HB2 := Lib.hid (HB1.out.later hb2)
          have HBlk2 := Lib.hid (HBlk.out.later hb2)
          have Hsz2 := Lib.hid hb2.size
          clear hb2 WW
          by_cases hm0 : m = 0
          · subst hm0
            rw [if_neg (by simp)] at Hr
            obtain ⟨q0, q1⟩ := HBlk2.out.two
            have hsz2 : w.heap.size ≤ w2.heap.size := Hlow2.out.size
            obtain ⟨HA1, HA2, HA3, HA4, HA5⟩ := appP_sides k d w2 w2.heap.size acc.length w.heap.size rfl (by omega) hsz2
            have HBa := Lib.hid (HB2.out.alloc (.cells #[.string (S k), .string (S d)] 40))
            go_wp2_with (at_builtin; refine wpList_append_own _ rfl _ _ 27 rfl w.heap.size 40 i0 (.agg #[.string (S []), .string (S [])]) 2 32 Tryz.underlying27 hi hz0 hz1 hz2 rfl (by decide) (.slice pv acc.length cv) acc.length (prsVs acc) rfl HBa.out ⟨w2.heap.size, 0, none⟩ 1 1 [.string (S k), .string (S d)] rfl rfl HA1.out HA2.out HA3.out HA4.out HA5.out ?_)
            intro v' wa hown hgrow hnil
            have hown' : PrBuf w.heap.size wa v' (acc ++ [⟨k, d⟩]) := by
              unfold PrBuf
              rw [prsVs_app, List.length_append]
              exact hown
            have Hlow3 := Lib.hid ((Hlow2.out.alloc Hlow2.out.size (.cells #[.string (S k), .string (S d)] 40)).grown hgrow (by simp; omega) Hge.out)
            have Hown := Lib.hid hown'
            clear hown hown' hgrow hnil q0 q1
            go_wp2_with fail
            go_roundg g1
            case measure => omega
            case rel => exact ⟨t, acc ++ [⟨k, d⟩], rfl, by have := Htl.out; have := Hg.out; omega, by have := Htl.out; have := Hrs.out; omega, by simp; omega, Hr.out, Hown.out, Hlow3.out⟩
          · rw [if_pos hm0] at Hr
            have hmb : (m != 0) = true := by simpa using hm0
            go_wp2_with fail
            go_ret2
            rw [← Hr.out]
            exact ⟨_, _, rfl, PrsV.nil _, .placed _ m acc.length hm0 (by simp) (by simp), Hlow2.out.alloc Hlow2.out.size _⟩
      · rw [if_pos hn] at Hr
        have hnb : (n == 0) = false := by simpa using hn
        have hnb2 : (n != 0) = true := by simpa using hn
        clear HFW
        go_wp2_with fail
        go_ret2
        rw [← Hr.out]
        exact ⟨_, _, rfl, PrsV.nil _, .placed _ n acc.length hn (by simp) (by simp), Hlow1.out.alloc Hlow1.out.size _⟩
end Go.Proofs.YtlcadichpcdgpaaGreatDoor
namespace Go.Proofs.YtlcadichpcdgpaaGreatDoor
open Go.RowKit
def bldRen : Go.Shelf.Ren := ⟨fun | 166 => 40 | 169 => 41 | 240 => 54 | 276 => 64 | n => n,
  fun | 0 => 0 | 3 => 3 | 4 => 4 | 5 => 5 | 9 => 9 | 20 => 20 | 37 => 80 | 70 => 79 | 72 => 82 | 75 => 33 | 80 => 85 | 127 => 108 | 164 => 96 | n => n, fun | n => n⟩
theorem bldLays166 : Go.Proofs.Lays.n166 Tryz.prog bldRen := {
  mixed := by kernel_rfl
  f166 := Tryz.func40.trans (congrArg some (by kernel_rfl))
  f240 := Tryz.func54.trans (congrArg some (by kernel_rfl))
  f276 := Tryz.func64.trans (congrArg some (by kernel_rfl))
  t0 := Tryz.underlying0
  a0 := Tryz.isAgg0
  z0 := Tryz.sizeOf0
  v0 := Tryz.zeroValue0
  t3 := Tryz.underlying3
  a3 := Tryz.isAgg3
  z3 := Tryz.sizeOf3
  v3 := Tryz.zeroValue3
  t4 := Tryz.underlying4
  a4 := Tryz.isAgg4
  z4 := Tryz.sizeOf4
  v4 := Tryz.zeroValue4
  t9 := Tryz.underlying9
  a9 := Tryz.isAgg9
  z9 := Tryz.sizeOf9
  v9 := Tryz.zeroValue9
  t20 := Tryz.underlying20
  a20 := Tryz.isAgg20
  z20 := Tryz.sizeOf20
  v20 := Tryz.zeroValue20
  t37 := Tryz.underlying80
  a37 := Tryz.isAgg80
  z37 := Tryz.sizeOf80
  v37 := Tryz.zeroValue80
  t70 := Tryz.underlying79
  a70 := Tryz.isAgg79
  z70 := Tryz.sizeOf79
  v70 := Tryz.zeroValue79
  t72 := Tryz.underlying82
  a72 := Tryz.isAgg82
  z72 := Tryz.sizeOf82
  v72 := Tryz.zeroValue82
  t75 := Tryz.underlying33
  a75 := Tryz.isAgg33
  z75 := Tryz.sizeOf33
  v75 := Tryz.zeroValue33
  t164 := Tryz.underlying96
  a164 := Tryz.isAgg96
  z164 := Tryz.sizeOf96
  v164 := Tryz.zeroValue96 }
theorem bldLays169 : Go.Proofs.Lays.n169 Tryz.prog bldRen := {
  mixed := by kernel_rfl
  f169 := Tryz.func41.trans (congrArg some (by kernel_rfl))
  t0 := Tryz.underlying0
  a0 := Tryz.isAgg0
  z0 := Tryz.sizeOf0
  v0 := Tryz.zeroValue0
  t3 := Tryz.underlying3
  a3 := Tryz.isAgg3
  z3 := Tryz.sizeOf3
  v3 := Tryz.zeroValue3
  t9 := Tryz.underlying9
  a9 := Tryz.isAgg9
  z9 := Tryz.sizeOf9
  v9 := Tryz.zeroValue9
  t37 := Tryz.underlying80
  a37 := Tryz.isAgg80
  z37 := Tryz.sizeOf80
  v37 := Tryz.zeroValue80
  t70 := Tryz.underlying79
  a70 := Tryz.isAgg79
  z70 := Tryz.sizeOf79
  v70 := Tryz.zeroValue79
  t72 := Tryz.underlying82
  a72 := Tryz.isAgg82
  z72 := Tryz.sizeOf82
  v72 := Tryz.zeroValue82
  t127 := Tryz.underlying108
  a127 := Tryz.isAgg108
  z127 := Tryz.sizeOf108
  v127 := Tryz.zeroValue108 }
theorem bldExtra : Builder.Extra Tryz.prog bldRen := {
  sizeBuilder := by kernel_rfl
  liesBuilder := by kernel_rfl
  t5 := Tryz.underlying5
  a5 := Tryz.isAgg5
  z5 := Tryz.sizeOf5
  v5 := Tryz.zeroValue5
  infoByte := by kernel_rfl
  cellsByte := by kernel_rfl
  sizeByte := by kernel_rfl
  neB5 := by decide }
/-- the builder at b, made by the call (B: from where on), holds these bytes -/
def BldAt (W : World) (B b : Nat) (l : List UInt8) : Prop := Lib.IsBuilderF 82 5 B b (Lib.byteCells l) W
theorem BldAt.alloc {W : World} {B b : Nat} {l : List UInt8} (h : BldAt W B b l) (o : Obj) : BldAt (W.alloc o) B b l := h.elim (fun h => .inl (h.alloc o)) (fun h => .inr (h.alloc o))
theorem BldAt.new (w : World) : BldAt (w.alloc (.cells #[.pointer none, .slice none 0 0] 82)) w.heap.size w.heap.size [] :=
  .inl ⟨Nat.le_refl _, .slice none 0 0, Blk.new w _ _, ⟨rfl, .inl ⟨rfl, rfl⟩⟩, by simp [Value.ownBlock]⟩
theorem bld_write {W : World} {B b : Nat} {l : List UInt8} (s : List UInt8) (h : BldAt W B b l) (hl : l.length + s.length ≤ 140737488355328) (hB : B ≤ W.heap.size) :
    Calls Tryz.prog 40 #[.pointer (some ⟨b, 0, none⟩), .string (S s)] W fun e W' => e = .returned (.tuple #[.int .i64 (s.length : Nat), .nilIface]) ∧ BldAt W' B b (l ++ s) ∧ Below B W W' := by
  have C := Any.Builder_WriteString_f bldLays166 bldExtra B b (Lib.byteCells l) (S s) W h (by rw [Lib.byteCells_length, S_size]; exact hl) hB
  refine C.mono ?_
  rintro e W' ⟨rfl, h1, h2⟩
  refine ⟨by rw [S_size], .inr ?_, h2⟩
  rw [Lib.byteCells_append]
  have e1 : Lib.strCells (S s) = Lib.byteCells s := by simp [Lib.strCells, Lib.byteCells, S]
  rw [e1] at h1
  exact h1
theorem bld_string {W : World} {B b : Nat} {l : List UInt8} (h : BldAt W B b l) (hB : B ≤ W.heap.size) :
    Calls Tryz.prog 41 #[.pointer (some ⟨b, 0, none⟩)] W fun e W' => e = .returned (.string (S l)) ∧ Below B W W' := by
  refine (Any.Builder_String_any_f bldLays169 bldExtra B b l W h hB).mono ?_
  rintro e W' ⟨rfl, _, h2⟩
  exact ⟨rfl, h2⟩
end Go.Proofs.YtlcadichpcdgpaaGreatDoor
namespace Go.Proofs.YtlcadichpcdgpaaGreatDoor
open Go.RowKit
theorem prPrint_bad {l : List Pr} (h : (prRight l).1 ≠ 0) : prPrint l = ([], prRight l) := by unfold prPrint; rw [if_neg h]
theorem prPrint_ok {l : List Pr} (h : (prRight l).1 = 0) : prPrint l = (prBytes l, 0, -1) := by unfold prPrint; rw [if_pos h]
theorem prBytes_take {l : List Pr} {j : Nat} (h : j < l.length) : prBytes (l.take (j + 1)) = prBytes (l.take j) ++ wrP l[j] := by
  rw [List.take_succ_eq_append_getElem h, prBytes_app, prBytes_one]
theorem prBytes_small : ∀ {l : List Pr}, okPs l → (prBytes l).length ≤ l.length * 320
  | [], _ => by simp [prBytes]
  | p :: l, h => by
    have ih := prBytes_small (l := l) (fun q hq => h q (List.mem_cons_of_mem _ hq))
    have h1 := thick_okP (h p (List.mem_cons_self ..))
    rw [prBytes_cons, List.length_append, wrP_len, List.length_cons]
    omega
set_option maxRecDepth 100000 in
theorem print_prs (l : List Pr) (v : Value) (w : World) (hv : PrsV w v l) (hf : fitPs l) :
    Calls Tryz.prog 25 #[v] w (RetSE w (prPrint l)) := by
  have R := Lib.hid (right_prs l v w hv hf)
  have HV := Lib.hid hv
  by_cases h0 : (prRight l).1 = 0
  · obtain ⟨hk, hs, hr⟩ := prRight_is h0
    have Hk := Lib.hid hk
    have E := Lib.hid (show prPrint l = (prBytes l, 0, -1) by unfold prPrint; rw [if_pos h0])
    have hll : (l.length : Int) ≤ 60 := by omega
    rw [hr] at R
    clear hv hf h0 hr hk
    obtain ⟨p, c, rfl⟩ := HV.out.form
    go_enter Tryz.func25, Tryz.ntmps25
    go_wp2_with fail
    refine R.out.mono ?_
    rintro e w1 ⟨ev, rfl, he, hb1⟩
    obtain rfl := he.zero
    have Hb1 := Lib.hid hb1
    have HD := Lib.hid (BldAt.new w1)
    have Hb2 := Lib.hid (hb1.alloc hb1.size (.cells #[.pointer none, .slice none 0 0] 82))
    have hsz1 := hb1.size
    obtain ⟨B, hB⟩ : ∃ B, w1.heap.size = B := ⟨_, rfl⟩
    rw [hB] at HD hsz1
    clear he hb1 R
    go_wp2_with fail
    try simp only [hB]
    clear hB
    go_loopw [15] (fun i wr => ∃ j : Nat, j ≤ l.length ∧ i = .int .i64 j ∧ BldAt wr B B (prBytes (l.take j)) ∧ B < wr.heap.size ∧ Below w.heap.size w wr) (fun i _ => l.length - (intOf i).toNat)
    case atStart => exact ⟨0, by omega, rfl, HD.out, by have := HD.out; rcases HD.out with h | h <;> exact h.lt, Hb2.out⟩
    case round =>
      obtain ⟨j, hj, rfl, hbld, hBs, hb⟩ := hrel
      have Hb := Lib.hid hb
      have HBld := Lib.hid hbld
      by_cases hlt : j < l.length
      · obtain ⟨p', c', hpe, _, hc⟩ := HV.out
        obtain ⟨b, o, rfl, hcl⟩ := hc (by omega)
        obtain ⟨h1, h2⟩ := hcl j hlt
        have hp : p = some ⟨b, o, none⟩ := by injection hpe
        subst hp
        rw [← (bcell hb).1 b (o + j * 2) (block_lt_of_cell (w := w) (a := ⟨b, o + j * 2, none⟩) h1)] at h1
        rw [← (bcell hb).1 b (o + j * 2 + 1) (block_lt_of_cell (w := w) (a := ⟨b, o + j * 2 + 1, none⟩) h2)] at h2
        obtain ⟨a, ha⟩ : ∃ a, l[j] = a := ⟨_, rfl⟩
        have hka := thick_okP (Hk.out l[j] (List.getElem_mem hlt))
        have hst := prBytes_take hlt
        have hsm := prBytes_small (l := l.take j) (fun q hq => Hk.out q (List.mem_of_mem_take hq))
        rw [List.length_take, Nat.min_eq_left hj] at hsm
        rw [ha] at h1 h2 hka hst
        obtain ⟨k, d⟩ := a
        simp only at h1 h2 hka
        have hwr : wrP ⟨k, d⟩ = k ++ 61 :: (d ++ [0]) := rfl
        have hk1 : ¬ 9223372036854775807 < k.length + 1 := by omega
        have hk2 : ¬ 9223372036854775807 < k.length + 1 + d.length := by omega
        have hk3 : ¬ 9223372036854775807 < k.length + 1 + d.length + 1 := by omega
        have hbn := HBld.out.alloc (.cells #[.string (S k), .string (S d)] 40)
        have Wr := Lib.hid (bld_write (k ++ 61 :: (d ++ [0])) hbn (by simp only [List.length_append, List.length_cons, List.length_nil]; omega) (by simp; omega))
        have Hb3 := Lib.hid (hb.alloc hb.size (.cells #[.string (S k), .string (S d)] 40))
        rw [hwr] at hst
        have Hst := Lib.hid hst
        have HBs := Lib.hid hBs
        clear hst hcl hb hc hbld ha hka hsm hwr hbn hBs
        go_wp2_with fail
        refine Wr.out.mono ?_
        rintro e w3 ⟨rfl, hb3, hlow⟩
        have Hb4 := Lib.hid (Hb3.out.trans (hlow.mono hsz1))
        rw [← Hst.out] at hb3
        have Hb5 := Lib.hid hb3
        have Hs3 := Lib.hid (show B < w3.heap.size by have := hlow.size; have := HBs.out; simp at *; omega)
        clear hb3 hlow Wr h1 h2
        go_wp2_with fail
        go_roundw
        case rel => exact ⟨j + 1, by omega, by go_num, Hb5.out, Hs3.out, Hb4.out⟩
        case measure => simp [intOf]; omega
      · obtain rfl : j = l.length := by omega
        rw [List.take_length] at hbld
        have St := Lib.hid (bld_string hbld (Nat.le_of_lt hBs))
        clear hb hbld HBld
        go_wp2_with fail
        refine St.out.mono ?_
        rintro e w3 ⟨rfl, hlow⟩
        have Hb4 := Lib.hid (Hb.out.trans (hlow.mono hsz1))
        clear hlow
        go_wp2_with fail
        go_ret2
        rw [E.out]
        exact ⟨_, rfl, .good, Hb4.out⟩
  · have E := Lib.hid (show prPrint l = ([], prRight l) by unfold prPrint; rw [if_neg h0])
    obtain ⟨⟨n, q⟩, hr⟩ : ∃ r, prRight l = r := ⟨_, rfl⟩
    rw [hr] at R E h0
    clear hv hf hr
    obtain ⟨p, c, rfl⟩ := HV.out.form
    go_enter Tryz.func25, Tryz.ntmps25
    go_wp2_with fail
    refine R.out.mono ?_
    rintro e w1 ⟨ev, rfl, he, hb1⟩
    obtain ⟨t, x, rfl⟩ := he.iface h0
    have Hb1 := Lib.hid hb1
    have He := Lib.hid he
    clear he hb1
    go_wp2_with fail
    go_ret2
    rw [E.out]
    exact ⟨_, rfl, He.out, Hb1.out⟩
end Go.Proofs.YtlcadichpcdgpaaGreatDoor
namespace Go.Proofs.YtlcadichpcdgpaaGreatDoor
open Go.RowKit
def pairL : List Pr := [⟨[65], [120, 61, 121]⟩, ⟨[66], []⟩]
def pairT : List UInt8 := [65, 61, 120, 61, 121, 0, 66, 61, 0]
theorem pairL_print : prPrint pairL = (pairT, 0, -1) := by kernel_rfl
theorem pairT_parse : prParse pairT = (pairL, 0, -1) := by kernel_rfl
theorem pairL_find : findR (prFind pairL [65]) = .tuple #[.string (S [120, 61, 121]), .bool true] := by kernel_rfl
set_option maxRecDepth 100000 in
theorem paired_any (w : World) (hm : MaxCell w) : Calls Tryz.prog 8 #[] w fun e w' => e = .returned (.bool true) ∧ Below w.heap.size w w' := by
  have hb0 := (Below.refl w.heap.size w).alloc (Nat.le_refl _) (.cells #[.string (S [65]), .string (S [120, 61, 121]), .string (S [66]), .string (S [])] 40)
  have hv0 : PrsV (w.alloc (.cells #[.string (S [65]), .string (S [120, 61, 121]), .string (S [66]), .string (S [])] 40)) (.slice (some ⟨w.heap.size, 0, none⟩) 2 2) pairL := prs_new w pairL 40
  have P := print_prs pairL _ _ hv0 ⟨by decide, fun p hp => by
    have : p = ⟨[65], [120, 61, 121]⟩ ∨ p = ⟨[66], []⟩ := by simpa [pairL] using hp
    rcases this with rfl | rfl <;> exact ⟨by decide, by decide⟩⟩
  rw [pairL_print] at P
  have P := Lib.hid P
  have Hb0 := Lib.hid hb0
  have Hm := Lib.hid hm
  have K1 := fun w => Lib.hid (key_any [88, 45, 97] w (by decide))
  have K2 := fun w => Lib.hid (key_any [97] w (by decide))
  have V1 := fun w => Lib.hid (value_any2 [0] w (by decide))
  simp only [show isKey [88, 45, 97] = true by decide] at K1
  simp only [show isKey [97] = false by decide] at K2
  simp only [show isVal [0] = false by decide] at V1
  clear hb0 hv0 hm
  go_enter Tryz.func8, Tryz.ntmps8
  go_wp2_with fail
  refine P.out.mono ?_
  rintro e w1 ⟨ev, rfl, he, hb1⟩
  obtain rfl := he.zero
  have Hb1 := Lib.hid (below_then Hb0.out hb1)
  have Q := parse_any pairT w1 (by decide) (Hm.out.later Hb1.out)
  rw [pairT_parse] at Q
  have Q := Lib.hid Q
  clear he hb1 P
  go_wp2_with fail
  refine Q.out.mono ?_
  rintro e w2 ⟨v, ev, rfl, hv, he, hb2⟩
  obtain rfl := he.zero
  have Hb2 := Lib.hid (below_then Hb1.out hb2)
  have F := find_prs pairL [65] v w2 hv (by decide)
  rw [pairL_find] at F
  have F := Lib.hid F
  obtain ⟨p, c, rfl⟩ := hv.form
  rw [show pairL.length = 2 from rfl] at F
  clear he hb2 Q hv
  go_wp2_with fail
  refine F.out.mono ?_
  rintro e w3 ⟨rfl, hb3⟩
  have Hb3 := Lib.hid (below_then Hb2.out hb3)
  clear hb3 F
  unfold pairT
  go_wp2_with fail
  refine (K1 _).out.mono ?_
  rintro e w4 ⟨rfl, rfl⟩
  go_wp2_with fail
  refine (K2 _).out.mono ?_
  rintro e w4 ⟨rfl, rfl⟩
  go_wp2_with fail
  refine (V1 _).out.mono ?_
  rintro e w4 ⟨rfl, rfl⟩
  go_wp2_with fail
  go_ret
  exact ⟨rfl, Hb3.out⟩
end Go.Proofs.YtlcadichpcdgpaaGreatDoor
