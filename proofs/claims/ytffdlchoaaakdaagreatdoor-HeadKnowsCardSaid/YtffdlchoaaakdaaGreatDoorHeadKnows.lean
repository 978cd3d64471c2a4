/- HeadKnows: what is known of any PDU, and what any head's field has, is the document's. -/
import Derived.Test.YtffdlchoaaakdaaGreatDoorRefRight2
import Derived.Test.YtffdlchoaaakdaaGreatDoorRefValue
import Derived.Test.YtffdlchoaaakdaaGreatDoorValue
import Derived.Test.YtffdlchoaaakdaaGreatDoorEqF
import Derived.Test.YtffdlchoaaakdaaGreatDoorPlaceAt
import Derived.Test.YtffdlchoaaakdaaGreatDoorBare
import Derived.Deep.RegionHeld3
namespace Go.Proofs.YtffdlchoaaakdaaGreatDoor
open Go.RowKit
theorem bare_is {w : World} {v : Value} {n : Int} (h : ErrIs w v n (-1)) (hg : ErrCell w) : Calls Tryz.prog 12 #[v, .int .i64 n] w fun e w' => e = .returned (.bool true) ∧ Below w.heap.size w w' := by
  have C := Lib.hid (place_is h hg)
  clear h hg
  go_enter Tryz.func12, Tryz.ntmps12
  go_wp2_with fail
  refine C.out.mono ?_
  rintro e w' ⟨rfl, hb⟩
  go_wp2_with fail
  go_ret
  exact ⟨rfl, hb⟩
theorem errV_is (w : World) (n : Int) : ErrIs w (errV n) n (-1) := by
  by_cases h : n = 0
  · subst h; rw [errV_0]; exact .good
  · rw [errV_pos n h]; exact .bare n h
/-- what is known of an op: its name, flags, fields, and the error -/
structure Known (op : Int) (nm : List UInt8) (fm : Int) (fs : List Fd) (ok : Bool) (er : Int) : Prop where
  len : fs.length ≤ 10
  both : (ok = true ∧ er = 0) ∨ (ok = false ∧ er = 1)
  kind : ∀ w, Calls Tryz.prog 6 #[.int .i64 op] w fun e w' => ∃ v, e = .returned (.tuple #[.string (S nm), .int .i64 fm, v, .bool ok]) ∧ FV w' v fs ∧ Below w.heap.size w w'
  name : ∀ w, Calls Tryz.prog 7 #[.int .i64 op] w fun e w' => e = .returned (.tuple #[.string (S nm), errV er]) ∧ Below w.heap.size w w'
  flags : ∀ w, Calls Tryz.prog 8 #[.int .i64 op] w fun e w' => e = .returned (.tuple #[.int .i64 fm, errV er]) ∧ Below w.heap.size w w'
  fields : ∀ w, MaxCell w → Calls Tryz.prog 9 #[.int .i64 op] w fun e w' => ∃ v, e = .returned (.tuple #[v, errV er]) ∧ FV w' v fs ∧ Below w.heap.size w w'
theorem known_any (op : Int) : ∃ nm fm fs ok er, Known op nm fm fs ok er := by
  cases hk : kindOf op with
  | none =>
    refine ⟨[], 0, [], false, 1, by decide, .inr ⟨rfl, rfl⟩, fun w => ?_, fun w => ?_, fun w => ?_, fun w _ => ?_⟩
    · have := refKind_any op w
      rw [hk] at this
      exact this.mono fun (e : Ending) w' ⟨he, hb⟩ => ⟨_, he, FV.nil _, hb⟩
    · exact name_none hk w
    · exact flags_none hk w
    · exact (fields_none hk w).mono fun (e : Ending) w' ⟨he, hb⟩ => ⟨_, he, FV.nil _, hb⟩
  | some k =>
    refine ⟨k.nm, k.fl, k.fs, true, 0, (kindFacts hk).len, .inl ⟨rfl, rfl⟩, fun w => ?_, fun w => ?_, fun w => ?_, fun w hm => ?_⟩
    · have := refKind_any op w
      rw [hk] at this
      exact this.mono fun (e : Ending) w' ⟨b, he, hF, hb⟩ => ⟨_, he, FV.of hF, hb⟩
    · exact name_some hk w
    · exact flags_some hk w
    · exact (fields_some hk w hm).mono fun (e : Ending) w' ⟨b, he, _, hF, hb⟩ => ⟨_, he, FV.of hF, hb⟩
theorem keep4 {W w w' : World} {a b c d : Addr} {x y z u : Value} (h : Below W.heap.size W w ∧ w.cell? a = some x ∧ w.cell? b = some y ∧ w.cell? c = some z ∧ w.cell? d = some u) (hb : Below w.heap.size w w') :
    Below W.heap.size W w' ∧ w'.cell? a = some x ∧ w'.cell? b = some y ∧ w'.cell? c = some z ∧ w'.cell? d = some u :=
  ⟨below_then h.1 hb, by rw [hb.cell (block_lt_of_cell h.2.1)]; exact h.2.1, by rw [hb.cell (block_lt_of_cell h.2.2.1)]; exact h.2.2.1, by rw [hb.cell (block_lt_of_cell h.2.2.2.1)]; exact h.2.2.2.1, by rw [hb.cell (block_lt_of_cell h.2.2.2.2)]; exact h.2.2.2.2⟩
set_option maxRecDepth 100000 in
set_option maxHeartbeats 2000000 in
theorem headKnows_any (op : Int) (h : Hd) (v : Value) (n : List UInt8) (w : World) (hfl : I64 h.fl) (hg : ErrCell w) (hm : MaxCell w) (hv : Vals w v h.vs) (hll : h.vs.length ≤ 9223372036854775807) (hn : n.length ≤ 140737488351232) :
    Calls Tryz.prog 3 #[.int .i64 op, headV h v, .string (S n)] w fun e w' => e = .returned (.bool true) ∧ Below w.heap.size w w' := by
  obtain ⟨nm, fm, fs, ok, er, K⟩ := known_any op
  have RA : ∀ W, MaxCell W → Vals W v h.vs → Calls Tryz.prog 15 #[headV h v] W (RetE W (rightR h)) := fun W hm hv => right_any h v W hfl hm hv hll
  have RB : ∀ W, Vals W v h.vs → Calls Tryz.prog 16 #[headV h v] W (RetF W (rightR h)) := fun W hv => refRight_any h v W hfl hv hll
  have VA : ∀ W, MaxCell W → Vals W v h.vs → Calls Tryz.prog 11 #[headV h v, .string (S n)] W (RetNE W (valueR h n)) := fun W hm hv => value_any h v n W hm hv hll
  have VB : ∀ W, Vals W v h.vs → Calls Tryz.prog 10 #[headV h v, .string (S n)] W (RetVN W (valueR h n)) := fun W hv => refValue_any h v n W hv hll
  obtain ⟨⟨r1, r2⟩, hr⟩ : ∃ r, rightR h = r := ⟨_, rfl⟩
  obtain ⟨⟨x1, x2⟩, hx⟩ : ∃ r, valueR h n = r := ⟨_, rfl⟩
  rw [hr] at RA RB
  rw [hx] at VA VB
  obtain ⟨hop, now, fl, vs⟩ := h
  unfold headV at *
  simp only at *
  obtain ⟨p, c, rfl, hx64, hcell⟩ := id hv
  have hb0 := (Below.refl w.heap.size w).alloc (Nat.le_refl _) (.cells #[.int .i64 hop, .bool now, .int .i64 fl, .slice p vs.length c] 24)
  have HH0 := Lib.hid (Blk.new w #[.int .i64 hop, .bool now, .int .i64 fl, .slice p vs.length c] 24)
  have Hb0 := Lib.hid hb0
  by_cases hnl : 50 < n.length
  · have hnl' : (50 : Int) < (n.length : Int) := by omega
    clear hv hx64 hcell hb0 RA RB VA VB hr hx hm hg hnl
    go_enter Tryz.func3, Tryz.ntmps3
    go_wp2_with fail
    go_ret
    exact ⟨rfl, Hb0.out⟩
  have hnl' : (n.length : Int) ≤ 50 := by omega
  by_cases hvl : 50 < vs.length
  · have hvl' : (50 : Int) < (vs.length : Int) := by omega
    clear hv hx64 hcell hb0 RA RB VA VB hr hx hm hg hnl hvl
    go_enter Tryz.func3, Tryz.ntmps3
    go_wp2_with fail
    go_ret
    exact ⟨rfl, Hb0.out⟩
  have hvl' : (vs.length : Int) ≤ 50 := by omega
  have HV := Lib.hid (hv.later hb0)
  have Hm := Lib.hid (hm.later hb0)
  have Hg := Lib.hid (hg.later hb0)
  have HRA := Lib.hid RA
  have HRB := Lib.hid RB
  have HVA := Lib.hid VA
  have HVB := Lib.hid VB
  have HK := Lib.hid K
  clear hv hx64 hcell hb0 RA RB VA VB hr hx hm hg hnl hvl hfl
  rcases HK.out.both with ⟨rfl, rfl⟩ | ⟨rfl, rfl⟩
  all_goals
    go_enter Tryz.func3, Tryz.ntmps3
    go_wp2_with fail
    refine (HK.out.kind _).mono ?_
    rintro e w1 ⟨f1, rfl, hF1, hb⟩
    have Hb1 := Lib.hid hb
    have HF1 := Lib.hid hF1
    clear hb hF1
    go_wp2_with fail
    refine (HK.out.name _).mono ?_
    rintro e w2 ⟨rfl, hb⟩
    have Hb2 := Lib.hid (below_then Hb1.out hb)
    have HF2 := Lib.hid (HF1.out.later hb)
    clear hb
    go_wp2_with fail
    refine (HK.out.flags _).mono ?_
    rintro e w3 ⟨rfl, hb⟩
    have Hb3 := Lib.hid (below_then Hb2.out hb)
    have HF3 := Lib.hid (HF2.out.later hb)
    clear hb
    go_wp2_with fail
    refine (HK.out.fields _ (Hm.out.later Hb3.out)).mono ?_
    rintro e w4 ⟨f4, rfl, hG4, hb⟩
    have Hb4 := Lib.hid (below_then Hb3.out hb)
    have HF4 := Lib.hid (HF3.out.later hb)
    have HG4 := Lib.hid hG4
    obtain ⟨q0, q1, q2, q3⟩ := (Blk.later HH0.out Hb4.out).four
    clear hb hG4
    go_wp2_with fail
    refine (HVB.out _ (HV.out.later Hb4.out)).mono ?_
    rintro e w5 ⟨rfl, hb⟩
    have Hb5 := Lib.hid (below_then Hb4.out hb)
    have HF5 := Lib.hid (HF4.out.later hb)
    have HG5 := Lib.hid (HG4.out.later hb)
    clear hb q0 q1 q2 q3
    obtain ⟨q0, q1, q2, q3⟩ := (Blk.later HH0.out Hb5.out).four
    go_wp2_with fail
    refine (HVA.out _ (Hm.out.later Hb5.out) (HV.out.later Hb5.out)).mono ?_
    rintro e w6 ⟨ev, rfl, hE, hb⟩
    have Hb6 := Lib.hid (below_then Hb5.out hb)
    have hF6 := HF5.out.later hb
    have hG6 := HG5.out.later hb
    clear q0 q1 q2 q3
    obtain ⟨q0, q1, q2, q3⟩ := (Blk.later HH0.out Hb6.out).four
    have B1 := Lib.hid (fun W (er : Int) (hW : Below w6.heap.size w6 W) => bare_is (errV_is W er) (Hg.out.later (below_then Hb6.out hW)))
    have B2 := Lib.hid (fun W (hW : Below w6.heap.size w6 W) => bare_is (hE.later hW) (Hg.out.later (below_then Hb6.out hW)))
    have E1 := Lib.hid (fun W (hW : Below w6.heap.size w6 W) => equalF_same fs f4 f1 W (by have := HK.out.len; omega) (hG6.later hW) (hF6.later hW))
    have R1 := Lib.hid (show ∀ W, Below w6.heap.size w6 W → Calls Tryz.prog 15 #[.agg #[.int .i64 hop, .bool now, .int .i64 fl, .slice p vs.length c]] W (fun e w' => ∃ v, e = .returned v ∧ ErrIs w' v r1 r2 ∧ Below W.heap.size W w') from fun W hW => HRA.out W (Hm.out.later (below_then Hb6.out hW)) (HV.out.later (below_then Hb6.out hW)))
    have R2 := Lib.hid (show ∀ W, Below w6.heap.size w6 W → Calls Tryz.prog 16 #[.agg #[.int .i64 hop, .bool now, .int .i64 fl, .slice p vs.length c]] W (fun e w' => e = .returned (.agg #[.int .i64 r1, .int .i64 r2]) ∧ Below W.heap.size W w') from fun W hW => HRB.out W (HV.out.later (below_then Hb6.out hW)))
    have P1 := Lib.hid (fun W v (hW : Below w6.heap.size w6 W) (hE : ErrIs W v r1 r2) => placed_same hE (Hg.out.later (below_then Hb6.out hW)))
    clear hb hE hF6 hG6
    go_wp2_with fail
    go_region_held3 (fun w' => Below w6.heap.size w6 w' ∧ w'.cell? ⟨w.heap.size, 0, none⟩ = some (.int .i64 hop) ∧ w'.cell? ⟨w.heap.size, 1, none⟩ = some (.bool now) ∧ w'.cell? ⟨w.heap.size, 2, none⟩ = some (.int .i64 fl) ∧ w'.cell? ⟨w.heap.size, 3, none⟩ = some (.slice p vs.length c))
      (first | assumption | exact ⟨Below.refl _ _, q0, q1, q2, q3⟩ | exact ⟨(Below.refl _ _).drew, q0, q1, q2, q3⟩ | exact keep4 (by assumption) hb')
      (first | ((with_reducible refine (B1.out _ _ (by first | assumption | exact (‹Below w6.heap.size w6 _ ∧ _›).1)).mono ?_); rintro e w' ⟨rfl, hb'⟩) | ((with_reducible refine (B2.out _ (by first | assumption | exact (‹Below w6.heap.size w6 _ ∧ _›).1)).mono ?_); rintro e w' ⟨rfl, hb'⟩) | ((with_reducible refine (E1.out _ (by first | assumption | exact (‹Below w6.heap.size w6 _ ∧ _›).1)).mono ?_); rintro e w' ⟨rfl, hb'⟩) | ((with_reducible refine (R1.out _ (by first | assumption | exact (‹Below w6.heap.size w6 _ ∧ _›).1)).mono ?_); rintro e w' ⟨vr, rfl, hEr, hb'⟩) | ((with_reducible refine (R2.out _ (by first | assumption | exact (‹Below w6.heap.size w6 _ ∧ _›).1)).mono ?_); rintro e w' ⟨rfl, hb'⟩) | ((with_reducible refine (P1.out _ _ (by first | assumption | exact (‹Below w6.heap.size w6 _ ∧ _›).1) ?_).mono ?_); exact (‹ErrIs _ vr _ _›).later (by assumption); rintro e w' ⟨rfl, hb'⟩))
    have hl := (‹Below w6.heap.size w6 w' ∧ _›).1
    clear q0 q1 q2 q3
    go_wp2_with fail
    go_ret
    exact ⟨rfl, below_then Hb0.out (below_then Hb6.out hl)⟩
end Go.Proofs.YtffdlchoaaakdaaGreatDoor
