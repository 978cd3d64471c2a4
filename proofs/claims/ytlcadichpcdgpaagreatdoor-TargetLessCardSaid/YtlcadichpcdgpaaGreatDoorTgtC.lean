/- What the laws of chapter 15 ask of target.Has, Right, List, as propositions; the laws' fact 'listed' by them. -/
import Derived.Test.YtlcadichpcdgpaaGreatDoorGO
import Derived.Test.YtlcadichpcdgpaaGreatDoorGB
namespace Go.Proofs.YtlcadichpcdgpaaGreatDoor
open Go.RowKit
set_option linter.unusedVariables false
def TgtHasOk (w : World) : Prop := ∀ (W : World) (c : Cf) (vt vp vu vo : Value) (name : List UInt8), Below w.heap.size w W → StrV W vt c.ts → c.ts.length ≤ 140737488355328 →
  Calls Tryz.prog 12 #[confV c vt vp vu vo, .string (S name)] W fun e w' => e = .returned (.bool (hasT c.ts name)) ∧ Below W.heap.size W w'
def TgtRightOk (w : World) : Prop := ∀ (W : World) (c : Cf) (vt vp vu vo : Value), Below w.heap.size w W → ConfAt W c vt vp vu vo → FitCf c →
  Calls Tryz.prog 10 #[confV c vt vp vu vo] W (RetE W (tgtR c))
/-- pairs and an error without a place are returned -/
def RetPB1 (w : World) (r : List Pr × Int) (e : Ending) (w' : World) : Prop := ∃ v ev, e = .returned (.tuple #[v, ev]) ∧ PrsV w' v r.1 ∧ ErrIs w' ev r.2 (-1) ∧ Below w.heap.size w w'
def TgtListOk (w : World) : Prop := ∀ (W : World) (c : Cf) (vt vp vu vo : Value) (name : List UInt8) (all : Bool), Below w.heap.size w W → ConfAt W c vt vp vu vo → FitCf c → (all = true → c.ts.length * (1 + c.ps.length) * 32 ≤ 140737488351232) →
  Calls Tryz.prog 11 #[confV c vt vp vu vo, .string (S name), .bool all] W (RetPB1 W (listD c name all))
theorem conf0_fit : FitCf conf0 := ⟨⟨by decide, by decide⟩, ⟨by decide, by decide⟩, ⟨⟨by decide, by decide⟩, by decide⟩, by decide, by decide, by decide, ⟨⟨by decide, by decide⟩, by decide⟩, by decide⟩
def lst0 : List Pr := [⟨nmK, iqnB⟩, ⟨adK, [49, 48, 46, 48, 46, 48, 46, 49, 58, 51, 50, 54, 48, 44, 49]⟩, ⟨adK, [91, 58, 58, 49, 93, 58, 51, 50, 54, 48, 44, 50]⟩]
theorem list0 : listD conf0 iqnB false = (lst0, 0) := by
  have h1 : hasT conf0.ts iqnB = true := by decide +kernel
  have h2 : Lib.itoa 1 = [49] := by decide +kernel
  have h3 : Lib.itoa 2 = [50] := by decide +kernel
  unfold listD
  rw [if_neg (by decide), if_neg (by rw [h1]; decide)]
  unfold lst0 oneT conf0
  simp only [List.map_cons, List.map_nil, poP, po1, po2]
  rw [h2, h3]; rfl
theorem tgt0 : tgtR conf0 = (0, -1) := by decide +kernel
theorem has0a : hasT conf0.ts iqnA = true := by decide +kernel
theorem has0x : hasT conf0.ts [120] = false := by decide +kernel
set_option maxRecDepth 100000 in
set_option maxHeartbeats 4000000 in
theorem listed_fact (w : World) (h1 : TgtHasOk w) (h2 : TgtRightOk w) (h3 : TgtListOk w) :
    Calls Tryz.prog 7 #[] w fun e w' => e = .returned (.bool true) ∧ Below w.heap.size w w' := by
  have H1 := Lib.hid h1
  have H2 := Lib.hid h2
  have H3 := Lib.hid h3
  have C := Lib.hid (fun W => conf_any W)
  clear h1 h2 h3
  go_enter Tryz.func7, Tryz.ntmps7
  go_wp2_with fail
  refine (C.out _).mono ?_
  rintro e w1 ⟨vt, vp, rfl, hC1, hb1⟩
  have L := H3.out w1 conf0 vt vp _ _ iqnB false hb1 hC1 conf0_fit (fun h => by cases h)
  rw [list0] at L
  have L := Lib.hid L
  have Hb1 := Lib.hid hb1
  clear hb1 hC1
  go_wp2_with fail
  refine L.out.mono ?_
  rintro e w2 ⟨v, ev, rfl, hv, he, hb2⟩
  obtain rfl := he.zero
  obtain ⟨pv, cv, rfl⟩ := hv.form
  have Hb2 := Lib.hid (below_then Hb1.out hb2)
  have HV2 := Lib.hid hv
  clear hv he hb2 L
  go_wp2_with fail
  refine (C.out _).mono ?_
  rintro e w3 ⟨vt3, vp3, rfl, hC3, hb3⟩
  have hb13 := below_then Hb2.out hb3
  have R := H2.out w3 conf0 vt3 vp3 _ _ hb13 hC3 conf0_fit
  rw [tgt0] at R
  have R := Lib.hid R
  have Hb3 := Lib.hid hb13
  have HV3 := Lib.hid (HV2.out.later hb3)
  clear hb3 hb13 hC3 HV2
  go_wp2_with fail
  refine R.out.mono ?_
  rintro e w4 ⟨ev4, rfl, he4, hb4⟩
  obtain rfl := he4.zero
  have HV4 := HV3.out.later hb4
  have hb14 := below_then Hb3.out hb4
  have hlit := prs_new w4 lst0 40
  have hal := (Below.refl w4.heap.size w4).alloc (Nat.le_refl _) (.cells (prsVs lst0).toArray 40)
  have E := equalP_same lst0 _ _ _ (by decide) (HV4.later hal) hlit
  have Hb5 := Lib.hid (below_then hb14 hal)
  have E := Lib.hid E
  clear he4 hb4 HV4 hb14 hlit hal R HV3
  go_wp2_with fail
  refine E.out.mono ?_
  rintro e w6 ⟨rfl, hb6⟩
  have Hb6 := Lib.hid (below_then Hb5.out hb6)
  clear hb6 E
  go_wp2_with fail
  refine (C.out _).mono ?_
  rintro e w7 ⟨vt7, vp7, rfl, hC7, hb7⟩
  have hb17 := below_then Hb6.out hb7
  have A := H1.out w7 conf0 vt7 vp7 (.slice none 0 0) (.slice none 0 0) iqnA hb17 hC7.ts (by decide)
  rw [has0a] at A
  have A := Lib.hid A
  have Hb7 := Lib.hid hb17
  clear hb7 hb17 hC7
  go_wp2_with fail
  refine A.out.mono ?_
  rintro e w8 ⟨rfl, hb8⟩
  have Hb8 := Lib.hid (below_then Hb7.out hb8)
  clear hb8 A
  go_wp2_with fail
  refine (C.out _).mono ?_
  rintro e w9 ⟨vt9, vp9, rfl, hC9, hb9⟩
  have hb19 := below_then Hb8.out hb9
  have A := H1.out w9 conf0 vt9 vp9 (.slice none 0 0) (.slice none 0 0) [120] hb19 hC9.ts (by decide)
  rw [has0x] at A
  have A := Lib.hid A
  have Hb9 := Lib.hid hb19
  clear hb9 hb19 hC9
  go_wp2_with fail
  refine A.out.mono ?_
  rintro e w10 ⟨rfl, hb10⟩
  have Hb10 := Lib.hid (below_then Hb9.out hb10)
  clear hb10 A
  go_wp2_with fail
  go_ret
  exact ⟨rfl, Hb10.out⟩
end Go.Proofs.YtlcadichpcdgpaaGreatDoor
