/- NegoPlays: for every input the law's function returns true, and what came in reads as it did. -/
import Derived.Test.YteapbjeapnmloaaGreatDoorNegoPlays
import Derived.Test.YteapbjeapnmloaaGreatDoorJoin
import Derived.ProofKit
import Derived.OpenShut
import Derived.ShutString
import Derived.ChangeOld
import Derived.SizedLaws
import Derived.Deep.DeepHandedRow
import Derived.Test.YteapbjeapnmloaaGreatDoorCards
import Derived.Test.YteapbjeapnmloaaGreatDoorTie
import Derived.SevenTiedAt
import Derived.Deep.DeepWitnessRowRef
import Derived.Test.YteapbjeapnmloaaGreatDoorDoorNegoPlays
import Derived.Test.YteapbjeapnmloaaGreatDoorOpenPrs
import Derived.Test.YteapbjeapnmloaaGreatDoorOpenRounds
import Derived.Carry
import Derived.ShapedOpen
import Derived.Test.YteapbjeapnmloaaGreatDoorKeyEnvOf
namespace Go.Proofs.YteapbjeapnmloaaGreatDoor.negoPlays
open Go.ChangeShapes Go.WideShapes Go.ChangeAt Go.RowKit
open Go.ChangeMaps (open_string shut_string)
set_option linter.unusedVariables false
theorem own : ownKnob Tryz.prog.godebug = none := by kernel_rfl
theorem laidOut : laidOutB Tryz.prog = true := by kernel_rfl
set_option maxRecDepth 100000 in
theorem contract (H : Type) (enc : TypeId × Value → H) (W : World) (base : Nat) (args : Array Value) (ds gs : List (DataW H)) (before : List MemPlace)
    (hval : ∀ (j : Nat) t v, Tryz.f16.params[j]? = some t → args[j]? = some v → Value.okWide Tryz.prog W .any base t v)
    (hW : DataW.Whole enc Tryz.prog Tryz.f16.params.toList Rows.negoPlaysSpec.vars false W args.toList ds gs before)
    (hsz0 : (DataW.weightsEach Tryz.prog (Tryz.f16.params.toList ++ Rows.negoPlaysSpec.plain.varTypes Tryz.prog) (ds ++ gs)).all (· ≤ reachBytes) = true)
    (hL : laidMetH Tryz.prog Rows.negoPlaysRow.laid W) (hS : W.ShapedOpen Tryz.prog)
    : Calls Tryz.prog 16 args W fun e W' => ∃ v, e = .returned v ∧ Rows.negoPlaysSpec.post enc Tryz.prog Tryz.f16 false true false false W args v W' := by
  have hW' := hW
  obtain ⟨p, q, hA0, hV, rfl, hfz, hnd⟩ := hW
  have hsz : (DataW.weightsEach Tryz.prog (Tryz.f16.params.toList ++ Rows.negoPlaysSpec.plain.varTypes Tryz.prog) (ds ++ gs)).all (· ≤ reachBytes) = true := hsz0
  have hA : DataW.TrodAll enc Tryz.prog W 0 (fun _ => true) true Tryz.f16.params.toList args.toList ds p := hA0
  rw [Tryz.params16] at hA hval hsz
  obtain ⟨v0, vs0, d0, ds0, p0, q0, hargs, rfl, rfl, h0, r0⟩ := trodAll_cons hA
  obtain ⟨v1, vs1, d1, ds1, p1, q1, rfl, rfl, rfl, h1, r1⟩ := trodAll_cons r0
  obtain ⟨v2, vs2, d2, ds2, p2, q2, rfl, rfl, rfl, h2, r2⟩ := trodAll_cons r1
  obtain ⟨rfl, rfl, rfl⟩ := trodAll_nil r2
  obtain rfl : args = #[v0, v1, v2] := by cases args; simp_all
  obtain ⟨rfl, rfl⟩ := trodVars_none hV
  have hk0 := h0
  have hlt0 : ∀ x ∈ p0, x.block < W.heap.size := fun x hx => by simpa using hW'.lt x (by simp [hx])
  obtain ⟨l0, hv0, hN0⟩ := open_prs hsz (j := 0) rfl rfl (hval 0 22 v0 rfl rfl) h0
  have hk1 := h1
  have hlt1 : ∀ x ∈ p1, x.block < W.heap.size := fun x hx => by simpa using hW'.lt x (by simp [hx])
  obtain ⟨l1, hv1, hN1⟩ := open_rounds hsz (j := 1) rfl rfl (hval 1 73 v1 rfl rfl) h1
  obtain ⟨s2, rfl, rfl, rfl, ws2⟩ := open_string Tryz.underlying9 (hval 2 9 v2 rfl rfl) h2
  have hz2 := sized_string hsz (j := 2) rfl rfl
  obtain ⟨l2, rfl⟩ := S_of s2
  have hb2 : l2.length ≤ 140737488351232 := by simpa [S, reachBytes] using hz2
  clear hA0 hsz0
  refine (negoPlays_any l0 v0 l1 v1 l2 W hv0 hN0 hv1 hN1 hb2 (env_of hS (readsNegoPlays hL (by simp)) (readsNegoPlays hL (by simp)) (readsNegoPlays hL (by simp))) (errCell_NegoPlays hL)).mono fun e W' ⟨he, bel⟩ => ?_
  subst he
  exact ⟨_, rfl, _, _, _, [], _, [], hW', trodAll_mk1 (shut_bool Tryz.underlying4 _), trodAll_cons_mk (Below.trod laidOut (by kernel_rfl) (of_decide_eq_true (by kernel_rfl)) hk0 bel hlt0) (trodAll_cons_mk (Below.trod laidOut (by kernel_rfl) (of_decide_eq_true (by kernel_rfl)) hk1 bel hlt1) (trodAll_cons_mk (shut_string Tryz.underlying9 ws2) trodAll_mk0)), rfl, bel.frame _, fun h => by cases h⟩
theorem reads (os : Os) {H : Type} (enc : TypeId × Value → H) : ∃ places, DataW.whole enc Tryz.prog ((laidWorldNegoPlays os).forCall (fun _ _ => 0) ⟨#[], #[.slice none 0 0, .slice none 0 0, .string ⟨#[]⟩], []⟩).memory Tryz.f16.params.toList Rows.negoPlaysSpec.vars false (#[.slice none 0 0, .slice none 0 0, .string ⟨#[]⟩] : Array Value).toList 8 = some ([.nil, .nil, .lit (.string [])], [], places) :=
  ⟨[], by kernel_rfl⟩
set_option maxRecDepth 100000 in
theorem lifted (os : Os) (started : os.Started) (H : Type) (enc : TypeId × Value → H) (F : Stop.Interp) :
    ReturnsInHanded {} Tryz.checked os 16 .any ((OpenSpec.ofChange Rows.negoPlaysSpec).preRow enc Tryz.prog Tryz.f16 Rows.negoPlaysRow.domain false Rows.negoPlaysRow.laid) (((OpenSpec.ofChange Rows.negoPlaysSpec).at F).post enc Tryz.prog Tryz.f16 false true false false) := by
  obtain ⟨places, hx⟩ := reads os enc
  refine returnsInHanded_of_row (C := Tryz.checked) (s := OpenSpec.ofChange Rows.negoPlaysSpec) own started (by kernel_rfl) Tryz.func16
    (witness_row_atRef (enc := enc) (C := Tryz.checked) false (laidWorldNegoPlays os) #[.slice none 0 0, .slice none 0 0, .string ⟨#[]⟩] (laidWorldNegoPlays_os os) (by kernel_rfl) (by kernel_rfl) (by kernel_rfl)
      (OpenSpec.preRow_of_cond 8 hx (by kernel_rfl) (fun k hk => by cases hk) (by kernel_rfl) (laidWorldNegoPlays_met os _))) ?_
  intro W base args ds gs before hval hW _ _ hsz hL hS _
  exact contract H enc W base args ds gs before hval hW hsz hL hS
theorem k0 : (Rows.negoPlaysRow.wf (OpenSpec.ofChange (Rows.negoPlaysSpec))) = true := by kernel_rfl
theorem k3 : (Tryz.f16.params.all (Tryz.pinned.checked.prog.readableRec ·)) = true := by kernel_rfl
theorem k4 : (namedTie Tryz.pinned.checked.prog Rows.negoPlaysRow.named (Rows.negoPlaysSpec).vars) = true := by kernel_rfl
theorem k5 : ((Rows.negoPlaysRow.stops == [])) = true := by kernel_rfl
theorem k7 : ((Rows.negoPlaysRow.knobs == [])) = true := by kernel_rfl
theorem k9 : ((Rows.negoPlaysRow.inPlace == Tryz.pinned.checked.prog.inPlace 16)) = true := by kernel_rfl
theorem k10 : ((Rows.negoPlaysRow.unfollowed == Tryz.pinned.checked.prog.unfollowed 16)) = true := by kernel_rfl
theorem k11 : ((Rows.negoPlaysRow.recurses == Tryz.pinned.checked.prog.recurses 16)) = true := by kernel_rfl
theorem k12 : ((Rows.negoPlaysRow.named == Tryz.pinned.checked.prog.varsNamed 16)) = true := by kernel_rfl
theorem k13 : ((Rows.negoPlaysRow.maps == (Tryz.f16.params.toList ++ (Rows.negoPlaysSpec).plain.varTypes Tryz.pinned.checked.prog).any (Tryz.pinned.checked.prog.mapsRec ·))) = true := by kernel_rfl
theorem k14 : ((Rows.negoPlaysRow.ifaces == (Tryz.f16.params.toList ++ (Rows.negoPlaysSpec).plain.varTypes Tryz.pinned.checked.prog).any (Tryz.pinned.checked.prog.ifacesRec ·))) = true := by kernel_rfl
theorem k15 : ((Rows.negoPlaysRow.mapsOut == Tryz.pinned.checked.prog.mapsAmong Tryz.f16.resultTypes.toList)) = true := by kernel_rfl
theorem k16 : ((Rows.negoPlaysRow.loops == (Tryz.f16.params.toList ++ (Rows.negoPlaysSpec).plain.varTypes Tryz.pinned.checked.prog).any (Tryz.pinned.checked.prog.loopsFrom ·))) = true := by kernel_rfl
theorem k17 : ((Rows.negoPlaysRow.wideKeys == (Tryz.f16.params.toList ++ (Rows.negoPlaysSpec).plain.varTypes Tryz.pinned.checked.prog ++ Tryz.f16.resultTypes.toList).any (Tryz.pinned.checked.prog.wideKeysFrom ·))) = true := by kernel_rfl
theorem k18 : ((Rows.negoPlaysSpec).vars.all (Tryz.pinned.checked.prog.varReadable ·)) = true := by kernel_rfl
theorem k19 : (Tryz.f16.resultTypes.all (fun t => Tryz.pinned.checked.prog.readableRec t && decide (t < Tryz.pinned.checked.prog.types.size))) = true := by kernel_rfl
theorem k20 : ((Rows.negoPlaysRow.ifacesOut == Tryz.f16.resultTypes.toList.any (Tryz.pinned.checked.prog.ifacesRec ·))) = true := by kernel_rfl
theorem k21 : ((Rows.negoPlaysRow.loopsOut == Tryz.f16.resultTypes.toList.any (Tryz.pinned.checked.prog.loopsFrom ·))) = true := by kernel_rfl
theorem k22 : ((Rows.negoPlaysRow.plainKeys == Tryz.pinned.checked.prog.plainKeys)) = true := jo22
theorem k23 : (Rows.negoPlaysRow.shortTexts.isNone) = true := by kernel_rfl
theorem k26 : ((Rows.negoPlaysRow.lifted == Tryz.pinned.checked.prog.liftsFinal)) = true := jo26
theorem k27 : ((Tryz.pinned.checked.prog.make == some Rows.negoPlaysRow.make)) = true := jo27
theorem k28 : ((Rows.negoPlaysRow.kinds == (if Rows.negoPlaysRow.domain.isEmpty then [] else Tryz.f16.params.toList.map fun t => match Tryz.pinned.checked.prog.underlying t with | some (.int k) => some k | _ => none))) = true := by kernel_rfl
theorem k29 : ((Rows.negoPlaysRow.pinned == Rows.negoPlaysRow.pinnedBy)) = true := by kernel_rfl
theorem k30 : ((Rows.negoPlaysRow.veiled == (Tryz.f16.params.toList ++ (Rows.negoPlaysSpec).plain.varTypes Tryz.pinned.checked.prog ++ Tryz.f16.resultTypes.toList).any (Tryz.pinned.checked.prog.veiledRec ·))) = true := by kernel_rfl
theorem k31 : (Rows.negoPlaysRow.veiledFits Tryz.pinned.checked.prog Tryz.f16.params.toList (Tryz.f16.params.toList ++ (Rows.negoPlaysSpec).plain.varTypes Tryz.pinned.checked.prog ++ Tryz.f16.resultTypes.toList)) = true := by kernel_rfl
set_option maxRecDepth 100000 in
theorem closed : joinedFacts Tryz.pinned.checked.prog 16 Tryz.f16 (OpenSpec.ofChange (Rows.negoPlaysSpec)).bare Rows.negoPlaysRow = true := and_mk (and_mk (and_mk (and_mk (and_mk (and_mk (and_mk (and_mk (and_mk (and_mk (and_mk (and_mk (and_mk (and_mk (and_mk (and_mk (and_mk (and_mk (and_mk (and_mk (and_mk (and_mk (and_mk (and_mk (and_mk (and_mk (and_mk (and_mk (and_mk (and_mk (and_mk (k0) jo1) jo2) k3) k4) k5) jo6) k7) jo8) k9) k10) k11) k12) k13) k14) k15) k16) k17) k18) k19) k20) k21) k22) k23) jo24) jo25) k26) k27) k28) k29) k30) k31
theorem said : Rows.NegoPlaysSaid :=
  OpenClaim.holds_of_cond 16 Tryz.f16 rfl rfl rfl rfl rfl rfl rfl ⟨rfl, rfl, rfl, rfl, rfl⟩ rfl rfl rfl rfl rfl (by kernel_rfl) Tryz.func16 closed
    (of_decide_eq_true (by kernel_rfl)) (by unfold Func.isWrapper; first | (rw [if_pos (by decide +kernel)]; kernel_rfl) | (rw [if_neg (by decide +kernel)]; exact ⟨rfl, rfl⟩))
    (fun os started H enc _ F => by rw [OpenClaim.pre_eq_preRow]; exact lifted os started H enc F)
theorem plain (f : FuncId) (fn : Func) (hf : Tryz.pinned.checked.prog.funcNamed "quaymaster/quaymasterlaw.NegoPlays" = some f) (hfn : Tryz.pinned.checked.prog.funcs[f]? = some fn) :
    true = Tryz.pinned.checked.prog.looks [] ∧ ∀ (j : Nat) t, fn.params[j]? = some t → Tryz.pinned.checked.prog.wantsStandIn t = false := by
  obtain rfl : f = 16 := Option.some.inj ((show Tryz.prog.funcNamed "quaymaster/quaymasterlaw.NegoPlays" = some 16 by kernel_rfl).symm.trans hf) |>.symm
  obtain rfl : fn = Tryz.f16 := (Option.some.inj (Tryz.func16.symm.trans hfn)).symm
  refine ⟨by kernel_rfl, fun j t ht => ?_⟩
  rw [Tryz.params16] at ht
  have hm : t ∈ ([22, 73, 9] : List TypeId) := by
    have := Array.mem_of_getElem? ht
    simpa using this
  have hall : ([22, 73, 9] : List TypeId).all (fun t => !Tryz.prog.wantsStandIn t) = true := by kernel_rfl
  have hn := List.all_eq_true.1 hall t hm
  show Tryz.prog.wantsStandIn t = false
  simpa using hn
theorem proved : Rows.NegoPlaysCardSaid :=
  Claim7.holds_tied_plain_at .later [] _ _ _ _ said (fun _ h => by cases h) (by kernel_rfl) (fun _ h => by cases h) negoPlays_row_tie rfl ⟨rfl, rfl⟩ (by kernel_rfl) rfl plain (by kernel_rfl)
#print axioms proved
end Go.Proofs.YteapbjeapnmloaaGreatDoor.negoPlays
