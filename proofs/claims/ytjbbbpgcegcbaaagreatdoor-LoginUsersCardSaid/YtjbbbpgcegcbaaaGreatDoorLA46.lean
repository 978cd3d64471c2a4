/- LA44: several texts in one. -/
import Derived.BigQuiet
import Derived.BigRegion
import Derived.Deep.QuietTactic
import Derived.Deep.RegionHeld3
import Derived.JoinedCond
import Derived.LaidHandle
import Derived.LaidLaws
import Derived.Laws.StructEq
import Derived.Lay
import Derived.Lib.LaidTab
import Derived.Lib.LaidU8
import Derived.Lib.SmallJoins
import Derived.ProofKit
import Derived.SevenTiedAt
import Derived.Stop.Joined
import Derived.Test.YtjbbbpgcegcbaaaGreatDoorCards
import Derived.Test.YtjbbbpgcegcbaaaGreatDoorRows
import Derived.Test.YtjbbbpgcegcbaaaGreatDoorTie
import Derived.Test.YtjbbbpgcegcbaaaGreatDoorLA01
import Derived.Test.YtjbbbpgcegcbaaaGreatDoorLA02
import Derived.Test.YtjbbbpgcegcbaaaGreatDoorLA03
import Derived.Test.YtjbbbpgcegcbaaaGreatDoorLA04
import Derived.Test.YtjbbbpgcegcbaaaGreatDoorLA07
import Derived.Test.YtjbbbpgcegcbaaaGreatDoorLA08
import Derived.Test.YtjbbbpgcegcbaaaGreatDoorLA09
import Derived.Test.YtjbbbpgcegcbaaaGreatDoorLA12
import Derived.Test.YtjbbbpgcegcbaaaGreatDoorLA18
import Derived.Test.YtjbbbpgcegcbaaaGreatDoorLA20
import Derived.Test.YtjbbbpgcegcbaaaGreatDoorLA36
import Derived.Test.YtjbbbpgcegcbaaaGreatDoorLA43
namespace Go.Proofs.YtjbbbpgcegcbaaaGreatDoor
open Go Go.RowKit
set_option linter.unusedVariables false
theorem knock_three {c : Cf} {d : Dw} {s s1 s2 s3 : Lg} {p q r A B C : Pd} (h1 : takeL c d s p = ((A, 0), s1)) (h2 : takeL c d s1 q = ((B, 0), s2)) (h3 : takeL c d s2 r = ((C, 0), s3)) : knockL c d s pd0 [p, q, r] = ((C, true), s3) := by
 unfold knockL
 rw [h1, if_neg (by simp)]
 simp only
 unfold knockL
 rw [h2, if_neg (by simp)]
 simp only
 unfold knockL
 rw [h3, if_neg (by simp)]
 rfl
theorem stepC_is {n v : List UInt8} {o : Option (List UInt8 × List UInt8)} (hn : isVal n = true) (hv : isVal v = true) (ho : ∀ p ∈ moreP o, isVal p.v = true) : stepC n v (moreP o) = (⟨reqC, [], prBytes (proofP n v o)⟩, true) := by
 obtain ⟨h1, h2, -⟩ := proof_ok hn hv ho
 exact asks_req (by decide) h1 h2
theorem say_fit {x : List UInt8} (hx : x.length ≤ 8192) : FitP ⟨reqA, [], x⟩ := ⟨by show I64 0; unfold I64; omega, by show 8 ≤ _; decide, ⟨Nat.zero_le _, fun _ h => absurd h List.not_mem_nil⟩, by show x.length ≤ _; omega⟩
theorem reqC_fit {x : List UInt8} (hx : x.length ≤ 8192) : FitP ⟨reqC, [], x⟩ := ⟨by show I64 129; unfold I64; omega, by show 8 ≤ _; decide, ⟨Nat.zero_le _, fun _ h => absurd h List.not_mem_nil⟩, by show x.length ≤ _; omega⟩
theorem reqE_fit : FitP ⟨reqE, [], []⟩ := ⟨by show I64 135; unfold I64; omega, by show 8 ≤ _; decide, ⟨Nat.zero_le _, fun _ h => absurd h List.not_mem_nil⟩, by decide⟩
end Go.Proofs.YtjbbbpgcegcbaaaGreatDoor
namespace Go.Proofs.YtjbbbpgcegcbaaaGreatDoor
open Go.RowKit
set_option linter.unusedVariables false
theorem keepU {Wb W W1 : World} {b : Nat} {v0 v1 : Value} (h : Below Wb.heap.size Wb W ∧ W.cell? ⟨b, 0, none⟩ = some v0 ∧ W.cell? ⟨b, 1, none⟩ = some v1) (hb : Below W.heap.size W W1) :
  Below Wb.heap.size Wb W1 ∧ W1.cell? ⟨b, 0, none⟩ = some v0 ∧ W1.cell? ⟨b, 1, none⟩ = some v1 :=
 ⟨below_then h.1 hb, keepcell hb h.2.1, keepcell hb h.2.2⟩
set_option maxRecDepth 100000 in
set_option maxHeartbeats 4000000 in
theorem proved_fact (w : World) (ht : MdTabs w) (hg : ErrCell w) : Calls Tryz.prog 10 #[] w fun e w' => e = .returned (.bool true) ∧ Below w.heap.size w w' := by
 have hr : respL 7 [115, 51] [97, 98, 99] = (md5L [7, 115, 51, 97, 98, 99], 0) := respL_good 7 [115, 51] [97, 98, 99] (by decide) (by decide)
 have hml := md5L_len16 [7, 115, 51, 97, 98, 99]
 have M := fun W hW => md5Sum_any [7, 115, 51, 97, 98, 99] W (by decide) hW
 generalize md5L [7, 115, 51, 97, 98, 99] = m at hr hml M
 have hf1 : usFind [⟨[109, 101], [115, 51]⟩] [109, 101] = some ⟨[109, 101], [115, 51]⟩ := by simp [usFind]
 have hf2 : usFind [⟨[109, 101], [115, 51]⟩] [121, 111, 117] = none := by simp [usFind]
 have k1 : chkL [⟨[109, 101], [115, 51]⟩] [109, 101] (hexL m) 7 [97, 98, 99] = 0 := by
  rw [chkL_of _ _ _ m 7 _ _ 0 (-1) hf1 (readV_hexL m)]
  show chkR (m, 0) (respL 7 [115, 51] [97, 98, 99]) = 0
  rw [hr]; exact chkR_same m
 have k2 : chkL [⟨[109, 101], [115, 51]⟩] [121, 111, 117] (hexL m) 7 [97, 98, 99] = 8 := chkL_none _ _ _ _ _ hf2
 have k3 : chkL [⟨[109, 101], [115, 51]⟩] [109, 101] [48, 120, 48, 48] 7 [97, 98, 99] = 13 := by
  rw [chkL_of _ _ _ [0] 7 _ _ 0 (-1) hf1 (by decide +kernel)]
  show chkR ([0], 0) (respL 7 [115, 51] [97, 98, 99]) = 13
  rw [hr]; exact chkR_other [0] m (fun e => by rw [← e] at hml; simp at hml)
 have hxl := hexL_len m
 have X := fun W => hex_any m W (by omega)
 generalize hexL m = x at k1 k2 hxl X
 have hA := (Below.refl w.heap.size w).alloc (Nat.le_refl _) (.cells #[.string (S [109, 101]), .string (S [115, 51])] 26)
 have hU := us_new w [⟨[109, 101], [115, 51]⟩] 26
 rw [show (usVs [⟨[109, 101], [115, 51]⟩]).toArray = #[.string (S [109, 101]), .string (S [115, 51])] from rfl] at hU
 have hV : UsV (w.alloc (.cells #[.string (S [109, 101]), .string (S [115, 51])] 26)) (.slice (some ⟨w.heap.size, 0, none⟩) 1 1) [⟨[109, 101], [115, 51]⟩] := hU
 generalize hW1 : w.alloc (.cells #[.string (S [109, 101]), .string (S [115, 51])] 26) = W1 at hA hV
 have hB := (Below.refl W1.heap.size W1).alloc (Nat.le_refl _) (.cells #[.int .i64 7, .string (S [97, 98, 99])] 31)
 have hD := Blk.new W1 #[.int .i64 7, .string (S [97, 98, 99])] 31
 have RS := response_any 7 [115, 51] [97, 98, 99] (W1.alloc (.cells #[.int .i64 7, .string (S [97, 98, 99])] 31)) (ht.later (below_then hA hB))
 rw [hr] at RS
 rw [show errV ((m, (0 : Int)).2) = .nilIface from rfl] at RS
 have RS := Lib.hid RS
 have HV := Lib.hid (hV.later hB)
 have HAB := Lib.hid (below_then hA hB)
 have HD := Lib.hid hD
 obtain ⟨B, hBe⟩ : ∃ B, W1.heap.size = B := ⟨_, rfl⟩
 have Ht := Lib.hid ht
 have Hg := Lib.hid hg
 have M := Lib.hid M
 have X := Lib.hid X
 clear hr hf1 hf2 hU hV hB hD hA ht hg
 go_enter Tryz.func10, Tryz.ntmps10
 go_wp2_with fail
 refine RS.out.mono ?_
 rintro e w3 ⟨rfl, hb3⟩
 have H3 := below_then HAB.out hb3
 have HV3 := HV.out.later hb3
 have hD3 := HD.out.later hb3
 rw [hBe] at hD3
 obtain ⟨r0, r1⟩ := hD3.two
 have Ht3 := Lib.hid (Ht.out.later H3)
 have Hg3 := Lib.hid (Hg.out.later H3)
 have K1 := fun W (hb : Below w3.heap.size w3 W) => check_any [⟨[109, 101], [115, 51]⟩] _ [109, 101] x [97, 98, 99] 7 W (HV3.later hb) (by decide) (by omega) (Ht3.out.later hb) (Hg3.out.later hb)
 have K2 := fun W (hb : Below w3.heap.size w3 W) => check_any [⟨[109, 101], [115, 51]⟩] _ [121, 111, 117] x [97, 98, 99] 7 W (HV3.later hb) (by decide) (by omega) (Ht3.out.later hb) (Hg3.out.later hb)
 have K3 := fun W (hb : Below w3.heap.size w3 W) => check_any [⟨[109, 101], [115, 51]⟩] _ [109, 101] [48, 120, 48, 48] [97, 98, 99] 7 W (HV3.later hb) (by decide) (by decide) (Ht3.out.later hb) (Hg3.out.later hb)
 rw [k1, errV_0] at K1
 rw [k2, show errV 8 = .iface 56 (.int .i64 8) from rfl] at K2
 rw [k3, show errV 13 = .iface 56 (.int .i64 13) from rfl] at K3
 have T1 := Lib.hid (fun W (hb : Below w3.heap.size w3 W) => tell_err 8 W (Hg3.out.later hb))
 have T2 := Lib.hid (fun W (hb : Below w3.heap.size w3 W) => tell_err 13 W (Hg3.out.later hb))
 have K1 := Lib.hid K1
 have K2 := Lib.hid K2
 have K3 := Lib.hid K3
 have HLow := Lib.hid H3
 have hmm : (m == m) = true := by simp
 clear k1 k2 k3 hW1 hBe HV HD hb3 HV3 hD3 H3 hml hxl RS
 go_wp2_with fail
 go_region_held3 (fun w' => Below w3.heap.size w3 w' ∧ w'.cell? ⟨B, 0, none⟩ = some (.int .i64 7) ∧ w'.cell? ⟨B, 1, none⟩ = some (.string (S [97, 98, 99]))) (first | assumption | exact ⟨Below.refl _ _, r0, r1⟩ | exact ⟨(Below.refl _ _).drew, r0, r1⟩ | exact keepU (by assumption) hb') (first | ((with_reducible refine (M.out _ (Ht3.out.later (by first | assumption | exact (‹Below w3.heap.size w3 _ ∧ _›).1))).mono ?_); rintro e w' ⟨rfl, hb'⟩) | ((with_reducible refine (X.out _).mono ?_); rintro e w' ⟨rfl, hb'⟩) | ((with_reducible refine (K1.out _ (by first | assumption | exact (‹Below w3.heap.size w3 _ ∧ _›).1)).mono ?_); rintro e w' ⟨rfl, hb'⟩) | ((with_reducible refine (K2.out _ (by first | assumption | exact (‹Below w3.heap.size w3 _ ∧ _›).1)).mono ?_); rintro e w' ⟨rfl, hb'⟩) | ((with_reducible refine (K3.out _ (by first | assumption | exact (‹Below w3.heap.size w3 _ ∧ _›).1)).mono ?_); rintro e w' ⟨rfl, hb'⟩) | ((with_reducible refine (T1.out _ (by first | assumption | exact (‹Below w3.heap.size w3 _ ∧ _›).1)).mono ?_); rintro e w' ⟨rfl, hb'⟩) | ((with_reducible refine (T2.out _ (by first | assumption | exact (‹Below w3.heap.size w3 _ ∧ _›).1)).mono ?_); rintro e w' ⟨rfl, hb'⟩))
 all_goals
  go_wp2_with fail
  go_ret
  exact ⟨rfl, below_then HLow.out (by first | assumption | exact (‹Below w3.heap.size w3 _ ∧ _›).1)⟩
end Go.Proofs.YtjbbbpgcegcbaaaGreatDoor
namespace Go.Proofs.YtjbbbpgcegcbaaaGreatDoor
open Go.RowKit
end Go.Proofs.YtjbbbpgcegcbaaaGreatDoor
namespace Go.Proofs.YtjbbbpgcegcbaaaGreatDoor
open Go.RowKit
set_option linter.unusedVariables false
end Go.Proofs.YtjbbbpgcegcbaaaGreatDoor
namespace Go.Proofs.YtjbbbpgcegcbaaaGreatDoor
open Go.ChangeShapes Go.WideShapes Go.ChangeAt Go.RowKit
set_option linter.unusedVariables false
theorem jo1 : (laidOutB Tryz.pinned.checked.prog) = true := by kernel_rfl
theorem jo2 : (mapsRowed Tryz.pinned.checked.prog) = true := by kernel_rfl
theorem jo6 : ((Tryz.pinned.checked.prog.stops == [])) = true := by kernel_rfl
theorem jo8 : ((Tryz.pinned.checked.prog.stopKnobs == [])) = true := by kernel_rfl
theorem jo24 : (Tryz.pinned.checked.prog.stopsHeard) = true := by kernel_rfl
theorem jo25 : (Tryz.pinned.checked.prog.mayEnter) = true := by kernel_rfl
theorem jo22 : (Rows.loginSaysRow.plainKeys == Tryz.pinned.checked.prog.plainKeys) = true := by kernel_rfl
theorem jo26 : (Rows.loginSaysRow.lifted == Tryz.pinned.checked.prog.liftsFinal) = true := by kernel_rfl
theorem jo27 : (Tryz.pinned.checked.prog.make == some Rows.loginSaysRow.make) = true := by kernel_rfl
theorem and_mk {a b : Bool} (h : a = true) (k : b = true) : (a && b) = true := by rw [h, k]; rfl
end Go.Proofs.YtjbbbpgcegcbaaaGreatDoor
namespace Go.Proofs.YtjbbbpgcegcbaaaGreatDoor
open Go.RowKit
theorem et_named : Tryz.prog.globalNamed "errors.errorType" = some 0 := by kernel_rfl
theorem et_rt : (Tryz.prog.cutTypes.find? (·.1 == "internal/reflectlite.rtype")).map (·.2) = some 230 := by kernel_rfl
theorem et_oneRow : ((List.range 349).filter fun t => Tryz.prog.rowNamed t [101, 114, 114, 111, 114]) = [43] := by kernel_rfl
theorem et_size : Tryz.prog.types.size = 349 := by kernel_rfl
theorem errCell_of_handles {L : List (String × DataW Unit)} {W : World} (h : handlesMet Tryz.prog L W) (hm : ("errors.errorType", Rows.laid_errors_errorType) ∈ L) : ErrCell W := by
 obtain ⟨name, u, ty, e1, e2, e3, e4, e5⟩ := h _ hm
 have en : name = [101, 114, 114, 111, 114] := (Option.some.inj e1).symm
 subst en
 obtain rfl := Option.some.inj (et_rt.symm.trans e2)
 have hq : ty ∈ (List.range 349).filter fun t => Tryz.prog.rowNamed t [101, 114, 114, 111, 114] := List.mem_filter.2 ⟨List.mem_range.2 (by rw [← et_size]; exact e3), e4⟩
 rw [et_oneRow] at hq
 obtain rfl := List.mem_singleton.1 hq
 have hh : typeHandle Tryz.prog 43 = .pointer (some ⟨11, 43, none⟩) := by kernel_rfl
 rw [hh] at e5
 have := World.var?_cell et_named e5 0
 unfold ErrCell
 simpa using this
noncomputable def laidWorld (os : Os) : World :=
 let w0 := World.holding Tryz.prog os ⟨#[], #[], []⟩
 { w0 with heap := w0.heap.modify 0 fun
   | .cells _ t frozen => .cells #[.iface 230 (.agg #[.pointer (some ⟨11, 43, none⟩)])] t frozen
   | o => o }
end Go.Proofs.YtjbbbpgcegcbaaaGreatDoor
namespace Go.Proofs.YtjbbbpgcegcbaaaGreatDoor
theorem laidMet_lay {P : Program} {w0 : World} {laid : List (String × DataW Unit)} (args : Array Value)
  (hf : w0.layFits P laid [] = true) (hi : w0.layIfaces P laid (w0.layVars P laid) = true) :
  laidMet P laid ((w0.layVars P laid).forCall (fun _ _ => 0) ⟨#[], args, []⟩).memory := by
 have e1 : (laid.filter fun x => (laid.map (·.1)).contains x.1) = laid := List.filter_eq_self.2 fun x hx => List.contains_iff_mem.2 (List.mem_map.2 ⟨x, hx, rfl⟩)
 have e2 : (laid.filter fun x => !(laid.map (·.1)).contains x.1) = [] := List.filter_eq_nil_iff.2 fun x hx => by rw [List.contains_iff_mem.2 (List.mem_map.2 ⟨x, hx, rfl⟩)]; simp
 have h : laidMet P laid (w0.layVars P laid) := laidMet_layVars (w0 := w0) (laid.map (·.1)) [] (by rw [e1]) (by rw [e1]; exact hf) (by rw [e1]; exact hi) (by rw [e2]; exact LaidIn.none)
 exact h.of_heap (by simp [World.memory, World.forCall, Input.heap])
end Go.Proofs.YtjbbbpgcegcbaaaGreatDoor
namespace Go.Proofs.YtjbbbpgcegcbaaaGreatDoor
open Go.RowKit
theorem mdNumbers : (Rows.laid_quaymaster_md5_numbers : DataW Unit) = Go.Lib.tabData .u32 (mK.map fun (n : Nat) => (n : Int)) := by kernel_rfl
theorem mdTurns : (Rows.laid_quaymaster_md5_turns : DataW Unit) = .agg ((List.range 4).map fun i => Go.Lib.tabData .i64 (((mSl.drop (i * 4)).take 4).map fun (n : Nat) => (n : Int))) := by kernel_rfl
theorem mK_len : mK.length = 64 := by kernel_rfl
theorem mSl_len : mSl.length = 16 := by kernel_rfl
set_option maxRecDepth 100000 in
theorem mdTabs_of_reads {W : World} (h1 : Go.Lib.VarReads Tryz.prog W "quaymaster/md5.numbers" Rows.laid_quaymaster_md5_numbers) (h2 : Go.Lib.VarReads Tryz.prog W "quaymaster/md5.turns" Rows.laid_quaymaster_md5_turns) : MdTabs W := by
 rw [mdNumbers] at h1
 rw [mdTurns] at h2
 refine ⟨fun i hi => ?_, fun j hj => ?_⟩
 ·obtain ⟨g, t, cs, fuel, p, hg, hty, hvar, hd⟩ := h1
  obtain rfl : 1 = g := Option.some.inj ((show Tryz.prog.globalNamed "quaymaster/md5.numbers" = some 1 by kernel_rfl).symm.trans hg)
  obtain rfl : 264 = t := Option.some.inj ((show (Tryz.prog.globals[1]?).map (·.type) = some 264 by kernel_rfl).symm.trans hty)
  have hcs := Go.Lib.cells_of_tab (n := 64) (e := 66) (by kernel_rfl) (by kernel_rfl) (by kernel_rfl) (by kernel_rfl) hd
  have := World.var?_cell hg hvar i
  rw [this, ← Array.getElem?_toList, hcs]
  have hl := mK_len
  rw [List.getElem?_map, List.getElem?_map, List.getElem?_eq_getElem (by omega), List.getD_eq_getElem?_getD, List.getElem?_eq_getElem (by omega)]
  rfl
 ·obtain ⟨g, t, cs, fuel, p, hg, hty, hvar, hd⟩ := h2
  obtain rfl : 2 = g := Option.some.inj ((show Tryz.prog.globalNamed "quaymaster/md5.turns" = some 2 by kernel_rfl).symm.trans hg)
  obtain rfl : 266 = t := Option.some.inj ((show (Tryz.prog.globals[2]?).map (·.type) = some 266 by kernel_rfl).symm.trans hty)
  obtain ⟨fuel', d, q, hd1, hd2⟩ := Go.Lib.array_elem (n := 4) (e := 265) (by kernel_rfl) hd (j / 4) (by omega)
  rw [show Tryz.prog.cellsOf 265 = 4 by kernel_rfl] at hd2
  rw [List.getElem?_map, List.getElem?_range (by omega)] at hd1
  obtain rfl := Option.some.inj hd1
  have hcs := Go.Lib.cells_of_tab (n := 4) (e := 3) (by kernel_rfl) (by kernel_rfl) (by kernel_rfl) (by kernel_rfl) hd2
  have := World.var?_cell hg hvar j
  have hl := mSl_len
  have e1 := congrArg (·[j % 4]?) hcs
  simp only [List.getElem?_map, List.getElem?_take, List.getElem?_drop, if_pos (show j % 4 < 4 by omega), show j / 4 * 4 + j % 4 = j by omega] at e1
  rw [this, ← Array.getElem?_toList, e1, List.getD_eq_getElem?_getD, List.getElem?_eq_getElem (by omega)]
  rfl
end Go.Proofs.YtjbbbpgcegcbaaaGreatDoor
namespace Go.Proofs.YtjbbbpgcegcbaaaGreatDoor
open Go.RowKit Go.ChangeShapes Go.WideShapes Go.Deep
set_option maxRecDepth 100000 in
theorem open_draw {H : Type} {enc : TypeId × Value → H} {W : World} {base : Nat} {ts : List TypeId} {ds : List (DataW H)} {v : Value} {d : DataW H} {p : List MemPlace} (hsz : (DataW.weightsEach Tryz.prog ts ds).all (· ≤ reachBytes) = true) {j : Nat} (hts : ts[j]? = some 31) (hds : ds[j]? = some d)
  (hval : Value.okWide Tryz.prog W .any base 31 v) (h : DataW.Trod enc Tryz.prog W 0 (fun _ => true) true 31 v d p) : ∃ x : Dw, v = .agg #[.int .i64 x.id, .string (S x.ch)] ∧ ((Lit.int .i64 x.id).wf = true ∧ x.ch.length ≤ 140737488351232) := by
 obtain ⟨v0, v1, y0, y1, n, rfl, rfl, rfl, h0, h1⟩ := Joins.open_agg2 Tryz.underlying31 (by kernel_rfl) (by kernel_rfl) hval h
 have hwm : ∀ (i : Nat) (t : TypeId) (y : DataW H), ([3, 9] : List TypeId)[i]? = some t → ([y0.1, y1.1] : List (DataW H))[i]? = some y → ∀ k ∈ DataW.weights Tryz.prog t y, k ≤ reachBytes := fun i t y ht hy k hk => by
  have h1 := DataW.weights_mem_each ht hy k hk
  have h2 : k ∈ DataW.weights Tryz.prog 31 (.agg [y0.1, y1.1]) := by
   simp only [DataW.weights, Tryz.underlying31]
   exact h1
  have := List.all_eq_true.1 hsz _ (DataW.weights_mem_each hts hds _ h2)
  simpa using this
 obtain ⟨a, e0, _, wa⟩ := DataW.trod_int Tryz.underlying3 h0
 obtain ⟨b1, e1, z1, _⟩ := DataW.trod_string Tryz.underlying9 h1
 obtain ⟨s1, rfl⟩ := S_of b1
 obtain rfl : v0 = .int .i64 a := by simpa using e0
 obtain rfl : v1 = .string (S s1) := by simpa using e1
 have d1 : y1.1 = .lit (.string s1) := by
  have := congrArg Prod.fst z1
  simpa [S] using this
 have l1 := hwm 1 _ _ rfl rfl s1.length (by rw [d1]; simp [DataW.weights])
 have hrb : reachBytes = 140737488351232 := rfl
 exact ⟨⟨a, s1⟩, rfl, wa, by simp only; omega⟩
end Go.Proofs.YtjbbbpgcegcbaaaGreatDoor
namespace Go.Proofs.YtjbbbpgcegcbaaaGreatDoor
open Go.RowKit
theorem sy_of_reads {W : World} (h : Go.Lib.VarReads Tryz.prog W "strconv.ErrSyntax" Rows.laid_strconv_ErrSyntax) : ∃ v, W.cell? ⟨4, 0, none⟩ = some v ∧ (v = .nilIface ∨ ∃ t p, v = .iface t p) := by
 obtain ⟨g, t, cs, fuel, p, hg, hty, hvar, hd⟩ := h
 obtain rfl : 4 = g := Option.some.inj ((show Tryz.prog.globalNamed "strconv.ErrSyntax" = some 4 by kernel_rfl).symm.trans hg)
 obtain rfl : 43 = t := Option.some.inj ((show (Tryz.prog.globals[4]?).map (·.type) = some 43 by kernel_rfl).symm.trans hty)
 obtain ⟨f1, u, v, hcs, _, _⟩ := iface_of_trod Tryz.underlying43 hd
 refine ⟨.iface u v, ?_, .inr ⟨u, v, rfl⟩⟩
 have := World.var?_cell hg hvar 0
 rw [this, ← Array.getElem?_toList, hcs]
 rfl
theorem rg_of_reads {W : World} (h : Go.Lib.VarReads Tryz.prog W "strconv.ErrRange" Rows.laid_strconv_ErrRange) : ∃ v, W.cell? ⟨5, 0, none⟩ = some v ∧ (v = .nilIface ∨ ∃ t p, v = .iface t p) := by
 obtain ⟨g, t, cs, fuel, p, hg, hty, hvar, hd⟩ := h
 obtain rfl : 5 = g := Option.some.inj ((show Tryz.prog.globalNamed "strconv.ErrRange" = some 5 by kernel_rfl).symm.trans hg)
 obtain rfl : 43 = t := Option.some.inj ((show (Tryz.prog.globals[5]?).map (·.type) = some 43 by kernel_rfl).symm.trans hty)
 obtain ⟨f1, u, v, hcs, _, _⟩ := iface_of_trod Tryz.underlying43 hd
 refine ⟨.iface u v, ?_, .inr ⟨u, v, rfl⟩⟩
 have := World.var?_cell hg hvar 0
 rw [this, ← Array.getElem?_toList, hcs]
 rfl
theorem powData : (Rows.laid_internal_strconv_uint64pow10 : DataW Unit) = Go.Lib.tabData .u64 Lib.pow10Tab := by kernel_rfl
theorem tab_of_reads {W : World} (h : Go.Lib.VarReads Tryz.prog W "internal/strconv.uint64pow10" Rows.laid_internal_strconv_uint64pow10) : Lib.TabIs Tryz.prog W "internal/strconv.uint64pow10" .u64 Lib.pow10Tab := by
 rw [powData] at h
 obtain ⟨g, t, cs, fuel, p, hg, hty, hvar, hd⟩ := h
 obtain rfl : 8 = g := Option.some.inj ((show Tryz.prog.globalNamed "internal/strconv.uint64pow10" = some 8 by kernel_rfl).symm.trans hg)
 obtain rfl : 313 = t := Option.some.inj ((show (Tryz.prog.globals[8]?).map (·.type) = some 313 by kernel_rfl).symm.trans hty)
 have hcs := Go.Lib.cells_of_tab (n := 20) (e := 77) (by kernel_rfl) (by kernel_rfl) (by kernel_rfl) (by kernel_rfl) hd
 unfold Lib.TabIs
 rw [hvar, ← hcs]
theorem env_of {W : World} (hS : W.ShapedOpen Tryz.prog) (h1 : Go.Lib.VarReads Tryz.prog W "strconv.ErrSyntax" Rows.laid_strconv_ErrSyntax) (h2 : Go.Lib.VarReads Tryz.prog W "strconv.ErrRange" Rows.laid_strconv_ErrRange) (h3 : Go.Lib.VarReads Tryz.prog W "internal/strconv.uint64pow10" Rows.laid_internal_strconv_uint64pow10) : Env W :=
 ⟨maxCell_of_shaped hS, sy_of_reads h1, rg_of_reads h2, tab_of_reads h3⟩
theorem wf_u32 {n : Int} (h : (Lit.int .u32 n).wf = true) : ∃ k : Nat, n = k ∧ k < 2 ^ 32 := by
 have h' : 0 ≤ n ∧ n ≤ 4294967295 := by simpa [Lit.wf, IntKind.min, IntKind.max, IntKind.signed, IntKind.bits] using h
 exact ⟨n.toNat, by omega, by omega⟩
theorem u64_wrap (a : Int) : IntKind.u64.wrap a = a % 2 ^ 64 := by
 have s : IntKind.u64.signed = false := rfl
 unfold IntKind.wrap
 simp only [s, Bool.false_and, Bool.false_eq_true, if_false]
 rfl
def pickI (a : Int) (n : Nat) : Nat := (a % 2 ^ 64).toNat % n
theorem pickI_lt (a : Int) (n : Nat) (hn : 0 < n) : pickI a n < n := Nat.mod_lt _ hn
theorem pick_walk (a : Int) (n : Nat) (hn : 0 < n) (h : n ≤ 4611686018427387904) : wrap64 ((IntKind.u64.wrap a).tmod (n : Int)) = ((pickI a n : Nat) : Int) := by
 have h0 : 0 ≤ a % 2 ^ 64 := Int.emod_nonneg _ (by decide)
 have e : (IntKind.u64.wrap a).tmod (n : Int) = ((pickI a n : Nat) : Int) := by
  rw [u64_wrap, Int.tmod_eq_emod_of_nonneg h0]
  unfold pickI
  generalize a % 2 ^ 64 = m at h0
  obtain ⟨k, rfl⟩ := Int.eq_ofNat_of_zero_le h0
  rw [Int.toNat_natCast, Int.natCast_emod]
 have hlt := pickI_lt a n hn
 rw [e]
 exact IntWalk.wrap64_in _ ⟨by omega, by omega⟩
theorem pick_any (a : Int) (n : Nat) (w : World) (hn : 0 < n) (h : n ≤ 4611686018427387904) :
  Calls Tryz.prog 27 #[.int .i64 a, .int .i64 n] w fun e w' => e = .returned (.int .i64 (pickI a n : Nat)) ∧ w = w' := by
 have hp := pick_walk a n hn h
 have hn2 : (n : Int) ≠ 0 := by omega
 go_enter Tryz.func27, Tryz.ntmps27
 go_wp2_with fail
 go_ret
 exact ⟨ret_int hp, rfl⟩
end Go.Proofs.YtjbbbpgcegcbaaaGreatDoor
namespace Go.Proofs.YtjbbbpgcegcbaaaGreatDoor
open Go.RowKit Go.ChangeShapes Go.WideShapes Go.Deep
end Go.Proofs.YtjbbbpgcegcbaaaGreatDoor
