/- quaymasterkeep.proved: who somebody is, as it is told. -/
import Derived.Test.YtoponmdfjbhnoaaDoorChapCheck
import Derived.Test.YtoponmdfjbhnoaaDoorBinaryPlain
import Derived.Deep.RegionHeld3
namespace Go.Proofs.YtoponmdfjbhnoaaDoor
open Go.RowKit
set_option linter.unusedVariables false
theorem keepU {Wb W W1 : World} {b : Nat} {v0 v1 : Value} (h : Below Wb.heap.size Wb W ∧ W.cell? ⟨b, 0, none⟩ = some v0 ∧ W.cell? ⟨b, 1, none⟩ = some v1) (hb : Below W.heap.size W W1) :
    Below Wb.heap.size Wb W1 ∧ W1.cell? ⟨b, 0, none⟩ = some v0 ∧ W1.cell? ⟨b, 1, none⟩ = some v1 :=
  ⟨below_then h.1 hb, keepcell hb h.2.1, keepcell hb h.2.2⟩
set_option maxRecDepth 100000 in
set_option maxHeartbeats 4000000 in
theorem proved_fact (w : World) (ht : MdTabs w) (hg : ErrCell w) : Calls Tryd.prog 6 #[] w fun e w' => e = .returned (.bool true) ∧ Below w.heap.size w w' := by
  have hr : respL 7 [115, 51] [97, 98, 99] = (md5L [7, 115, 51, 97, 98, 99], 0) := respL_good 7 [115, 51] [97, 98, 99] (by decide) (by decide)
  have hml := md5L_len16 [7, 115, 51, 97, 98, 99]
  have M := fun W hW => md5Sum_any [7, 115, 51, 97, 98, 99] W (by decide) hW
  generalize md5L [7, 115, 51, 97, 98, 99] = m at hr hml M
  have hf1 : usFind [⟨[109, 101], [115, 51]⟩] [109, 101] = some ⟨[109, 101], [115, 51]⟩ := by simp [usFind]
  have hf2 : usFind [⟨[109, 101], [115, 51]⟩] [121, 111, 117] = none := by simp [usFind]
  have k1 : chkL [⟨[109, 101], [115, 51]⟩] [109, 101] (hexL m) 7 [97, 98, 99] = 0 := by
    rw [chkL_of _ _ _ m 7 _ _ 0 (-1) hf1 (readV_hexL m)]
    show chkR (m, 0) (respL 7 [115, 51] [97, 98, 99]) = 0
    rw [hr]; exact chkR_same m
  have k2 : chkL [⟨[109, 101], [115, 51]⟩] [121, 111, 117] (hexL m) 7 [97, 98, 99] = 8 := chkL_none _ _ _ _ _ hf2
  have k3 : chkL [⟨[109, 101], [115, 51]⟩] [109, 101] [48, 120, 48, 48] 7 [97, 98, 99] = 13 := by
    rw [chkL_of _ _ _ [0] 7 _ _ 0 (-1) hf1 (by decide +kernel)]
    show chkR ([0], 0) (respL 7 [115, 51] [97, 98, 99]) = 13
    rw [hr]; exact chkR_other [0] m (fun e => by rw [← e] at hml; simp at hml)
  have hxl := hexL_len m
  have X := fun W => hex_any m W (by omega)
  generalize hexL m = x at k1 k2 hxl X
  have hA := (Below.refl w.heap.size w).alloc (Nat.le_refl _) (.cells #[.string (S [109, 101]), .string (S [115, 51])] 27)
  have hU := us_new w [⟨[109, 101], [115, 51]⟩] 27
  rw [show (usVs [⟨[109, 101], [115, 51]⟩]).toArray = #[.string (S [109, 101]), .string (S [115, 51])] from rfl] at hU
  have hV : UsV (w.alloc (.cells #[.string (S [109, 101]), .string (S [115, 51])] 27)) (.slice (some ⟨w.heap.size, 0, none⟩) 1 1) [⟨[109, 101], [115, 51]⟩] := hU
  generalize hW1 : w.alloc (.cells #[.string (S [109, 101]), .string (S [115, 51])] 27) = W1 at hA hV
  have hB := (Below.refl W1.heap.size W1).alloc (Nat.le_refl _) (.cells #[.int .i64 7, .string (S [97, 98, 99])] 23)
  have hD := Blk.new W1 #[.int .i64 7, .string (S [97, 98, 99])] 23
  have RS := response_any 7 [115, 51] [97, 98, 99] (W1.alloc (.cells #[.int .i64 7, .string (S [97, 98, 99])] 23)) (ht.later (below_then hA hB))
  rw [hr] at RS
  rw [show errV ((m, (0 : Int)).2) = .nilIface from rfl] at RS
  have RS := Lib.hid RS
  have HV := Lib.hid (hV.later hB)
  have HAB := Lib.hid (below_then hA hB)
  have HD := Lib.hid hD
  obtain ⟨B, hBe⟩ : ∃ B, W1.heap.size = B := ⟨_, rfl⟩
  have Ht := Lib.hid ht
  have Hg := Lib.hid hg
  have M := Lib.hid M
  have X := Lib.hid X
  clear hr hf1 hf2 hU hV hB hD hA ht hg
  go_enter Tryd.func6, Tryd.ntmps6
  go_wp2_with fail
  refine RS.out.mono ?_
  rintro e w3 ⟨rfl, hb3⟩
  have H3 := below_then HAB.out hb3
  have HV3 := HV.out.later hb3
  have hD3 := HD.out.later hb3
  rw [hBe] at hD3
  obtain ⟨r0, r1⟩ := hD3.two
  have Ht3 := Lib.hid (Ht.out.later H3)
  have Hg3 := Lib.hid (Hg.out.later H3)
  have K1 := fun W (hb : Below w3.heap.size w3 W) => check_any [⟨[109, 101], [115, 51]⟩] _ [109, 101] x [97, 98, 99] 7 W (HV3.later hb) (by decide) (by omega) (Ht3.out.later hb) (Hg3.out.later hb)
  have K2 := fun W (hb : Below w3.heap.size w3 W) => check_any [⟨[109, 101], [115, 51]⟩] _ [121, 111, 117] x [97, 98, 99] 7 W (HV3.later hb) (by decide) (by omega) (Ht3.out.later hb) (Hg3.out.later hb)
  have K3 := fun W (hb : Below w3.heap.size w3 W) => check_any [⟨[109, 101], [115, 51]⟩] _ [109, 101] [48, 120, 48, 48] [97, 98, 99] 7 W (HV3.later hb) (by decide) (by decide) (Ht3.out.later hb) (Hg3.out.later hb)
  rw [k1, errV_0] at K1
  rw [k2, show errV 8 = .iface 40 (.int .i64 8) from rfl] at K2
  rw [k3, show errV 13 = .iface 40 (.int .i64 13) from rfl] at K3
  have T1 := Lib.hid (fun W (hb : Below w3.heap.size w3 W) => tell_err 8 W (Hg3.out.later hb))
  have T2 := Lib.hid (fun W (hb : Below w3.heap.size w3 W) => tell_err 13 W (Hg3.out.later hb))
  have K1 := Lib.hid K1
  have K2 := Lib.hid K2
  have K3 := Lib.hid K3
  have HLow := Lib.hid H3
  have hmm : (m == m) = true := by simp
  clear k1 k2 k3 hW1 hBe HV HD hb3 HV3 hD3 H3 hml hxl RS
  go_wp2_with fail
  go_region_held3 (fun w' => Below w3.heap.size w3 w' ∧ w'.cell? ⟨B, 0, none⟩ = some (.int .i64 7) ∧ w'.cell? ⟨B, 1, none⟩ = some (.string (S [97, 98, 99]))) (first | assumption | exact ⟨Below.refl _ _, r0, r1⟩ | exact ⟨(Below.refl _ _).drew, r0, r1⟩ | exact keepU (by assumption) hb') (first | ((with_reducible refine (M.out _ (Ht3.out.later (by first | assumption | exact (‹Below w3.heap.size w3 _ ∧ _›).1))).mono ?_); rintro e w' ⟨rfl, hb'⟩) | ((with_reducible refine (X.out _).mono ?_); rintro e w' ⟨rfl, hb'⟩) | ((with_reducible refine (K1.out _ (by first | assumption | exact (‹Below w3.heap.size w3 _ ∧ _›).1)).mono ?_); rintro e w' ⟨rfl, hb'⟩) | ((with_reducible refine (K2.out _ (by first | assumption | exact (‹Below w3.heap.size w3 _ ∧ _›).1)).mono ?_); rintro e w' ⟨rfl, hb'⟩) | ((with_reducible refine (K3.out _ (by first | assumption | exact (‹Below w3.heap.size w3 _ ∧ _›).1)).mono ?_); rintro e w' ⟨rfl, hb'⟩) | ((with_reducible refine (T1.out _ (by first | assumption | exact (‹Below w3.heap.size w3 _ ∧ _›).1)).mono ?_); rintro e w' ⟨rfl, hb'⟩) | ((with_reducible refine (T2.out _ (by first | assumption | exact (‹Below w3.heap.size w3 _ ∧ _›).1)).mono ?_); rintro e w' ⟨rfl, hb'⟩))
  all_goals
    go_wp2_with fail
    go_ret
    exact ⟨rfl, below_then HLow.out (by first | assumption | exact (‹Below w3.heap.size w3 _ ∧ _›).1)⟩
end Go.Proofs.YtoponmdfjbhnoaaDoor
