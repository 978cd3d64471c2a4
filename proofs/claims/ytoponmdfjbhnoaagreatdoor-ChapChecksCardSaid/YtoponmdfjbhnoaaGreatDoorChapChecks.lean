/- ChapChecks: any response, and whether any value is a user's, is the document's. -/
import Derived.Test.YtoponmdfjbhnoaaGreatDoorRefChap
import Derived.Test.YtoponmdfjbhnoaaGreatDoorChapCheck
import Derived.Test.YtoponmdfjbhnoaaGreatDoorGB
import Derived.Test.YtoponmdfjbhnoaaGreatDoorGC
import Derived.Deep.RegionHeld3
namespace Go.Proofs.YtoponmdfjbhnoaaGreatDoor
open Go Go.RowKit
set_option linter.unusedVariables false
theorem keepC {Wb W W1 : World} {b b' : Nat} {u v0 v1 : Value} (h : Below Wb.heap.size Wb W ∧ W.cell? ⟨b, 0, none⟩ = some u ∧ W.cell? ⟨b', 0, none⟩ = some v0 ∧ W.cell? ⟨b', 1, none⟩ = some v1) (hb : Below W.heap.size W W1) :
    Below Wb.heap.size Wb W1 ∧ W1.cell? ⟨b, 0, none⟩ = some u ∧ W1.cell? ⟨b', 0, none⟩ = some v0 ∧ W1.cell? ⟨b', 1, none⟩ = some v1 :=
  ⟨below_then h.1 hb, keepcell hb h.2.1, keepcell hb h.2.2.1, keepcell hb h.2.2.2⟩
set_option maxRecDepth 100000 in
set_option maxHeartbeats 8000000 in
theorem chapChecks_any (l : List Us) (v : Value) (n s : List UInt8) (d : Dw) (w : World) (hv : UsV w v l) (hf : WideU l) (hn : n.length ≤ 140737488351232) (hs : s.length ≤ 140737488351232) (hd : (Lit.int .i64 d.id).wf = true ∧ d.ch.length ≤ 140737488351232) (ht : MdTabs w) (hT : LowT w) (hB : BruijnT w) (hg : ErrCell w) :
    Calls Tryz.prog 3 #[v, .string (S n), .string (S s), .agg #[.int .i64 d.id, .string (S d.ch)]] w fun e w' => e = .returned (.bool true) ∧ Below w.heap.size w w' := by
  obtain ⟨p, cp, rfl⟩ := hv.form
  obtain ⟨id, c⟩ := d
  simp only at hd ⊢
  have hA := (Below.refl w.heap.size w).alloc (Nat.le_refl _) (.cells #[.string (S n)] 9)
  have hN := Blk.new w #[.string (S n)] 9
  generalize hW1 : w.alloc (.cells #[.string (S n)] 9) = W1 at hA hN
  have hB1 := (Below.refl W1.heap.size W1).alloc (Nat.le_refl _) (.cells #[.int .i64 id, .string (S c)] 24)
  have hD := Blk.new W1 #[.int .i64 id, .string (S c)] 24
  have hN := hN.later hB1
  have hAB := below_then hA hB1
  have HV := Lib.hid (hv.later hAB)
  have Ht := Lib.hid (ht.later hAB)
  have HT := Lib.hid (hT.later hAB)
  have HB := Lib.hid (hB.later hAB)
  have Hg := Lib.hid (hg.later hAB)
  have HD := Lib.hid hD
  have HN := Lib.hid hN
  have HAB := Lib.hid hAB
  have Hf := Lib.hid hf
  have hl32 := hf.2
  clear hA hB1 hD hN hAB hv hf ht hT hB hg
  go_enter Tryz.func3, Tryz.ntmps3
  obtain ⟨W2, hW2⟩ : ∃ W2, W1.alloc (.cells #[.int .i64 id, .string (S c)] 24) = W2 := ⟨_, rfl⟩
  rw [hW2] at HV Ht HT HB Hg HD HN HAB
  obtain ⟨d0, d1⟩ := HD.out.two
  have n0 := HN.out.one
  by_cases h5 : 50 < l.length
  · have h5i : (50 : Int) < (l.length : Int) := by omega
    go_wp2_with fail
    go_ret
    exact ⟨rfl, HAB.out⟩
  · have h5i : ¬ (50 : Int) < (l.length : Int) := by omega
    by_cases h9 : 900 < n.length + s.length + c.length
    · have h9i : (900 : Int) < (n.length : Int) + (s.length : Int) + (c.length : Int) := by omega
      go_wp2_with fail
      go_ret
      exact ⟨rfl, HAB.out⟩
    · have h9i : ¬ (900 : Int) < (n.length : Int) + (s.length : Int) + (c.length : Int) := by omega
      go_wp2_with fail
      clear d0 d1 n0 hW1 hW2
      go_loopw [35] (fun i wr => ∃ j : Nat, j ≤ l.length ∧ i = .int .i64 j ∧ Below W2.heap.size W2 wr) (fun i _ => l.length - (intOf i).toNat)
      case atStart => exact ⟨0, by omega, rfl, Below.refl _ _⟩
      case round =>
        obtain ⟨j, hj, rfl, hb⟩ := hrel
        have Hb := Lib.hid hb
        have HVr := Lib.hid (HV.out.later hb)
        by_cases hlt : j < l.length
        · obtain ⟨b, o, rfl, q0, q1⟩ := HVr.out.cell hlt
          obtain ⟨y, hy⟩ : ∃ y, l[j] = y := ⟨_, rfl⟩
          rw [hy] at q0 q1
          obtain ⟨k, e⟩ := y
          simp only at q0 q1
          have Hb2 := Lib.hid (hb.alloc hb.size (.cells #[.string (S k), .string (S e)] 26))
          have hke : k.length ≤ 140737488355328 ∧ e.length ≤ 140737488355328 := by
            have := Hf.out.1.2 l[j] (List.getElem_mem hlt)
            rw [hy] at this
            exact this
          clear hb hy
          by_cases h3 : 300 < e.length + k.length
          · have h3i : (300 : Int) < (e.length : Int) + (k.length : Int) := by omega
            go_wp2_with fail
            go_ret
            exact ⟨rfl, below_then HAB.out Hb2.out⟩
          · have h3i : ¬ (300 : Int) < (e.length : Int) + (k.length : Int) := by omega
            go_wp2_with fail
            go_roundw
            case rel => exact ⟨j + 1, by omega, by go_num, Hb2.out⟩
            case measure => simp [intOf]; omega
        · obtain rfl : j = l.length := by omega
          have HDr := Lib.hid (HD.out.later hb)
          have HNr := Lib.hid (HN.out.later hb)
          obtain ⟨x, q, hxq⟩ : ∃ x q, respL id n c = (x, q) := ⟨_, _, rfl⟩
          obtain ⟨EV, hEV⟩ : ∃ EV, errV q = EV := ⟨_, rfl⟩
          obtain ⟨N, hN⟩ : ∃ N, chkL l n s id c = N := ⟨_, rfl⟩
          obtain ⟨EN, hEN⟩ : ∃ EN, errV N = EN := ⟨_, rfl⟩
          have RR := fun W => refResp_any id n c W
          have PR := fun W (h : Below W2.heap.size W2 W) => response_any id n c W (Ht.out.later h)
          have BQ := fun W (h : Below W2.heap.size W2 W) => bare_any q W (Hg.out.later h)
          have BN := fun W (h : Below W2.heap.size W2 W) => bare_any N W (Hg.out.later h)
          have CK := fun W (h : Below W2.heap.size W2 W) => check_any l _ n s c id W (HV.out.later h) (by omega) (by omega) (Ht.out.later h) (Hg.out.later h)
          have RK := fun W (h : Below W2.heap.size W2 W) => refCheck_any l _ n s c id W (HV.out.later h) (by omega) (by omega) (HT.out.later h) (HB.out.later h)
          rw [hxq] at RR PR
          simp only at RR PR
          rw [hEV] at PR BQ
          rw [hN] at CK RK
          rw [hEN] at CK BN
          have RR := Lib.hid RR
          have PR := Lib.hid PR
          have BQ := Lib.hid BQ
          have BN := Lib.hid BN
          have CK := Lib.hid CK
          have RK := Lib.hid RK
          obtain ⟨d0, d1⟩ := HDr.out.two
          have n0 := HNr.out.one
          clear hb hxq hEV hN hEN h5 h9 hd hn hs hl32 hj hlt
          go_wp2_with fail
          refine (RR.out _).mono ?_
          rintro e w3 ⟨rfl, hb3⟩
          have Hb3 := Lib.hid (below_then Hb.out hb3)
          have HD3 := Lib.hid (HDr.out.later hb3)
          have HN3 := Lib.hid (HNr.out.later hb3)
          clear d0 d1 n0 hb3 HDr HNr RR Hb HVr
          obtain ⟨d0, d1⟩ := HD3.out.two
          have n0 := HN3.out.one
          go_wp2_with fail
          refine (PR.out _ Hb3.out).mono ?_
          rintro e w4 ⟨rfl, hb4⟩
          have Hb4 := Lib.hid (below_then Hb3.out hb4)
          have HD4 := Lib.hid (HD3.out.later hb4)
          have HN4 := Lib.hid (HN3.out.later hb4)
          clear d0 d1 n0 hb4 HD3 HN3 PR Hb3
          have n0 := HN4.out.one
          have IX := Lib.hid (indexFuncU_any l _ n w.heap.size w4 (HV.out.later Hb4.out) (by omega) n0)
          go_wp2_with fail
          refine IX.out.mono ?_
          rintro e w5 ⟨i5, rfl, hix, hb5⟩
          have Hb5 := Lib.hid (below_then Hb4.out hb5)
          have HD5 := Lib.hid (HD4.out.later hb5)
          have HN5 := Lib.hid (HN4.out.later hb5)
          have Hix := Lib.hid hix
          clear n0 hb5 HD4 HN4 IX Hb4 hix
          have n0 := HN5.out.one
          have FD := Lib.hid (findU_any l n _ w5 (HV.out.later Hb5.out) (by omega))
          go_wp2_with fail
          refine FD.out.mono ?_
          rintro e w6 ⟨he, hb6⟩
          obtain rfl := he
          have Hb6 := Lib.hid (below_then Hb5.out hb6)
          have HD6 := Lib.hid (HD5.out.later hb6)
          have HN6 := Lib.hid (HN5.out.later hb6)
          clear n0 hb6 HD5 HN5 FD Hb5
          have hxx : (x == x) = true := by simp
          rcases Hix.out with ⟨rfl, hu⟩ | ⟨k, hk, rfl, hu⟩
          · rw [hu]
            simp only [usR]
            have E := fun W => us_same W [] []
            have hal := (Below.refl w6.heap.size w6).alloc (Nat.le_refl _) (.cells #[.string (S []), .string (S [])] 26)
            have HD7 := Lib.hid (HD6.out.later hal)
            have HN7 := Lib.hid (HN6.out.later hal)
            have Hb7 := Lib.hid (below_then Hb6.out hal)
            clear hu hal HD6 HN6 Hb6 Hix
            go_wp2_with fail
            go_quiet (fail)
            generalize w6.alloc (.cells #[.string (S []), .string (S [])] 26) = w7 at *
            clear E
            have hdn := below_drewN (Below.refl w7.heap.size w7) nq
            have HD8 := Lib.hid (HD7.out.later hdn)
            have HN8 := Lib.hid (HN7.out.later hdn)
            have Hb8 := Lib.hid (below_then Hb7.out hdn)
            clear hdn
            generalize w7.drewN nq = w8 at *
            obtain ⟨d0, d1⟩ := HD8.out.two
            have n0 := HN8.out.one
            have BQ8 := Lib.hid (fun W (h : Below w8.heap.size w8 W) => BQ.out W (below_then Hb8.out h))
            have BN8 := Lib.hid (fun W (h : Below w8.heap.size w8 W) => BN.out W (below_then Hb8.out h))
            have CK8 := Lib.hid (fun W (h : Below w8.heap.size w8 W) => CK.out W (below_then Hb8.out h))
            have RK8 := Lib.hid (fun W (h : Below w8.heap.size w8 W) => RK.out W (below_then Hb8.out h))
            have HwE := Lib.hid (below_then HAB.out Hb8.out)
            clear BQ BN CK RK Hb8 HD8 HN8 HD7 HN7 Hb7 HV Ht HT HB Hg HD HN HAB Hf
            go_wp2_with fail
            go_region_held3 (fun w' => Below w8.heap.size w8 w' ∧ w'.cell? ⟨w.heap.size, 0, none⟩ = some (.string (S n)) ∧ w'.cell? ⟨W1.heap.size, 0, none⟩ = some (.int .i64 id) ∧ w'.cell? ⟨W1.heap.size, 1, none⟩ = some (.string (S c))) (first | assumption | exact ⟨Below.refl _ _, n0, d0, d1⟩ | exact ⟨(Below.refl _ _).drew, n0, d0, d1⟩ | exact keepC (by assumption) hb') (first | ((with_reducible refine (BQ8.out _ (by first | assumption | exact (‹Below w8.heap.size w8 _ ∧ _›).1)).mono ?_); rintro e w' ⟨rfl, hb'⟩) | ((with_reducible refine (CK8.out _ (by first | assumption | exact (‹Below w8.heap.size w8 _ ∧ _›).1)).mono ?_); rintro e w' ⟨rfl, hb'⟩) | ((with_reducible refine (RK8.out _ (by first | assumption | exact (‹Below w8.heap.size w8 _ ∧ _›).1)).mono ?_); rintro e w' ⟨rfl, hb'⟩) | ((with_reducible refine (BN8.out _ (by first | assumption | exact (‹Below w8.heap.size w8 _ ∧ _›).1)).mono ?_); rintro e w' ⟨rfl, hb'⟩))
            all_goals
              go_wp2_with fail
              go_ret
              exact ⟨rfl, below_then HwE.out (by first | assumption | exact (‹Below w8.heap.size w8 _ ∧ _›).1)⟩
          · rw [hu]
            obtain ⟨y, hy⟩ : ∃ y, l[k] = y := ⟨_, rfl⟩
            rw [hy]
            obtain ⟨yn, ys⟩ := y
            simp only [usR]
            have E := fun W => us_same W yn ys
            have hal := (Below.refl w6.heap.size w6).alloc (Nat.le_refl _) (.cells #[.string (S yn), .string (S ys)] 26)
            have HD7 := Lib.hid (HD6.out.later hal)
            have HN7 := Lib.hid (HN6.out.later hal)
            have Hb7 := Lib.hid (below_then Hb6.out hal)
            obtain ⟨b, o, rfl, q0, q1⟩ := (HV.out.later Hb7.out).cell hk
            rw [hy] at q0 q1
            simp only at q0 q1
            have hk0 : (0 : Int) ≤ (k : Int) := by omega
            have hki : (k : Int) < (l.length : Int) := by omega
            clear hu hy hal HD6 HN6 Hb6 Hix
            go_wp2_with fail
            go_quiet (fail)
            generalize w6.alloc (.cells #[.string (S yn), .string (S ys)] 26) = w7 at *
            clear E q0 q1
            have hdn := below_drewN (Below.refl w7.heap.size w7) nq
            have HD8 := Lib.hid (HD7.out.later hdn)
            have HN8 := Lib.hid (HN7.out.later hdn)
            have Hb8 := Lib.hid (below_then Hb7.out hdn)
            clear hdn
            generalize w7.drewN nq = w8 at *
            obtain ⟨d0, d1⟩ := HD8.out.two
            have n0 := HN8.out.one
            have BQ8 := Lib.hid (fun W (h : Below w8.heap.size w8 W) => BQ.out W (below_then Hb8.out h))
            have BN8 := Lib.hid (fun W (h : Below w8.heap.size w8 W) => BN.out W (below_then Hb8.out h))
            have CK8 := Lib.hid (fun W (h : Below w8.heap.size w8 W) => CK.out W (below_then Hb8.out h))
            have RK8 := Lib.hid (fun W (h : Below w8.heap.size w8 W) => RK.out W (below_then Hb8.out h))
            have HwE := Lib.hid (below_then HAB.out Hb8.out)
            clear BQ BN CK RK Hb8 HD8 HN8 HD7 HN7 Hb7 HV Ht HT HB Hg HD HN HAB Hf
            go_wp2_with fail
            go_region_held3 (fun w' => Below w8.heap.size w8 w' ∧ w'.cell? ⟨w.heap.size, 0, none⟩ = some (.string (S n)) ∧ w'.cell? ⟨W1.heap.size, 0, none⟩ = some (.int .i64 id) ∧ w'.cell? ⟨W1.heap.size, 1, none⟩ = some (.string (S c))) (first | assumption | exact ⟨Below.refl _ _, n0, d0, d1⟩ | exact ⟨(Below.refl _ _).drew, n0, d0, d1⟩ | exact keepC (by assumption) hb') (first | ((with_reducible refine (BQ8.out _ (by first | assumption | exact (‹Below w8.heap.size w8 _ ∧ _›).1)).mono ?_); rintro e w' ⟨rfl, hb'⟩) | ((with_reducible refine (CK8.out _ (by first | assumption | exact (‹Below w8.heap.size w8 _ ∧ _›).1)).mono ?_); rintro e w' ⟨rfl, hb'⟩) | ((with_reducible refine (RK8.out _ (by first | assumption | exact (‹Below w8.heap.size w8 _ ∧ _›).1)).mono ?_); rintro e w' ⟨rfl, hb'⟩) | ((with_reducible refine (BN8.out _ (by first | assumption | exact (‹Below w8.heap.size w8 _ ∧ _›).1)).mono ?_); rintro e w' ⟨rfl, hb'⟩))
            all_goals
              go_wp2_with fail
              go_ret
              exact ⟨rfl, below_then HwE.out (by first | assumption | exact (‹Below w8.heap.size w8 _ ∧ _›).1)⟩
end Go.Proofs.YtoponmdfjbhnoaaGreatDoor
