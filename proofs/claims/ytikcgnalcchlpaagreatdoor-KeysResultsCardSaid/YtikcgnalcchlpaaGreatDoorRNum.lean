/- ref.numeral. -/
import Derived.Test.YtikcgnalcchlpaaGreatDoorRNumMath
import Derived.Test.YtikcgnalcchlpaaGreatDoorShRd
import Derived.BigRegion
namespace Go.Proofs.YtikcgnalcchlpaaGreatDoor
open Go Go.RowKit
set_option linter.unusedVariables false
theorem run_one (w : World) (c : UInt8) : (convert 68 9 (.slice (some ⟨w.heap.size, 0, none⟩) 1 1)).run Tryz.prog (w.alloc (.cells #[.int .u8 (c.toNat : Int)] 5)) = .ok (.string (S [c])) (w.alloc (.cells #[.int .u8 (c.toNat : Int)] 5)) :=
  run_string_cells8 (P := Tryz.prog) 68 9 5 Tryz.underlying68 Tryz.underlying5 Tryz.underlying9 w [c] 1 1 5 (by simp)
theorem lower_one (c : UInt8) (h : c.toNat < 128) (w : World) : Calls Tryz.prog 31 #[.string (S [c])] w fun e w' => e = .returned (.string (S [Lib.lowerB c])) ∧ Below w.heap.size w w' := by
  have C := Tryz.strings_ToLower_ascii (S [c]) w (by rw [S_size]; simp) (fun j b hb => by
    have h1 : b ∈ [c] := List.mem_of_getElem? (by simpa [S] using hb)
    rw [List.mem_singleton.1 h1]; exact h)
  have e1 : (S [c]).data.toList = [c] := by simp [S]
  rw [e1] at C
  exact C
theorem pre2 (s : List UInt8) : Lib.hasPrefix s [48, 120] = decide (s.take 2 = [48, 120]) := by
  rw [Bool.eq_iff_iff, decide_eq_true_iff]
  unfold Lib.hasPrefix
  rcases s with _ | ⟨a, _ | ⟨b, s⟩⟩
  · simp [List.isPrefixOf]
  · simp [List.isPrefixOf]
  · simp only [List.isPrefixOf, List.take_succ_cons, List.take_zero, Bool.and_true, Bool.and_eq_true, beq_iff_eq, List.cons.injEq, and_true]
    constructor <;> (rintro ⟨h1, h2⟩; exact ⟨h1.symm, h2.symm⟩)
theorem prefix0x (s : List UInt8) (b : Bool) (hb : decide (s.take 2 = [48, 120]) = b) (w : World) : Calls Tryz.prog 28 #[.string (S s), .string (S [48, 120])] w fun e w' => e = .returned (.bool b) ∧ w = w' := by
  have C := Tryz.strings_HasPrefix (S s) (S [48, 120]) w
  have e1 : (S s).data.toList = s := by simp [S]
  have e2 : (S [48, 120]).data.toList = [48, 120] := by simp [S]
  rw [e1, e2] at C
  refine C.mono ?_
  rintro e w' ⟨rfl, hw⟩
  refine ⟨?_, hw.symm⟩
  rw [← hb]
  rw [pre2]
set_option maxRecDepth 100000 in
set_option maxHeartbeats 1000000 in
theorem refNum16_any (l : List UInt8) (w : World) (hl : l.length ≤ 1000000) : Calls Tryz.prog 15 #[.string (S (48 :: 120 :: l))] w fun e w' => e = .returned (.int .i64 (optI (numU 16 l))) ∧ Below w.heap.size w w' := by
  have HP := Lib.hid (prefix0x (48 :: 120 :: l) true (decide_eq_true rfl) w)
  have AL := Lib.hid (fun W => refAll_any l d22 W hl)
  rw [all22] at AL
  unfold d22 at AL
  cases ha : (l.all (isDig 16) && !l.isEmpty) with
  | false =>
    rw [numU_not ha]
    rw [ha] at AL
    clear ha
    go_enter Tryz.func15, Tryz.ntmps15
    go_wp2_with fail
    refine HP.out.mono ?_
    rintro e w' ⟨rfl, rfl⟩
    go_wp2_with fail
    go_region
    go_wp2_with fail
    refine (AL.out _).mono ?_
    rintro e w1 ⟨rfl, hb1⟩
    have Hb1 := Lib.hid (below_then ((Below.refl w.heap.size w).drew) hb1)
    clear hb1
    go_wp2_with fail
    go_ret
    exact ⟨rfl, Hb1.out⟩
  | true =>
    obtain ⟨hne, hall, hu⟩ := numU_yes ha
    rw [hu]
    rw [ha] at AL
    have Hall := Lib.hid hall
    clear ha hall hu hne
    go_enter Tryz.func15, Tryz.ntmps15
    go_wp2_with fail
    refine HP.out.mono ?_
    rintro e w' ⟨rfl, rfl⟩
    go_wp2_with fail
    go_region
    go_wp2_with fail
    refine (AL.out _).mono ?_
    rintro e w1 ⟨rfl, hb1⟩
    have Hb1 := Lib.hid (below_then ((Below.refl w.heap.size w).drew) hb1)
    clear hb1
    obtain ⟨cap, W, hrun, hcell, hbel, hlt0⟩ := bytes_fr w1 l
    have Hcell := Lib.hid hcell
    have Hbel := Lib.hid hbel
    have Hlt0 := Lib.hid hlt0
    clear hcell hbel hlt0
    go_wp2_with fail
    clear hrun
    go_loopw [4, 36] (fun a i wr => ∃ k n : Nat, k ≤ l.length ∧ i = .int .i64 k ∧ a = .int .i64 n ∧ n < 1099511627776 ∧ Hid (numF 16 0 (l.take k) = some n) ∧ Hid (Below W.heap.size W wr)) (fun _ i _ => l.length - (intOf i).toNat)
    case atStart => exact ⟨0, 0, by omega, rfl, rfl, by omega, Lib.hid rfl, Lib.hid (Below.refl _ _)⟩
    case round =>
      obtain ⟨k, n, hk, rfl, rfl, hn, Hn, Hb⟩ := hrel
      by_cases hlt : k < l.length
      · have hki : (k : Int) < (l.length : Int) := by omega
        have hcell : wr.cell? ⟨w1.heap.size, k, none⟩ = some (.int .u8 (l[k].toNat : Int)) := by rw [(bcell Hb.out).1 _ k Hlt0.out]; exact Hcell.out k hlt
        have hd : isDig 16 l[k] = true := List.all_eq_true.1 Hall.out l[k] (List.getElem_mem hlt)
        have hnx := numF_next hlt Hn.out hd
        have hlow := low_dig l[k] hd
        have hdl := isDig_lt hd
        obtain ⟨c, hc⟩ : ∃ c, l[k] = c := ⟨_, rfl⟩
        rw [hc] at hcell hnx hlow hdl
        have hasc := hlow.2
        have hrs := run_one wr c
        have TL := Lib.hid (fun W => lower_one c hasc W)
        have IX := Lib.hid (fun W => inA_any d16 (Lib.lowerB c) W)
        rw [hlow.1] at IX
        obtain ⟨e0, he⟩ : ∃ e0, Lib.lowerB c = e0 := ⟨_, rfl⟩
        rw [he] at TL IX
        obtain ⟨d, hdv⟩ : ∃ d, digV c = d := ⟨_, rfl⟩
        rw [hdv] at IX hnx hdl
        unfold d16 at IX
        have Hnx := Lib.hid hnx
        clear hnx hlow hasc he hdv hd hc hlt Hn
        have hni : (n : Int) < 1099511627776 := by omega
        have hdi : (d : Int) < 16 := by omega
        rcases (show (¬ (1099511627776 : Int) ≤ (n : Int) * 16 + (d : Int)) ∨ (1099511627776 : Int) ≤ (n : Int) * 16 + (d : Int) from by omega) with hlo | hhi
        · obtain ⟨M, hM⟩ : ∃ M : Int, (n : Int) * 16 + (d : Int) = M := ⟨_, rfl⟩
          rw [hM] at hlo
          have hlo2 : M < 1099511627776 := by omega
          have hlo3 : (0 : Int) ≤ M := by omega
          have HM := Lib.hid hM
          clear hlo
          go_wp2_with fail
          refine (TL.out _).mono ?_
          rintro e w2 ⟨rfl, hb2⟩
          have Hb2 := Lib.hid hb2
          clear hb2
          go_wp2_with fail
          refine (IX.out _).mono ?_
          rintro e w' ⟨rfl, rfl⟩
          have hw0 : wrap64 ((n : Int) * 16 + (d : Int)) = M := by rw [hM]; exact IntWalk.wrap64_in _ ⟨by omega, by omega⟩
          have hw1 : ∀ [Inhabited Nat], wrap64 ((n : Int) * 16 + (d : Int)) = M := hw0
          have Hn := Lib.hid hn
          clear hrs hcell hM hn hni hdl hdi hw0
          go_wp2_with fail
          go_roundw
          case rel => exact ⟨k + 1, n * 16 + d, by omega, by go_num, (by rw [show ((n * 16 + d : Nat) : Int) = M from by rw [Int.natCast_add, Int.natCast_mul]; exact HM.out]; first | rfl | rw [hw1]), (by have := HM.out; omega), Lib.hid (Hnx.out.2 (by have := HM.out; omega)), Lib.hid (below_then Hb.out (((Below.refl _ _).alloc (Nat.le_refl _) _).trans (Hb2.out.mono (by simp))))⟩
          case measure => simp [intOf]; omega
        · go_wp2_with fail
          refine (TL.out _).mono ?_
          rintro e w2 ⟨rfl, hb2⟩
          have Hb2 := Lib.hid hb2
          clear hb2
          go_wp2_with fail
          refine (IX.out _).mono ?_
          rintro e w' ⟨rfl, rfl⟩
          go_wp2_with fail
          go_ret
          rw [Hnx.out.1 (by omega)]
          exact ⟨rfl, below_then Hb1.out (below_then Hbel.out (below_then Hb.out (((Below.refl _ _).alloc (Nat.le_refl _) _).trans (Hb2.out.mono (by simp)))))⟩
      · obtain rfl : k = l.length := by omega
        have hf := Hn.out
        rw [List.take_length] at hf
        have Hf := Lib.hid hf
        clear hf Hn hlt
        go_wp2_with fail
        go_ret
        rw [Hf.out]
        exact ⟨rfl, below_then Hb1.out (below_then Hbel.out Hb.out)⟩
set_option maxRecDepth 100000 in
set_option maxHeartbeats 1000000 in
theorem refNum10_any (l : List UInt8) (w : World) (hl : l.length ≤ 1000000) (h2 : l.take 2 ≠ [48, 120]) : Calls Tryz.prog 15 #[.string (S l)] w fun e w' => e = .returned (.int .i64 (optI (if 1 < l.length ∧ l.getD 0 0 = 48 then none else numU 10 l))) ∧ Below w.heap.size w w' := by
  have HP := Lib.hid (prefix0x l false (decide_eq_false h2) w)
  have AL := Lib.hid (fun W => refAll_any l d10 W hl)
  rw [all10] at AL
  unfold d10 at AL
  cases ha : (l.all (isDig 10) && !l.isEmpty) with
  | false =>
    rw [numU_not ha]
    rw [show (if 1 < l.length ∧ l.getD 0 0 = 48 then (none : Option Nat) else none) = none from by split <;> rfl]
    rw [ha] at AL
    clear ha h2
    go_enter Tryz.func15, Tryz.ntmps15
    go_wp2_with fail
    refine HP.out.mono ?_
    rintro e w' ⟨rfl, rfl⟩
    go_wp2_with fail
    refine (AL.out _).mono ?_
    rintro e w1 ⟨rfl, hb1⟩
    have Hb1 := Lib.hid hb1
    clear hb1
    go_wp2_with fail
    go_ret
    exact ⟨rfl, Hb1.out⟩
  | true =>
    obtain ⟨hne, hall, hu⟩ := numU_yes ha
    rw [hu]
    rw [ha] at AL
    have Hall := Lib.hid hall
    have hpos : 0 < l.length := List.length_pos_iff.2 hne
    clear ha hall hu h2
    by_cases hz : 1 < l.length ∧ l.getD 0 0 = 48
    · rw [if_pos hz]
      obtain ⟨h1, h0⟩ := hz
      have hc : l[0] = 48 := by rw [← h0, List.getD_eq_getElem?_getD, List.getElem?_eq_getElem (by omega)]; rfl
      have hlen : (1 : Int) < (l.length : Int) := by omega
      have hl2 : l ≠ [48] := by rintro rfl; simp at h1
      have hl1 : (l == [48]) = false := by simpa using hl2
      clear h0 hne
      go_enter Tryz.func15, Tryz.ntmps15
      go_wp2_with fail
      refine HP.out.mono ?_
      rintro e w' ⟨rfl, rfl⟩
      go_wp2_with fail
      refine (AL.out _).mono ?_
      rintro e w1 ⟨rfl, hb1⟩
      have Hb1 := Lib.hid hb1
      clear hb1
      go_wp2_with fail
      go_ret
      exact ⟨rfl, Hb1.out⟩
    rw [if_neg hz]
    have hg : (l == [48]) = true ∨ ((l == [48]) = false ∧ l ≠ [48] ∧ ((l[0].toNat : Int) == 48) = false) := by
      by_cases hl2 : l = [48]
      · exact .inl (by subst hl2; rfl)
      · refine .inr ⟨by simpa using hl2, hl2, ?_⟩
        have h0 : ¬ l[0] = 48 := fun e => by
          apply hz
          refine ⟨?_, by rw [List.getD_eq_getElem?_getD, List.getElem?_eq_getElem hpos]; exact e⟩
          rcases l with _ | ⟨a, _ | ⟨b, l⟩⟩
          · cases hpos
          · exact absurd (by simpa using e) hl2
          · simp
        have : ¬ l[0].toNat = 48 := fun e => h0 (UInt8.toNat_inj.1 (by show _ = 48; omega))
        simp only [beq_eq_false_iff_ne, ne_eq]
        omega
    clear hz hne
    go_enter Tryz.func15, Tryz.ntmps15
    go_wp2_with fail
    refine HP.out.mono ?_
    rintro e w' ⟨rfl, rfl⟩
    go_wp2_with fail
    refine (AL.out _).mono ?_
    rintro e w1 ⟨rfl, hb1⟩
    have Hb1 := Lib.hid hb1
    clear hb1
    obtain ⟨cap, W, hrun, hcell, hbel, hlt0⟩ := bytes_fr w1 l
    have Hcell := Lib.hid hcell
    have Hbel := Lib.hid hbel
    have Hlt0 := Lib.hid hlt0
    clear hcell hbel hlt0
    rcases hg with hl1 | ⟨hl1, hl2, hl3⟩
    all_goals
     (go_wp2_with fail
      clear hrun
      go_loopw [4, 36] (fun a i wr => ∃ k n : Nat, k ≤ l.length ∧ i = .int .i64 k ∧ a = .int .i64 n ∧ n < 1099511627776 ∧ Hid (numF 10 0 (l.take k) = some n) ∧ Hid (Below W.heap.size W wr)) (fun _ i _ => l.length - (intOf i).toNat)
      case atStart => exact ⟨0, 0, by omega, rfl, rfl, by omega, Lib.hid rfl, Lib.hid (Below.refl _ _)⟩
      case round =>
        obtain ⟨k, n, hk, rfl, rfl, hn, Hn, Hb⟩ := hrel
        by_cases hlt : k < l.length
        · have hki : (k : Int) < (l.length : Int) := by omega
          have hcell : wr.cell? ⟨w1.heap.size, k, none⟩ = some (.int .u8 (l[k].toNat : Int)) := by rw [(bcell Hb.out).1 _ k Hlt0.out]; exact Hcell.out k hlt
          have hd : isDig 10 l[k] = true := List.all_eq_true.1 Hall.out l[k] (List.getElem_mem hlt)
          have hnx := numF_next hlt Hn.out hd
          have hlow := low_dig l[k] (dig_wide _ hd)
          have hdl := isDig_lt hd
          obtain ⟨c, hc⟩ : ∃ c, l[k] = c := ⟨_, rfl⟩
          rw [hc] at hcell hnx hlow hdl
          have hasc := hlow.2
          have hrs := run_one wr c
          have TL := Lib.hid (fun W => lower_one c hasc W)
          have IX := Lib.hid (fun W => inA_any d16 (Lib.lowerB c) W)
          rw [hlow.1] at IX
          obtain ⟨e0, he⟩ : ∃ e0, Lib.lowerB c = e0 := ⟨_, rfl⟩
          rw [he] at TL IX
          obtain ⟨d, hdv⟩ : ∃ d, digV c = d := ⟨_, rfl⟩
          rw [hdv] at IX hnx hdl
          unfold d16 at IX
          have Hnx := Lib.hid hnx
          clear hnx hlow hasc he hdv hd hc hlt Hn
          have hni : (n : Int) < 1099511627776 := by omega
          have hdi : (d : Int) < 10 := by omega
          rcases (show (¬ (1099511627776 : Int) ≤ (n : Int) * 10 + (d : Int)) ∨ (1099511627776 : Int) ≤ (n : Int) * 10 + (d : Int) from by omega) with hlo | hhi
          · obtain ⟨M, hM⟩ : ∃ M : Int, (n : Int) * 10 + (d : Int) = M := ⟨_, rfl⟩
            rw [hM] at hlo
            have hlo2 : M < 1099511627776 := by omega
            have hlo3 : (0 : Int) ≤ M := by omega
            have HM := Lib.hid hM
            clear hlo
            go_wp2_with fail
            refine (TL.out _).mono ?_
            rintro e w2 ⟨rfl, hb2⟩
            have Hb2 := Lib.hid hb2
            clear hb2
            go_wp2_with fail
            refine (IX.out _).mono ?_
            rintro e w' ⟨rfl, rfl⟩
            have hw0 : wrap64 ((n : Int) * 10 + (d : Int)) = M := by rw [hM]; exact IntWalk.wrap64_in _ ⟨by omega, by omega⟩
            have hw1 : ∀ [Inhabited Nat], wrap64 ((n : Int) * 10 + (d : Int)) = M := hw0
            have Hn := Lib.hid hn
            clear hrs hcell hM hn hni hdl hdi hw0
            go_wp2_with fail
            go_roundw
            case rel => exact ⟨k + 1, n * 10 + d, by omega, by go_num, (by rw [show ((n * 10 + d : Nat) : Int) = M from by rw [Int.natCast_add, Int.natCast_mul]; exact HM.out]; first | rfl | rw [hw1]), (by have := HM.out; omega), Lib.hid (Hnx.out.2 (by have := HM.out; omega)), Lib.hid (below_then Hb.out (((Below.refl _ _).alloc (Nat.le_refl _) _).trans (Hb2.out.mono (by simp))))⟩
            case measure => simp [intOf]; omega
          · go_wp2_with fail
            refine (TL.out _).mono ?_
            rintro e w2 ⟨rfl, hb2⟩
            have Hb2 := Lib.hid hb2
            clear hb2
            go_wp2_with fail
            refine (IX.out _).mono ?_
            rintro e w' ⟨rfl, rfl⟩
            go_wp2_with fail
            go_ret
            rw [Hnx.out.1 (by omega)]
            exact ⟨rfl, below_then Hb1.out (below_then Hbel.out (below_then Hb.out (((Below.refl _ _).alloc (Nat.le_refl _) _).trans (Hb2.out.mono (by simp)))))⟩
        · obtain rfl : k = l.length := by omega
          have hf := Hn.out
          rw [List.take_length] at hf
          have Hf := Lib.hid hf
          clear hf Hn hlt
          go_wp2_with fail
          go_ret
          rw [Hf.out]
          exact ⟨rfl, below_then Hb1.out (below_then Hbel.out Hb.out)⟩)
end Go.Proofs.YtikcgnalcchlpaaGreatDoor
