/- KeysDefaults: each key is known, once, and what it is where nobody says so fits, if it is anything. -/
import Derived.Test.YtbllnelnajfjgaaGreatDoorKeyed
import Derived.Test.YtbllnelnajfjgaaGreatDoorPaired
import Derived.Test.YtbllnelnajfjgaaGreatDoorKNames
import Derived.Test.YtbllnelnajfjgaaGreatDoorPick
namespace Go.Proofs.YtbllnelnajfjgaaGreatDoor
open Go.RowKit
set_option linter.unusedVariables false
def dfN (k : Ke) : Bool := isKey k.nm && (decide (k.df = []) || decide (keyFits k.nm k.df = 0)) && (!(decide (k.df = [])) || decide (k.kd = 6)) && decide (k.lo ≤ k.hi)
theorem df_all : ∀ i : Fin 18, dfN (keAt i.1) = true := by decide +kernel
def countN (s : List UInt8) (l : List (List UInt8)) : Nat := (l.filter (fun y => decide (y = s))).length
theorem count_one18 : ∀ i : Fin 18, countN (keAt i.1).nm keNames = 1 := by decide +kernel
theorem countN_snoc (s y : List UInt8) (l : List (List UInt8)) : countN s (l ++ [y]) = countN s l + (if y = s then 1 else 0) := by
  unfold countN
  rw [List.filter_append, List.length_append]
  by_cases h : y = s <;> simp [h]
theorem names_at (i : Nat) (hi : i < 18) : ∃ h : i < keNames.length, keNames[i] = (keAt i).nm := by
  have h18 : keNames.length = 18 := by kernel_rfl
  refine ⟨by omega, ?_⟩
  unfold keNames keAt
  rw [List.getElem_map, List.getD_eq_getElem?_getD, List.getElem?_eq_getElem (show i < keRows.length from hi)]
  rfl
theorem names_len : keNames.length = 18 := by kernel_rfl
set_option maxRecDepth 100000 in
set_option maxHeartbeats 1000000 in
theorem keysDefaults_any (which : Int) (w : World) (hw : (Lit.int .i64 which).wf = true) (hE : Env w) (hg : ErrCell w) :
    Calls Tryz.prog 6 #[.int .i64 which] w fun e w' => e = .returned (.bool true) ∧ Below w.heap.size w w' := by
  have Fk := Lib.hid (keyed_any w hE hg)
  have PP := Lib.hid (fun W (h : Below w.heap.size w W) => paired_any W (hE.mc.later h))
  have PK := Lib.hid (fun W => pick_any which 18 W (by decide) (by decide))
  have hi18 := pickI_lt which 18 (by decide)
  obtain ⟨i, hi⟩ : ∃ i, pickI which 18 = i := ⟨_, rfl⟩
  rw [hi] at PK hi18
  obtain ⟨hil, hat⟩ := names_at i hi18
  have hrow := rowOf_each i hi18
  have hdf := df_all ⟨i, hi18⟩
  have hcnt := count_one18 ⟨i, hi18⟩
  simp only at hdf hcnt
  have hok := rowOf_ok hrow
  obtain ⟨⟨nm, kd, lo, hh, df, no, lg⟩, hk⟩ : ∃ k, keAt i = k := ⟨_, rfl⟩
  rw [hk] at hat hrow hdf hcnt hok
  unfold dfN at hdf
  simp only [Bool.and_eq_true, Bool.or_eq_true, Bool.not_eq_true', decide_eq_true_eq, decide_eq_false_iff_not] at hdf hat hcnt hok
  obtain ⟨⟨⟨hkey, hfit⟩, hdf6⟩, hlh⟩ := hdf
  have O := Lib.hid (fun W => of_row (s := nm) W hrow)
  have KY := Lib.hid (fun W => key_any nm W (by omega))
  rw [hkey] at KY
  have FI := Lib.hid (fun (h : df ≠ []) W (hb : Below w.heap.size w W) => fits_at (ev := .nilIface) W (hfit.resolve_left h) rfl (by omega) (hE.later hb))
  have hlh' : (lo : Int) ≤ (hh : Int) := by omega
  have Hat := Lib.hid hat
  have Hcnt := Lib.hid hcnt
  have Hil := Lib.hid hil
  have Hdf6 := Lib.hid hdf6
  have hl18 := Lib.hid names_len
  have i0 : (0 : Int) ≤ (i : Int) := by omega
  have i18 : (i : Int) < 18 := by omega
  clear hE hg hi hrow hok hk hkey hfit hdf6 hlh hat hcnt
  go_enter Tryz.func6, Tryz.ntmps6
  go_wp2_with fail
  refine Fk.out.mono ?_
  rintro e w1 ⟨rfl, hb1⟩
  have Hb1 := Lib.hid hb1
  clear hb1
  go_wp2_with fail
  refine (PP.out w1 Hb1.out).mono ?_
  rintro e w2 ⟨rfl, hb2⟩
  have Hb2 := Lib.hid (below_then Hb1.out hb2)
  clear hb2
  go_wp2_with fail
  refine (names_any w2).mono ?_
  rintro e w3 ⟨v, rfl, hv, hb3⟩
  have Hb3 := Lib.hid (below_then Hb2.out hb3)
  have HV := Lib.hid hv.strs
  clear hb3 hv
  obtain ⟨p, c, rfl⟩ := HV.out.form
  obtain ⟨b, o, rfl, q0⟩ := HV.out.cell Hil.out
  rw [Hat.out] at q0
  have HW := HV
  rw [hl18.out] at HW ⊢
  go_wp2_with fail
  refine (PK.out _).mono ?_
  rintro e w' ⟨rfl, rfl⟩
  go_wp2_with fail
  refine (O.out _).mono ?_
  rintro e w4 ⟨rfl, hb4⟩
  have HV4 := Lib.hid (HV.out.later hb4)
  obtain ⟨w5, hw5⟩ : ∃ w5, w4.alloc (.cells #[.string (S nm), .int .i64 (kd : Int), .int .i64 (lo : Int), .int .i64 (hh : Int), .string (S df), .bool no, .bool lg] 52) = w5 := ⟨_, rfl⟩
  have Hb5 := Lib.hid (show Below w.heap.size w w5 by rw [← hw5]; exact (below_then Hb3.out hb4).alloc (below_then Hb3.out hb4).size _)
  have HV5 := Lib.hid (show StrV w5 (.slice (some ⟨b, o, none⟩) keNames.length c) keNames by rw [← hw5]; exact HV4.out.later ((Below.refl _ _).alloc (Nat.le_refl _) _))
  have bK : Blk w5 w4.heap.size #[.string (S nm), .int .i64 (kd : Int), .int .i64 (lo : Int), .int .i64 (hh : Int), .string (S df), .bool no, .bool lg] 52 := by rw [← hw5]; exact Blk.new w4 _ _
  have HK := Lib.hid bK
  clear hb4 bK q0
  go_wp2_with fail
  go_loopw [7, 34] (fun m j wr => ∃ k : Nat, k ≤ 18 ∧ j = .int .i64 k ∧ m = .int .i64 ((countN nm (keNames.take k) : Nat) : Int) ∧ wr = w5) (fun _ j _ => 18 - (intOf j).toNat)
  case atStart => exact ⟨0, by omega, rfl, rfl, rfl⟩
  case round =>
    obtain ⟨k, hk, rfl, rfl, rfl⟩ := hrel
    by_cases hlt : k < 18
    · have hlt' : k < keNames.length := by rw [hl18.out]; exact hlt
      obtain ⟨b', o', hbo, r0⟩ := HV5.out.cell hlt'
      obtain ⟨rfl, rfl⟩ : b = b' ∧ o = o' := by simpa using hbo
      obtain ⟨y, hy⟩ : ∃ y, keNames[k] = y := ⟨_, rfl⟩
      rw [hy] at r0
      have hcs : countN nm (keNames.take (k + 1)) = countN nm (keNames.take k) + (if y = nm then 1 else 0) := by
        rw [List.take_succ_eq_append_getElem hlt', countN_snoc, hy]
      obtain ⟨m, hm⟩ : ∃ m, countN nm (keNames.take k) = m := ⟨_, rfl⟩
      have hm18 : m ≤ 18 := by
        rw [← hm]
        unfold countN
        exact Nat.le_trans (List.length_filter_le _ _) (by rw [List.length_take]; omega)
      rw [hm] at hcs ⊢
      have Hcs := Lib.hid hcs
      have k0 : (0 : Int) ≤ (k : Int) := by omega
      clear hbo hy hcs hm
      by_cases hyn : y = nm
      · rw [if_pos hyn] at Hcs
        subst hyn
        have e1 : (y == y) = true := by simp
        go_wp2_with fail
        go_roundw
        case rel => exact ⟨k + 1, by omega, by go_num, by rw [Hcs.out]; go_num, by first | rfl | trivial⟩
        case measure => simp [intOf]; omega
      · rw [if_neg hyn] at Hcs
        have e1 : (y == nm) = false := by simpa using hyn
        clear hyn
        go_wp2_with fail
        go_roundw
        case rel => exact ⟨k + 1, by omega, by go_num, by rw [Hcs.out]; rfl, by first | rfl | trivial⟩
        case measure => simp [intOf]; omega
    · obtain rfl : k = 18 := by omega
      have hall : countN nm (keNames.take 18) = 1 := by rw [List.take_of_length_le (by rw [hl18.out]; omega)]; exact Hcnt.out
      rw [hall]
      obtain ⟨c0, c1, c2, c3, c4, _, _⟩ := HK.out.seven
      have e1 : (nm == nm) = true := by simp
      clear hall
      by_cases hd : df = []
      · subst hd
        have h6 : kd = 6 := Hdf6.out.resolve_left (fun h => h rfl)
        subst h6
        go_wp2_with fail
        refine (KY.out _).mono ?_
        rintro e w' ⟨rfl, rfl⟩
        go_wp2_with fail
        go_ret
        exact ⟨rfl, Hb5.out⟩
      · have hde : df.isEmpty = false := by cases df with | nil => exact absurd rfl hd | cons _ _ => rfl
        have hde2 : (df == []) = false := by simpa using hd
        have F5 := Lib.hid (FI.out hd _ Hb5.out)
        go_wp2_with fail
        refine (KY.out _).mono ?_
        rintro e w' ⟨rfl, rfl⟩
        go_wp2_with fail
        refine F5.out.mono ?_
        rintro e w6 ⟨rfl, hb6⟩
        have Hb6 := Lib.hid (below_then Hb5.out hb6)
        obtain ⟨d0, d1, d2, d3, d4, _, _⟩ := (HK.out.later hb6).seven
        clear hb6 c0 c1 c2 c3 c4
        go_wp2_with fail
        go_ret
        exact ⟨rfl, Hb6.out⟩
end Go.Proofs.YtbllnelnajfjgaaGreatDoor
