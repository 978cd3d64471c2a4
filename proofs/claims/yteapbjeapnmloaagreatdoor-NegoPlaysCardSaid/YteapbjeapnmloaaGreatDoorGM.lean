/- Several texts in one: ref.all: each byte is one of these, and there is one.  | What ref.numeral reads, as plain data.  | ref.numeral.  | ref.Numeral.  -/
import Derived.Test.YteapbjeapnmloaaGreatDoorGA
import Derived.Test.YteapbjeapnmloaaGreatDoorGD
import Derived.Test.YteapbjeapnmloaaGreatDoorShByte
import Derived.Lib.Case
import Derived.Test.YteapbjeapnmloaaGreatDoorShLow
import Derived.Test.YteapbjeapnmloaaGreatDoorShPre
import Derived.BigRegion
import Derived.Test.YteapbjeapnmloaaGreatDoorGL9
import Derived.Test.YteapbjeapnmloaaGreatDoorGF
namespace Go.Proofs.YteapbjeapnmloaaGreatDoor
open Go Go.RowKit
set_option linter.unusedVariables false
def inA (l : List UInt8) (c : UInt8) : Int := Lib.indexByte l c
theorem inA_any (l : List UInt8) (c : UInt8) (w : World) :
    Calls Tryz.prog 109 #[.string (S l), .int .u8 (c.toNat : Int)] w fun e w' => e = .returned (.int .i64 (inA l c)) ∧ w = w' := by
  refine (Tryz.strings_IndexByte (S l) _ w).mono ?_
  rintro e w' ⟨rfl, hw⟩
  refine ⟨?_, hw.symm⟩
  simp [inA, S]
theorem bytes_fr (w : World) (l : List UInt8) :
    ∃ cap W, (convert 9 152 (.string (S l))).run Tryz.prog w = .ok (.slice (some ⟨w.heap.size, 0, none⟩) l.length cap) W ∧
      (∀ j (hj : j < l.length), W.cell? ⟨w.heap.size, j, none⟩ = some (.int .u8 (l[j].toNat : Int))) ∧ Below w.heap.size w W ∧ w.heap.size < W.heap.size := by
  obtain ⟨cap, hc1, hc2, hrun⟩ := run_bytes_S (P := Tryz.prog) 9 152 5 Tryz.underlying9 Tryz.underlying152 Tryz.underlying5 w l
  refine ⟨cap, _, hrun, fun j hj => ?_, ((Below.refl _ _).alloc (Nat.le_refl _) _).drew, by simp⟩
  show (w.alloc (.cells (cells8 (l ++ List.replicate (cap - l.length) 0)) 5 (cap, cap + 1))).cell? ⟨w.heap.size, j, none⟩ = _
  rw [World.cell?_alloc_mark, cells8_get _ j (by simp; omega)]
  rw [List.getElem_append_left hj]
def oneOf (l : List UInt8) (c : UInt8) : Bool := decide (0 ≤ inA l c)
def allOf (l s : List UInt8) : Bool := s.all (oneOf l) && !s.isEmpty
theorem allOf_not {l s : List UInt8} {k : Nat} (hk : k < s.length) (h : oneOf l s[k] = false) : allOf l s = false := by
  have : s.all (oneOf l) = false := by
    cases h' : s.all (oneOf l) with
    | false => rfl
    | true => rw [List.all_eq_true.1 h' s[k] (List.getElem_mem hk)] at h; cases h
  unfold allOf
  rw [this]; rfl
theorem all_more {p : UInt8 → Bool} {s : List UInt8} {k : Nat} (hk : k < s.length) (h : (s.take k).all p = true) (h2 : p s[k] = true) : (s.take (k + 1)).all p = true := by
  rw [← List.take_append_getElem hk, List.all_append, h]
  simp [h2]
set_option maxRecDepth 100000 in
theorem refAll_any (s l : List UInt8) (w : World) (hl : s.length ≤ 1000000) : Calls Tryz.prog 114 #[.string (S s), .string (S l)] w fun e w' => e = .returned (.bool (allOf l s)) ∧ Below w.heap.size w w' := by
  obtain ⟨cap, W, hrun, hcell, hbel, hlt0⟩ := bytes_fr w s
  have Hcell := Lib.hid hcell
  have Hbel := Lib.hid hbel
  have I := fun c => Lib.hid (inA_any l c W)
  clear hcell hbel hlt0
  go_enter Tryz.func114, Tryz.ntmps114
  go_wp2_with fail
  clear hrun
  go_loopw [10] (fun i wr => ∃ k : Nat, k ≤ s.length ∧ i = .int .i64 k ∧ Hid ((s.take k).all (oneOf l) = true) ∧ wr = W) (fun i _ => s.length - (intOf i).toNat)
  case atStart => exact ⟨0, by omega, rfl, Lib.hid (by simp), rfl⟩
  case round =>
    obtain ⟨k, hk, rfl, Ha, rfl⟩ := hrel
    by_cases hlt : k < s.length
    · have hki : (k : Int) < (s.length : Int) := by omega
      have hcell : wr.cell? ⟨w.heap.size, k, none⟩ = some (.int .u8 (s[k].toNat : Int)) := Hcell.out k hlt
      obtain ⟨c, hc⟩ : ∃ c, s[k] = c := ⟨_, rfl⟩
      rw [hc] at hcell
      have Hc := Lib.hid hc
      have I1 := I c
      obtain ⟨d, hd⟩ : ∃ d, inA l c = d := ⟨_, rfl⟩
      have Hd := Lib.hid hd
      rw [hd] at I1
      clear hc hd
      by_cases h : 0 ≤ d
      · go_wp2_with fail
        refine I1.out.mono ?_
        rintro e w' ⟨rfl, rfl⟩
        go_wp2_with fail
        go_roundw
        case rel => exact ⟨k + 1, by omega, by go_num, Lib.hid (all_more hlt Ha.out (by rw [Hc.out]; unfold oneOf; rw [Hd.out]; exact decide_eq_true h)), by first | rfl | trivial⟩
        case measure => simp [intOf]; omega
      · have hd2 : d < 0 := by omega
        go_wp2_with fail
        refine I1.out.mono ?_
        rintro e w' ⟨rfl, rfl⟩
        go_wp2_with fail
        go_ret
        rw [allOf_not (l := l) hlt (by rw [Hc.out]; unfold oneOf; rw [Hd.out]; exact decide_eq_false (by omega))]
        exact ⟨rfl, Hbel.out⟩
    · obtain rfl : k = s.length := by omega
      have ha := Ha.out
      rw [List.take_length] at ha
      have Hall := Lib.hid ha
      clear ha Ha hlt
      by_cases hs : s = []
      · subst hs
        go_wp2_with fail
        go_ret
        exact ⟨rfl, Hbel.out⟩
      · have hse : s.isEmpty = false := by cases s with | nil => exact absurd rfl hs | cons _ _ => rfl
        go_wp2_with fail
        go_ret
        unfold allOf
        rw [Hall.out, hse]
        exact ⟨rfl, Hbel.out⟩
end Go.Proofs.YteapbjeapnmloaaGreatDoor
namespace Go.Proofs.YteapbjeapnmloaaGreatDoor
open Go Go.RowKit
set_option linter.unusedVariables false
def d10 : List UInt8 := [48, 49, 50, 51, 52, 53, 54, 55, 56, 57]
def d16 : List UInt8 := [48, 49, 50, 51, 52, 53, 54, 55, 56, 57, 97, 98, 99, 100, 101, 102]
def d22 : List UInt8 := [48, 49, 50, 51, 52, 53, 54, 55, 56, 57, 97, 98, 99, 100, 101, 102, 65, 66, 67, 68, 69, 70]
theorem one10 (c : UInt8) : oneOf d10 c = isDig 10 c := by
  have h : ∀ n : Fin 256, oneOf d10 (UInt8.ofNat n.1) = isDig 10 (UInt8.ofNat n.1) := by decide +kernel
  have := h ⟨c.toNat, c.toNat_lt⟩
  simpa using this
theorem one22 (c : UInt8) : oneOf d22 c = isDig 16 c := by
  have h : ∀ n : Fin 256, oneOf d22 (UInt8.ofNat n.1) = isDig 16 (UInt8.ofNat n.1) := by decide +kernel
  have := h ⟨c.toNat, c.toNat_lt⟩
  simpa using this
theorem low_dig (c : UInt8) (h : isDig 16 c = true) : inA d16 (Lib.lowerB c) = (digV c : Int) ∧ c.toNat < 128 := by
  have h0 : ∀ n : Fin 256, isDig 16 (UInt8.ofNat n.1) = true → inA d16 (Lib.lowerB (UInt8.ofNat n.1)) = (digV (UInt8.ofNat n.1) : Int) ∧ (UInt8.ofNat n.1).toNat < 128 := by decide +kernel
  have := h0 ⟨c.toNat, c.toNat_lt⟩
  simp only [UInt8.ofNat_toNat] at this
  exact this h
theorem dig_wide (c : UInt8) (h : isDig 10 c = true) : isDig 16 c = true := by
  have h0 : ∀ n : Fin 256, isDig 10 (UInt8.ofNat n.1) = true → isDig 16 (UInt8.ofNat n.1) = true := by decide +kernel
  have := h0 ⟨c.toNat, c.toNat_lt⟩
  simp only [UInt8.ofNat_toNat] at this
  exact this h
theorem numF_all {b : Nat} : ∀ (l : List UInt8) (n : Nat), l.all (isDig b) = false → numF b n l = none
  | [], n, h => by cases h
  | c :: l, n, h => by
    cases hc : isDig b c with
    | false => exact numF_bad hc
    | true =>
      rw [List.all_cons, hc, Bool.true_and] at h
      unfold numF
      rw [if_pos hc]
      split
      · exact numF_all l _ h
      · rfl
def optI : Option Nat → Int
  | some n => n
  | none => -1
theorem all10 (l : List UInt8) : allOf d10 l = (l.all (isDig 10) && !l.isEmpty) := by
  unfold allOf
  rw [show oneOf d10 = isDig 10 from funext one10]
theorem all22 (l : List UInt8) : allOf d22 l = (l.all (isDig 16) && !l.isEmpty) := by
  unfold allOf
  rw [show oneOf d22 = isDig 16 from funext one22]
theorem numU_not {b : Nat} {l : List UInt8} (h : (l.all (isDig b) && !l.isEmpty) = false) : numU b l = none := by
  unfold numU
  by_cases hl : l = []
  · rw [if_pos hl]
  · rw [if_neg hl]
    have he : l.isEmpty = false := by cases l with | nil => exact absurd rfl hl | cons _ _ => rfl
    rw [he] at h
    simp at h
    exact numF_all l 0 (by simpa using h)
theorem numU_yes {b : Nat} {l : List UInt8} (h : (l.all (isDig b) && !l.isEmpty) = true) : l ≠ [] ∧ l.all (isDig b) = true ∧ numU b l = numF b 0 l := by
  rw [Bool.and_eq_true] at h
  have hl : l ≠ [] := by rintro rfl; cases h.2
  refine ⟨hl, h.1, ?_⟩
  unfold numU
  rw [if_neg hl]
theorem numF_next {b k n : Nat} {l : List UInt8} (hk : k < l.length) (h : numF b 0 (l.take k) = some n) (hd : isDig b l[k] = true) :
    (1099511627776 ≤ n * b + digV l[k] → numF b 0 l = none) ∧ (n * b + digV l[k] < 1099511627776 → numF b 0 (l.take (k + 1)) = some (n * b + digV l[k])) := by
  refine ⟨fun hb => ?_, fun hb => ?_⟩
  · have e : l = l.take k ++ (l[k] :: l.drop (k + 1)) := by
      rw [List.getElem_cons_drop, List.take_append_drop]
    rw [e, numF_app, h]
    exact numF_big hd hb
  · rw [← List.take_append_getElem hk, numF_app, h]
    show numF b n [l[k]] = _
    rw [numF_go hd hb, numF_nil]
end Go.Proofs.YteapbjeapnmloaaGreatDoor
namespace Go.Proofs.YteapbjeapnmloaaGreatDoor
open Go Go.RowKit
set_option linter.unusedVariables false
theorem run_one (w : World) (c : UInt8) : (convert 152 9 (.slice (some ⟨w.heap.size, 0, none⟩) 1 1)).run Tryz.prog (w.alloc (.cells #[.int .u8 (c.toNat : Int)] 5)) = .ok (.string (S [c])) (w.alloc (.cells #[.int .u8 (c.toNat : Int)] 5)) :=
  run_string_cells8 (P := Tryz.prog) 152 9 5 Tryz.underlying152 Tryz.underlying5 Tryz.underlying9 w [c] 1 1 5 (by simp)
theorem lower_one (c : UInt8) (h : c.toNat < 128) (w : World) : Calls Tryz.prog 111 #[.string (S [c])] w fun e w' => e = .returned (.string (S [Lib.lowerB c])) ∧ Below w.heap.size w w' := by
  have C := Tryz.strings_ToLower_ascii (S [c]) w (by rw [S_size]; simp) (fun j b hb => by
    have h1 : b ∈ [c] := List.mem_of_getElem? (by simpa [S] using hb)
    rw [List.mem_singleton.1 h1]; exact h)
  have e1 : (S [c]).data.toList = [c] := by simp [S]
  rw [e1] at C
  exact C
theorem pre2 (s : List UInt8) : Lib.hasPrefix s [48, 120] = decide (s.take 2 = [48, 120]) := by
  rw [Bool.eq_iff_iff, decide_eq_true_iff]
  unfold Lib.hasPrefix
  rcases s with _ | ⟨a, _ | ⟨b, s⟩⟩
  · simp [List.isPrefixOf]
  · simp [List.isPrefixOf]
  · simp only [List.isPrefixOf, List.take_succ_cons, List.take_zero, Bool.and_true, Bool.and_eq_true, beq_iff_eq, List.cons.injEq, and_true]
    constructor <;> (rintro ⟨h1, h2⟩; exact ⟨h1.symm, h2.symm⟩)
theorem prefix0x (s : List UInt8) (b : Bool) (hb : decide (s.take 2 = [48, 120]) = b) (w : World) : Calls Tryz.prog 113 #[.string (S s), .string (S [48, 120])] w fun e w' => e = .returned (.bool b) ∧ w = w' := by
  have C := Tryz.strings_HasPrefix (S s) (S [48, 120]) w
  have e1 : (S s).data.toList = s := by simp [S]
  have e2 : (S [48, 120]).data.toList = [48, 120] := by simp [S]
  rw [e1, e2] at C
  refine C.mono ?_
  rintro e w' ⟨rfl, hw⟩
  refine ⟨?_, hw.symm⟩
  rw [← hb]
  rw [pre2]
set_option maxRecDepth 100000 in
set_option maxHeartbeats 1000000 in
theorem refNum16_any (l : List UInt8) (w : World) (hl : l.length ≤ 1000000) : Calls Tryz.prog 96 #[.string (S (48 :: 120 :: l))] w fun e w' => e = .returned (.int .i64 (optI (numU 16 l))) ∧ Below w.heap.size w w' := by
  have HP := Lib.hid (prefix0x (48 :: 120 :: l) true (decide_eq_true rfl) w)
  have AL := Lib.hid (fun W => refAll_any l d22 W hl)
  rw [all22] at AL
  unfold d22 at AL
  cases ha : (l.all (isDig 16) && !l.isEmpty) with
  | false =>
    rw [numU_not ha]
    rw [ha] at AL
    clear ha
    go_enter Tryz.func96, Tryz.ntmps96
    go_wp2_with fail
    refine HP.out.mono ?_
    rintro e w' ⟨rfl, rfl⟩
    go_wp2_with fail
    go_region
    go_wp2_with fail
    refine (AL.out _).mono ?_
    rintro e w1 ⟨rfl, hb1⟩
    have Hb1 := Lib.hid (below_then ((Below.refl w.heap.size w).drew) hb1)
    clear hb1
    go_wp2_with fail
    go_ret
    exact ⟨rfl, Hb1.out⟩
  | true =>
    obtain ⟨hne, hall, hu⟩ := numU_yes ha
    rw [hu]
    rw [ha] at AL
    have Hall := Lib.hid hall
    clear ha hall hu hne
    go_enter Tryz.func96, Tryz.ntmps96
    go_wp2_with fail
    refine HP.out.mono ?_
    rintro e w' ⟨rfl, rfl⟩
    go_wp2_with fail
    go_region
    go_wp2_with fail
    refine (AL.out _).mono ?_
    rintro e w1 ⟨rfl, hb1⟩
    have Hb1 := Lib.hid (below_then ((Below.refl w.heap.size w).drew) hb1)
    clear hb1
    obtain ⟨cap, W, hrun, hcell, hbel, hlt0⟩ := bytes_fr w1 l
    have Hcell := Lib.hid hcell
    have Hbel := Lib.hid hbel
    have Hlt0 := Lib.hid hlt0
    clear hcell hbel hlt0
    go_wp2_with fail
    clear hrun
    go_loopw [4, 36] (fun a i wr => ∃ k n : Nat, k ≤ l.length ∧ i = .int .i64 k ∧ a = .int .i64 n ∧ n < 1099511627776 ∧ Hid (numF 16 0 (l.take k) = some n) ∧ Hid (Below W.heap.size W wr)) (fun _ i _ => l.length - (intOf i).toNat)
    case atStart => exact ⟨0, 0, by omega, rfl, rfl, by omega, Lib.hid rfl, Lib.hid (Below.refl _ _)⟩
    case round =>
      obtain ⟨k, n, hk, rfl, rfl, hn, Hn, Hb⟩ := hrel
      by_cases hlt : k < l.length
      · have hki : (k : Int) < (l.length : Int) := by omega
        have hcell : wr.cell? ⟨w1.heap.size, k, none⟩ = some (.int .u8 (l[k].toNat : Int)) := by rw [(bcell Hb.out).1 _ k Hlt0.out]; exact Hcell.out k hlt
        have hd : isDig 16 l[k] = true := List.all_eq_true.1 Hall.out l[k] (List.getElem_mem hlt)
        have hnx := numF_next hlt Hn.out hd
        have hlow := low_dig l[k] hd
        have hdl := isDig_lt hd
        obtain ⟨c, hc⟩ : ∃ c, l[k] = c := ⟨_, rfl⟩
        rw [hc] at hcell hnx hlow hdl
        have hasc := hlow.2
        have hrs := run_one wr c
        have TL := Lib.hid (fun W => lower_one c hasc W)
        have IX := Lib.hid (fun W => inA_any d16 (Lib.lowerB c) W)
        rw [hlow.1] at IX
        obtain ⟨e0, he⟩ : ∃ e0, Lib.lowerB c = e0 := ⟨_, rfl⟩
        rw [he] at TL IX
        obtain ⟨d, hdv⟩ : ∃ d, digV c = d := ⟨_, rfl⟩
        rw [hdv] at IX hnx hdl
        unfold d16 at IX
        have Hnx := Lib.hid hnx
        clear hnx hlow hasc he hdv hd hc hlt Hn
        have hni : (n : Int) < 1099511627776 := by omega
        have hdi : (d : Int) < 16 := by omega
        rcases (show (¬ (1099511627776 : Int) ≤ (n : Int) * 16 + (d : Int)) ∨ (1099511627776 : Int) ≤ (n : Int) * 16 + (d : Int) from by omega) with hlo | hhi
        · obtain ⟨M, hM⟩ : ∃ M : Int, (n : Int) * 16 + (d : Int) = M := ⟨_, rfl⟩
          rw [hM] at hlo
          have hlo2 : M < 1099511627776 := by omega
          have hlo3 : (0 : Int) ≤ M := by omega
          have HM := Lib.hid hM
          clear hlo
          go_wp2_with fail
          refine (TL.out _).mono ?_
          rintro e w2 ⟨rfl, hb2⟩
          have Hb2 := Lib.hid hb2
          clear hb2
          go_wp2_with fail
          refine (IX.out _).mono ?_
          rintro e w' ⟨rfl, rfl⟩
          have hw0 : wrap64 ((n : Int) * 16 + (d : Int)) = M := by rw [hM]; exact IntWalk.wrap64_in _ ⟨by omega, by omega⟩
          have hw1 : ∀ [Inhabited Nat], wrap64 ((n : Int) * 16 + (d : Int)) = M := hw0
          have Hn := Lib.hid hn
          clear hrs hcell hM hn hni hdl hdi hw0
          go_wp2_with fail
          go_roundw
          case rel => exact ⟨k + 1, n * 16 + d, by omega, by go_num, (by rw [show ((n * 16 + d : Nat) : Int) = M from by rw [Int.natCast_add, Int.natCast_mul]; exact HM.out]; first | rfl | rw [hw1]), (by have := HM.out; omega), Lib.hid (Hnx.out.2 (by have := HM.out; omega)), Lib.hid (below_then Hb.out (((Below.refl _ _).alloc (Nat.le_refl _) _).trans (Hb2.out.mono (by simp))))⟩
          case measure => simp [intOf]; omega
        · go_wp2_with fail
          refine (TL.out _).mono ?_
          rintro e w2 ⟨rfl, hb2⟩
          have Hb2 := Lib.hid hb2
          clear hb2
          go_wp2_with fail
          refine (IX.out _).mono ?_
          rintro e w' ⟨rfl, rfl⟩
          go_wp2_with fail
          go_ret
          rw [Hnx.out.1 (by omega)]
          exact ⟨rfl, below_then Hb1.out (below_then Hbel.out (below_then Hb.out (((Below.refl _ _).alloc (Nat.le_refl _) _).trans (Hb2.out.mono (by simp)))))⟩
      · obtain rfl : k = l.length := by omega
        have hf := Hn.out
        rw [List.take_length] at hf
        have Hf := Lib.hid hf
        clear hf Hn hlt
        go_wp2_with fail
        go_ret
        rw [Hf.out]
        exact ⟨rfl, below_then Hb1.out (below_then Hbel.out Hb.out)⟩
set_option maxRecDepth 100000 in
set_option maxHeartbeats 1000000 in
theorem refNum10_any (l : List UInt8) (w : World) (hl : l.length ≤ 1000000) (h2 : l.take 2 ≠ [48, 120]) : Calls Tryz.prog 96 #[.string (S l)] w fun e w' => e = .returned (.int .i64 (optI (if 1 < l.length ∧ l.getD 0 0 = 48 then none else numU 10 l))) ∧ Below w.heap.size w w' := by
  have HP := Lib.hid (prefix0x l false (decide_eq_false h2) w)
  have AL := Lib.hid (fun W => refAll_any l d10 W hl)
  rw [all10] at AL
  unfold d10 at AL
  cases ha : (l.all (isDig 10) && !l.isEmpty) with
  | false =>
    rw [numU_not ha]
    rw [show (if 1 < l.length ∧ l.getD 0 0 = 48 then (none : Option Nat) else none) = none from by split <;> rfl]
    rw [ha] at AL
    clear ha h2
    go_enter Tryz.func96, Tryz.ntmps96
    go_wp2_with fail
    refine HP.out.mono ?_
    rintro e w' ⟨rfl, rfl⟩
    go_wp2_with fail
    refine (AL.out _).mono ?_
    rintro e w1 ⟨rfl, hb1⟩
    have Hb1 := Lib.hid hb1
    clear hb1
    go_wp2_with fail
    go_ret
    exact ⟨rfl, Hb1.out⟩
  | true =>
    obtain ⟨hne, hall, hu⟩ := numU_yes ha
    rw [hu]
    rw [ha] at AL
    have Hall := Lib.hid hall
    have hpos : 0 < l.length := List.length_pos_iff.2 hne
    clear ha hall hu h2
    by_cases hz : 1 < l.length ∧ l.getD 0 0 = 48
    · rw [if_pos hz]
      obtain ⟨h1, h0⟩ := hz
      have hc : l[0] = 48 := by rw [← h0, List.getD_eq_getElem?_getD, List.getElem?_eq_getElem (by omega)]; rfl
      have hlen : (1 : Int) < (l.length : Int) := by omega
      have hl2 : l ≠ [48] := by rintro rfl; simp at h1
      have hl1 : (l == [48]) = false := by simpa using hl2
      clear h0 hne
      go_enter Tryz.func96, Tryz.ntmps96
      go_wp2_with fail
      refine HP.out.mono ?_
      rintro e w' ⟨rfl, rfl⟩
      go_wp2_with fail
      refine (AL.out _).mono ?_
      rintro e w1 ⟨rfl, hb1⟩
      have Hb1 := Lib.hid hb1
      clear hb1
      go_wp2_with fail
      go_ret
      exact ⟨rfl, Hb1.out⟩
    rw [if_neg hz]
    have hg : (l == [48]) = true ∨ ((l == [48]) = false ∧ l ≠ [48] ∧ ((l[0].toNat : Int) == 48) = false) := by
      by_cases hl2 : l = [48]
      · exact .inl (by subst hl2; rfl)
      · refine .inr ⟨by simpa using hl2, hl2, ?_⟩
        have h0 : ¬ l[0] = 48 := fun e => by
          apply hz
          refine ⟨?_, by rw [List.getD_eq_getElem?_getD, List.getElem?_eq_getElem hpos]; exact e⟩
          rcases l with _ | ⟨a, _ | ⟨b, l⟩⟩
          · cases hpos
          · exact absurd (by simpa using e) hl2
          · simp
        have : ¬ l[0].toNat = 48 := fun e => h0 (UInt8.toNat_inj.1 (by show _ = 48; omega))
        simp only [beq_eq_false_iff_ne, ne_eq]
        omega
    clear hz hne
    go_enter Tryz.func96, Tryz.ntmps96
    go_wp2_with fail
    refine HP.out.mono ?_
    rintro e w' ⟨rfl, rfl⟩
    go_wp2_with fail
    refine (AL.out _).mono ?_
    rintro e w1 ⟨rfl, hb1⟩
    have Hb1 := Lib.hid hb1
    clear hb1
    obtain ⟨cap, W, hrun, hcell, hbel, hlt0⟩ := bytes_fr w1 l
    have Hcell := Lib.hid hcell
    have Hbel := Lib.hid hbel
    have Hlt0 := Lib.hid hlt0
    clear hcell hbel hlt0
    rcases hg with hl1 | ⟨hl1, hl2, hl3⟩
    all_goals
     (go_wp2_with fail
      clear hrun
      go_loopw [4, 36] (fun a i wr => ∃ k n : Nat, k ≤ l.length ∧ i = .int .i64 k ∧ a = .int .i64 n ∧ n < 1099511627776 ∧ Hid (numF 10 0 (l.take k) = some n) ∧ Hid (Below W.heap.size W wr)) (fun _ i _ => l.length - (intOf i).toNat)
      case atStart => exact ⟨0, 0, by omega, rfl, rfl, by omega, Lib.hid rfl, Lib.hid (Below.refl _ _)⟩
      case round =>
        obtain ⟨k, n, hk, rfl, rfl, hn, Hn, Hb⟩ := hrel
        by_cases hlt : k < l.length
        · have hki : (k : Int) < (l.length : Int) := by omega
          have hcell : wr.cell? ⟨w1.heap.size, k, none⟩ = some (.int .u8 (l[k].toNat : Int)) := by rw [(bcell Hb.out).1 _ k Hlt0.out]; exact Hcell.out k hlt
          have hd : isDig 10 l[k] = true := List.all_eq_true.1 Hall.out l[k] (List.getElem_mem hlt)
          have hnx := numF_next hlt Hn.out hd
          have hlow := low_dig l[k] (dig_wide _ hd)
          have hdl := isDig_lt hd
          obtain ⟨c, hc⟩ : ∃ c, l[k] = c := ⟨_, rfl⟩
          rw [hc] at hcell hnx hlow hdl
          have hasc := hlow.2
          have hrs := run_one wr c
          have TL := Lib.hid (fun W => lower_one c hasc W)
          have IX := Lib.hid (fun W => inA_any d16 (Lib.lowerB c) W)
          rw [hlow.1] at IX
          obtain ⟨e0, he⟩ : ∃ e0, Lib.lowerB c = e0 := ⟨_, rfl⟩
          rw [he] at TL IX
          obtain ⟨d, hdv⟩ : ∃ d, digV c = d := ⟨_, rfl⟩
          rw [hdv] at IX hnx hdl
          unfold d16 at IX
          have Hnx := Lib.hid hnx
          clear hnx hlow hasc he hdv hd hc hlt Hn
          have hni : (n : Int) < 1099511627776 := by omega
          have hdi : (d : Int) < 10 := by omega
          rcases (show (¬ (1099511627776 : Int) ≤ (n : Int) * 10 + (d : Int)) ∨ (1099511627776 : Int) ≤ (n : Int) * 10 + (d : Int) from by omega) with hlo | hhi
          · obtain ⟨M, hM⟩ : ∃ M : Int, (n : Int) * 10 + (d : Int) = M := ⟨_, rfl⟩
            rw [hM] at hlo
            have hlo2 : M < 1099511627776 := by omega
            have hlo3 : (0 : Int) ≤ M := by omega
            have HM := Lib.hid hM
            clear hlo
            go_wp2_with fail
            refine (TL.out _).mono ?_
            rintro e w2 ⟨rfl, hb2⟩
            have Hb2 := Lib.hid hb2
            clear hb2
            go_wp2_with fail
            refine (IX.out _).mono ?_
            rintro e w' ⟨rfl, rfl⟩
            have hw0 : wrap64 ((n : Int) * 10 + (d : Int)) = M := by rw [hM]; exact IntWalk.wrap64_in _ ⟨by omega, by omega⟩
            have hw1 : ∀ [Inhabited Nat], wrap64 ((n : Int) * 10 + (d : Int)) = M := hw0
            have Hn := Lib.hid hn
            clear hrs hcell hM hn hni hdl hdi hw0
            go_wp2_with fail
            go_roundw
            case rel => exact ⟨k + 1, n * 10 + d, by omega, by go_num, (by rw [show ((n * 10 + d : Nat) : Int) = M from by rw [Int.natCast_add, Int.natCast_mul]; exact HM.out]; first | rfl | rw [hw1]), (by have := HM.out; omega), Lib.hid (Hnx.out.2 (by have := HM.out; omega)), Lib.hid (below_then Hb.out (((Below.refl _ _).alloc (Nat.le_refl _) _).trans (Hb2.out.mono (by simp))))⟩
            case measure => simp [intOf]; omega
          · go_wp2_with fail
            refine (TL.out _).mono ?_
            rintro e w2 ⟨rfl, hb2⟩
            have Hb2 := Lib.hid hb2
            clear hb2
            go_wp2_with fail
            refine (IX.out _).mono ?_
            rintro e w' ⟨rfl, rfl⟩
            go_wp2_with fail
            go_ret
            rw [Hnx.out.1 (by omega)]
            exact ⟨rfl, below_then Hb1.out (below_then Hbel.out (below_then Hb.out (((Below.refl _ _).alloc (Nat.le_refl _) _).trans (Hb2.out.mono (by simp)))))⟩
        · obtain rfl : k = l.length := by omega
          have hf := Hn.out
          rw [List.take_length] at hf
          have Hf := Lib.hid hf
          clear hf Hn hlt
          go_wp2_with fail
          go_ret
          rw [Hf.out]
          exact ⟨rfl, below_then Hb1.out (below_then Hbel.out Hb.out)⟩)
end Go.Proofs.YteapbjeapnmloaaGreatDoor
namespace Go.Proofs.YteapbjeapnmloaaGreatDoor
open Go Go.RowKit
set_option linter.unusedVariables false
theorem refNum_any (s : List UInt8) (w : World) (hl : s.length ≤ 1000000) : Calls Tryz.prog 96 #[.string (S s)] w fun e w' => e = .returned (.int .i64 (optI (numR s))) ∧ Below w.heap.size w w' := by
  by_cases hx : s.take 2 = [48, 120]
  · obtain ⟨r, rfl⟩ := take2_of hx
    have hn : numR (48 :: 120 :: r) = numU 16 r := by unfold numR; rw [if_pos hx]; rfl
    rw [hn]
    exact refNum16_any r w (by simp at hl; omega)
  · have hn : numR s = if 1 < s.length ∧ s.getD 0 0 = 48 then none else numU 10 s := by unfold numR; rw [if_neg hx]
    rw [hn]
    exact refNum10_any s w hl hx
set_option maxRecDepth 100000 in
theorem refNumeral_any (s : List UInt8) (lo hi : Int) (w : World) (hl : s.length ≤ 1000000) : Calls Tryz.prog 93 #[.string (S s), .int .i64 lo, .int .i64 hi] w fun e w' => e = .returned (.tuple #[.int .i64 (numE s lo hi).1, .int .i64 (numE s lo hi).2]) ∧ Below w.heap.size w w' := by
  have N := Lib.hid (refNum_any s w hl)
  cases hn : numR s with
  | none =>
    rw [numE_none hn]
    rw [hn] at N
    have N := Lib.hid (show Calls Tryz.prog 96 #[.string (S s)] w fun e w' => e = .returned (.int .i64 (-1)) ∧ Below w.heap.size w w' from N.out)
    clear hn
    go_enter Tryz.func93, Tryz.ntmps93
    go_wp2_with fail
    refine N.out.mono ?_
    rintro e w1 ⟨rfl, hb1⟩
    have Hb1 := Lib.hid hb1
    clear hb1
    go_wp2_with fail
    go_ret2
    exact ⟨rfl, Hb1.out⟩
  | some n =>
    rw [hn] at N
    have N := Lib.hid (show Calls Tryz.prog 96 #[.string (S s)] w fun e w' => e = .returned (.int .i64 (n : Int)) ∧ Below w.heap.size w w' from N.out)
    have h0 : ¬ (n : Int) < 0 := by omega
    by_cases h : lo ≤ (n : Int) ∧ (n : Int) ≤ hi
    · rw [numE_in hn h.1 h.2]
      have WT := Lib.hid (fun W => within_true n lo hi W h.1 h.2)
      clear hn h
      go_enter Tryz.func93, Tryz.ntmps93
      go_wp2_with fail
      refine N.out.mono ?_
      rintro e w1 ⟨rfl, hb1⟩
      have Hb1 := Lib.hid hb1
      clear hb1
      go_wp2_with fail
      refine (WT.out _).mono ?_
      rintro e w' ⟨rfl, rfl⟩
      go_wp2_with fail
      go_ret2
      exact ⟨rfl, Hb1.out⟩
    · have ho : (n : Int) < lo ∨ hi < (n : Int) := by omega
      rw [numE_off hn ho]
      have WF := Lib.hid (fun W => within_false n lo hi W ho)
      clear hn h ho
      go_enter Tryz.func93, Tryz.ntmps93
      go_wp2_with fail
      refine N.out.mono ?_
      rintro e w1 ⟨rfl, hb1⟩
      have Hb1 := Lib.hid hb1
      clear hb1
      go_wp2_with fail
      refine (WF.out _).mono ?_
      rintro e w' ⟨rfl, rfl⟩
      go_wp2_with fail
      go_ret2
      exact ⟨rfl, Hb1.out⟩
end Go.Proofs.YteapbjeapnmloaaGreatDoor
