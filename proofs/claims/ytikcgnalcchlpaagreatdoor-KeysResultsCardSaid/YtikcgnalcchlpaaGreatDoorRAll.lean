/- ref.all: each byte is one of these, and there is one. -/
import Derived.Test.YtikcgnalcchlpaaGreatDoorKeyMath
import Derived.Test.YtikcgnalcchlpaaGreatDoorKeyEnv
import Derived.Test.YtikcgnalcchlpaaGreatDoorShByte
namespace Go.Proofs.YtikcgnalcchlpaaGreatDoor
open Go Go.RowKit
set_option linter.unusedVariables false
def inA (l : List UInt8) (c : UInt8) : Int := Lib.indexByte l c
theorem inA_any (l : List UInt8) (c : UInt8) (w : World) :
    Calls Tryz.prog 30 #[.string (S l), .int .u8 (c.toNat : Int)] w fun e w' => e = .returned (.int .i64 (inA l c)) ∧ w = w' := by
  refine (Tryz.strings_IndexByte (S l) _ w).mono ?_
  rintro e w' ⟨rfl, hw⟩
  refine ⟨?_, hw.symm⟩
  simp [inA, S]
theorem bytes_fr (w : World) (l : List UInt8) :
    ∃ cap W, (convert 9 68 (.string (S l))).run Tryz.prog w = .ok (.slice (some ⟨w.heap.size, 0, none⟩) l.length cap) W ∧
      (∀ j (hj : j < l.length), W.cell? ⟨w.heap.size, j, none⟩ = some (.int .u8 (l[j].toNat : Int))) ∧ Below w.heap.size w W ∧ w.heap.size < W.heap.size := by
  obtain ⟨cap, hc1, hc2, hrun⟩ := run_bytes_S (P := Tryz.prog) 9 68 5 Tryz.underlying9 Tryz.underlying68 Tryz.underlying5 w l
  refine ⟨cap, _, hrun, fun j hj => ?_, ((Below.refl _ _).alloc (Nat.le_refl _) _).drew, by simp⟩
  show (w.alloc (.cells (cells8 (l ++ List.replicate (cap - l.length) 0)) 5 (cap, cap + 1))).cell? ⟨w.heap.size, j, none⟩ = _
  rw [World.cell?_alloc_mark, cells8_get _ j (by simp; omega)]
  rw [List.getElem_append_left hj]
def oneOf (l : List UInt8) (c : UInt8) : Bool := decide (0 ≤ inA l c)
def allOf (l s : List UInt8) : Bool := s.all (oneOf l) && !s.isEmpty
theorem allOf_not {l s : List UInt8} {k : Nat} (hk : k < s.length) (h : oneOf l s[k] = false) : allOf l s = false := by
  have : s.all (oneOf l) = false := by
    cases h' : s.all (oneOf l) with
    | false => rfl
    | true => rw [List.all_eq_true.1 h' s[k] (List.getElem_mem hk)] at h; cases h
  unfold allOf
  rw [this]; rfl
theorem all_more {p : UInt8 → Bool} {s : List UInt8} {k : Nat} (hk : k < s.length) (h : (s.take k).all p = true) (h2 : p s[k] = true) : (s.take (k + 1)).all p = true := by
  rw [← List.take_append_getElem hk, List.all_append, h]
  simp [h2]
set_option maxRecDepth 100000 in
theorem refAll_any (s l : List UInt8) (w : World) (hl : s.length ≤ 1000000) : Calls Tryz.prog 29 #[.string (S s), .string (S l)] w fun e w' => e = .returned (.bool (allOf l s)) ∧ Below w.heap.size w w' := by
  obtain ⟨cap, W, hrun, hcell, hbel, hlt0⟩ := bytes_fr w s
  have Hcell := Lib.hid hcell
  have Hbel := Lib.hid hbel
  have I := fun c => Lib.hid (inA_any l c W)
  clear hcell hbel hlt0
  go_enter Tryz.func29, Tryz.ntmps29
  go_wp2_with fail
  clear hrun
  go_loopw [10] (fun i wr => ∃ k : Nat, k ≤ s.length ∧ i = .int .i64 k ∧ Hid ((s.take k).all (oneOf l) = true) ∧ wr = W) (fun i _ => s.length - (intOf i).toNat)
  case atStart => exact ⟨0, by omega, rfl, Lib.hid (by simp), rfl⟩
  case round =>
    obtain ⟨k, hk, rfl, Ha, rfl⟩ := hrel
    by_cases hlt : k < s.length
    · have hki : (k : Int) < (s.length : Int) := by omega
      have hcell : wr.cell? ⟨w.heap.size, k, none⟩ = some (.int .u8 (s[k].toNat : Int)) := Hcell.out k hlt
      obtain ⟨c, hc⟩ : ∃ c, s[k] = c := ⟨_, rfl⟩
      rw [hc] at hcell
      have Hc := Lib.hid hc
      have I1 := I c
      obtain ⟨d, hd⟩ : ∃ d, inA l c = d := ⟨_, rfl⟩
      have Hd := Lib.hid hd
      rw [hd] at I1
      clear hc hd
      by_cases h : 0 ≤ d
      · go_wp2_with fail
        refine I1.out.mono ?_
        rintro e w' ⟨rfl, rfl⟩
        go_wp2_with fail
        go_roundw
        case rel => exact ⟨k + 1, by omega, by go_num, Lib.hid (all_more hlt Ha.out (by rw [Hc.out]; unfold oneOf; rw [Hd.out]; exact decide_eq_true h)), by first | rfl | trivial⟩
        case measure => simp [intOf]; omega
      · have hd2 : d < 0 := by omega
        go_wp2_with fail
        refine I1.out.mono ?_
        rintro e w' ⟨rfl, rfl⟩
        go_wp2_with fail
        go_ret
        rw [allOf_not (l := l) hlt (by rw [Hc.out]; unfold oneOf; rw [Hd.out]; exact decide_eq_false (by omega))]
        exact ⟨rfl, Hbel.out⟩
    · obtain rfl : k = s.length := by omega
      have ha := Ha.out
      rw [List.take_length] at ha
      have Hall := Lib.hid ha
      clear ha Ha hlt
      by_cases hs : s = []
      · subst hs
        go_wp2_with fail
        go_ret
        exact ⟨rfl, Hbel.out⟩
      · have hse : s.isEmpty = false := by cases s with | nil => exact absurd rfl hs | cons _ _ => rfl
        go_wp2_with fail
        go_ret
        unfold allOf
        rw [Hall.out, hse]
        exact ⟨rfl, Hbel.out⟩
end Go.Proofs.YtikcgnalcchlpaaGreatDoor
