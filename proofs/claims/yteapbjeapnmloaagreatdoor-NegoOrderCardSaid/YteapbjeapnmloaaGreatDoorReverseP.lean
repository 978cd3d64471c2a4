/- slices.Reverse of pairs of a call's own. -/
import Derived.Test.YteapbjeapnmloaaGreatDoorGH
import Derived.RegionTactic
namespace Go.Proofs.YteapbjeapnmloaaGreatDoor
open Go Go.RowKit
set_option linter.unusedVariables false
structure RevAt (l cur : List Pr) (i : Nat) : Prop where
  len : cur.length = l.length
  lt : i * 2 ≤ l.length + 1
  at_ : ∀ a, a < l.length → cur[a]? = if a < i ∨ l.length ≤ a + i then l[l.length - 1 - a]? else l[a]?
theorem RevAt.step {l cur : List Pr} {i j : Nat} (h : RevAt l cur i) (hij : i < j) (hj : j + i + 1 = l.length) : ∃ (hi : i < cur.length) (hj : j < cur.length), cur[i] = l[i]'(by omega) ∧ cur[j] = l[j]'(by omega) ∧ RevAt l ((cur.set i (l[j]'(by omega))).set j (l[i]'(by omega))) (i + 1) := by
  have hl := h.len
  have e1 := h.at_ i (by omega)
  have e2 := h.at_ j (by omega)
  rw [if_neg (by omega), List.getElem?_eq_getElem (by omega), List.getElem?_eq_getElem (by omega)] at e1 e2
  refine ⟨by omega, by omega, Option.some.inj e1, Option.some.inj e2, by simp [hl], by omega, fun a ha => ?_⟩
  rw [List.getElem?_set, List.getElem?_set]
  by_cases h1 : j = a
  · subst h1
    rw [if_pos rfl, if_pos (by simp; omega), if_pos (by omega), show l.length - 1 - j = i by omega, List.getElem?_eq_getElem (by omega)]
  · rw [if_neg h1]
    by_cases h2 : i = a
    · subst h2
      rw [if_pos rfl, if_pos (by omega), if_pos (by omega), show l.length - 1 - i = j by omega, List.getElem?_eq_getElem (by omega)]
    · rw [if_neg h2, h.at_ a ha]
      by_cases h3 : a < i ∨ l.length ≤ a + i
      · rw [if_pos h3, if_pos (by omega)]
      · rw [if_neg h3, if_neg (by omega)]
theorem RevAt.done {l cur : List Pr} {i : Nat} (h : RevAt l cur i) (hi : l.length ≤ i * 2 + 1) : cur = l.reverse := by
  apply List.ext_getElem?
  intro a
  by_cases ha : a < l.length
  · rw [h.at_ a ha, List.getElem?_reverse ha]
    by_cases h1 : a < i ∨ l.length ≤ a + i
    · rw [if_pos h1]
    · rw [if_neg h1]
      congr 1
      omega
  · rw [List.getElem?_eq_none (by rw [h.len]; omega), List.getElem?_eq_none (by simp; omega)]
def RetRev (w : World) (B : Nat) (v : Value) (m : List Pr) (e : Ending) (w' : World) : Prop := e = .returned (.tuple #[]) ∧ PrBuf B w' v m ∧ w.grownBy w' v.ownBlock
set_option maxRecDepth 100000 in
set_option maxHeartbeats 1000000 in
theorem reverseP_any (l : List Pr) (v : Value) (B : Nat) (w : World) (hv : PrBuf B w v l) (hl : l.length ≤ 140737488355328) :
    Calls Tryz.prog 42 #[v] w (RetRev w B v l.reverse) := by
  have HV := Lib.hid hv
  obtain ⟨p, c, rfl⟩ := hv.form
  have hnil : p = none → l = [] := by
    rintro rfl
    rcases hv.2 with ⟨_, h0⟩ | ⟨g', cap, cur, e, _⟩
    · exact List.eq_nil_of_length_eq_zero h0
    · cases e
  have hrow : ∀ a, p = some a → ∃ rb, a = ⟨rb, 0, none⟩ := fun a h => by
    rcases hv.2 with ⟨e, h0⟩ | ⟨g', cap, cur, e, _⟩
    · rw [h] at e; cases e
    · simp only [Value.slice.injEq] at e
      rw [h] at e
      exact ⟨g', by injection e.1⟩
  have hll : (l.length : Int) ≤ 140737488355328 := by omega
  clear hv
  cases p with
  | none =>
    obtain rfl := hnil rfl
    clear hnil hrow
    go_enter Tryz.func42, Tryz.ntmps42
    go_wp2_with fail
    refine wp_loop_rounds 1 ?_
    rw [rounds_succ]
    go_wp2_with fail
    go_end0
    exact ⟨rfl, HV.out, grown_of (Below.refl _ _) _⟩
  | some a =>
    obtain ⟨rb, rfl⟩ := hrow a rfl
    clear hnil hrow
    obtain ⟨hrp, hbr⟩ := RowP.of HV.out
    have HP0 := Lib.hid hrp
    have Hbr := Lib.hid hbr
    clear hrp hbr
    go_enter Tryz.func42, Tryz.ntmps42
    go_wp2_with fail
    go_loopw [2, 3] (fun iv jv wr => ∃ (i : Nat) (J : Int) (cur : List Pr), iv = .int .i64 i ∧ jv = .int .i64 J ∧ J = (l.length : Int) - 1 - i ∧ (i : Int) ≤ 140737488355328 ∧ Hid (RevAt l cur i) ∧ Hid (RowP wr rb c cur) ∧ Hid (w.grownBy wr (some rb))) (fun i _ _ => l.length - (intOf i).toNat)
    case atStart => exact ⟨0, (l.length : Int) - 1, l, rfl, by go_num, by omega, by omega, Lib.hid ⟨rfl, by omega, fun a ha => by rw [if_neg (by omega)]⟩, HP0, Lib.hid (grown_of (Below.refl _ _) _)⟩
    case round =>
      obtain ⟨i, J, cur, rfl, rfl, hJ, hi, HR, HP, Hg⟩ := hrel
      by_cases hlt : (i : Int) < J
      · obtain ⟨j, rfl⟩ : ∃ j : Nat, J = (j : Int) := ⟨J.toNat, by omega⟩
        obtain ⟨h1, h2, e1, e2, hst⟩ := HR.out.step (j := j) (by omega) (by omega)
        obtain ⟨q0, q1⟩ := HP.out.cell h1
        obtain ⟨r0, r1⟩ := HP.out.cell h2
        rw [e1] at q0 q1
        rw [e2] at r0 r1
        have Hst := Lib.hid hst
        have hij : i < j := by omega
        have hjl : j < l.length := by omega
        obtain ⟨⟨xk, xd⟩, hx⟩ : ∃ x, l[i]'(by omega) = x := ⟨_, rfl⟩
        obtain ⟨⟨yk, yd⟩, hy⟩ : ∃ y, l[j] = y := ⟨_, rfl⟩
        rw [hx] at q0 q1 Hst
        rw [hy] at r0 r1 Hst
        simp only at q0 q1 r0 r1
        have f0 := HP.out.frozen (i * 2)
        have f1 := HP.out.frozen (i * 2 + 1)
        have f2 := HP.out.frozen (j * 2)
        have f3 := HP.out.frozen (j * 2 + 1)
        have hjI : (j : Int) < (l.length : Int) := by omega
        have hiI : (i : Int) < (l.length : Int) := by omega
        have HJ := Lib.hid hJ
        clear hx hy hst e1 e2 hJ
        go_wp2_with fail
        go_region
        go_wp2_with fail
        go_roundw
        case rel => exact ⟨i + 1, (j : Int) - 1, (cur.set i ⟨yk, yd⟩).set j ⟨xk, xd⟩, by go_num, by go_num, by have := HJ.out; omega, by omega, Hst, Lib.hid (((HP.out.set i ⟨yk, yd⟩).set j ⟨xk, xd⟩).kept rfl), Lib.hid (grown_trans (grown_trans (grown_trans (grown_trans (grown_trans Hg.out (grownBy_cell _ _ _ _)) (grownBy_cell _ _ _ _)) (grownBy_cell _ _ _ _)) (grownBy_cell _ _ _ _)) (grown_of (Below.refl _ _).drew _))⟩
        case measure => simp [intOf]; omega
      · have HD := Lib.hid (HR.out.done (by omega))
        have HJ := Lib.hid hJ
        clear hJ
        go_wp2_with fail
        go_end0
        have hp := HP.out
        rw [HD.out] at hp
        have hb := hp.buf (base := B) (m := l.reverse) (List.take_length) Hbr.out
        rw [List.length_reverse] at hb
        exact ⟨rfl, hb, Hg.out⟩
end Go.Proofs.YteapbjeapnmloaaGreatDoor
