/- chap.Find. -/
import Derived.Test.YtoponmdfjbhnoaaDoorUsrs
namespace Go.Proofs.YtoponmdfjbhnoaaDoor
open Go.RowKit
set_option linter.unusedVariables false
def usV (u : Us) : Value := .agg #[.string (S u.nm), .string (S u.sc)]
def usR (o : Option Us) : Value := match o with
  | some u => .tuple #[.agg #[.string (S u.nm), .string (S u.sc)], .bool true]
  | none => .tuple #[.agg #[.string (S []), .string (S [])], .bool false]
set_option maxRecDepth 100000 in
theorem findU_any (l : List Us) (name : List UInt8) (v : Value) (w : World) (hv : UsV w v l) (hl : l.length ≤ 140737488355328) :
    Calls Tryd.prog 14 #[v, .string (S name)] w fun e w' => e = .returned (usR (usFind l name)) ∧ Below w.heap.size w w' := by
  obtain ⟨p, c, rfl, _, hc⟩ := hv
  have Hc := Lib.hid hc
  have HB0 := Lib.hid ((Below.refl w.heap.size w).alloc (Nat.le_refl _) (.cells #[.string (S []), .string (S [])] 27))
  have HK0 := Lib.hid (Blk.new w #[.string (S []), .string (S [])] 27)
  clear hc
  go_enter Tryd.func14, Tryd.ntmps14
  go_wp2_with fail
  go_loopw [10] (fun i wr => ∃ j : Nat, j ≤ l.length ∧ i = .int .i64 j ∧ usFind (l.drop j) name = usFind l name ∧ Blk wr w.heap.size #[.string (S []), .string (S [])] 27 ∧ Below w.heap.size w wr) (fun i _ => l.length - (intOf i).toNat)
  case atStart => exact ⟨0, by omega, rfl, rfl, HK0.out, HB0.out⟩
  case round =>
    obtain ⟨j, hj, rfl, hr, hk, hb⟩ := hrel
    have Hb := Lib.hid hb
    by_cases hlt : j < l.length
    · obtain ⟨b, o, rfl, hcl⟩ := Hc.out (by omega)
      obtain ⟨h1, h2⟩ := hcl j hlt
      rw [← (bcell hb).1 b (o + j * 2) (block_lt_of_cell (w := w) (a := ⟨b, o + j * 2, none⟩) h1)] at h1
      rw [← (bcell hb).1 b (o + j * 2 + 1) (block_lt_of_cell (w := w) (a := ⟨b, o + j * 2 + 1, none⟩) h2)] at h2
      obtain ⟨a, ha⟩ : ∃ a, l[j] = a := ⟨_, rfl⟩
      rw [List.drop_eq_getElem_cons hlt] at hr
      rw [ha] at h1 h2 hr
      obtain ⟨k, d⟩ := a
      simp only at h1 h2
      have hk1 := hk.alloc (.cells #[.string (S k), .string (S d)] 27)
      obtain ⟨q0, q1⟩ := hk1.two
      have f0 := hk1.frozen 0
      have f1 := hk1.frozen 1
      have Hk1 := Lib.hid hk1
      have Hb1 := Lib.hid (hb.alloc hb.size (.cells #[.string (S k), .string (S d)] 27))
      have e0 : usFind (⟨k, d⟩ :: l.drop (j + 1)) name = if k = name then some ⟨k, d⟩ else usFind (l.drop (j + 1)) name := rfl
      rw [e0] at hr
      have Hr := Lib.hid hr
      clear hr hcl hb ha e0 hk hk1
      by_cases hk : k = name
      · rw [if_pos hk] at Hr
        subst hk
        go_wp2_with fail
        refine bodyPost_ret (v := .tuple #[.agg #[.string (S k), .string (S d)], .bool true]) (by simp [results, Tryd.results14, go_sem, q0, q1]) rfl ?_
        rw [← Hr.out]
        exact ⟨rfl, (Hb1.out.setCell (Nat.le_refl _) _).setCell (Nat.le_refl _) _⟩
      · rw [if_neg hk] at Hr
        have hS : (k == name) = false := by
          rw [beq_eq_false_iff_ne]
          exact hk
        go_wp2_with fail
        go_roundw
        case rel => exact ⟨j + 1, by omega, by go_num, Hr.out, Hk1.out, Hb1.out⟩
        case measure => simp [intOf]; omega
    · obtain rfl : j = l.length := by omega
      have Hr := Lib.hid hr
      obtain ⟨q0, q1⟩ := hk.two
      have f0 := hk.frozen 0
      have f1 := hk.frozen 1
      clear hr hb hk
      go_wp2_with fail
      refine bodyPost_ret (v := .tuple #[.agg #[.string (S []), .string (S [])], .bool false]) (by simp [results, Tryd.results14, go_sem, q0, q1]) rfl ?_
      rw [← Hr.out, List.drop_length]
      exact ⟨rfl, (Hb.out.setCell (Nat.le_refl _) _).setCell (Nat.le_refl _) _⟩
end Go.Proofs.YtoponmdfjbhnoaaDoor
