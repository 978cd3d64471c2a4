/- Slices of additional headers; ahs.size, ahs.Right. -/
import Derived.Test.YtceinedicbdngaaDoorAhsMath
import Derived.Test.YtceinedicbdngaaDoorIs
import Derived.Test.YtceinedicbdngaaDoorBlk
import Derived.Deep.RegionHeld3
namespace Go.Proofs.YtceinedicbdngaaDoor
open Go.RowKit
/-- the slice value v reads as these headers in W -/
def AhsV (W : World) (v : Value) (l : List Ah) : Prop := ∃ p c, v = .slice p l.length c ∧ l.length ≤ c ∧ (0 < l.length → ∃ b o, p = some ⟨b, o, none⟩ ∧ ∀ j (hj : j < l.length), W.cell? ⟨b, o + j * 2, none⟩ = some (.int .i64 l[j].k) ∧ W.cell? ⟨b, o + j * 2 + 1, none⟩ = some (.string (S l[j].d)))
theorem AhsV.later {W W' : World} {v : Value} {l : List Ah} (h : AhsV W v l) (hb : Below W.heap.size W W') : AhsV W' v l := by
  obtain ⟨p, c, hv, hlc, hc⟩ := h
  refine ⟨p, c, hv, hlc, fun hl => ?_⟩
  obtain ⟨b, o, hp, hcell⟩ := hc hl
  refine ⟨b, o, hp, fun j hj => ?_⟩
  obtain ⟨h1, h2⟩ := hcell j hj
  rw [(bcell hb).1 b (o + j * 2) (block_lt_of_cell (w := W) (a := ⟨b, o + j * 2, none⟩) h1), (bcell hb).1 b (o + j * 2 + 1) (block_lt_of_cell (w := W) (a := ⟨b, o + j * 2 + 1, none⟩) h2)]
  exact ⟨h1, h2⟩
theorem AhsV.drewN {W : World} {v : Value} {l : List Ah} (h : AhsV W v l) (n : Nat) : AhsV (W.drewN n) v l := h
theorem AhsV.nil (W : World) : AhsV W (.slice none 0 0) [] := ⟨none, 0, rfl, Nat.le_refl _, fun h => absurd h (by decide)⟩
theorem AhsV.form {W : World} {v : Value} {l : List Ah} (h : AhsV W v l) : ∃ p c, v = .slice p l.length c := by obtain ⟨p, c, h, _⟩ := h; exact ⟨p, c, h⟩
/-- all data are no more than memory has -/
def fitA (l : List Ah) : Prop := l.length ≤ 140737488355328 ∧ ∀ a ∈ l, a.d.length ≤ 140737488355328
def ahV (a : Ah) : Value := .agg #[.int .i64 a.k, .string (S a.d)]
theorem size_any (a : Ah) (w : World) (hd : a.d.length ≤ 140737488355328) :
    Calls Tryd.prog 30 #[.agg #[.int .i64 a.k, .string (S a.d)]] w fun e w' => e = .returned (.int .i64 (sizeA a : Nat)) ∧ Below w.heap.size w w' := by
  obtain ⟨k, d⟩ := a
  simp only at hd ⊢
  have P := fun w => Lib.hid (pad_any ((3 : Int) + (d.length : Int)) w)
  have hs : ((sizeA ⟨k, d⟩ : Nat) : Int) = 3 + (d.length : Int) + padI (3 + (d.length : Int)) := by
    unfold sizeA
    simp only
    rw [show (3 : Int) + (d.length : Int) = ((3 + d.length : Nat) : Int) by omega, padI_pad]
    omega
  have hp := padI_bd (3 + (d.length : Int))
  have Hs := Lib.hid hs
  clear hs
  go_enter Tryd.func30, Tryd.ntmps30
  go_wp2_with fail
  refine (P _).out.mono ?_
  rintro e w' ⟨rfl, rfl⟩
  go_wp2_with fail
  go_ret
  exact ⟨ret_int (by rw [Hs.out]), (Below.refl _ _).alloc (Nat.le_refl _) _⟩
set_option maxRecDepth 100000 in
theorem right_ahs (l : List Ah) (v : Value) (w : World) (hv : AhsV w v l) (hf : fitA l) :
    Calls Tryd.prog 14 #[v] w (RetE w (rightA l)) := by
  obtain ⟨p, c, rfl, _, hc⟩ := hv
  have Hc := Lib.hid hc
  have Hf := Lib.hid hf
  have hl47 := hf.1
  clear hc hf
  go_enter Tryd.func14, Tryd.ntmps14
  go_wp2_with fail
  go_loopw [3, 8] (fun x i wr => ∃ j all : Nat, j ≤ l.length ∧ all ≤ 1020 ∧ i = .int .i64 j ∧ x = .int .i64 all ∧ rightF all j (l.drop j) = rightA l ∧ Below w.heap.size w wr) (fun _ i _ => l.length - (intOf i).toNat)
  case atStart => exact ⟨0, 0, by omega, by omega, rfl, rfl, rfl, Below.refl _ _⟩
  case round =>
    obtain ⟨j, all, hj, hall, rfl, rfl, hr, hb⟩ := hrel
    have Hb := Lib.hid hb
    by_cases hlt : j < l.length
    · obtain ⟨b, o, rfl, hcl⟩ := Hc.out (by omega)
      obtain ⟨h1, h2⟩ := hcl j hlt
      rw [← (bcell hb).1 b (o + j * 2) (block_lt_of_cell (w := w) (a := ⟨b, o + j * 2, none⟩) h1)] at h1
      rw [← (bcell hb).1 b (o + j * 2 + 1) (block_lt_of_cell (w := w) (a := ⟨b, o + j * 2 + 1, none⟩) h2)] at h2
      obtain ⟨a, ha⟩ : ∃ a, l[j] = a := ⟨_, rfl⟩
      have hda := Hf.out.2 l[j] (List.getElem_mem hlt)
      rw [List.drop_eq_getElem_cons hlt, rightF_cons] at hr
      rw [ha] at h1 h2 hr hda
      obtain ⟨k, d⟩ := a
      simp only at h1 h2 hr hda
      have Hr := Lib.hid hr
      have hb1 := hb.alloc hb.size (.cells #[.int .i64 k, .string (S d)] 41)
      have Hb1 := Lib.hid hb1
      have ZZ := fun W => Lib.hid (size_any ⟨k, d⟩ W hda)
      have hsz : sizeA ⟨k, d⟩ ≤ 140737488355340 := by unfold sizeA; have := pad_le (3 + d.length); simp only; omega
      obtain ⟨z, hz⟩ : ∃ z, sizeA ⟨k, d⟩ = z := ⟨_, rfl⟩
      rw [hz] at Hr hsz
      simp only [hz] at ZZ
      clear hr hcl hb ha hb1 hda hz
      by_cases hk0 : k < 0
      · have hd0 : decide (k < 0) = true := decide_eq_true hk0
        go_wp2_with fail
        go_ret
        rw [← Hr.out, if_pos (.inl hk0)]
        exact ⟨_, rfl, .placed _ 2 j (by decide) (by simp) (by simp), Hb1.out.alloc Hb1.out.size _⟩
      · have hd0 : decide (k < 0) = false := decide_eq_false hk0
        by_cases hk1 : 255 < k
        · go_wp2_with fail
          go_ret
          rw [← Hr.out, if_pos (.inr hk1)]
          exact ⟨_, rfl, .placed _ 2 j (by decide) (by simp) (by simp), Hb1.out.alloc Hb1.out.size _⟩
        · go_wp2_with fail
          refine (ZZ _).out.mono ?_
          rintro e w2 ⟨rfl, hb2⟩
          have Hb2 := Lib.hid (below_then Hb1.out hb2)
          clear hb2
          by_cases hm : 1020 < all + z
          · go_wp2_with fail
            go_ret
            rw [← Hr.out, if_neg (by omega), if_pos hm]
            exact ⟨_, rfl, .placed _ 4 j (by decide) (by simp) (by simp), Hb2.out.alloc Hb2.out.size _⟩
          · go_wp2_with fail
            go_roundw
            case rel => exact ⟨j + 1, all + z, by omega, by omega, by go_num, by go_num, by rw [← Hr.out, if_neg (by omega), if_neg hm], Hb2.out⟩
            case measure => simp [intOf]; omega
    · obtain rfl : j = l.length := by omega
      have Hr := Lib.hid hr
      clear hr hb
      go_wp2_with fail
      go_ret
      rw [← Hr.out, List.drop_length]
      exact ⟨_, rfl, .good, Hb.out⟩
end Go.Proofs.YtceinedicbdngaaDoor
