/- A text's bytes, one by one; ref.Hex. -/
import Derived.Test.YtoheabcohfjknaaGreatDoorFmt
import Derived.Test.YtoheabcohfjknaaGreatDoorBase2
namespace Go.Proofs.YtoheabcohfjknaaGreatDoor
open Go.RowKit
theorem bytes_new (w : World) (l : List UInt8) (hl : l.length ≤ 4294967296) :
    ∃ cap W, l.length ≤ cap ∧ cap ≤ 9223372036854775807 ∧ (convert 9 38 (.string (S l))).run Tryz.prog w = .ok (.slice (some ⟨w.heap.size, 0, none⟩) l.length cap) W ∧
      (∀ j (hj : j < l.length), W.cell? ⟨w.heap.size, j, none⟩ = some (.int .u8 (l[j].toNat : Int))) ∧ Below w.heap.size w W := by
  obtain ⟨cap, hc1, hc2, hrun⟩ := run_bytes_S (P := Tryz.prog) 9 38 5 Tryz.underlying9 Tryz.underlying38 Tryz.underlying5 w l
  have hB := bytesAt_drew (bytesAt_new w (l ++ List.replicate (cap - l.length) 0) 5 (cap, cap + 1))
  refine ⟨cap, _, hc1, hc2 (by unfold maxLen; omega), hrun, fun j hj => ?_, ((Below.refl _ _).alloc (Nat.le_refl _) _).drew⟩
  have := bytesAt_get hB j (by simp; omega)
  rw [List.getElem_append_left hj] at this
  exact this
theorem lowD16 (n : Nat) (h : n < 256) : lowD 16 n 2 = [digC (n / 16), digC (n % 16)] := by
  simp only [lowD, Nat.pow_zero, Nat.pow_one, Nat.div_one]
  rw [Nat.mod_eq_of_lt (show n / 16 < 16 by omega)]
set_option maxRecDepth 100000 in
theorem refHex_any (l : List UInt8) (w : World) (hl : l.length ≤ 1000) (hT : BruijnT w) :
    Calls Tryz.prog 7 #[.string (S l)] w fun e w' => e = .returned (.string (S (hexL l))) ∧ Below w.heap.size w w' := by
  obtain ⟨cap, W, hc1, hc2, hrun, hcell, hbel⟩ := bytes_new w l (by omega)
  have Hcell := Lib.hid hcell
  have Hbel := Lib.hid hbel
  have HT := Lib.hid (hT.later hbel)
  clear hcell hbel hT
  go_enter Tryz.func7, Tryz.ntmps7
  go_wp2_with fail
  clear hrun
  go_loopg [3, 9] (l.length + 1) (fun g v c wr => ∃ k : Nat, k ≤ l.length ∧ g + k = l.length + 1 ∧ c = .int .i64 k ∧ v = .string (S (hexL (l.take k))) ∧ Below W.heap.size W wr)
  case atStart => exact ⟨0, by omega, by omega, rfl, rfl, Below.refl _ _⟩
  case round =>
    obtain ⟨k, hk, hg, rfl, rfl, hb⟩ := hrel
    have Hg := Lib.hid hg
    have Hb := Lib.hid hb
    clear hg hb
    by_cases hlt : k < l.length
    · have hki : (k : Int) < (l.length : Int) := by omega
      have hcell := keepcell Hb.out (Hcell.out k hlt)
      have hx := l[k].toNat_lt
      have hst : hexL (l.take k) ++ lowD 16 l[k].toNat 2 = hexL (l.take (k + 1)) := by
        rw [List.take_succ_eq_append_getElem hlt, lowD16 _ hx]; unfold hexL; rw [hexOf_snoc]; rfl
      have hln : (hexL (l.take k)).length ≤ 2002 := by rw [hexL_len, List.length_take]; omega
      have hl2 := lowD_len 16 l[k].toNat 2
      have C := Lib.hid (fun W' hT => digits16_2 l[k].toNat W' hx hT)
      have Hst := Lib.hid hst
      obtain ⟨p, hp⟩ : ∃ p, hexL (l.take k) = p := ⟨_, rfl⟩
      obtain ⟨x, hxe⟩ : ∃ x, l[k].toNat = x := ⟨_, rfl⟩
      obtain ⟨q, hq⟩ : ∃ q, lowD 16 l[k].toNat 2 = q := ⟨_, rfl⟩
      rw [hp, hq] at Hst
      rw [hp] at hln ⊢
      rw [hq] at hl2 C
      rw [hxe] at hcell hx C
      clear hst hp hq hxe
      go_wp2_with fail
      with_reducible refine (C.out _ (HT.out.later Hb.out)).mono ?_
      rintro e w' ⟨rfl, hb2⟩
      go_wp2_with fail
      go_roundg (gk - 1)
      case measure => have := Hg.out; omega
      case rel => exact ⟨k + 1, by omega, by have := Hg.out; omega, by go_num, by rw [Hst.out], below_then Hb.out hb2⟩
    · have hkl : k = l.length := by omega
      subst hkl
      rw [List.take_length]
      go_wp2_with fail
      go_ret
      exact ⟨rfl, below_then Hbel.out Hb.out⟩
end Go.Proofs.YtoheabcohfjknaaGreatDoor
