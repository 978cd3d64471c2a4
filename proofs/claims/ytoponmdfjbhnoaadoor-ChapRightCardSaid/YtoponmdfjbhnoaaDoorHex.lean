/- binary.Hex. -/
import Derived.Test.YtoponmdfjbhnoaaDoorRows
import Derived.Test.YtoponmdfjbhnoaaDoorBinPlain
import Derived.Test.YtoponmdfjbhnoaaDoorBuf
import Derived.BigRegion
namespace Go.Proofs.YtoponmdfjbhnoaaDoor
open Go.RowKit
theorem info8 : (Tryd.prog.info? 5).map (fun i => (i.zero, i.size, i.bytes)) = some (some (.int .u8 0), 1, 1) := by kernel_rfl
set_option maxRecDepth 100000 in
theorem hex_any (l : List UInt8) (w : World) (hl : l.length ≤ 34359738368) :
    Calls Tryd.prog 12 #[.string (S l)] w fun e w' => e = .returned (.string (S (hexL l))) ∧ Below w.heap.size w w' := by
  obtain ⟨i0, hi, hz0, hz1, hz2⟩ := info_parts info8
  have hmk := fun w => run_make_buf (P := Tryd.prog) w 46 5 i0 Tryd.underlying46 hi hz0 hz1 hz2 .i64 .i64 (2 + 2 * l.length) (by omega)
  simp only [Int.natCast_add, Int.natCast_mul, Int.cast_ofNat_Int] at hmk
  go_enter Tryd.func12, Tryd.ntmps12
  go_wp2_with (at_builtin; refine wpList_append_buf rfl _ _ _ _ rfl 5 i0 Tryd.underlying46 hi hz0 hz1 hz2 w.heap.size _ [] rfl (buf_made w _ _ (by omega) _ (Nat.le_refl _)) (by simp) _ [48, 120] rfl (src_string Tryd.underlying9 [48, 120] _) (by simp) ?_; intro v1 w1 hb1 hlo1 hsz1 _)
  have hlo : Below w.heap.size w w1 := ((Below.refl _ _).alloc (Nat.le_refl _) _).trans hlo1
  clear hlo1 hsz1 hmk
  go_loopg [3, 14] (l.length + 1) (fun g v c wr => ∃ k : Nat, k ≤ l.length ∧ g + k = l.length + 1 ∧ c = .int .i64 k ∧ Buf 5 w.heap.size wr v (hexL (l.take k)) ∧ Below w.heap.size w wr)
  case atStart => exact ⟨0, by omega, by omega, rfl, hb1, hlo⟩
  case round =>
    obtain ⟨k, hk, hg, rfl, hb, hlo⟩ := hrel
    have Hg := Lib.hid hg
    clear hg hb1
    by_cases hlt : k < l.length
    · have hb16 : (l[k].toNat : Int) / 16 < 16 := by have := l[k].toNat_lt; omega
      have hm16 : (l[k].toNat : Int) % 16 < 16 := by omega
      have h016 : 0 ≤ (l[k].toNat : Int) / 16 := by omega
      have h0m16 : 0 ≤ (l[k].toNat : Int) % 16 := by omega
      have hand := and15 l[k].toNat l[k].toNat_lt
      have hd1 := hexDigits_at ((l[k].toNat : Int) / 16) (l[k].toNat / 16) (by omega)
      have hd2 := hexDigits_at ((l[k].toNat : Int) % 16) (l[k].toNat % 16) (by omega)
      have hki : (k : Int) < (l.length : Int) := by omega
      go_wp2_with fail
      have hln : (hexL (l.take k)).length ≤ 2 + 2 * l.length := by rw [hexL_len, List.length_take]; omega
      have hsz := hlo.size
      go_region_law (refine step_append_buf rfl (.tmp 17) (.tmp 28) 46 46 rfl 5 i0 Tryd.underlying46 hi hz0 hz1 hz2 w.heap.size u3 (hexL (l.take k)) (by simp [Act.eval]) (hb.drew.alloc _) (by simp; omega) _ [digC (l[k].toNat / 16), digC (l[k].toNat % 16)] (by simp [Act.eval]) (src_lit Tryd.underlying46 wr.drew [digC (l[k].toNat / 16), digC (l[k].toNat % 16)] 5 (0, 0) 2 2 rfl) (by simp; omega) ?_; intro v2 w2 hb2 hlo2 hsz2 _)
      all_goals
        have hst : hexL (l.take k) ++ [digC (l[k].toNat / 16), digC (l[k].toNat % 16)] = hexL (l.take (k + 1)) := by
          rw [List.take_succ_eq_append_getElem hlt]; unfold hexL; rw [hexOf_snoc]; rfl
        rw [hst] at hb2
        have hlo3 : Below w.heap.size w w2 := ((hlo.alloc hsz _).drew).trans hlo2
        clear hlo2 hsz2 hst hb hlo hand hd1 hd2 h016 h0m16 hb16 hm16
        go_wp2_with fail
        go_roundg (gk - 1)
        case measure => have := Hg.out; omega
        case rel => exact ⟨k + 1, by omega, by have := Hg.out; omega, by go_num, hb2, hlo3⟩
    · have hkl : k = l.length := by omega
      subst hkl
      rw [List.take_length] at hb
      have hcv := run_string_buf (P := Tryd.prog) 46 9 5 Tryd.underlying46 Tryd.underlying5 Tryd.underlying9 hb
      go_wp2_with fail
      go_ret
      exact ⟨rfl, hlo⟩
end Go.Proofs.YtoponmdfjbhnoaaDoor
