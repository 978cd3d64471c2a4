/- md5.lowestFirst, stirAll, ending, Sum. -/
import Derived.Test.YtoponmdfjbhnoaaGreatDoorMd5Stir
namespace Go.Proofs.YtoponmdfjbhnoaaGreatDoor
open Go.RowKit
theorem byte_mod (x : Int) (m : Nat) (hx : x = (m : Int)) : ∃ y : UInt8, UInt8.ofNat (m % 256) = y ∧ x % 256 = (y.toNat : Int) := by
  refine ⟨_, rfl, ?_⟩
  rw [u8_mod, hx, Int.natCast_emod]; rfl
theorem info8l : (Tryz.prog.info? 5).map (fun i => (i.zero, i.size, i.bytes)) = some (some (.int .u8 0), 1, 1) := by kernel_rfl
theorem le4_len (n : Nat) : (le4 n).length = 4 := rfl
theorem flat_len (l : List Nat) : (l.flatMap le4).length = 4 * l.length := by
  induction l with
  | nil => rfl
  | cons a l ih => rw [List.flatMap_cons, List.length_append, ih, le4_len, List.length_cons]; omega
set_option maxRecDepth 100000 in
theorem lowestFirst_any (l : List Nat) (b cap : Nat) (w : World) (hl : l.length ≤ 100) (hc : ∀ j (hj : j < l.length), w.cell? ⟨b, j, none⟩ = some (.int .u32 (l[j] : Int))) :
    Calls Tryz.prog 23 #[.slice (some ⟨b, 0, none⟩) l.length cap] w fun e w' => e = .returned (.string (S (l.flatMap le4))) ∧ Below w.heap.size w w' := by
  obtain ⟨i0, hi, hz0, hz1, hz2⟩ := info_parts info8l
  have hmk := fun w => run_make_buf (P := Tryz.prog) w 44 5 i0 Tryz.underlying44 hi hz0 hz1 hz2 .i64 .i64 (4 * l.length) (by omega)
  simp only [Int.natCast_mul, Int.cast_ofNat_Int] at hmk
  have Hc := Lib.hid hc
  clear hc
  go_enter Tryz.func23, Tryz.ntmps23
  go_wp2_with fail
  have hb0 := buf_made w 5 (4 * l.length) (by omega) w.heap.size (Nat.le_refl _)
  have hl0 : Below w.heap.size w (w.alloc (.cells (madeCells #[.int .u8 0] (4 * l.length)) 5)) := (Below.refl _ _).alloc (Nat.le_refl _) _
  clear hmk
  go_loopg [3, 12] (l.length + 1) (fun g v c wr => ∃ k : Nat, k ≤ l.length ∧ g + k = l.length + 1 ∧ c = .int .i64 k ∧ Buf 5 w.heap.size wr v ((l.take k).flatMap le4) ∧ Below w.heap.size w wr)
  case atStart => exact ⟨0, by omega, by omega, rfl, hb0, hl0⟩
  case round =>
    obtain ⟨k, hk, hg, rfl, hb, hlo⟩ := hrel
    have Hg := Lib.hid hg
    clear hg hb0 hl0
    by_cases hlt : k < l.length
    · have hki : (k : Int) < (l.length : Int) := by omega
      have hcell := Hc.out k hlt
      have hcl := (bcell hlo).1 b k (block_lt_of_cell (w := w) (a := ⟨b, k, none⟩) hcell)
      rw [hcell] at hcl
      have hst : (l.take k).flatMap le4 ++ le4 l[k] = (l.take (k + 1)).flatMap le4 := by
        rw [List.take_succ_eq_append_getElem hlt, List.flatMap_append, List.flatMap_cons, List.flatMap_nil, List.append_nil]
      obtain ⟨x, hx⟩ : ∃ x, l[k] = x := ⟨_, rfl⟩
      rw [hx] at hcl hst
      obtain ⟨y0, e0, h0⟩ := byte_mod (x : Int) x rfl
      obtain ⟨y1, e1, h1⟩ := byte_mod ((x : Int) / 256) (x / 256) (by omega)
      obtain ⟨y2, e2, h2⟩ := byte_mod ((x : Int) / 65536) (x / 65536) (by omega)
      obtain ⟨y3, e3, h3⟩ := byte_mod ((x : Int) / 16777216) (x / 16777216) (by omega)
      have hle : le4 x = [y0, y1, y2, y3] := by unfold le4; rw [e0, e1, e2, e3]
      rw [hle] at hst
      have Hst := Lib.hid hst
      have hln : ((l.take k).flatMap le4).length ≤ 400 := by rw [flat_len, List.length_take]; omega
      have hsz := hlo.size
      clear hst hle e0 e1 e2 e3 hx hcell
      go_wp2_with (at_builtin; refine wpList_append_buf rfl _ _ _ _ rfl 5 i0 Tryz.underlying44 hi hz0 hz1 hz2 w.heap.size _ ((l.take k).flatMap le4) rfl (hb.alloc _) (by simp; omega) _ [y0, y1, y2, y3] rfl (src_lit Tryz.underlying44 wr [y0, y1, y2, y3] 5 (0, 0) 4 4 rfl) (by simp only [List.length_cons, List.length_nil]; omega) ?_; intro v3 w3 hb3 hlo3 hsz3 _)
      rw [Hst.out] at hb3
      have hlo4 : Below w.heap.size w w3 := (hlo.alloc (by omega) _).trans hlo3
      go_roundg (gk - 1)
      case measure => have := Hg.out; omega
      case rel => exact ⟨k + 1, by omega, by have := Hg.out; omega, by go_num, hb3, hlo4⟩
    · have hkl : k = l.length := by omega
      subst hkl
      rw [List.take_length] at hb
      have hcv := run_string_buf (P := Tryz.prog) 44 9 5 Tryz.underlying44 Tryz.underlying5 Tryz.underlying9 hb
      go_wp2_with fail
      go_ret
      exact ⟨rfl, hlo⟩
end Go.Proofs.YtoponmdfjbhnoaaGreatDoor
