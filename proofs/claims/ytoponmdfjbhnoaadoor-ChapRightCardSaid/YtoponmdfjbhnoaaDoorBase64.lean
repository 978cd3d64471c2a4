/- binary.Base64. -/
import Derived.Test.YtoponmdfjbhnoaaDoorB64
namespace Go.Proofs.YtoponmdfjbhnoaaDoor
open Go.RowKit
theorem info8b : (Tryd.prog.info? 5).map (fun i => (i.zero, i.size, i.bytes)) = some (some (.int .u8 0), 1, 1) := by kernel_rfl
set_option maxRecDepth 100000 in
theorem base64_any (l : List UInt8) (w : World) (hl : l.length ≤ 4294967280) :
    Calls Tryd.prog 13 #[.string (S l)] w fun e w' => e = .returned (.string (S (b64L l))) ∧ Below w.heap.size w w' := by
  obtain ⟨i0, hi, hz0, hz1, hz2⟩ := info_parts info8b
  have hmk := fun w => run_make_buf (P := Tryd.prog) w 46 5 i0 Tryd.underlying46 hi hz0 hz1 hz2 .i64 .i64 (2 + 4 * ((l.length + 2) / 3)) (by omega)
  simp only [Int.natCast_add, Int.natCast_mul, Int.cast_ofNat_Int, Int.natCast_ediv] at hmk
  go_enter Tryd.func13, Tryd.ntmps13
  go_wp2_with (at_builtin; refine wpList_append_buf rfl _ _ _ _ rfl 5 i0 Tryd.underlying46 hi hz0 hz1 hz2 w.heap.size _ [] rfl (buf_made w _ _ (by omega) _ (Nat.le_refl _)) (by simp) _ [48, 98] rfl (src_string Tryd.underlying9 [48, 98] _) (by simp) ?_; intro v1 w1 hb1 hlo1 hsz1 _)
  have hlo : Below w.heap.size w w1 := ((Below.refl _ _).alloc (Nat.le_refl _) _).trans hlo1
  clear hlo1 hsz1 hmk
  go_loopg [4, 18] ((l.length + 2) / 3 + 1) (fun g v c wr => ∃ k : Nat, k ≤ (l.length + 2) / 3 ∧ g + k = (l.length + 2) / 3 + 1 ∧ c = .int .i64 k ∧ Buf 5 w.heap.size wr v (b64L (l.take (3 * k))) ∧ Below w.heap.size w wr)
  case atStart => exact ⟨0, by omega, by omega, rfl, hb1, hlo⟩
  case round =>
    obtain ⟨k, hk, hg, rfl, hb, hlo⟩ := hrel
    have Hg := Lib.hid hg
    clear hg hb1
    by_cases hlt : k < (l.length + 2) / 3
    · have hki : (k : Int) < ((l.length : Int) + 2) / 3 := by omega
      have h3k : 3 * k < l.length := by omega
      have hst := Lib.hid (take_three l k h3k)
      have hclen : ((l.drop (3 * k)).take 3).length = min 3 (l.length - 3 * k) := by simp
      have hc0 : 0 < ((l.drop (3 * k)).take 3).length := by omega
      have hc3 : ((l.drop (3 * k)).take 3).length ≤ 3 := by omega
      obtain ⟨x0, x1, x2, x3, hx⟩ := four_form _ hc0 hc3
      have hcall := fun W : World => lettersOf_any _ W hc0 hc3
      rw [hx] at hcall
      rw [hx] at hst
      have Hcall := Lib.hid hcall
      have hln : (b64L (l.take (3 * k))).length ≤ 2 + (l.length + 2) / 3 * 4 := by
        unfold b64L
        rw [List.length_cons, List.length_cons, lettersOf_len, List.length_take]; omega
      have hsz := hlo.size
      clear hclen hc0 hc3 hx hcall
      have ht : (3 * (k : Int) + 3).toNat = 3 * k + 3 := by omega
      by_cases h3 : 3 * k + 3 ≤ l.length
      · go_wp2_with fail
        refine (Hcall.out _).mono ?_
        rintro e w2 ⟨rfl, hb2⟩
        rw [show cells8 [x0, x1, x2, x3] = #[.int .u8 (x0.toNat : Int), .int .u8 (x1.toNat : Int), .int .u8 (x2.toNat : Int), .int .u8 (x3.toNat : Int)] from rfl]
        have hsz2 := hb2.size
        go_wp2_with (at_builtin; refine wpList_append_buf rfl _ _ _ _ rfl 5 i0 Tryd.underlying46 hi hz0 hz1 hz2 w.heap.size _ (b64L (l.take (3 * k))) rfl ((hb.later hb2).alloc _) (by simp; omega) _ [x0, x1, x2, x3] rfl (src_lit Tryd.underlying46 w2 [x0, x1, x2, x3] 48 (0, 0) 4 4 rfl) (by simp; omega) ?_; intro v3 w3 hb3 hlo3 hsz3 _)
        rw [hst.out] at hb3
        have hlo4 : Below w.heap.size w w3 := ((hlo.trans (hb2.mono hsz)).alloc (by omega) _).trans hlo3
        go_roundg (gk - 1)
        case measure => have := Hg.out; omega
        case rel => exact ⟨k + 1, by omega, by have := Hg.out; omega, by go_num, hb3, hlo4⟩
      · have hsh := chunk_short l k (by omega)
        go_wp2_with fail
        refine (Hcall.out _).mono ?_
        rintro e w2 ⟨rfl, hb2⟩
        rw [show cells8 [x0, x1, x2, x3] = #[.int .u8 (x0.toNat : Int), .int .u8 (x1.toNat : Int), .int .u8 (x2.toNat : Int), .int .u8 (x3.toNat : Int)] from rfl]
        have hsz2 := hb2.size
        go_wp2_with (at_builtin; refine wpList_append_buf rfl _ _ _ _ rfl 5 i0 Tryd.underlying46 hi hz0 hz1 hz2 w.heap.size _ (b64L (l.take (3 * k))) rfl ((hb.later hb2).alloc _) (by simp; omega) _ [x0, x1, x2, x3] rfl (src_lit Tryd.underlying46 w2 [x0, x1, x2, x3] 48 (0, 0) 4 4 rfl) (by simp; omega) ?_; intro v3 w3 hb3 hlo3 hsz3 _)
        rw [hst.out] at hb3
        have hlo4 : Below w.heap.size w w3 := ((hlo.trans (hb2.mono hsz)).alloc (by omega) _).trans hlo3
        go_roundg (gk - 1)
        case measure => have := Hg.out; omega
        case rel => exact ⟨k + 1, by omega, by have := Hg.out; omega, by go_num, hb3, hlo4⟩
    · have hkl : k = (l.length + 2) / 3 := by omega
      rw [List.take_of_length_le (by omega)] at hb
      have hki : ¬ (k : Int) < ((l.length : Int) + 2) / 3 := by omega
      have hcv := run_string_buf (P := Tryd.prog) 46 9 5 Tryd.underlying46 Tryd.underlying5 Tryd.underlying9 hb
      clear hkl
      go_wp2_with fail
      go_ret
      exact ⟨rfl, hlo⟩
end Go.Proofs.YtoponmdfjbhnoaaDoor
