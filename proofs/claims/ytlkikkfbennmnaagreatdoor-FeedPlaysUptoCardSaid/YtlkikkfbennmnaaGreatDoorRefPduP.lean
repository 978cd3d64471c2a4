/- The reference's PduRead, of any bytes. -/
import Derived.Test.YtlkikkfbennmnaaGreatDoorRefPduR
namespace Go.Proofs.YtlkikkfbennmnaaGreatDoor
open Go.RowKit
set_option linter.unusedVariables false
set_option maxRecDepth 100000 in
theorem refReadP_any (s : List UInt8) (m : Int) (w : World) (hl : s.length ≤ 4200) :
    Calls Tryz.prog 61 #[.string (S s), .int .i64 m] w (RetRPN w (readP s m)) := by
  by_cases h1 : (sizeP s m).2 = 0
  · have hk : okM m := by
      by_cases hk : okM m
      · exact hk
      · unfold sizeP at h1; rw [if_pos hk] at h1; exact absurd h1 (by decide)
    have h48 : ¬ s.length < 48 := fun h => by
      unfold sizeP at h1
      rw [if_neg (by simp [hk]), if_pos h] at h1
      exact absurd h1 (by decide)
    have hsz : sizeP s m = (ea s m.toNat, 0) := by unfold sizeP; rw [if_neg (by simp [hk]), if_neg h48]
    obtain ⟨n, rfl⟩ : ∃ n : Nat, m = n := ⟨m.toNat, by have := hk.1; omega⟩
    have hn3 : n ≤ 3 := by have := hk.2; omega
    rw [Int.toNat_natCast] at hsz
    by_cases h2 : s.length < ea s n
    · have e : readP s n = (pd0, 0, 7) := by unfold readP; rw [hsz, if_neg (by simp), if_pos h2]
      rw [e]
      have Z := Lib.hid (fun w => refSize_ok s n w hn3 (by omega) (by omega))
      generalize ea s n = z at *
      have h2I : (s.length : Int) < (z : Int) := by omega
      clear e h2 hn3 hk hsz h1 h48 hl
      have HK0 := Lib.hid (Blk.new w #[.int .i64 0, .bool false, .int .i64 0, .slice none 0 0, .slice none 0 0, .string (S [])] 45)
      have Hb0 := Lib.hid ((Below.refl w.heap.size w).alloc (Nat.le_refl _) (.cells #[.int .i64 0, .bool false, .int .i64 0, .slice none 0 0, .slice none 0 0, .string (S [])] 45))
      go_enter Tryz.func61, Tryz.ntmps61
      go_wp2_with fail
      refine (Z.out _).mono ?_
      rintro e w1 ⟨rfl, hb1⟩
      have HK1 := Lib.hid (HK0.out.later hb1)
      have Hb1 := Lib.hid (below_then Hb0.out hb1)
      clear hb1 HK0 Hb0 Z
      obtain ⟨p0, p1, p2, p3, p4, p5⟩ := HK1.out.six
      have f0 := HK1.out.frozen 0
      have f1 := HK1.out.frozen 1
      have f2 := HK1.out.frozen 2
      have f3 := HK1.out.frozen 3
      have f4 := HK1.out.frozen 4
      have f5 := HK1.out.frozen 5
      go_wp2_with fail
      have hst := six_stored (.int .i64 0) (.bool false) (.int .i64 0) (.slice none 0 0) (.slice none 0 0) (.string (S [])) HK1.out (Nat.le_refl _) Hb1.out
      exact bodyPost_ret (v := .tuple #[pduV pd0 (.slice none 0 0) (.slice none 0 0), .int .i64 0, .int .i64 7]) (by simp [results, Tryz.results61, go_sem, pduV, pd0, hd0, p0, p1, p2, p3, p4, p5]) rfl ⟨_, _, rfl, pdu0_at _, hst.2⟩
    · exact refReadB_any s n w hn3 (by omega) hl (by omega)
  · have e : readP s m = (pd0, 0, (sizeP s m).2) := by unfold readP; rw [if_pos h1]
    rw [e]
    have Z := Lib.hid (fun w => refSize_any s m w (by omega))
    generalize sizeP s m = r at *
    obtain ⟨z, er⟩ := r
    simp only at *
    have H3 := Lib.hid h1
    have zb : (er != 0) = true := by simp [h1]
    clear e h1 hl
    have HK0 := Lib.hid (Blk.new w #[.int .i64 0, .bool false, .int .i64 0, .slice none 0 0, .slice none 0 0, .string (S [])] 45)
    have Hb0 := Lib.hid ((Below.refl w.heap.size w).alloc (Nat.le_refl _) (.cells #[.int .i64 0, .bool false, .int .i64 0, .slice none 0 0, .slice none 0 0, .string (S [])] 45))
    go_enter Tryz.func61, Tryz.ntmps61
    go_wp2_with fail
    refine (Z.out _).mono ?_
    rintro e w1 ⟨rfl, hb1⟩
    have HK1 := Lib.hid (HK0.out.later hb1)
    have Hb1 := Lib.hid (below_then Hb0.out hb1)
    clear hb1 HK0 Hb0 Z
    obtain ⟨p0, p1, p2, p3, p4, p5⟩ := HK1.out.six
    have f0 := HK1.out.frozen 0
    have f1 := HK1.out.frozen 1
    have f2 := HK1.out.frozen 2
    have f3 := HK1.out.frozen 3
    have f4 := HK1.out.frozen 4
    have f5 := HK1.out.frozen 5
    go_wp2_with fail
    have hst := six_stored (.int .i64 0) (.bool false) (.int .i64 0) (.slice none 0 0) (.slice none 0 0) (.string (S [])) HK1.out (Nat.le_refl _) Hb1.out
    exact bodyPost_ret (v := .tuple #[pduV pd0 (.slice none 0 0) (.slice none 0 0), .int .i64 0, .int .i64 er]) (by simp [results, Tryz.results61, go_sem, pduV, pd0, hd0, p0, p1, p2, p3, p4, p5]) rfl ⟨_, _, rfl, pdu0_at _, hst.2⟩
end Go.Proofs.YtlkikkfbennmnaaGreatDoor
