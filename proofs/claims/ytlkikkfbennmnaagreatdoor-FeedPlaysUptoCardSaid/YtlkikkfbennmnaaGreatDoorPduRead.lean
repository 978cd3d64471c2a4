/- pdu.Read. -/
import Derived.Test.YtlkikkfbennmnaaGreatDoorPduRd
import Derived.Test.YtlkikkfbennmnaaGreatDoorPduSeen
namespace Go.Proofs.YtlkikkfbennmnaaGreatDoor
open Go.RowKit
set_option linter.unusedVariables false
def RetPNE (w : World) (r : Pd × Nat × Int) (e : Ending) (w' : World) : Prop := ∃ vv va ev, e = .returned (.tuple #[pduV r.1 vv va, .int .i64 (r.2.1 : Int), ev]) ∧ PduAt w' r.1 vv va ∧ Bare1 ev r.2.2 ∧ Below w.heap.size w w'
set_option maxRecDepth 100000 in
theorem readP_any (s : List UInt8) (m : Int) (w : World) (hm : I64 m) (hl : s.length ≤ 140737488351232) (hc : MaxCell w) (hg : ErrCell w) :
    Calls Tryz.prog 43 #[.string (S s), .int .i64 m] w (RetPNE w (readP s m)) := by
  have Z := fun w => Lib.hid (size_any2 s m w hm hl)
  have hb0 := (Below.refl w.heap.size w).alloc (Nat.le_refl _) (.cells #[.int .i64 0, .bool false, .int .i64 0, .slice none 0 0, .slice none 0 0, .string (S [])] 45)
  have hk0 := Blk.new w #[.int .i64 0, .bool false, .int .i64 0, .slice none 0 0, .slice none 0 0, .string (S [])] 45
  by_cases h1 : (sizeP s m).2 = 0
  · have hk : okM m := by
      by_cases hk : okM m
      · exact hk
      · unfold sizeP at h1; rw [if_pos hk] at h1; exact absurd h1 (by decide)
    have h48 : ¬ s.length < 48 := fun h => by
      unfold sizeP at h1
      rw [if_neg (by simp [hk]), if_pos h] at h1
      exact absurd h1 (by decide)
    have hsz : sizeP s m = (ea s m.toNat, 0) := by unfold sizeP; rw [if_neg (by simp [hk]), if_neg h48]
    have L := ends_le s m.toNat
    have hle := ea_le s m.toNat
    obtain ⟨n, rfl⟩ : ∃ n : Nat, m = n := ⟨m.toNat, by have := hk.1; omega⟩
    have hn3 : n ≤ 3 := by have := hk.2; omega
    rw [Int.toNat_natCast] at hsz L hle
    rw [hsz] at Z
    simp only at Z
    by_cases h2 : s.length < ea s n
    · have e : readP s n = (pd0, 0, 7) := by unfold readP; rw [hsz, if_neg (by simp), if_pos h2]
      rw [e]
      generalize ea s n = z at *
      have h2I : (s.length : Int) < (z : Int) := by omega
      have HB0 := Lib.hid hb0
      have HK0 := Lib.hid hk0
      clear e h2 hn3 hk hsz L h1 h48 hm hl hc hg hb0 hk0
      go_enter Tryz.func43, Tryz.ntmps43
      go_wp2_with fail
      refine (Z _).out.mono ?_
      rintro e w1 ⟨ev, rfl, hE, hb1⟩
      obtain rfl := hE.zero
      have HK1 := Lib.hid (HK0.out.later hb1)
      have Hb1 := Lib.hid (below_then HB0.out hb1)
      clear hE hb1 HK0 HB0 Z
      obtain ⟨p0, p1, p2, p3, p4, p5⟩ := HK1.out.six
      have f0 := HK1.out.frozen 0
      have f1 := HK1.out.frozen 1
      have f2 := HK1.out.frozen 2
      have f3 := HK1.out.frozen 3
      have f4 := HK1.out.frozen 4
      have f5 := HK1.out.frozen 5
      go_wp2_with fail
      have hst := six_stored (.int .i64 0) (.bool false) (.int .i64 0) (.slice none 0 0) (.slice none 0 0) (.string (S [])) HK1.out (Nat.le_refl _) Hb1.out
      refine bodyPost_ret (v := .tuple #[pduV pd0 (.slice none 0 0) (.slice none 0 0), .int .i64 0, .iface 51 (.int .i64 7)]) (by simp [results, Tryz.results43, go_sem, pduV, pd0, hd0, p0, p1, p2, p3, p4, p5]) rfl ⟨_, _, _, rfl, pdu0_at _, .inr ⟨by decide, rfl⟩, hst.2⟩
    · have hlen : (s.take (ea s n)).length = ea s n := by rw [List.length_take]; omega
      have hea : (s.take (ea s n)).length = ea (s.take (ea s n)) n := by
        rw [hlen, (ea_same (readW_take (a := s) (k := ea s n) (by omega)) (readD_take (by omega)) n).1]
      have RB := fun W hc hg => Lib.hid (readB_any (s.take (ea s n)) n W hn3 (by rw [hlen]; omega) hea hc hg)
      have hR : readP s n = if (readB (s.take (ea s n)) n).2 ≠ 0 then (pd0, 0, (readB (s.take (ea s n)) n).2) else ((readB (s.take (ea s n)) n).1, ea s n, 0) := by
        unfold readP; rw [hsz, if_neg (by simp), if_neg h2]; rfl
      have h2I : (ea s n : Int) ≤ (s.length : Int) := by omega
      obtain ⟨R, hRR⟩ : ∃ R, readP s n = R := ⟨_, rfl⟩
      rw [hRR]
      rw [hRR] at hR
      generalize readB (s.take (ea s n)) n = r at *
      generalize ea s n = z at *
      obtain ⟨⟨⟨op, now, fl, vs⟩, al, d⟩, er⟩ := r
      simp only at *
      have HB0 := Lib.hid hb0
      have HK0 := Lib.hid hk0
      have Hc := Lib.hid hc
      have Hg := Lib.hid hg
      have Hlen := Lib.hid hlen
      have HR := Lib.hid hR
      clear hR hRR h2 hn3 hk hsz L h1 h48 hm hl hc hg hb0 hk0 hlen hea
      go_enter Tryz.func43, Tryz.ntmps43
      go_wp2_with fail
      refine (Z _).out.mono ?_
      rintro e w1 ⟨ev, rfl, hE, hb1⟩
      obtain rfl := hE.zero
      have HK1 := Lib.hid (HK0.out.later hb1)
      have Hb1 := Lib.hid (below_then HB0.out hb1)
      have R1 := RB w1 (Hc.out.later Hb1.out) (Hg.out.later Hb1.out)
      clear hE hb1 HK0 HB0 Z RB
      go_wp2_with fail
      refine R1.out.mono ?_
      rintro e w2 ⟨vv, va, ev, rfl, hP, hE, hb2⟩
      obtain ⟨pv, cv, rfl⟩ : ∃ p c, vv = .slice p vs.length c := by obtain ⟨p, c, h, _⟩ := hP.v; exact ⟨p, c, h⟩
      obtain ⟨pa, ca, rfl⟩ := hP.a.form
      have hbn := (Below.refl w2.heap.size w2).alloc (Nat.le_refl _) (.cells #[.int .i64 op, .bool now, .int .i64 fl, .slice pv vs.length cv, .slice pa al.length ca, .string (S d)] 45)
      have HKn := Lib.hid (Blk.new w2 #[.int .i64 op, .bool now, .int .i64 fl, .slice pv vs.length cv, .slice pa al.length ca, .string (S d)] 45)
      have HK2 := Lib.hid (HK1.out.later (below_then hb2 hbn))
      have Hb2 := Lib.hid (below_then Hb1.out (below_then hb2 hbn))
      have HP := Lib.hid (hP.later hbn)
      have HE := Lib.hid hE
      clear hE hb2 hP hbn HK1 Hb1 R1
      obtain ⟨p0, p1, p2, p3, p4, p5⟩ := HK2.out.six
      obtain ⟨q0, q1, q2, q3, q4, q5⟩ := HKn.out.six
      have f0 := HK2.out.frozen 0
      have f1 := HK2.out.frozen 1
      have f2 := HK2.out.frozen 2
      have f3 := HK2.out.frozen 3
      have f4 := HK2.out.frozen 4
      have f5 := HK2.out.frozen 5
      unfold pduV
      simp only
      by_cases h3 : er = 0
      · subst h3
        obtain rfl := HE.out.zero
        have hRR := HR.out
        rw [if_neg (by decide)] at hRR
        subst hRR
        go_wp2_with fail
        have hst := six_stored (.int .i64 op) (.bool now) (.int .i64 fl) (.slice pv vs.length cv) (.slice pa al.length ca) (.string (S d)) HK2.out (Nat.le_refl _) Hb2.out
        refine bodyPost_ret (v := .tuple #[pduV ⟨⟨op, now, fl, vs⟩, al, d⟩ (.slice pv vs.length cv) (.slice pa al.length ca), .int .i64 (z : Int), .nilIface]) (by simp [results, Tryz.results43, go_sem, pduV, p0, p1, p2, p3, p4, p5]) rfl ⟨_, _, _, rfl, ?_, .inl ⟨rfl, rfl⟩, hst.2⟩
        exact HP.out.set6 HK2.out _ _ _ _ _ _
      · obtain rfl := HE.out.iface h3
        have hRR := HR.out
        rw [if_pos h3] at hRR
        subst hRR
        have H3 := Lib.hid h3
        clear h3
        go_wp2_with fail
        have hst := six_stored (.int .i64 0) (.bool false) (.int .i64 0) (.slice none 0 0) (.slice none 0 0) (.string (S [])) HK2.out (Nat.le_refl _) Hb2.out
        refine bodyPost_ret (v := .tuple #[pduV pd0 (.slice none 0 0) (.slice none 0 0), .int .i64 0, .iface 51 (.int .i64 er)]) (by simp [results, Tryz.results43, go_sem, pduV, pd0, hd0, p0, p1, p2, p3, p4, p5]) rfl ⟨_, _, _, rfl, pdu0_at _, HE.out, hst.2⟩
  · have e : readP s m = (pd0, 0, (sizeP s m).2) := by unfold readP; rw [if_pos h1]
    rw [e]
    generalize sizeP s m = r at *
    obtain ⟨z, er⟩ := r
    simp only at *
    have HB0 := Lib.hid hb0
    have HK0 := Lib.hid hk0
    have H3 := Lib.hid h1
    clear e h1 hm hl hc hg hb0 hk0
    go_enter Tryz.func43, Tryz.ntmps43
    go_wp2_with fail
    refine (Z _).out.mono ?_
    rintro e w1 ⟨ev, rfl, hE, hb1⟩
    obtain rfl := hE.iface H3.out
    have HK1 := Lib.hid (HK0.out.later hb1)
    have Hb1 := Lib.hid (below_then HB0.out hb1)
    clear hb1 HK0 HB0 Z
    obtain ⟨p0, p1, p2, p3, p4, p5⟩ := HK1.out.six
    have f0 := HK1.out.frozen 0
    have f1 := HK1.out.frozen 1
    have f2 := HK1.out.frozen 2
    have f3 := HK1.out.frozen 3
    have f4 := HK1.out.frozen 4
    have f5 := HK1.out.frozen 5
    go_wp2_with fail
    have hst := six_stored (.int .i64 0) (.bool false) (.int .i64 0) (.slice none 0 0) (.slice none 0 0) (.string (S [])) HK1.out (Nat.le_refl _) Hb1.out
    refine bodyPost_ret (v := .tuple #[pduV pd0 (.slice none 0 0) (.slice none 0 0), .int .i64 0, .iface 51 (.int .i64 er)]) (by simp [results, Tryz.results43, go_sem, pduV, pd0, hd0, p0, p1, p2, p3, p4, p5]) rfl ⟨_, _, _, rfl, pdu0_at _, hE, hst.2⟩
end Go.Proofs.YtlkikkfbennmnaaGreatDoor
