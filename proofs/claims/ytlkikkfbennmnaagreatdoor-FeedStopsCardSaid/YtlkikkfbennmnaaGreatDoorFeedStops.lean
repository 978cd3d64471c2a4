/- FeedStops: behind an error no bytes are taken, and no PDU comes. -/
import Derived.Test.YtlkikkfbennmnaaGreatDoorFed
import Derived.Test.YtlkikkfbennmnaaGreatDoorPduSame
import Derived.Test.YtlkikkfbennmnaaGreatDoorPduFit
namespace Go.Proofs.YtlkikkfbennmnaaGreatDoor
open Go.RowKit
set_option linter.unusedVariables false
set_option maxRecDepth 100000 in
set_option maxHeartbeats 1000000 in
theorem feedStops_any (s more : List UInt8) (a : Int) (w : World) (hl : s.length ≤ 140737488351232) (hl2 : more.length ≤ 140737488351232) (_ha : (Lit.int .i64 a).wf = true) (hg : ErrCell w) (hm : MaxCell w) :
    Calls Tryz.prog 5 #[.string (S s), .string (S more), .int .i64 a] w fun e w' => e = .returned (.bool true) ∧ Below w.heap.size w w' := by
  have M := Lib.hid (fed_any w hm hg)
  have K : ∀ W, Hid (Calls Tryz.prog 11 #[.int .i64 a, .int .i64 2000] W fun e w' => e = .returned (.int .i64 (pickI a 2000 : Nat)) ∧ W = w') := fun W => Lib.hid (pick_any a 2000 W (by decide) (by decide))
  have hlt := pickI_lt a 2000 (by decide)
  generalize pickI a 2000 = lim at K hlt
  have N := fun W => Lib.hid (new_ok lim W (by omega))
  have Hlt := Lib.hid hlt
  have Hg := Lib.hid hg
  have Hm := Lib.hid hm
  by_cases h3 : 3000 < s.length + more.length
  · have i1 : (3000 : Int) < (s.length : Int) + (more.length : Int) := by omega
    have i2 : (s.length : Int) + (more.length : Int) ≤ 9223372036854775807 := by omega
    clear K N hg hm hlt h3 hl hl2
    go_enter Tryz.func5, Tryz.ntmps5
    go_wp2_with fail
    refine M.out.mono ?_
    rintro e w1 ⟨rfl, hb1⟩
    go_wp2_with fail
    go_ret
    exact ⟨rfl, hb1⟩
  · have i1 : (s.length : Int) + (more.length : Int) ≤ 3000 := by omega
    have H3 := Lib.hid h3
    obtain ⟨R, hR⟩ : ∃ R, allF ⟨lim, 0, s, false⟩ = R := ⟨_, rfl⟩
    have hD := all_done (s.length + 1) ⟨lim, 0, s, false⟩ (by simp) ⟨by simp only; omega, Nat.zero_le 3⟩
    rw [hR] at hD
    obtain ⟨l, er, F'⟩ := R
    simp only at hD
    obtain ⟨hok, _, _, hkl, hD0, hD1⟩ := hD
    have HR := Lib.hid hR
    have HD0 := Lib.hid hD0
    have HD1 := Lib.hid hD1
    have Hkl := Lib.hid hkl
    clear hg hm hlt h3 hl hl2 hR hD0 hD1 hkl hok
    go_enter Tryz.func5, Tryz.ntmps5
    go_wp2_with fail
    refine M.out.mono ?_
    rintro e w1 ⟨rfl, hb1⟩
    have Hb1 := Lib.hid hb1
    clear hb1 M
    go_wp2_with fail
    refine (K _).out.mono ?_
    rintro e w2 ⟨rfl, rfl⟩
    go_wp2_with fail
    refine (N _).out.mono ?_
    rintro e w2 ⟨fb, H, rfl, hF, hb2⟩
    have HH := Lib.hid (fun k hk => Nat.le_trans Hb1.out.size (hF.base k hk).1)
    have hb02 := below_then Hb1.out hb2
    have Gl2 := Lib.hid (GL.mk' Hm.out Hg.out hb02 HH.out)
    have P2 := Lib.hid (put_good s s rfl (by have := H3.out; omega) hF)
    have Hb2 := Lib.hid hb02
    clear hb2 hb02 Hb1 K N hF
    go_wp2_with fail
    refine P2.out.mono ?_
    rintro e w3 ⟨ev, H3, rfl, hE, hF3, hK3⟩
    obtain rfl := hE.zero
    have A3 := fall_any (by have := ‹Hid (¬ 3000 < s.length + more.length)›.out; simp only; omega) (Gl2.out.keeps hK3) hF3
    rw [HR.out] at A3
    have A3 := Lib.hid A3
    have HK3 := Lib.hid hK3
    have Gl3 := Lib.hid (Gl2.out.keeps hK3)
    clear hE hF3 hK3 P2 Gl2
    go_wp2_with fail
    refine A3.out.mono ?_
    rintro e w4 ⟨v, ev, H4, rfl, hV, hE, hF4, hK4⟩
    have HF4 := Lib.hid hF4
    have HK4 := Lib.hid (HK3.out.then hK4)
    have Gl4 := Lib.hid (Gl3.out.keeps hK4)
    have hsz4 := (HK3.out.then hK4).size
    have HE := Lib.hid hE
    clear hE hF4 hK4 A3 Gl3 HK3 hV
    simp only at HF4 HE
    by_cases h0 : er = 0
    · subst h0
      obtain rfl := HE.out.zero
      have P4 := put_any more (by have := Hkl.out; have := ‹Hid (¬ 3000 < s.length + more.length)›.out; omega) HF4.out
      unfold putF at P4
      rw [if_neg (by rw [(HD0.out rfl).1]; decide)] at P4
      have P4 := Lib.hid P4
      go_wp2_with fail
      refine P4.out.mono ?_
      rintro e w5 ⟨ev, H5, rfl, hE, hF5, hK5⟩
      obtain rfl := hE.zero
      go_wp2_with fail
      go_ret
      exact ⟨rfl, Keeps.from Hb2.out (HK4.out.then hK5) HH.out⟩
    · obtain rfl := HE.out.iface h0
      obtain ⟨hk0, hbad⟩ := HD1.out h0
      have hn := next_short (F := F') (by rw [hk0]; decide)
      have hall := all_end (F := F') (by rw [hn])
      rw [hn] at hall
      have X4 := fnext_any (by rw [hk0]; decide) Gl4.out.c.off Gl4.out.g.off HF4.out
      rw [hn] at X4
      have X4 := Lib.hid X4
      have Hk0 := Lib.hid hk0
      have Hbad := Lib.hid hbad
      have Hall := Lib.hid hall
      clear h0 hn hall hbad hk0 HD0 HD1
      go_wp2_with fail
      refine X4.out.mono ?_
      rintro e w5 ⟨vv, va, ev, H5, rfl, hP5, hE, hF5, hK5⟩
      obtain rfl := hE.zero
      obtain ⟨pv, cv, rfl⟩ := hP5.v.form
      obtain ⟨pa, ca, rfl⟩ := hP5.a.form
      have hb5 := (Below.refl w5.heap.size w5).alloc (Nat.le_refl _) (.cells #[.int .i64 0, .bool false, .int .i64 0, .slice pv 0 cv, .slice pa 0 ca, .string (S []), .string (S [])] 47)
      have hk5 := Blk.new w5 #[.int .i64 0, .bool false, .int .i64 0, .slice pv 0 cv, .slice pa 0 ca, .string (S []), .string (S [])] 47
      have hn5 : ¬ H5 w5.heap.size := fun hh => by have := (hF5.base _ hh).2; omega
      have A5 := fall_any (by rw [Hk0.out]; decide) ((Gl4.out.keeps hK5).later hb5) (hF5.later hb5)
      simp only at A5
      rw [Hall.out] at A5
      have A5 := Lib.hid A5
      have HP5 := Lib.hid (show PduAt _ pd0 (.slice pv 0 cv) (.slice pa 0 ca) from hP5.later (by rw [off_size]; exact off_below hb5))
      have HK5 := Lib.hid ((HK4.out.then hK5).trans (Keeps.of hb5 H5) (Nat.le_trans hsz4 hK5.size))
      have Gl5 := Lib.hid ((Gl4.out.keeps hK5).later hb5)
      have HB5 := Lib.hid hk5
      have Hn5 := Lib.hid hn5
      have Hlt5 := Lib.hid (show w5.heap.size < (w5.alloc (.cells #[.int .i64 0, .bool false, .int .i64 0, .slice pv 0 cv, .slice pa 0 ca, .string (S []), .string (S [])] 47)).heap.size by simp)
      have hsz5 := HK5.out.size
      clear hE hF5 hK5 hP5 hb5 hk5 hn5 X4 HK4 Gl4 hsz4 HF4
      unfold pcV pc0 pd0 hd0
      simp only [List.length_nil]
      go_wp2_with fail
      refine A5.out.mono ?_
      rintro e w6 ⟨v6, ev, H6, rfl, hV, hE, hF6, hK6⟩
      obtain rfl := hE.zero
      obtain ⟨pl, cl, rfl⟩ := hV.form
      obtain ⟨hB6, hN6⟩ := hK6.blk HB5.out Hlt5.out Hn5.out
      have P6 := Lib.hid (put_bad more Hbad.out hF6 (by rw [Hk0.out]; have := ‹Hid (¬ 3000 < s.length + more.length)›.out; simp; omega))
      have HK6 := Lib.hid (HK5.out.then hK6)
      have Gl6 := Lib.hid (Gl5.out.keeps hK6)
      have HP6 := Lib.hid (HP5.out.later hK6.off')
      have HB6 := Lib.hid hB6
      have HN6 := Lib.hid hN6
      have Hlt6 := Lib.hid (Nat.lt_of_lt_of_le Hlt5.out hK6.size)
      clear hE hF6 hK6 hV hB6 hN6 A5 HK5 Gl5 HP5 HB5 Hn5 Hlt5 hsz5
      simp only [List.length_nil]
      go_wp2_with fail
      refine P6.out.mono ?_
      rintro e w7 ⟨ev, H7, rfl, hE, hF7, hK7⟩
      obtain rfl := Bare1.iface (n := 6) hE (by decide)
      obtain ⟨hB7, hN7⟩ := hK7.blk HB6.out Hlt6.out HN6.out
      have gl7 := Gl6.out.keeps hK7
      have T7 := Lib.hid (tell_is (ErrIs.bare (W := w7) 6 (by decide)) gl7.g.off)
      have HF7 := Lib.hid hF7
      have HK7 := Lib.hid (HK6.out.then hK7)
      have Gl7 := Lib.hid gl7
      have HP7 := Lib.hid (HP6.out.later hK7.off')
      have HB7 := Lib.hid hB7
      clear hE hF7 hK7 hB7 gl7 P6 HK6 Gl6 HP6 HB6 HN6 Hlt6 hN7
      simp only at HF7 ⊢
      go_wp2_with fail
      refine T7.out.mono ?_
      rintro e w8 ⟨rfl, hb8⟩
      have HF8 := Lib.hid (HF7.out.later hb8)
      have Q8 := kept_any HF8.out
      rw [Hk0.out] at Q8
      have Q8 := Lib.hid Q8
      have HK8 := Lib.hid (HK7.out.then (Keeps.of hb8 H7))
      have HB8 := Lib.hid (HB7.out.later hb8)
      have HP8 := Lib.hid ((HP7.out.later (by rw [off_size]; exact off_below hb8)).off)
      have Gl8 := Lib.hid (Gl7.out.later hb8)
      obtain ⟨q0, q1, q2, q3, q4, q5, q6⟩ := HB8.out.seven
      have S8 := Lib.hid (same_same pd0 _ _ _ _ _ HP8.out (pdu0_at _) (by decide) (by decide))
      unfold pduV pd0 hd0 at S8
      simp only at S8
      clear hb8 T7 HF7 HK7 HB7 HP7 Gl7
      go_wp2_with fail
      refine Q8.out.mono ?_
      rintro e w9 ⟨rfl, rfl⟩
      go_wp2_with fail
      refine S8.out.mono ?_
      rintro e w9 ⟨rfl, hb9⟩
      have O9 := Lib.hid (mode_bad 0 (by decide) Hbad.out (HF8.out.later hb9))
      have HK9 := Lib.hid (HK8.out.then (Keeps.of hb9 H7))
      have Gl9 := Lib.hid (Gl8.out.later hb9)
      clear q0 q1 q2 q3 q4 q5 q6 S8 hb9 HF8 HK8 HB8 HP8 Gl8 Q8
      go_wp2_with fail
      refine O9.out.mono ?_
      rintro e w10 ⟨ev, H10, rfl, hE, hF10, hK10⟩
      obtain rfl := Bare1.iface (n := 6) hE (by decide)
      have gl10 := Gl9.out.keeps hK10
      have T10 := Lib.hid (tell_is (ErrIs.bare (W := w10) 6 (by decide)) gl10.g.off)
      have HK10 := Lib.hid (HK9.out.then hK10)
      clear hE hF10 hK10 gl10 O9
      simp only
      go_wp2_with fail
      refine T10.out.mono ?_
      rintro e w11 ⟨rfl, hb11⟩
      go_wp2_with fail
      go_ret
      exact ⟨rfl, Keeps.from Hb2.out (HK10.out.then (Keeps.of hb11 H10)) HH.out⟩
end Go.Proofs.YtlkikkfbennmnaaGreatDoor
