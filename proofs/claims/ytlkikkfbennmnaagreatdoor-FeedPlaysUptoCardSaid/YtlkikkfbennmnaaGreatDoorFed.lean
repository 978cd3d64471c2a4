/- The laws' fact fed. -/
import Derived.Test.YtlkikkfbennmnaaGreatDoorFeedAll
import Derived.Test.YtlkikkfbennmnaaGreatDoorFeedMath2
import Derived.Test.YtlkikkfbennmnaaGreatDoorWrapped
namespace Go.Proofs.YtlkikkfbennmnaaGreatDoor
open Go.RowKit
set_option linter.unusedVariables false
theorem put_good {w : World} {B : Nat} {H : Nat → Prop} {fb lim m : Nat} {l : List UInt8} (s l' : List UInt8) (hl' : l ++ s = l') (hl : l'.length ≤ 140737488355328) (hF : FeedAt w B H fb ⟨lim, m, l, false⟩) :
    Calls Tryz.prog 15 #[.pointer (some ⟨fb, 0, none⟩), .string (S s)] w (RetF w B H fb (0, ⟨lim, m, l', false⟩)) := by
  subst hl'
  rw [List.length_append] at hl
  exact put_any s hl hF
theorem put_bad {w : World} {B : Nat} {H : Nat → Prop} {fb : Nat} {F : Fe} (s : List UInt8) (hb : F.bad = true) (hF : FeedAt w B H fb F) (hl : F.kept.length + s.length ≤ 140737488355328) :
    Calls Tryz.prog 15 #[.pointer (some ⟨fb, 0, none⟩), .string (S s)] w (RetF w B H fb (6, F)) := by
  have h := put_any s hl hF
  unfold putF at h
  rwa [if_pos hb] at h
theorem mode_good {w : World} {B : Nat} {H : Nat → Prop} {fb lim m0 : Nat} {l : List UInt8} (m : Nat) (hm : m ≤ 3) (hF : FeedAt w B H fb ⟨lim, m0, l, false⟩) :
    Calls Tryz.prog 14 #[.pointer (some ⟨fb, 0, none⟩), .int .i64 (m : Int)] w (RetF w B H fb (0, ⟨lim, m, l, false⟩)) := by
  have h := mode_any (m : Int) ⟨by omega, by omega⟩ hF
  unfold modeF at h
  rw [if_neg (by simpa using okM_nat hm), if_neg (by simp)] at h
  exact h
theorem mode_bad {w : World} {B : Nat} {H : Nat → Prop} {fb : Nat} {F : Fe} (m : Nat) (hm : m ≤ 3) (hb : F.bad = true) (hF : FeedAt w B H fb F) :
    Calls Tryz.prog 14 #[.pointer (some ⟨fb, 0, none⟩), .int .i64 (m : Int)] w (RetF w B H fb (6, F)) := by
  have h := mode_any (m : Int) ⟨by omega, by omega⟩ hF
  unfold modeF at h
  rw [if_neg (by simpa using okM_nat hm), if_pos hb] at h
  exact h
theorem Keeps.size' {N : Nat} {w w' : World} {H H' : Nat → Prop} (h : Keeps N w w' H H') : w.heap.size ≤ w'.heap.size := h.size
/-- what a world was when a feed was made, is so -/
theorem Keeps.from {w w1 w2 : World} {H H2 : Nat → Prop} (hb : Below w.heap.size w w1) (hk : Keeps w1.heap.size w1 w2 H H2) (hH : ∀ k, H k → w.heap.size ≤ k) : Below w.heap.size w w2 := hb.trans (hk.below hb.size hH)
set_option maxRecDepth 100000 in
set_option maxHeartbeats 1000000 in
theorem fed_any (w : World) (hm : MaxCell w) (hg : ErrCell w) : Calls Tryz.prog 10 #[] w fun e w' => e = .returned (.bool true) ∧ Below w.heap.size w w' := by
  have hlen : (bytesP pdW 0).length = 56 := by rw [bytesP_len pdW_right]; rfl
  have hr0 := rightP_mk pdW_right
  have hW : writeP pdW 0 = (bytesP pdW 0, 0) := by unfold writeP; rw [if_neg (by decide), if_neg (by simp [hr0])]; rfl
  have N1 : nextF ⟨100, 0, (bytesP pdW 0).take 50, false⟩ = ((pc0, false, 0), ⟨100, 0, (bytesP pdW 0).take 50, false⟩) := next_part (p := pdW) (r := (bytesP pdW 0).drop 50) (t := []) hr0 (by decide) (by simp [List.take_append_drop]) (by simp [hlen])
  have N2 : allF ⟨100, 0, bytesP pdW 0 ++ [120], false⟩ = ([pcOf pdW], 0, ⟨100, 0, [120], false⟩) := by
    have e := next_bytes (F := ⟨100, 0, bytesP pdW 0 ++ [120], false⟩) ⟨Nat.le_of_ble_eq_true rfl, Nat.zero_le 3⟩ hr0 (by decide) (t := [120]) rfl
    have e2 := next_short (F := ⟨100, 0, [120], false⟩) (by decide)
    rw [all_more (by rw [e]), e]
    simp only
    rw [all_end (by rw [e2]), e2]
  generalize bytesP pdW 0 = s at *
  have Wr := fun vv va W h hc hg => Lib.hid (writeP_any pdW vv va 0 W (by unfold I64; decide) h pdW_fit hc hg)
  rw [hW] at Wr
  have hl1 : (s.take 50).length = 50 := by rw [List.length_take]; omega
  have hs2 : List.take (s.length - 50) (List.drop 50 s) = List.drop 50 s := List.take_of_length_le (by simp)
  have hs12 : s.take 50 ++ (s.drop 50 ++ [120]) = s ++ [120] := by rw [← List.append_assoc, List.take_append_drop]
  have hsl : (s.length : Int) = 56 := by omega
  have hl2 : ((s.drop 50).length : Int) = 6 := by rw [List.length_drop]; omega
  generalize hs1 : List.take 50 s = s1 at *
  generalize hs3 : List.drop 50 s = s2 at *
  have hl1I : (s1.length : Int) = 50 := by omega
  have Hl := Lib.hid hlen
  have N1 := Lib.hid N1
  have N2 := Lib.hid N2
  have H12 := Lib.hid hs12
  have Hl1 := Lib.hid hl1
  clear hlen hs12 hl1 hr0 hW
  go_enter Tryz.func10, Tryz.ntmps10
  go_wp2_with fail
  refine (new_ok 100 w (by decide)).mono ?_
  rintro e w1 ⟨fb, H, rfl, hF, hb1⟩
  have HF1 := Lib.hid hF
  have HH := Lib.hid (fun k hk => (hF.base k hk).1)
  have Gl1 := Lib.hid (GL.mk' hm hg hb1 HH.out)
  have Hb1 := Lib.hid hb1
  clear hm hg hF hb1
  go_wp2_with fail
  refine (nop_any _).mono ?_
  rintro e w2 ⟨v1, rfl, hv1, hb2⟩
  obtain ⟨p1, c1, rfl⟩ := hv1.form
  have HF2 := Lib.hid (HF1.out.later hb2)
  have Gl2 := Lib.hid (Gl1.out.later hb2)
  have Hb2 := Lib.hid (below_then Hb1.out hb2)
  have W2 := Wr _ _ _ ⟨hv1, AhsV.nil _⟩ Gl2.out.c.off Gl2.out.g.off
  unfold pduV pdW at W2
  unfold headV
  unfold nopH at W2 ⊢
  simp only [List.length_cons, List.length_nil, Nat.zero_add, Nat.reduceAdd] at W2 ⊢
  clear hv1 hb2 Wr HF1 Gl1 Hb1
  go_wp2_with fail
  refine W2.out.mono ?_
  rintro e w3 ⟨ev, rfl, he, hb3⟩
  obtain rfl := he.zero
  have HF3 := Lib.hid (HF2.out.later hb3)
  have Gl3 := Lib.hid (Gl2.out.later hb3)
  have Hb3 := Lib.hid (below_then Hb2.out hb3)
  have P3 := Lib.hid (put_good s1 s1 rfl (by have := Hl1.out; omega) HF3.out)
  clear he hb3 W2 HF2 Gl2 Hb2
  go_wp2_with fail
  refine P3.out.mono ?_
  rintro e w4 ⟨ev, H4, rfl, hE, hF4, hK4⟩
  obtain rfl := hE.zero
  have X4 := fnext_any (by have := Hl1.out; simp only; omega) (Gl3.out.keeps hK4).c.off (Gl3.out.keeps hK4).g.off hF4
  rw [N1.out] at X4
  have X4 := Lib.hid X4
  have HK4 := Lib.hid hK4
  have Gl4 := Lib.hid (Gl3.out.keeps hK4)
  clear hE hF4 hK4 P3 HF3 Gl3
  go_wp2_with fail
  refine X4.out.mono ?_
  rintro e w5 ⟨vv, va, ev, H5, rfl, hP5, hE, hF5, hK5⟩
  obtain rfl := hE.zero
  obtain ⟨⟨pv, nv, cv, rfl⟩, ⟨pa, na, ca, rfl⟩⟩ := hP5.sl
  have hb5 := (Below.refl w5.heap.size w5).alloc (Nat.le_refl _) (.cells #[.int .i64 pc0.p.h.op, .bool pc0.p.h.now, .int .i64 pc0.p.h.fl, .slice pv nv cv, .slice pa na ca, .string (S pc0.p.d), .string (S pc0.sp)] 47)
  have HF5 := Lib.hid (hF5.later hb5)
  have HK5 := Lib.hid ((HK4.out.then hK5).trans (Keeps.of hb5 H5) (Nat.le_trans HK4.out.size hK5.size))
  have Gl5 := Lib.hid ((Gl4.out.keeps hK5).later hb5)
  have Q5 := Lib.hid (kept_any HF5.out)
  have P5 := Lib.hid (put_good (s2 ++ [120]) (s ++ [120]) H12.out (by have := Hl.out; simp; omega) HF5.out)
  clear hP5 hE hF5 hK5 hb5 X4 HK4 Gl4
  unfold pcV
  simp only
  simp only [hl1I] at Q5
  go_wp2_with fail
  refine Q5.out.mono ?_
  rintro e w6 ⟨rfl, rfl⟩
  go_wp2_with fail
  refine P5.out.mono ?_
  rintro e w7 ⟨ev, H7, rfl, hE, hF7, hK7⟩
  obtain rfl := hE.zero
  have A7 := fall_any (by have := Hl.out; simp; omega) (Gl5.out.keeps hK7) hF7
  rw [N2.out] at A7
  have A7 := Lib.hid A7
  have HK7 := Lib.hid (HK5.out.then hK7)
  clear hE hF7 hK7 P5 Q5 HF5 HK5 Gl5
  go_wp2_with fail
  refine A7.out.mono ?_
  rintro e w8 ⟨v, ev, H8, rfl, hV, hE, hF8, hK8⟩
  obtain rfl := hE.zero
  obtain ⟨pl, cl, rfl, _, hc⟩ := hV.off.1.pcs
  obtain ⟨b, o, rfl, hcell⟩ := hc (by decide)
  obtain ⟨vv2, va2, _, c0, c1', c2, c3, c4, c5, c6⟩ := hcell 0 (by decide)
  have Q8 := Lib.hid (kept_any hF8)
  have Hb8 := Lib.hid (Keeps.from Hb3.out (HK7.out.then hK8) HH.out)
  simp only [Nat.zero_mul, Nat.add_zero] at c0 c1' c2 c3 c4 c5 c6
  have c5' : w8.cell? ⟨b, o + 5, none⟩ = some (.string (S [104, 101, 108, 108, 111])) := c5
  clear hE hF8 hK8 A7 HK7 hV hc hcell c0 c1' c2 c3 c4 c5 c6
  go_wp2_with fail
  refine Q8.out.mono ?_
  rintro e w9 ⟨rfl, rfl⟩
  go_wp2_with fail
  go_ret
  exact ⟨rfl, Hb8.out⟩
end Go.Proofs.YtlkikkfbennmnaaGreatDoor
