/- LA23: several texts in one. -/
import Derived.ChangeSame
import Derived.Deep.RegionLaw
import Derived.Deep.SlicePairs
import Derived.Great.BuildSlice
import Derived.Laws.AppendOwn
import Derived.SizedLaws
import Derived.WideShapes
import Derived.Test.YtjbbbpgcegcbaaaGreatDoorLA01
import Derived.Test.YtjbbbpgcegcbaaaGreatDoorLA08
import Derived.Test.YtjbbbpgcegcbaaaGreatDoorLA09
import Derived.Test.YtjbbbpgcegcbaaaGreatDoorLA19
import Derived.Test.YtjbbbpgcegcbaaaGreatDoorLA20
import Derived.Test.YtjbbbpgcegcbaaaGreatDoorLA22
namespace Go.Proofs.YtjbbbpgcegcbaaaGreatDoor
open Go.RowKit
set_option linter.unusedVariables false
theorem keep3L {W w w' : World} {a b c : Addr} {x y z : Value} (h : Below W.heap.size W w ∧ w.cell? a = some x ∧ w.cell? b = some y ∧ w.cell? c = some z) (hb : Below w.heap.size w w') : Below W.heap.size W w' ∧ w'.cell? a = some x ∧ w'.cell? b = some y ∧ w'.cell? c = some z := by
 obtain ⟨h0, h1, h2, h3⟩ := h
 have k : ∀ {a : Addr} {x : Value}, w.cell? a = some x → w'.cell? a = some x := fun {a} {x} h => by rw [hb.cell (block_lt_of_cell h)]; exact h
 exact ⟨below_then h0 hb, k h1, k h2, k h3⟩
section
variable {w : World} {B lb : Nat} {m : LgM} {c : Cf} {d : Dw} {q : Lq}
set_option maxRecDepth 100000 in
set_option maxHeartbeats 8000000 in
theorem respond_any (iv cv : List UInt8) (h : LogIn w B lb m c d q) (hE : EnvL (offW (m.H lb) w)) (hi : iv.length ≤ 255) (hc : cv.length ≤ 255) :
  Calls Tryz.prog 168 #[.pointer (some ⟨lb, 0, none⟩), .string (S iv), .string (S cv)] w (RetSaid w B lb m c d (secM c d iv cv, q)) := by
 have HL := Lib.hid h
 have HE := Lib.hid hE
 obtain ⟨Q, hQ⟩ : ∃ Q, secM c d iv cv = Q := ⟨_, rfl⟩
 rw [hQ]
 unfold secM at hQ
 have NU := numeral_any iv 0 255 w (by omega) hE.off.env
 unfold RetNI at NU
 obtain ⟨n, en, hnum⟩ : ∃ n en, numE iv 0 255 = (n, en) := ⟨_, _, rfl⟩
 rw [hnum] at NU hQ
 obtain ⟨t, et, pt, hrd⟩ : ∃ t et pt, readV cv = (t, et, pt) := ⟨_, _, _, rfl⟩
 have RD := fun W => read_any cv W (by omega)
 rw [hrd] at RD hQ
 simp only at NU hQ
 obtain ⟨r, er, hrs⟩ : ∃ r er, respL n c.ss t = (r, er) := ⟨_, _, rfl⟩
 rw [hrs] at hQ
 simp only at hQ
 have RS := fun W (hm : MdTabs W) => response_any n c.ss t W hm
 rw [hrs] at RS
 simp only at RS
 have hrl : r.length ≤ 16 := by
  rcases respL_ways n c.ss t with ⟨e, _⟩ | ⟨e, _⟩ | ⟨x, e, hx, _⟩
  ·rw [hrs] at e; rw [(Prod.mk.inj e).1]; simp
  ·rw [hrs] at e; rw [(Prod.mk.inj e).1]; simp
  ·rw [hrs] at e; rw [(Prod.mk.inj e).1]; omega
 have HQ := Lib.hid hQ
 have NU := Lib.hid NU
 have RD := Lib.hid RD
 have RS := Lib.hid RS
 have HX := Lib.hid (fun W => hex_any r W (by omega))
 have N := Lib.hid (fun W => needN 1 W)
 have Y := Lib.hid (fun W => needY 1 W)
 clear h hE hQ hnum hrd hrs hrl hi hc
 go_enter Tryz.func168, Tryz.ntmps168
 go_wp2_with fail
 refine NU.out.mono ?_
 rintro e w1 ⟨rfl, hb1⟩
 have Hb1 := Lib.hid hb1
 clear hb1 NU
 by_cases h1 : en = 0
 case neg =>
  have hq := HQ.out
  rw [if_pos (.inl h1)] at hq
  subst hq
  rw [errV_pos en h1]
  go_wp2_with fail
  refine (N.out _).mono ?_
  rintro e w2 ⟨rfl, rfl⟩
  unfold thrown
  go_wp2_with fail
  exact ⟨rfl, rfl, HL.out.later Hb1.out, Keeps.of Hb1.out _⟩
 subst h1
 rw [errV_0]
 go_wp2_with fail
 refine (Y.out _).mono ?_
 rintro e w2 ⟨rfl, rfl⟩
 go_wp2_with fail
 refine (RD.out _).mono ?_
 rintro e w2 ⟨ev, rfl, he, hb2⟩
 simp only at he
 have Hb2 := Lib.hid (below_then Hb1.out hb2)
 have HL2 := Lib.hid (HL.out.later Hb2.out)
 clear hb2 RD Hb1
 by_cases h2 : et = 0
 case neg =>
  have hq := HQ.out
  rw [if_pos (.inr (.inl h2))] at hq
  subst hq
  obtain ⟨ty, xv, rfl⟩ := he.iface h2
  clear he h2
  go_wp2_with fail
  refine (N.out _).mono ?_
  rintro e w3 ⟨rfl, rfl⟩
  unfold thrown
  go_wp2_with fail
  exact ⟨rfl, rfl, HL2.out, Keeps.of Hb2.out _⟩
 subst h2
 obtain rfl := he.zero
 have hC := pcells HL2.out.blk
 have q9 := hC.q9
 have q4 := hC.q4
 have q5 := hC.q5
 clear he hC
 by_cases h3 : t = d.ch
 ·have hq := HQ.out
  rw [if_pos (.inr (.inr (.inl h3)))] at hq
  subst hq
  have e3 : (t == d.ch) = true := by rw [h3]; simp
  clear h3
  go_wp2_with fail
  refine (N.out _).mono ?_
  rintro e w3 ⟨rfl, rfl⟩
  unfold thrown
  go_wp2_with fail
  exact ⟨rfl, rfl, HL2.out, Keeps.of Hb2.out _⟩
 have e3 : (t == d.ch) = false := beq_eq_false_iff_ne.2 h3
 obtain ⟨w3, hw3⟩ : ∃ w3, w2.alloc (.cells #[.string (S c.sn), .string (S c.ss)] 26) = w3 := ⟨_, rfl⟩
 have hA := (Below.refl w2.heap.size w2).alloc (Nat.le_refl _) (.cells #[.string (S c.sn), .string (S c.ss)] 26)
 have hU := Blk.new w2 #[.string (S c.sn), .string (S c.ss)] 26
 obtain ⟨ub, hub⟩ : ∃ ub, w2.heap.size = ub := ⟨_, rfl⟩
 rw [hw3] at hA hU
 rw [hub] at hU
 obtain ⟨u0, u1⟩ := hU.two
 have HL3 := Lib.hid (HL2.out.later hA)
 have HU := Lib.hid hU
 have Hb3 := Lib.hid (below_then Hb2.out hA)
 clear hA hU
 by_cases h4 : c.sn = []
 ·have hq := HQ.out
  rw [if_pos (.inr (.inr (.inr (.inl h4))))] at hq
  subst hq
  have e4 : c.sn.isEmpty = true := by rw [h4]; rfl
  clear h4 h3
  go_wp2_with fail
  refine (Y.out _).mono ?_
  rintro e w4 ⟨rfl, rfl⟩
  go_wp2_with fail
  refine (N.out _).mono ?_
  rintro e w4 ⟨rfl, rfl⟩
  unfold thrown
  go_wp2_with fail
  exact ⟨rfl, rfl, HL3.out, Keeps.of Hb3.out _⟩
 have e4 : c.sn.isEmpty = false := by cases hh : c.sn with | nil => exact absurd hh h4 | cons _ _ => rfl
 have RS3 := Lib.hid (RS.out w3 (HE.out.later (Keeps.of Hb3.out (m.H lb)).off').off.md)
 clear RS
 have H4 := Lib.hid h4
 have H3 := Lib.hid h3
 clear h4 h3
 go_wp2_with fail
 refine (Y.out _).mono ?_
 rintro e w4 ⟨rfl, rfl⟩
 go_wp2_with fail
 clear hw3 hub
 refine (Y.out _).mono ?_
 rintro e w4 ⟨rfl, rfl⟩
 go_wp2_with fail
 refine RS3.out.mono ?_
 rintro e w4 ⟨rfl, hb4⟩
 have Hb4 := Lib.hid (below_then Hb3.out hb4)
 have HL4 := Lib.hid (HL3.out.later hb4)
 have hU4 := HU.out.later hb4
 clear u0 u1 hb4 RS3 e3 e4 HU
 obtain ⟨u0, u1⟩ := hU4.two
 by_cases h5 : er = 0
 case neg =>
  have hq := HQ.out
  rw [if_pos (.inr (.inr (.inr (.inr h5))))] at hq
  subst hq
  rw [errV_pos er h5]
  go_wp2_with fail
  refine (N.out _).mono ?_
  rintro e w5 ⟨rfl, rfl⟩
  unfold thrown
  go_wp2_with fail
  exact ⟨rfl, rfl, HL4.out, Keeps.of Hb4.out _⟩
 have hq := HQ.out
 rw [if_neg (by rintro (h | h | h | h | h); exact h rfl; exact h rfl; exact H3.out h; exact H4.out h; exact h h5)] at hq
 subst hq h5
 rw [errV_0]
 clear hU4 HQ
 go_wp2_with fail
 refine (Y.out _).mono ?_
 rintro e w5 ⟨rfl, rfl⟩
 go_wp2_with fail
 go_region_held3 (fun w' => Below w4.heap.size w4 w' ∧ w'.cell? ⟨ub, 0, none⟩ = some (.string (S c.sn)) ∧ w'.cell? ⟨ub, 1, none⟩ = some (.string (S c.ss)))
  (first | assumption | exact ⟨Below.refl _ _, u0, u1⟩ | exact ⟨(Below.refl _ _).drew, u0, u1⟩ | exact keep2L (by assumption) hb' | exact keep2L (by assumption) ((Below.refl _ _).alloc (Nat.le_refl _) _))
  (first | ((with_reducible refine (HX.out _).mono ?_); rintro e w' ⟨rfl, hb'⟩))
 rename_i hHeld
 have hs : w4.heap.size ≤ w'.heap.size := hb'.size
 have HB5 := Lib.hid (PrBuf.litM (w := w) (l := [⟨kCN, c.sn⟩, ⟨kCR, hexL r⟩]) HL4.out hs (Nat.le_trans Hb4.out.size hs) (by simp) #[.string (S kCN), .string (S c.sn), .string (S kCR), .string (S (hexL r))] rfl)
 have HL5 := Lib.hid (HL4.out.later hHeld.1)
 have HK5 := Lib.hid ((Keeps.of Hb4.out (m.H lb)).then (Keeps.of hHeld.1 (m.H lb)))
 clear hHeld hs hb' u0 u1
 go_wp2_with fail
 go_ret
 exact ⟨⟨_, rfl, HB5.out⟩, HL5.out, HK5.out⟩
set_option maxRecDepth 100000 in
set_option maxHeartbeats 8000000 in
theorem lcheck_any {pb n : Nat} {pf : List UInt8 → Option (List UInt8)} (hP : SMap w pb n pf) (h : LogIn w B lb m c d q) (hE : EnvL (offW (m.H lb) w)) (hx : ∀ k x, pf k = some x → x.length ≤ 255) (hu : c.us.length ≤ 140737488355328) (hN : ∀ n, q.wN = some n → n ≠ []) :
  Calls Tryz.prog 132 #[.pointer (some ⟨lb, 0, none⟩), .map (some pb)] w (RetSaid w B lb m c d (chkQ c d (pf kCN) (pf kCR) (pf kCI) (pf kCC) q)) := by
 have L1 := (hP.look Tryz.underlying93 kCN (by decide)).1
 have L2 := (hP.look Tryz.underlying93 kCR (by decide)).1
 have L3 := (hP.look Tryz.underlying93 kCI (by decide)).1
 have L4 := (hP.look Tryz.underlying93 kCC (by decide)).1
 have hxl : ∀ k, ((pf k).getD []).length ≤ 255 := fun k => by
  cases hf : pf k with
  | none => simp
  | some y => exact hx k y hf
 have X1 := hxl kCN
 have X2 := hxl kCR
 have X3 := hxl kCI
 have X4 := hxl kCC
 obtain ⟨Q, hQ⟩ : ∃ Q, chkQ c d (pf kCN) (pf kCR) (pf kCI) (pf kCC) q = Q := ⟨_, rfl⟩
 rw [hQ]
 unfold chkQ at hQ
 generalize (pf kCN).getD [] = x1 at L1 X1 hQ
 generalize (pf kCR).getD [] = x2 at L2 X2 hQ
 generalize (pf kCI).getD [] = x3 at L3 X3 hQ
 generalize (pf kCC).getD [] = x4 at L4 X4 hQ
 generalize (pf kCN).isSome = b1 at L1 hQ
 generalize (pf kCR).isSome = b2 at L2 hQ
 generalize (pf kCI).isSome = b3 at L3 hQ
 generalize (pf kCC).isSome = b4 at L4 hQ
 unfold kCN at L1
 unfold kCR at L2
 unfold kCI at L3
 unfold kCC at L4
 have HL := Lib.hid h
 have HE := Lib.hid hE
 have HQ := Lib.hid hQ
 have KN := Lib.hid (knw_any h)
 have N := Lib.hid (fun W => needN 1 W)
 have Y := Lib.hid (fun W => needY 1 W)
 have CH := Lib.hid (fun W (hb : Below w.heap.size w W) => check_any c.us m.vu x1 x2 d.ch d.id W (h.later hb).us.off hu (by omega) (hE.later (Keeps.of hb (m.H lb)).off').off.md (hE.later (Keeps.of hb (m.H lb)).off').off.err)
 have hC := pcells h.blk
 have q20 := hC.q20
 have q3 := hC.q3
 have q8 := hC.q8
 have q9 := hC.q9
 obtain ⟨pu, cu, hform⟩ := h.us.form
 rw [hform] at q3 CH
 have HX1 := Lib.hid X1
 have HX3 := Lib.hid X3
 have HX4 := Lib.hid X4
 have HN := Lib.hid hN
 clear hP h hE hx hxl hQ hC hform hu hN X1 X2 X3 X4
 by_cases hbad : ¬ (b1 = true ∧ b2 = true ∧ b3 = b4)
 ·cases b1 <;> cases b2 <;> cases b3 <;> cases b4
  all_goals first
   | (exfalso; exact hbad ⟨rfl, rfl, rfl⟩)
   | (
     have hq := HQ.out
     rw [if_pos ⟨rfl, rfl, rfl, rfl⟩] at hq
     subst hq
     clear hbad
     go_enter Tryz.func132, Tryz.ntmps132
     go_wp2_with fail
     go_ret
     exact ⟨⟨_, rfl, PrBuf.nil _ _⟩, HL.out, Keeps.refl _ _ _⟩)
   | (
     have hq := HQ.out
     rw [if_neg (by simp), if_pos (by simp)] at hq
     subst hq
     clear hbad
     go_enter Tryz.func132, Tryz.ntmps132
     go_wp2_with fail
     refine (N.out _).mono ?_
     rintro e w2 ⟨rfl, rfl⟩
     unfold thrown
     go_wp2_with fail
     exact ⟨rfl, rfl, HL.out, Keeps.refl _ _ _⟩)
 obtain ⟨rfl, rfl, rfl⟩ := Classical.not_not.1 hbad
 have hq := HQ.out
 rw [if_neg (by simp), if_neg (by simp)] at hq
 have HQ1 := Lib.hid hq
 clear hq HQ hbad
 have hge : q.wN.getD [] ≠ [] ∨ q.wN = none := by
  cases hw : q.wN with
  | none => exact .inr rfl
  | some x => exact .inl (by simpa using HN.out x hw)
 have HKn := Lib.hid (show knwQ c q = false → q.wN = none from fun hk => by
  unfold knwQ at hk
  rcases hge with h | h
  ·simp [h] at hk
  ·exact h)
 generalize knwQ c q = kb at KN HQ1 HKn
 obtain ⟨chb, hchb⟩ : ∃ b, q.chd = b := ⟨_, rfl⟩
 rw [hchb] at q20
 have Hch := Lib.hid hchb
 clear hge hchb HN
 cases chb with
 | false =>
  have hq := HQ1.out
  rw [if_pos (by rw [Hch.out]; simp)] at hq
  subst hq
  go_enter Tryz.func132, Tryz.ntmps132
  cases b3
  all_goals
   go_wp2_with fail
   refine (Y.out _).mono ?_
   rintro e w2 ⟨rfl, rfl⟩
   go_wp2_with fail
   refine (N.out _).mono ?_
   rintro e w2 ⟨rfl, rfl⟩
   unfold thrown
   go_wp2_with fail
   exact ⟨rfl, rfl, HL.out, Keeps.refl _ _ _⟩
 | true =>
  cases kb with
  | true =>
   have hq := HQ1.out
   rw [if_pos (by rintro ⟨_, h⟩; cases h)] at hq
   subst hq
   go_enter Tryz.func132, Tryz.ntmps132
   cases b3
   all_goals
    go_wp2_with fail
    refine (Y.out _).mono ?_
    rintro e w2 ⟨rfl, rfl⟩
    go_wp2_with fail
    refine KN.out.mono ?_
    rintro e w2 ⟨rfl, rfl⟩
    go_wp2_with fail
    refine (N.out _).mono ?_
    rintro e w2 ⟨rfl, rfl⟩
    unfold thrown
    go_wp2_with fail
    exact ⟨rfl, rfl, HL.out, Keeps.refl _ _ _⟩
  | false =>
   have hq := HQ1.out
   rw [if_neg (fun h => h ⟨Hch.out, rfl⟩)] at hq
   have HQ2 := Lib.hid hq
   have hwN := HKn.out rfl
   clear hq HQ1 HKn
   obtain ⟨en, hen⟩ : ∃ n, chkL c.us x1 x2 d.id d.ch = n := ⟨_, rfl⟩
   rw [hen] at CH HQ2
   clear hen
   by_cases h0 : en = 0
   case neg =>
    have hq := HQ2.out
    rw [if_pos h0] at hq
    subst hq
    have hen := errV_pos en h0
    rw [hen] at CH
    go_enter Tryz.func132, Tryz.ntmps132
    cases b3
    all_goals
     go_wp2_with fail
     refine (Y.out _).mono ?_
     rintro e w2 ⟨rfl, rfl⟩
     go_wp2_with fail
     refine KN.out.mono ?_
     rintro e w2 ⟨rfl, rfl⟩
     go_wp2_with fail
     refine (Y.out _).mono ?_
     rintro e w2 ⟨rfl, rfl⟩
     go_wp2_with fail
     refine wp_region_held (S := (fun w' => Below w.heap.size w w' ∧ w'.cell? ⟨lb, 3, none⟩ = some (.slice pu c.us.length cu) ∧ w'.cell? ⟨lb, 8, none⟩ = some (.int .i64 d.id) ∧ w'.cell? ⟨lb, 9, none⟩ = some (.string (S d.ch)))) (by kernel_rfl) ?_
     have e9 : Below w.heap.size w { w with drawn := w.drawn + 1 } := (Below.refl _ _).drew
     generalize ({ w with drawn := w.drawn + 1 } : World) = w4 at e9 ⊢
     have hS := keep3L (W := w) (w := w) (w' := w4) ⟨Below.refl _ _, q3, q8, q9⟩ e9
     refine takeN (.pointer (some ⟨lb, 0, none⟩)) (some 67) (i := 0) rfl rfl (by kernel_rfl) (by kernel_rfl) (by kernel_rfl) (fun _ _ _ h => h) (Or.inl ⟨by rfl, fun w' hw' => ?_⟩) hS ?_
     ·obtain ⟨_, k0, k1, k2⟩ := hw'
      go_simp
     simp only [Act.put, iA, iB, iC]
     refine takeN (.pointer (some ⟨lb, 0, none⟩)) (some 68) (i := 1) rfl rfl (by kernel_rfl) (by kernel_rfl) (by kernel_rfl) (fun _ _ _ h => h) (Or.inl ⟨by rfl, fun w' hw' => ?_⟩) hS ?_
     ·obtain ⟨_, k0, k1, k2⟩ := hw'
      go_simp
     simp only [Act.put, iA, iB, iC]
     refine takeN (.pointer (some ⟨lb, 1, none⟩)) (some 69) (i := 2) rfl rfl (by kernel_rfl) (by kernel_rfl) (by kernel_rfl) (fun _ _ _ h => h) (Or.inl ⟨by rfl, fun w' hw' => ?_⟩) hS ?_
     ·obtain ⟨_, k0, k1, k2⟩ := hw'
      go_simp
     simp only [Act.put, iA, iB, iC]
     refine takeN (.pointer (some ⟨lb, 3, none⟩)) (some 70) (i := 3) rfl rfl (by kernel_rfl) (by kernel_rfl) (by kernel_rfl) (fun _ _ _ h => h) (Or.inl ⟨by rfl, fun w' hw' => ?_⟩) hS ?_
     ·obtain ⟨_, k0, k1, k2⟩ := hw'
      go_simp
     simp only [Act.put, iA, iB, iC]
     refine takeN (.slice pu c.us.length cu) (some 71) (i := 4) rfl rfl (by kernel_rfl) (by kernel_rfl) (by kernel_rfl) (fun _ _ _ h => h) (Or.inl ⟨by rfl, fun w' hw' => ?_⟩) hS ?_
     ·obtain ⟨_, k0, k1, k2⟩ := hw'
      go_simp
     simp only [Act.put, iA, iB, iC]
     refine takeN (.string (S x1)) (some 72) (i := 5) rfl rfl (by kernel_rfl) (by kernel_rfl) (by kernel_rfl) (fun _ _ _ h => h) (Or.inl ⟨by rfl, fun w' hw' => ?_⟩) hS ?_
     ·obtain ⟨_, k0, k1, k2⟩ := hw'
      go_simp
     simp only [Act.put, iA, iB, iC]
     refine takeN (.string (S x2)) (some 73) (i := 6) rfl rfl (by kernel_rfl) (by kernel_rfl) (by kernel_rfl) (fun _ _ _ h => h) (Or.inl ⟨by rfl, fun w' hw' => ?_⟩) hS ?_
     ·obtain ⟨_, k0, k1, k2⟩ := hw'
      go_simp
     simp only [Act.put, iA, iB, iC]
     refine takeN (.pointer (some ⟨lb, 0, none⟩)) (some 74) (i := 7) rfl rfl (by kernel_rfl) (by kernel_rfl) (by kernel_rfl) (fun _ _ _ h => h) (Or.inl ⟨by rfl, fun w' hw' => ?_⟩) hS ?_
     ·obtain ⟨_, k0, k1, k2⟩ := hw'
      go_simp
     simp only [Act.put, iA, iB, iC]
     refine takeN (.pointer (some ⟨lb, 0, none⟩)) (some 75) (i := 8) rfl rfl (by kernel_rfl) (by kernel_rfl) (by kernel_rfl) (fun _ _ _ h => h) (Or.inl ⟨by rfl, fun w' hw' => ?_⟩) hS ?_
     ·obtain ⟨_, k0, k1, k2⟩ := hw'
      go_simp
     simp only [Act.put, iA, iB, iC]
     refine takeN (.pointer (some ⟨lb, 8, none⟩)) (some 76) (i := 9) rfl rfl (by kernel_rfl) (by kernel_rfl) (by kernel_rfl) (fun _ _ _ h => h) (Or.inl ⟨by rfl, fun w' hw' => ?_⟩) hS ?_
     ·obtain ⟨_, k0, k1, k2⟩ := hw'
      go_simp
     simp only [Act.put, iA, iB, iC]
     refine takeN (.agg #[.int .i64 d.id, .string (S d.ch)]) (some 77) (i := 10) rfl rfl (by kernel_rfl) (by kernel_rfl) (by kernel_rfl) (fun _ _ _ h => h) (Or.inl ⟨by rfl, fun w' hw' => ?_⟩) hS ?_
     ·obtain ⟨_, k0, k1, k2⟩ := hw'
      go_simp
     simp only [Act.put, iA, iB, iC]
     refine wpAnyH_all (rs := [11]) (by kernel_rfl) (by simp) (fun i hi => ?_)
     obtain rfl : i = 11 := by simpa using hi
     refine wantN (i := 11) rfl (by rfl) (callN (f := 55) (some 78) rfl Tryz.func55 (by kernel_rfl) (by kernel_rfl) rfl rfl ?_)
     simp only [List.map_toArray, List.map_cons, List.map_nil]
     refine (CH.out _ e9).mono ?_
     rintro e w5 ⟨rfl, hb5⟩
     have hw5 := below_then e9 hb5
     have hS5 := keep3L hS hb5
     refine ⟨_, rfl, hS5, ?_⟩
     try dsimp only
     simp only [Act.put, iA, iB, iC]
     refine takeN (.bool false) (some 79) (i := 12) rfl rfl (by kernel_rfl) (by kernel_rfl) (by kernel_rfl) (fun _ _ _ h => h) (Or.inl ⟨by rfl, fun w' hw' => ?_⟩) hS5 ?_
     ·obtain ⟨_, k0, k1, k2⟩ := hw'
      go_simp
     simp only [Act.put, iA, iB, iC]
     refine wpAnyH_all (rs := [13]) (by kernel_rfl) (by simp) (fun i hi => ?_)
     obtain rfl : i = 13 := by simpa using hi
     refine wantN (i := 13) rfl (by rfl) (callQ (f := 127) (some 80) rfl Tryz.func127 (by kernel_rfl) (by kernel_rfl) rfl rfl ?_)
     simp only [List.map_toArray, List.map_cons, List.map_nil]
     refine (N.out _).mono ?_
     rintro e w6 ⟨rfl, rfl⟩
     exact .inr ⟨_, rfl, rfl, rfl, HL.out.later hw5, Keeps.of hw5 _⟩
   have hq := HQ2.out
   rw [if_neg (fun h => h h0)] at hq
   have HQF := Lib.hid (show b3 = false → (some [], { q with wN := some x1 }) = Q from fun h => by rw [if_pos h] at hq; exact hq)
   have HQT := Lib.hid (show b3 = true → (secM c d x3 x4, { q with wN := some x1 }) = Q from fun h => by rw [if_neg (by rw [h]; decide)] at hq; exact hq)
   subst h0
   rw [errV_0] at CH
   have Hwn := Lib.hid hwN
   clear hq HQ2 hwN
   go_enter Tryz.func132, Tryz.ntmps132
   cases b3
   all_goals
    go_wp2_with fail
    refine (Y.out _).mono ?_
    rintro e w2 ⟨rfl, rfl⟩
    go_wp2_with fail
    refine KN.out.mono ?_
    rintro e w2 ⟨rfl, rfl⟩
    go_wp2_with fail
    refine (Y.out _).mono ?_
    rintro e w2 ⟨rfl, rfl⟩
    go_wp2_with fail
    refine wp_region_held (S := (fun w' => Below w.heap.size w w' ∧ w'.cell? ⟨lb, 3, none⟩ = some (.slice pu c.us.length cu) ∧ w'.cell? ⟨lb, 8, none⟩ = some (.int .i64 d.id) ∧ w'.cell? ⟨lb, 9, none⟩ = some (.string (S d.ch)))) (by kernel_rfl) ?_
    have e9 : Below w.heap.size w { w with drawn := w.drawn + 1 } := (Below.refl _ _).drew
    generalize ({ w with drawn := w.drawn + 1 } : World) = w4 at e9 ⊢
    have hS := keep3L (W := w) (w := w) (w' := w4) ⟨Below.refl _ _, q3, q8, q9⟩ e9
    refine takeN (.pointer (some ⟨lb, 0, none⟩)) (some 67) (i := 0) rfl rfl (by kernel_rfl) (by kernel_rfl) (by kernel_rfl) (fun _ _ _ h => h) (Or.inl ⟨by rfl, fun w' hw' => ?_⟩) hS ?_
    ·obtain ⟨_, k0, k1, k2⟩ := hw'
     go_simp
    simp only [Act.put, iA, iB, iC]
    refine takeN (.pointer (some ⟨lb, 0, none⟩)) (some 68) (i := 1) rfl rfl (by kernel_rfl) (by kernel_rfl) (by kernel_rfl) (fun _ _ _ h => h) (Or.inl ⟨by rfl, fun w' hw' => ?_⟩) hS ?_
    ·obtain ⟨_, k0, k1, k2⟩ := hw'
     go_simp
    simp only [Act.put, iA, iB, iC]
    refine takeN (.pointer (some ⟨lb, 1, none⟩)) (some 69) (i := 2) rfl rfl (by kernel_rfl) (by kernel_rfl) (by kernel_rfl) (fun _ _ _ h => h) (Or.inl ⟨by rfl, fun w' hw' => ?_⟩) hS ?_
    ·obtain ⟨_, k0, k1, k2⟩ := hw'
     go_simp
    simp only [Act.put, iA, iB, iC]
    refine takeN (.pointer (some ⟨lb, 3, none⟩)) (some 70) (i := 3) rfl rfl (by kernel_rfl) (by kernel_rfl) (by kernel_rfl) (fun _ _ _ h => h) (Or.inl ⟨by rfl, fun w' hw' => ?_⟩) hS ?_
    ·obtain ⟨_, k0, k1, k2⟩ := hw'
     go_simp
    simp only [Act.put, iA, iB, iC]
    refine takeN (.slice pu c.us.length cu) (some 71) (i := 4) rfl rfl (by kernel_rfl) (by kernel_rfl) (by kernel_rfl) (fun _ _ _ h => h) (Or.inl ⟨by rfl, fun w' hw' => ?_⟩) hS ?_
    ·obtain ⟨_, k0, k1, k2⟩ := hw'
     go_simp
    simp only [Act.put, iA, iB, iC]
    refine takeN (.string (S x1)) (some 72) (i := 5) rfl rfl (by kernel_rfl) (by kernel_rfl) (by kernel_rfl) (fun _ _ _ h => h) (Or.inl ⟨by rfl, fun w' hw' => ?_⟩) hS ?_
    ·obtain ⟨_, k0, k1, k2⟩ := hw'
     go_simp
    simp only [Act.put, iA, iB, iC]
    refine takeN (.string (S x2)) (some 73) (i := 6) rfl rfl (by kernel_rfl) (by kernel_rfl) (by kernel_rfl) (fun _ _ _ h => h) (Or.inl ⟨by rfl, fun w' hw' => ?_⟩) hS ?_
    ·obtain ⟨_, k0, k1, k2⟩ := hw'
     go_simp
    simp only [Act.put, iA, iB, iC]
    refine takeN (.pointer (some ⟨lb, 0, none⟩)) (some 74) (i := 7) rfl rfl (by kernel_rfl) (by kernel_rfl) (by kernel_rfl) (fun _ _ _ h => h) (Or.inl ⟨by rfl, fun w' hw' => ?_⟩) hS ?_
    ·obtain ⟨_, k0, k1, k2⟩ := hw'
     go_simp
    simp only [Act.put, iA, iB, iC]
    refine takeN (.pointer (some ⟨lb, 0, none⟩)) (some 75) (i := 8) rfl rfl (by kernel_rfl) (by kernel_rfl) (by kernel_rfl) (fun _ _ _ h => h) (Or.inl ⟨by rfl, fun w' hw' => ?_⟩) hS ?_
    ·obtain ⟨_, k0, k1, k2⟩ := hw'
     go_simp
    simp only [Act.put, iA, iB, iC]
    refine takeN (.pointer (some ⟨lb, 8, none⟩)) (some 76) (i := 9) rfl rfl (by kernel_rfl) (by kernel_rfl) (by kernel_rfl) (fun _ _ _ h => h) (Or.inl ⟨by rfl, fun w' hw' => ?_⟩) hS ?_
    ·obtain ⟨_, k0, k1, k2⟩ := hw'
     go_simp
    simp only [Act.put, iA, iB, iC]
    refine takeN (.agg #[.int .i64 d.id, .string (S d.ch)]) (some 77) (i := 10) rfl rfl (by kernel_rfl) (by kernel_rfl) (by kernel_rfl) (fun _ _ _ h => h) (Or.inl ⟨by rfl, fun w' hw' => ?_⟩) hS ?_
    ·obtain ⟨_, k0, k1, k2⟩ := hw'
     go_simp
    simp only [Act.put, iA, iB, iC]
    refine wpAnyH_all (rs := [11]) (by kernel_rfl) (by simp) (fun i hi => ?_)
    obtain rfl : i = 11 := by simpa using hi
    refine wantN (i := 11) rfl (by rfl) (callN (f := 55) (some 78) rfl Tryz.func55 (by kernel_rfl) (by kernel_rfl) rfl rfl ?_)
    simp only [List.map_toArray, List.map_cons, List.map_nil]
    refine (CH.out _ e9).mono ?_
    rintro e w5 ⟨rfl, hb5⟩
    have hw5 := below_then e9 hb5
    have hS5 := keep3L hS hb5
    refine ⟨_, rfl, hS5, ?_⟩
    try dsimp only
    simp only [Act.put, iA, iB, iC]
    refine takeN (.bool true) (some 79) (i := 12) rfl rfl (by kernel_rfl) (by kernel_rfl) (by kernel_rfl) (fun _ _ _ h => h) (Or.inl ⟨by rfl, fun w' hw' => ?_⟩) hS5 ?_
    ·obtain ⟨_, k0, k1, k2⟩ := hw'
     go_simp
    simp only [Act.put, iA, iB, iC]
    refine wpAnyH_all (rs := [13]) (by kernel_rfl) (by simp) (fun i hi => ?_)
    obtain rfl : i = 13 := by simpa using hi
    refine wantN (i := 13) rfl (by rfl) (callQ (f := 127) (some 80) rfl Tryz.func127 (by kernel_rfl) (by kernel_rfl) rfl rfl ?_)
    simp only [List.map_toArray, List.map_cons, List.map_nil]
    refine (Y.out _).mono ?_
    rintro e w6 ⟨rfl, rfl⟩
    refine .inl ⟨_, rfl, hS5, ?_⟩
    try dsimp only
    simp only [Act.put, iA, iB, iC]
    refine wpAnyH_done (by kernel_rfl) ?_ _
    have Hw5 := Lib.hid hw5
    clear hS hS5 hb5 hw5 e9
    have hL5 := HL.out.later Hw5.out
    have q18 := (pcells hL5.blk).q18
    obtain ⟨w6, hr, hL6, hK6⟩ := lay_N hL5 Hwn.out x1 (by have := HX1.out; omega)
    unfold kCN at hr
    have HL6 := Lib.hid hL6
    have HK6 := Lib.hid ((Keeps.of Hw5.out (m.H lb)).then hK6)
    clear hL5 hL6 hK6 q3 q8 q9 q20
   ·have hq := HQF.out (by first | trivial | rfl)
    subst hq
    go_wp2_with fail
    go_ret
    exact ⟨⟨_, rfl, PrBuf.nil _ _⟩, HL6.out, HK6.out⟩
   ·have hq := HQT.out (by first | trivial | rfl)
    subst hq
    have RSP := Lib.hid (respond_any x3 x4 HL6.out (HE.out.later HK6.out.off') HX3.out HX4.out)
    go_wp2_with fail
    refine RSP.out.mono ?_
    rintro e w7 ⟨he, hL7, hK7⟩
    have HL7 := Lib.hid hL7
    have HK7 := Lib.hid (HK6.out.then hK7)
    have HsK := Lib.hid HK6.out.size
    clear hL7 hK7 RSP
    obtain ⟨o, ho⟩ : ∃ o, secM c d x3 x4 = o := ⟨_, rfl⟩
    rw [ho] at he
    have Ho := Lib.hid ho
    clear ho
    cases o with
    | none =>
     obtain rfl : e = thrown 1 := he
     unfold thrown
     go_wp2_with fail
     refine ⟨rfl, ?_⟩
     show RetSaid w B lb m c d (secM c d x3 x4, _) _ _
     rw [Ho.out]
     exact ⟨rfl, HL7.out, HK7.out⟩
    | some l =>
     obtain ⟨v, rfl, hv⟩ := he
     have HB7 := Lib.hid (hv.low HsK.out)
     clear hv
     go_wp2_with fail
     go_ret
     show RetSaid w B lb m c d (secM c d x3 x4, _) _ _
     rw [Ho.out]
     exact ⟨⟨_, rfl, HB7.out⟩, HL7.out, HK7.out⟩
end
end Go.Proofs.YtjbbbpgcegcbaaaGreatDoor
namespace Go.Proofs.YtjbbbpgcegcbaaaGreatDoor
open Go.RowKit Go.ChangeShapes Go.WideShapes Go.Deep
def WideP (l : List Pr) : Prop := fitPs l ∧ l.length * 32 ≤ 140737488351232
end Go.Proofs.YtjbbbpgcegcbaaaGreatDoor
namespace Go.Proofs.YtjbbbpgcegcbaaaGreatDoor
open Go Go.RowKit
set_option linter.unusedVariables false
theorem run_append_one {W : World} {base : Nat} {v : Value} {l : List Pr} {k d : List UInt8} {a : Addr} (h : PrBuf base W v l) (ha : ∀ j u, ([.string (S k), .string (S d)] : List Value)[j]? = some u → W.cell? (a.add j) = some u) (hl : (l.length + 1) * 32 ≤ 140737488355328) (hb : base ≤ W.heap.size) :
  ∃ v' W', (Builtin.append_ #[27, 27] 27 #[v, .slice (some a) 1 1]).run Tryz.prog W = .ok v' W' ∧ PrBuf base W' v' (l ++ [⟨k, d⟩]) ∧ W.grownBy W' v.ownBlock := by
 obtain ⟨i0, hi, hz0, hz1, hz2⟩ := infoPr
 obtain ⟨v5, w5, hrun, hown, hgrow, _⟩ := run_append_own (P := Tryz.prog) (w := W) base 27 27 60 i0 (.agg #[.string (S []), .string (S [])]) 2 32 Tryz.underlying27 hi hz0 hz1 hz2 rfl (by decide) v l.length (prsVs l) h a 1 1 [.string (S k), .string (S d)] rfl ha (prsVs_one [⟨k, d⟩]) (by unfold maxLen; omega) hl hb
 refine ⟨v5, w5, hrun, ?_, hgrow⟩
 unfold PrBuf
 rw [prsVs_app, List.length_append]
 exact hown
end Go.Proofs.YtjbbbpgcegcbaaaGreatDoor
