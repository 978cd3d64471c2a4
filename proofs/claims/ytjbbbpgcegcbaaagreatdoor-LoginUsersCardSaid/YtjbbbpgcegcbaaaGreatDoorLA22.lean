/- LA22: several texts in one. -/
import Derived.Test.YtjbbbpgcegcbaaaGreatDoorLA03
import Derived.Test.YtjbbbpgcegcbaaaGreatDoorLA06
import Derived.Test.YtjbbbpgcegcbaaaGreatDoorLA09
import Derived.Test.YtjbbbpgcegcbaaaGreatDoorLA20
import Derived.Test.YtjbbbpgcegcbaaaGreatDoorLA21
namespace Go.Proofs.YtjbbbpgcegcbaaaGreatDoor
open Go Go.RowKit
set_option linter.unusedVariables false
theorem keepK {W0 W1 W2 : World} {b i : Nat} {v : Value} (h : Below W0.heap.size W0 W1 ∧ W1.cell? ⟨b, i, none⟩ = some v) (hb : Below W1.heap.size W1 W2) : Below W0.heap.size W0 W2 ∧ W2.cell? ⟨b, i, none⟩ = some v :=
 ⟨below_then h.1 hb, by rw [(bcell hb).1 b i (block_lt_of_cell (w := W1) (a := ⟨b, i, none⟩) h.2)]; exact h.2⟩
theorem PrBuf.low {base base2 : Nat} {W : World} {v : Value} {l : List Pr} (h : PrBuf base W v l) (hb : base2 ≤ base) : PrBuf base2 W v l := by
 rcases h.2 with ⟨e, h0⟩ | ⟨g, cap, cur, e, hbg, r⟩
 ·exact ⟨h.1, .inl ⟨e, h0⟩⟩
 ·exact ⟨h.1, .inr ⟨g, cap, cur, e, by omega, r⟩⟩
def RetNewN (w : World) (l : List Pr) (e : Ending) (w' : World) : Prop :=
 ((newN l).1 = 0 ∧ ∃ nb mv, e = .returned (.tuple #[.pointer (some ⟨nb, 0, none⟩), .nilIface]) ∧ NegAt w' w.heap.size (fun k => k = nb) nb mv l [] ∧ PrBuf w.heap.size w' mv l ∧ Below w.heap.size w w') ∨
 ((newN l).1 ≠ 0 ∧ ∃ ev, e = .returned (.tuple #[.pointer none, ev]) ∧ ErrIs w' ev (newN l).1 (newN l).2 ∧ Below w.heap.size w w')
set_option maxRecDepth 100000 in
set_option maxHeartbeats 4000000 in
theorem newN_any (l : List Pr) (v : Value) (w : World) (hv : PrsV w v l) (hf : fitPs l) (hE : Env w) (hg : ErrCell w) :
  Calls Tryz.prog 47 #[v] w (RetNewN w l) := by
 have HV := Lib.hid hv
 have HE := Lib.hid hE
 have Hg := Lib.hid hg
 have R := right_prs l v w hv hf
 obtain ⟨p, c, rfl⟩ := hv.form
 by_cases h0 : (prRight l).1 = 0
 case neg =>
  have hn : newN l = prRight l := by unfold newN; rw [if_pos h0]
  have HQ := Lib.hid (fun ev w' (he : ErrIs w' ev (prRight l).1 (prRight l).2) (hb : Below w.heap.size w w') => show RetNewN w l (.returned (.tuple #[.pointer none, ev])) w' from .inr (by rw [hn]; exact ⟨h0, ev, rfl, he, hb⟩))
  unfold RetE at R
  have R := Lib.hid R
  have H0 := Lib.hid h0
  clear hv hE hg h0 hn
  go_enter Tryz.func47, Tryz.ntmps47
  go_wp2_with fail
  refine R.out.mono ?_
  rintro e w1 ⟨ev, rfl, he, hb1⟩
  have Hb1 := Lib.hid hb1
  have HEv := Lib.hid he
  obtain ⟨te, xe, rfl⟩ := he.iface H0.out
  clear hb1 he R
  go_wp2_with fail
  go_ret2
  exact HQ.out _ _ HEv.out Hb1.out
 obtain ⟨hok, hfew, hr'⟩ := prRight_is h0
 rw [hr'] at R
 have R := Lib.hid R
 have Hok := Lib.hid hok
 have hn : newN l = newF 0 [] l := by unfold newN; rw [if_neg (by simpa using h0)]
 have Bad := Lib.hid (fun (n q : Int) (ev : Value) (w' : World) (h : newF 0 [] l = (n, q)) (h1 : n ≠ 0) (he : ErrIs w' ev n q) (hb : Below w.heap.size w w') => show RetNewN w l (.returned (.tuple #[.pointer none, ev])) w' from .inr (by rw [hn, h]; exact ⟨h1, ev, rfl, he, hb⟩))
 have Good := Lib.hid (fun (nb : Nat) (mv : Value) (w' : World) (h : newF 0 [] l = (0, -1)) (hR : NegAt w' w.heap.size (fun k => k = nb) nb mv l []) (hbf : PrBuf w.heap.size w' mv l) (hb : Below w.heap.size w w') => show RetNewN w l (.returned (.tuple #[.pointer (some ⟨nb, 0, none⟩), .nilIface])) w' from .inl (by rw [hn, h]; exact ⟨rfl, nb, mv, rfl, hR, hbf, hb⟩))
 have hl60 : (l.length : Int) ≤ 60 := by omega
 obtain ⟨Q, hQ⟩ : ∃ Q, RetNewN w l = Q := ⟨_, rfl⟩
 rw [hQ] at Bad Good ⊢
 clear hv hE hg h0 hn hok hr' hQ
 go_enter Tryz.func47, Tryz.ntmps47
 go_wp2_with fail
 refine R.out.mono ?_
 rintro e w1 ⟨ev, rfl, he, hb1⟩
 obtain rfl := he.zero
 have Hb1 := Lib.hid hb1
 clear hb1 he R
 go_wp2_with fail
 go_loopw [15] (fun i wr => ∃ j : Nat, j ≤ l.length ∧ i = .int .i64 j ∧ Hid (newF j (keysP (l.take j)) (l.drop j) = newF 0 [] l) ∧ Below w.heap.size w wr) (fun i _ => l.length - (intOf i).toNat)
 case atStart => exact ⟨0, by omega, rfl, Lib.hid rfl, Hb1.out⟩
 case round =>
  obtain ⟨j, hj, rfl, Hr, hb⟩ := hrel
  have Hbq := Lib.hid hb
  by_cases hlt : j < l.length
  ·have hvr := HV.out.later hb
   obtain ⟨b, o, rfl, h1, h2⟩ := hvr.cell hlt
   have hst := newF_step hlt
   rw [Hr.out] at hst
   have hka := thick_okP (Hok.out l[j] (List.getElem_mem hlt))
   obtain ⟨⟨k, d⟩, ha⟩ : ∃ a, l[j] = a := ⟨_, rfl⟩
   rw [ha] at h1 h2 hst hka
   simp only at h1 h2 hst hka
   obtain ⟨w4, hw4⟩ : ∃ w4, wr.alloc (.cells #[.string (S k), .string (S d)] 60) = w4 := ⟨_, rfl⟩
   have hb4 : Below wr.heap.size wr w4 := by rw [← hw4]; exact (Below.refl _ _).alloc (Nat.le_refl _) _
   have hP4 : Blk w4 wr.heap.size #[.string (S k), .string (S d)] 60 := by rw [← hw4]; exact Blk.new wr _ _
   have hbw4 := below_then hb hb4
   have Hb4 := Lib.hid hbw4
   have HP4 := Lib.hid hP4
   have hjI : (j : Int) < (l.length : Int) := by omega
   have hc : l.length ≤ c := by
    obtain ⟨p0, c0, hv0, hlc, _⟩ := hvr
    obtain ⟨_, rfl⟩ : _ ∧ c = c0 := by simpa using hv0
    exact hlc
   have hjc : (j : Int) ≤ (c : Int) := by omega
   have x0 : w4.cell? ⟨wr.heap.size, 0, none⟩ = some (.string (S k)) := hP4.two.1
   obtain ⟨b1, hb1⟩ : ∃ b1, (prFind (l.take j) k).isSome = b1 := ⟨_, rfl⟩
   have S1 := Lib.hid (fun W (hW : Below w4.heap.size w4 W) => show Calls Tryz.prog 78 #[.slice (some ⟨b, o, none⟩) j c, .string (S k)] W fun e w' => e = .returned (.bool b1) ∧ Below W.heap.size W w' from by
    have := stands_any (l.take j) (.slice (some ⟨b, o, none⟩) j c) k W ((hvr.later (hb4.trans (hW.mono hb4.size))).take (by omega)) (by rw [List.length_take]; omega)
    rwa [hb1] at this)
   have hin : k ∈ keysP (l.take j) ↔ b1 = true := by rw [← hb1, prFind_iff]
   have KF := Lib.hid (fun (q : Nat) (ev : Value) (hq : keyFits k d = q) (he : errV (q : Int) = ev) W (hW : Below w.heap.size w W) => fits_at (nm := k) (v := d) (n := q) (ev := ev) W hq he (by omega) (HE.out.later hW))
   obtain ⟨f, hfk⟩ : ∃ f, keyFits k d = f := ⟨_, rfl⟩
   rw [hfk] at hst
   have Hfk := Lib.hid hfk
   clear hb hb4 hP4 hbw4 hvr ha hka hb1 hfk
   cases b1 with
   | true =>
    rw [if_pos (hin.2 rfl)] at hst
    have Hst := Lib.hid hst
    clear hst hin KF
    go_wp2_with fail
    refine wp_region_held (S := (fun w' => Below w4.heap.size w4 w' ∧ w'.cell? ⟨wr.heap.size, 0, none⟩ = some (.string (S k)))) (by kernel_rfl) ?_
    have e9 : Below w4.heap.size w4 { w4 with drawn := w4.drawn + 1 } := (Below.refl _ _).drew
    generalize ({ w4 with drawn := w4.drawn + 1 } : World) = w7 at e9 ⊢
    have hS := keepK ⟨Below.refl _ _, x0⟩ e9
    refine takeN (.slice (some ⟨b, o, none⟩) l.length c) (some 20) (i := 0) rfl rfl (by kernel_rfl) (by kernel_rfl) (by kernel_rfl) (fun _ _ _ h => h) (Or.inl ⟨by rfl, fun w' hw' => ?_⟩) hS ?_
    ·obtain ⟨_, k0⟩ := hw'
     go_simp
    simp only [Act.put, iA, iB, iC]
    refine takeN (.int .i64 (j : Int)) (some 21) (i := 1) rfl rfl (by kernel_rfl) (by kernel_rfl) (by kernel_rfl) (fun _ _ _ h => h) (Or.inl ⟨by rfl, fun w' hw' => ?_⟩) hS ?_
    ·obtain ⟨_, k0⟩ := hw'
     go_simp
    simp only [Act.put, iA, iB, iC]
    refine takeN (.slice (some ⟨b, o, none⟩) j c) (some 22) (i := 2) rfl rfl (by kernel_rfl) (by kernel_rfl) (by kernel_rfl) (fun _ _ _ h => h) (Or.inl ⟨by rfl, fun w' hw' => ?_⟩) hS ?_
    ·obtain ⟨_, k0⟩ := hw'
     go_simp
    simp only [Act.put, iA, iB, iC]
    refine takeN (.pointer (some ⟨wr.heap.size, 0, none⟩)) (some 23) (i := 3) rfl rfl (by kernel_rfl) (by kernel_rfl) (by kernel_rfl) (fun _ _ _ h => h) (Or.inl ⟨by rfl, fun w' hw' => ?_⟩) hS ?_
    ·obtain ⟨_, k0⟩ := hw'
     go_simp
    simp only [Act.put, iA, iB, iC]
    refine takeN (.string (S k)) (some 24) (i := 4) rfl rfl (by kernel_rfl) (by kernel_rfl) (by kernel_rfl) (fun _ _ _ h => h) (Or.inl ⟨by rfl, fun w' hw' => ?_⟩) hS ?_
    ·obtain ⟨_, k0⟩ := hw'
     go_simp
    simp only [Act.put, iA, iB, iC]
    refine wpAnyH_all (rs := [5]) (by kernel_rfl) (by simp) (fun i hi => ?_)
    obtain rfl : i = 5 := by simpa using hi
    refine wantN (i := 5) rfl (by rfl) (callN (f := 78) (some 25) rfl Tryz.func78 (by kernel_rfl) (by kernel_rfl) rfl rfl ?_)
    simp only [List.map_toArray, List.map_cons, List.map_nil]
    refine (S1.out _ hS.1).mono ?_
    rintro e wn ⟨rfl, hbn⟩
    have hS1 := keepK hS hbn
    clear hbn
    refine ⟨_, rfl, hS1, ?_⟩
    try dsimp only
    simp only [Act.put, iA, iB, iC]
    refine wpAnyH_done (by kernel_rfl) ?_ _
    have Hw7 := Lib.hid hS1.1
    clear x0
    have Hlow := Lib.hid (below_then Hb4.out Hw7.out)
    go_wp2_with fail
    exact Bad.out 9 j _ _ Hst.out (by decide) (.placed _ 9 j (by decide) (by simp) (by simp)) (Hlow.out.alloc Hlow.out.size _)
   | false =>
    rw [if_neg (fun h => by have := hin.1 h; cases this)] at hst
    by_cases hf0 : f = 0
    ·subst hf0
     rw [if_neg (by simp)] at hst
     have Hst := Lib.hid hst
     have K3 := Lib.hid (KF.out 0 .nilIface Hfk.out rfl)
     clear hst hin KF
     go_wp2_with fail
     refine wp_region_held (S := (fun w' => Below w4.heap.size w4 w' ∧ w'.cell? ⟨wr.heap.size, 0, none⟩ = some (.string (S k)))) (by kernel_rfl) ?_
     have e9 : Below w4.heap.size w4 { w4 with drawn := w4.drawn + 1 } := (Below.refl _ _).drew
     generalize ({ w4 with drawn := w4.drawn + 1 } : World) = w7 at e9 ⊢
     have hS := keepK ⟨Below.refl _ _, x0⟩ e9
     refine takeN (.slice (some ⟨b, o, none⟩) l.length c) (some 20) (i := 0) rfl rfl (by kernel_rfl) (by kernel_rfl) (by kernel_rfl) (fun _ _ _ h => h) (Or.inl ⟨by rfl, fun w' hw' => ?_⟩) hS ?_
     ·obtain ⟨_, k0⟩ := hw'
      go_simp
     simp only [Act.put, iA, iB, iC]
     refine takeN (.int .i64 (j : Int)) (some 21) (i := 1) rfl rfl (by kernel_rfl) (by kernel_rfl) (by kernel_rfl) (fun _ _ _ h => h) (Or.inl ⟨by rfl, fun w' hw' => ?_⟩) hS ?_
     ·obtain ⟨_, k0⟩ := hw'
      go_simp
     simp only [Act.put, iA, iB, iC]
     refine takeN (.slice (some ⟨b, o, none⟩) j c) (some 22) (i := 2) rfl rfl (by kernel_rfl) (by kernel_rfl) (by kernel_rfl) (fun _ _ _ h => h) (Or.inl ⟨by rfl, fun w' hw' => ?_⟩) hS ?_
     ·obtain ⟨_, k0⟩ := hw'
      go_simp
     simp only [Act.put, iA, iB, iC]
     refine takeN (.pointer (some ⟨wr.heap.size, 0, none⟩)) (some 23) (i := 3) rfl rfl (by kernel_rfl) (by kernel_rfl) (by kernel_rfl) (fun _ _ _ h => h) (Or.inl ⟨by rfl, fun w' hw' => ?_⟩) hS ?_
     ·obtain ⟨_, k0⟩ := hw'
      go_simp
     simp only [Act.put, iA, iB, iC]
     refine takeN (.string (S k)) (some 24) (i := 4) rfl rfl (by kernel_rfl) (by kernel_rfl) (by kernel_rfl) (fun _ _ _ h => h) (Or.inl ⟨by rfl, fun w' hw' => ?_⟩) hS ?_
     ·obtain ⟨_, k0⟩ := hw'
      go_simp
     simp only [Act.put, iA, iB, iC]
     refine wpAnyH_all (rs := [5]) (by kernel_rfl) (by simp) (fun i hi => ?_)
     obtain rfl : i = 5 := by simpa using hi
     refine wantN (i := 5) rfl (by rfl) (callN (f := 78) (some 25) rfl Tryz.func78 (by kernel_rfl) (by kernel_rfl) rfl rfl ?_)
     simp only [List.map_toArray, List.map_cons, List.map_nil]
     refine (S1.out _ hS.1).mono ?_
     rintro e wn ⟨rfl, hbn⟩
     have hS1 := keepK hS hbn
     clear hbn
     refine ⟨_, rfl, hS1, ?_⟩
     try dsimp only
     simp only [Act.put, iA, iB, iC]
     refine wpAnyH_done (by kernel_rfl) ?_ _
     have Hw7 := Lib.hid hS1.1
     clear x0
     have Hlow := Lib.hid (below_then Hb4.out Hw7.out)
     obtain ⟨y0, y1⟩ := (HP4.out.later Hw7.out).two
     have K7 := Lib.hid (K3.out _ Hlow.out)
     go_wp2_with fail
     refine K7.out.mono ?_
     rintro e w8 ⟨rfl, hb8⟩
     have Hb8 := Lib.hid (below_then Hlow.out hb8)
     clear hb8
     go_wp2_with fail
     go_roundw
     case rel => exact ⟨j + 1, by omega, by go_num, Lib.hid Hst.out.symm, Hb8.out⟩
     case measure => simp [intOf]; omega
    ·rw [if_pos hf0] at hst
     obtain ⟨N, hN⟩ : ∃ N : Int, (f : Int) = N := ⟨_, rfl⟩
     have hN0 : ¬ N = 0 := by omega
     have K3 := Lib.hid (KF.out f (.iface 56 (.int .i64 N)) Hfk.out (by rw [hN]; exact errV_pos N hN0))
     rw [hN] at hst
     have Hst := Lib.hid hst
     have T := Lib.hid (fun W (hW : Below w.heap.size w W) => tell_err N W (Hg.out.later hW))
     clear hst hin KF hN hf0
     go_wp2_with fail
     refine wp_region_held (S := (fun w' => Below w4.heap.size w4 w' ∧ w'.cell? ⟨wr.heap.size, 0, none⟩ = some (.string (S k)))) (by kernel_rfl) ?_
     have e9 : Below w4.heap.size w4 { w4 with drawn := w4.drawn + 1 } := (Below.refl _ _).drew
     generalize ({ w4 with drawn := w4.drawn + 1 } : World) = w7 at e9 ⊢
     have hS := keepK ⟨Below.refl _ _, x0⟩ e9
     refine takeN (.slice (some ⟨b, o, none⟩) l.length c) (some 20) (i := 0) rfl rfl (by kernel_rfl) (by kernel_rfl) (by kernel_rfl) (fun _ _ _ h => h) (Or.inl ⟨by rfl, fun w' hw' => ?_⟩) hS ?_
     ·obtain ⟨_, k0⟩ := hw'
      go_simp
     simp only [Act.put, iA, iB, iC]
     refine takeN (.int .i64 (j : Int)) (some 21) (i := 1) rfl rfl (by kernel_rfl) (by kernel_rfl) (by kernel_rfl) (fun _ _ _ h => h) (Or.inl ⟨by rfl, fun w' hw' => ?_⟩) hS ?_
     ·obtain ⟨_, k0⟩ := hw'
      go_simp
     simp only [Act.put, iA, iB, iC]
     refine takeN (.slice (some ⟨b, o, none⟩) j c) (some 22) (i := 2) rfl rfl (by kernel_rfl) (by kernel_rfl) (by kernel_rfl) (fun _ _ _ h => h) (Or.inl ⟨by rfl, fun w' hw' => ?_⟩) hS ?_
     ·obtain ⟨_, k0⟩ := hw'
      go_simp
     simp only [Act.put, iA, iB, iC]
     refine takeN (.pointer (some ⟨wr.heap.size, 0, none⟩)) (some 23) (i := 3) rfl rfl (by kernel_rfl) (by kernel_rfl) (by kernel_rfl) (fun _ _ _ h => h) (Or.inl ⟨by rfl, fun w' hw' => ?_⟩) hS ?_
     ·obtain ⟨_, k0⟩ := hw'
      go_simp
     simp only [Act.put, iA, iB, iC]
     refine takeN (.string (S k)) (some 24) (i := 4) rfl rfl (by kernel_rfl) (by kernel_rfl) (by kernel_rfl) (fun _ _ _ h => h) (Or.inl ⟨by rfl, fun w' hw' => ?_⟩) hS ?_
     ·obtain ⟨_, k0⟩ := hw'
      go_simp
     simp only [Act.put, iA, iB, iC]
     refine wpAnyH_all (rs := [5]) (by kernel_rfl) (by simp) (fun i hi => ?_)
     obtain rfl : i = 5 := by simpa using hi
     refine wantN (i := 5) rfl (by rfl) (callN (f := 78) (some 25) rfl Tryz.func78 (by kernel_rfl) (by kernel_rfl) rfl rfl ?_)
     simp only [List.map_toArray, List.map_cons, List.map_nil]
     refine (S1.out _ hS.1).mono ?_
     rintro e wn ⟨rfl, hbn⟩
     have hS1 := keepK hS hbn
     clear hbn
     refine ⟨_, rfl, hS1, ?_⟩
     try dsimp only
     simp only [Act.put, iA, iB, iC]
     refine wpAnyH_done (by kernel_rfl) ?_ _
     have Hw7 := Lib.hid hS1.1
     clear x0
     have Hlow := Lib.hid (below_then Hb4.out Hw7.out)
     obtain ⟨y0, y1⟩ := (HP4.out.later Hw7.out).two
     have K7 := Lib.hid (K3.out _ Hlow.out)
     go_wp2_with fail
     refine K7.out.mono ?_
     rintro e w8 ⟨rfl, hb8⟩
     have hb9 := below_then Hlow.out hb8
     have T8 := Lib.hid (T.out w8 hb9)
     have Hb8 := Lib.hid hb9
     clear hb8 hb9
     go_wp2_with fail
     refine T8.out.mono ?_
     rintro e w9 ⟨rfl, hb9⟩
     have Hb9 := Lib.hid (below_then Hb8.out hb9)
     clear hb9
     go_wp2_with fail
     exact Bad.out N j _ _ Hst.out hN0 (.placed _ N j hN0 (by simp) (by simp)) (Hb9.out.alloc Hb9.out.size _)
  ·obtain rfl : j = l.length := by omega
   have hr := Hr.out
   rw [List.drop_length] at hr
   have Hr2 := Lib.hid (show newF 0 [] l = (0, -1) from hr.symm)
   have CL := Lib.hid (cloneP_any l _ wr (HV.out.later hb) (by omega))
   clear hr hb hlt
   go_wp2_with fail
   refine CL.out.mono ?_
   rintro e w8 ⟨mv, rfl, hbuf, hb8⟩
   obtain ⟨p8, c8, rfl⟩ := hbuf.form
   have Hb8 := Lib.hid (below_then Hbq.out hb8)
   have hw8 := (below_then Hbq.out hb8).size
   have HN := Lib.hid (show NegAt (w8.alloc (.cells #[.slice p8 l.length c8, .slice none 0 0] 140)) w.heap.size (fun k => k = w8.heap.size) w8.heap.size (.slice p8 l.length c8) l [] from
    ⟨⟨.slice none 0 0, Blk.new w8 _ _, PrBuf.nil _ _, fun k hk => by simp [Value.ownBlock] at hk⟩, (PrBuf.prs (row_off (hbuf.alloc _) (fun k hk e => by have := (World.ownsRow.lt hbuf k hk).2; omega))), rfl, fun k hk => by subst hk; exact ⟨hw8, by simp⟩, fun k hk hne => absurd hk hne⟩)
   have HBf := Lib.hid (show PrBuf w.heap.size (w8.alloc (.cells #[.slice p8 l.length c8, .slice none 0 0] 140)) (.slice p8 l.length c8) l from (PrBuf.low hbuf Hbq.out.size).alloc _)
   clear hbuf hb8 CL hw8
   go_wp2_with fail
   exact Good.out _ _ _ Hr2.out HN.out HBf.out (Hb8.out.alloc Hb8.out.size _)
end Go.Proofs.YtjbbbpgcegcbaaaGreatDoor
