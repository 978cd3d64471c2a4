/- Several texts in one: nego.New, Digests.  | nego.Digests.  | What returns one of both answers; what it makes is new.  | thick (quaymasterkeep's): it answers one of both; what it makes is new.  | A nego in a law; the laws' made.  | The laws' fact settled.  | What lives on through a nego's work; two negos in a law. No function of the program is walked here.  -/
import Derived.Test.YteapbjeapnmloaaGreatDoorGH
import Derived.Test.YteapbjeapnmloaaGreatDoorGA
import Derived.Test.YteapbjeapnmloaaGreatDoorGI
import Derived.Test.YteapbjeapnmloaaGreatDoorGG
import Derived.Test.YteapbjeapnmloaaGreatDoorGB
import Derived.Test.YteapbjeapnmloaaGreatDoorGC
import Derived.Test.YteapbjeapnmloaaGreatDoorNegAns
import Derived.Test.YteapbjeapnmloaaGreatDoorGE
namespace Go.Proofs.YteapbjeapnmloaaGreatDoor
open Go Go.RowKit
set_option linter.unusedVariables false
theorem keepK {W0 W1 W2 : World} {b i : Nat} {v : Value} (h : Below W0.heap.size W0 W1 ∧ W1.cell? ⟨b, i, none⟩ = some v) (hb : Below W1.heap.size W1 W2) : Below W0.heap.size W0 W2 ∧ W2.cell? ⟨b, i, none⟩ = some v :=
  ⟨below_then h.1 hb, by rw [(bcell hb).1 b i (block_lt_of_cell (w := W1) (a := ⟨b, i, none⟩) h.2)]; exact h.2⟩
theorem PrBuf.low {base base2 : Nat} {W : World} {v : Value} {l : List Pr} (h : PrBuf base W v l) (hb : base2 ≤ base) : PrBuf base2 W v l := by
  rcases h.2 with ⟨e, h0⟩ | ⟨g, cap, cur, e, hbg, r⟩
  · exact ⟨h.1, .inl ⟨e, h0⟩⟩
  · exact ⟨h.1, .inr ⟨g, cap, cur, e, by omega, r⟩⟩
/-- a nego, or nothing and an error, are returned -/
def RetNewN (w : World) (l : List Pr) (e : Ending) (w' : World) : Prop :=
  ((newN l).1 = 0 ∧ ∃ nb mv, e = .returned (.tuple #[.pointer (some ⟨nb, 0, none⟩), .nilIface]) ∧ NegAt w' w.heap.size (fun k => k = nb) nb mv l [] ∧ PrBuf w.heap.size w' mv l ∧ Below w.heap.size w w') ∨
  ((newN l).1 ≠ 0 ∧ ∃ ev, e = .returned (.tuple #[.pointer none, ev]) ∧ ErrIs w' ev (newN l).1 (newN l).2 ∧ Below w.heap.size w w')
set_option maxRecDepth 100000 in
set_option maxHeartbeats 4000000 in
theorem newN_any (l : List Pr) (v : Value) (w : World) (hv : PrsV w v l) (hf : fitPs l) (hE : Env w) (hg : ErrCell w) :
    Calls Tryz.prog 43 #[v] w (RetNewN w l) := by
  have HV := Lib.hid hv
  have HE := Lib.hid hE
  have Hg := Lib.hid hg
  have R := right_prs l v w hv hf
  obtain ⟨p, c, rfl⟩ := hv.form
  by_cases h0 : (prRight l).1 = 0
  case neg =>
    have hn : newN l = prRight l := by unfold newN; rw [if_pos h0]
    have HQ := Lib.hid (fun ev w' (he : ErrIs w' ev (prRight l).1 (prRight l).2) (hb : Below w.heap.size w w') => show RetNewN w l (.returned (.tuple #[.pointer none, ev])) w' from .inr (by rw [hn]; exact ⟨h0, ev, rfl, he, hb⟩))
    unfold RetE at R
    have R := Lib.hid R
    have H0 := Lib.hid h0
    clear hv hE hg h0 hn
    go_enter Tryz.func43, Tryz.ntmps43
    go_wp2_with fail
    refine R.out.mono ?_
    rintro e w1 ⟨ev, rfl, he, hb1⟩
    have Hb1 := Lib.hid hb1
    have HEv := Lib.hid he
    obtain ⟨te, xe, rfl⟩ := he.iface H0.out
    clear hb1 he R
    go_wp2_with fail
    go_ret2
    exact HQ.out _ _ HEv.out Hb1.out
  obtain ⟨hok, hfew, hr'⟩ := prRight_is h0
  rw [hr'] at R
  have R := Lib.hid R
  have Hok := Lib.hid hok
  have hn : newN l = newF 0 [] l := by unfold newN; rw [if_neg (by simpa using h0)]
  have Bad := Lib.hid (fun (n q : Int) (ev : Value) (w' : World) (h : newF 0 [] l = (n, q)) (h1 : n ≠ 0) (he : ErrIs w' ev n q) (hb : Below w.heap.size w w') => show RetNewN w l (.returned (.tuple #[.pointer none, ev])) w' from .inr (by rw [hn, h]; exact ⟨h1, ev, rfl, he, hb⟩))
  have Good := Lib.hid (fun (nb : Nat) (mv : Value) (w' : World) (h : newF 0 [] l = (0, -1)) (hR : NegAt w' w.heap.size (fun k => k = nb) nb mv l []) (hbf : PrBuf w.heap.size w' mv l) (hb : Below w.heap.size w w') => show RetNewN w l (.returned (.tuple #[.pointer (some ⟨nb, 0, none⟩), .nilIface])) w' from .inl (by rw [hn, h]; exact ⟨rfl, nb, mv, rfl, hR, hbf, hb⟩))
  have hl60 : (l.length : Int) ≤ 60 := by omega
  obtain ⟨Q, hQ⟩ : ∃ Q, RetNewN w l = Q := ⟨_, rfl⟩
  rw [hQ] at Bad Good ⊢
  clear hv hE hg h0 hn hok hr' hQ
  go_enter Tryz.func43, Tryz.ntmps43
  go_wp2_with fail
  refine R.out.mono ?_
  rintro e w1 ⟨ev, rfl, he, hb1⟩
  obtain rfl := he.zero
  have Hb1 := Lib.hid hb1
  clear hb1 he R
  go_wp2_with fail
  go_loopw [15] (fun i wr => ∃ j : Nat, j ≤ l.length ∧ i = .int .i64 j ∧ Hid (newF j (keysP (l.take j)) (l.drop j) = newF 0 [] l) ∧ Below w.heap.size w wr) (fun i _ => l.length - (intOf i).toNat)
  case atStart => exact ⟨0, by omega, rfl, Lib.hid rfl, Hb1.out⟩
  case round =>
    obtain ⟨j, hj, rfl, Hr, hb⟩ := hrel
    have Hbq := Lib.hid hb
    by_cases hlt : j < l.length
    · have hvr := HV.out.later hb
      obtain ⟨b, o, rfl, h1, h2⟩ := hvr.cell hlt
      have hst := newF_step hlt
      rw [Hr.out] at hst
      have hka := thick_okP (Hok.out l[j] (List.getElem_mem hlt))
      obtain ⟨⟨k, d⟩, ha⟩ : ∃ a, l[j] = a := ⟨_, rfl⟩
      rw [ha] at h1 h2 hst hka
      simp only at h1 h2 hst hka
      obtain ⟨w4, hw4⟩ : ∃ w4, wr.alloc (.cells #[.string (S k), .string (S d)] 35) = w4 := ⟨_, rfl⟩
      have hb4 : Below wr.heap.size wr w4 := by rw [← hw4]; exact (Below.refl _ _).alloc (Nat.le_refl _) _
      have hP4 : Blk w4 wr.heap.size #[.string (S k), .string (S d)] 35 := by rw [← hw4]; exact Blk.new wr _ _
      have hbw4 := below_then hb hb4
      have Hb4 := Lib.hid hbw4
      have HP4 := Lib.hid hP4
      have hjI : (j : Int) < (l.length : Int) := by omega
      have hc : l.length ≤ c := by
        obtain ⟨p0, c0, hv0, hlc, _⟩ := hvr
        obtain ⟨_, rfl⟩ : _ ∧ c = c0 := by simpa using hv0
        exact hlc
      have hjc : (j : Int) ≤ (c : Int) := by omega
      have x0 : w4.cell? ⟨wr.heap.size, 0, none⟩ = some (.string (S k)) := hP4.two.1
      obtain ⟨b1, hb1⟩ : ∃ b1, (prFind (l.take j) k).isSome = b1 := ⟨_, rfl⟩
      have S1 := Lib.hid (fun W (hW : Below w4.heap.size w4 W) => show Calls Tryz.prog 54 #[.slice (some ⟨b, o, none⟩) j c, .string (S k)] W fun e w' => e = .returned (.bool b1) ∧ Below W.heap.size W w' from by
        have := stands_any (l.take j) (.slice (some ⟨b, o, none⟩) j c) k W ((hvr.later (hb4.trans (hW.mono hb4.size))).take (by omega)) (by rw [List.length_take]; omega)
        rwa [hb1] at this)
      have hin : k ∈ keysP (l.take j) ↔ b1 = true := by rw [← hb1, prFind_iff]
      have KF := Lib.hid (fun (q : Nat) (ev : Value) (hq : keyFits k d = q) (he : errV (q : Int) = ev) W (hW : Below w.heap.size w W) => fits_at (nm := k) (v := d) (n := q) (ev := ev) W hq he (by omega) (HE.out.later hW))
      obtain ⟨f, hfk⟩ : ∃ f, keyFits k d = f := ⟨_, rfl⟩
      rw [hfk] at hst
      have Hfk := Lib.hid hfk
      clear hb hb4 hP4 hbw4 hvr ha hka hb1 hfk
      cases b1 with
      | true =>
        rw [if_pos (hin.2 rfl)] at hst
        have Hst := Lib.hid hst
        clear hst hin KF
        go_wp2_with fail
        refine wp_region_held (S := (fun w' => Below w4.heap.size w4 w' ∧ w'.cell? ⟨wr.heap.size, 0, none⟩ = some (.string (S k)))) (by kernel_rfl) ?_
        have e9 : Below w4.heap.size w4 { w4 with drawn := w4.drawn + 1 } := (Below.refl _ _).drew
        generalize ({ w4 with drawn := w4.drawn + 1 } : World) = w7 at e9 ⊢
        have hS := keepK ⟨Below.refl _ _, x0⟩ e9
        refine takeN (.slice (some ⟨b, o, none⟩) l.length c) (some 20) (i := 0) rfl rfl (by kernel_rfl) (by kernel_rfl) (by kernel_rfl) (fun _ _ _ h => h) (Or.inl ⟨by rfl, fun w' hw' => ?_⟩) hS ?_
        · obtain ⟨_, k0⟩ := hw'
          go_simp
        simp only [Act.put, List.setIfInBounds_toArray, List.set_cons_succ, List.set_cons_zero]
        refine takeN (.int .i64 (j : Int)) (some 21) (i := 1) rfl rfl (by kernel_rfl) (by kernel_rfl) (by kernel_rfl) (fun _ _ _ h => h) (Or.inl ⟨by rfl, fun w' hw' => ?_⟩) hS ?_
        · obtain ⟨_, k0⟩ := hw'
          go_simp
        simp only [Act.put, List.setIfInBounds_toArray, List.set_cons_succ, List.set_cons_zero]
        refine takeN (.slice (some ⟨b, o, none⟩) j c) (some 22) (i := 2) rfl rfl (by kernel_rfl) (by kernel_rfl) (by kernel_rfl) (fun _ _ _ h => h) (Or.inl ⟨by rfl, fun w' hw' => ?_⟩) hS ?_
        · obtain ⟨_, k0⟩ := hw'
          go_simp
        simp only [Act.put, List.setIfInBounds_toArray, List.set_cons_succ, List.set_cons_zero]
        refine takeN (.pointer (some ⟨wr.heap.size, 0, none⟩)) (some 23) (i := 3) rfl rfl (by kernel_rfl) (by kernel_rfl) (by kernel_rfl) (fun _ _ _ h => h) (Or.inl ⟨by rfl, fun w' hw' => ?_⟩) hS ?_
        · obtain ⟨_, k0⟩ := hw'
          go_simp
        simp only [Act.put, List.setIfInBounds_toArray, List.set_cons_succ, List.set_cons_zero]
        refine takeN (.string (S k)) (some 24) (i := 4) rfl rfl (by kernel_rfl) (by kernel_rfl) (by kernel_rfl) (fun _ _ _ h => h) (Or.inl ⟨by rfl, fun w' hw' => ?_⟩) hS ?_
        · obtain ⟨_, k0⟩ := hw'
          go_simp
        simp only [Act.put, List.setIfInBounds_toArray, List.set_cons_succ, List.set_cons_zero]
        refine wpAnyH_all (rs := [5]) (by kernel_rfl) (by simp) (fun i hi => ?_)
        obtain rfl : i = 5 := by simpa using hi
        refine wantN (i := 5) rfl (by rfl) (callN (f := 54) (some 25) rfl Tryz.func54 (by kernel_rfl) (by kernel_rfl) rfl rfl ?_)
        simp only [List.map_toArray, List.map_cons, List.map_nil]
        refine (S1.out _ hS.1).mono ?_
        rintro e wn ⟨rfl, hbn⟩
        have hS1 := keepK hS hbn
        clear hbn
        refine ⟨_, rfl, hS1, ?_⟩
        try dsimp only
        simp only [Act.put, List.setIfInBounds_toArray, List.set_cons_succ, List.set_cons_zero]
        refine wpAnyH_done (by kernel_rfl) ?_ _
        have Hw7 := Lib.hid hS1.1
        clear x0
        have Hlow := Lib.hid (below_then Hb4.out Hw7.out)
        go_wp2_with fail
        exact Bad.out 9 j _ _ Hst.out (by decide) (.placed _ 9 j (by decide) (by simp) (by simp)) (Hlow.out.alloc Hlow.out.size _)
      | false =>
        rw [if_neg (fun h => by have := hin.1 h; cases this)] at hst
        by_cases hf0 : f = 0
        · subst hf0
          rw [if_neg (by simp)] at hst
          have Hst := Lib.hid hst
          have K3 := Lib.hid (KF.out 0 .nilIface Hfk.out rfl)
          clear hst hin KF
          go_wp2_with fail
          refine wp_region_held (S := (fun w' => Below w4.heap.size w4 w' ∧ w'.cell? ⟨wr.heap.size, 0, none⟩ = some (.string (S k)))) (by kernel_rfl) ?_
          have e9 : Below w4.heap.size w4 { w4 with drawn := w4.drawn + 1 } := (Below.refl _ _).drew
          generalize ({ w4 with drawn := w4.drawn + 1 } : World) = w7 at e9 ⊢
          have hS := keepK ⟨Below.refl _ _, x0⟩ e9
          refine takeN (.slice (some ⟨b, o, none⟩) l.length c) (some 20) (i := 0) rfl rfl (by kernel_rfl) (by kernel_rfl) (by kernel_rfl) (fun _ _ _ h => h) (Or.inl ⟨by rfl, fun w' hw' => ?_⟩) hS ?_
          · obtain ⟨_, k0⟩ := hw'
            go_simp
          simp only [Act.put, List.setIfInBounds_toArray, List.set_cons_succ, List.set_cons_zero]
          refine takeN (.int .i64 (j : Int)) (some 21) (i := 1) rfl rfl (by kernel_rfl) (by kernel_rfl) (by kernel_rfl) (fun _ _ _ h => h) (Or.inl ⟨by rfl, fun w' hw' => ?_⟩) hS ?_
          · obtain ⟨_, k0⟩ := hw'
            go_simp
          simp only [Act.put, List.setIfInBounds_toArray, List.set_cons_succ, List.set_cons_zero]
          refine takeN (.slice (some ⟨b, o, none⟩) j c) (some 22) (i := 2) rfl rfl (by kernel_rfl) (by kernel_rfl) (by kernel_rfl) (fun _ _ _ h => h) (Or.inl ⟨by rfl, fun w' hw' => ?_⟩) hS ?_
          · obtain ⟨_, k0⟩ := hw'
            go_simp
          simp only [Act.put, List.setIfInBounds_toArray, List.set_cons_succ, List.set_cons_zero]
          refine takeN (.pointer (some ⟨wr.heap.size, 0, none⟩)) (some 23) (i := 3) rfl rfl (by kernel_rfl) (by kernel_rfl) (by kernel_rfl) (fun _ _ _ h => h) (Or.inl ⟨by rfl, fun w' hw' => ?_⟩) hS ?_
          · obtain ⟨_, k0⟩ := hw'
            go_simp
          simp only [Act.put, List.setIfInBounds_toArray, List.set_cons_succ, List.set_cons_zero]
          refine takeN (.string (S k)) (some 24) (i := 4) rfl rfl (by kernel_rfl) (by kernel_rfl) (by kernel_rfl) (fun _ _ _ h => h) (Or.inl ⟨by rfl, fun w' hw' => ?_⟩) hS ?_
          · obtain ⟨_, k0⟩ := hw'
            go_simp
          simp only [Act.put, List.setIfInBounds_toArray, List.set_cons_succ, List.set_cons_zero]
          refine wpAnyH_all (rs := [5]) (by kernel_rfl) (by simp) (fun i hi => ?_)
          obtain rfl : i = 5 := by simpa using hi
          refine wantN (i := 5) rfl (by rfl) (callN (f := 54) (some 25) rfl Tryz.func54 (by kernel_rfl) (by kernel_rfl) rfl rfl ?_)
          simp only [List.map_toArray, List.map_cons, List.map_nil]
          refine (S1.out _ hS.1).mono ?_
          rintro e wn ⟨rfl, hbn⟩
          have hS1 := keepK hS hbn
          clear hbn
          refine ⟨_, rfl, hS1, ?_⟩
          try dsimp only
          simp only [Act.put, List.setIfInBounds_toArray, List.set_cons_succ, List.set_cons_zero]
          refine wpAnyH_done (by kernel_rfl) ?_ _
          have Hw7 := Lib.hid hS1.1
          clear x0
          have Hlow := Lib.hid (below_then Hb4.out Hw7.out)
          obtain ⟨y0, y1⟩ := (HP4.out.later Hw7.out).two
          have K7 := Lib.hid (K3.out _ Hlow.out)
          go_wp2_with fail
          refine K7.out.mono ?_
          rintro e w8 ⟨rfl, hb8⟩
          have Hb8 := Lib.hid (below_then Hlow.out hb8)
          clear hb8
          go_wp2_with fail
          go_roundw
          case rel => exact ⟨j + 1, by omega, by go_num, Lib.hid Hst.out.symm, Hb8.out⟩
          case measure => simp [intOf]; omega
        · rw [if_pos hf0] at hst
          obtain ⟨N, hN⟩ : ∃ N : Int, (f : Int) = N := ⟨_, rfl⟩
          have hN0 : ¬ N = 0 := by omega
          have K3 := Lib.hid (KF.out f (.iface 38 (.int .i64 N)) Hfk.out (by rw [hN]; exact errV_pos N hN0))
          rw [hN] at hst
          have Hst := Lib.hid hst
          have T := Lib.hid (fun W (hW : Below w.heap.size w W) => tell_err N W (Hg.out.later hW))
          clear hst hin KF hN hf0
          go_wp2_with fail
          refine wp_region_held (S := (fun w' => Below w4.heap.size w4 w' ∧ w'.cell? ⟨wr.heap.size, 0, none⟩ = some (.string (S k)))) (by kernel_rfl) ?_
          have e9 : Below w4.heap.size w4 { w4 with drawn := w4.drawn + 1 } := (Below.refl _ _).drew
          generalize ({ w4 with drawn := w4.drawn + 1 } : World) = w7 at e9 ⊢
          have hS := keepK ⟨Below.refl _ _, x0⟩ e9
          refine takeN (.slice (some ⟨b, o, none⟩) l.length c) (some 20) (i := 0) rfl rfl (by kernel_rfl) (by kernel_rfl) (by kernel_rfl) (fun _ _ _ h => h) (Or.inl ⟨by rfl, fun w' hw' => ?_⟩) hS ?_
          · obtain ⟨_, k0⟩ := hw'
            go_simp
          simp only [Act.put, List.setIfInBounds_toArray, List.set_cons_succ, List.set_cons_zero]
          refine takeN (.int .i64 (j : Int)) (some 21) (i := 1) rfl rfl (by kernel_rfl) (by kernel_rfl) (by kernel_rfl) (fun _ _ _ h => h) (Or.inl ⟨by rfl, fun w' hw' => ?_⟩) hS ?_
          · obtain ⟨_, k0⟩ := hw'
            go_simp
          simp only [Act.put, List.setIfInBounds_toArray, List.set_cons_succ, List.set_cons_zero]
          refine takeN (.slice (some ⟨b, o, none⟩) j c) (some 22) (i := 2) rfl rfl (by kernel_rfl) (by kernel_rfl) (by kernel_rfl) (fun _ _ _ h => h) (Or.inl ⟨by rfl, fun w' hw' => ?_⟩) hS ?_
          · obtain ⟨_, k0⟩ := hw'
            go_simp
          simp only [Act.put, List.setIfInBounds_toArray, List.set_cons_succ, List.set_cons_zero]
          refine takeN (.pointer (some ⟨wr.heap.size, 0, none⟩)) (some 23) (i := 3) rfl rfl (by kernel_rfl) (by kernel_rfl) (by kernel_rfl) (fun _ _ _ h => h) (Or.inl ⟨by rfl, fun w' hw' => ?_⟩) hS ?_
          · obtain ⟨_, k0⟩ := hw'
            go_simp
          simp only [Act.put, List.setIfInBounds_toArray, List.set_cons_succ, List.set_cons_zero]
          refine takeN (.string (S k)) (some 24) (i := 4) rfl rfl (by kernel_rfl) (by kernel_rfl) (by kernel_rfl) (fun _ _ _ h => h) (Or.inl ⟨by rfl, fun w' hw' => ?_⟩) hS ?_
          · obtain ⟨_, k0⟩ := hw'
            go_simp
          simp only [Act.put, List.setIfInBounds_toArray, List.set_cons_succ, List.set_cons_zero]
          refine wpAnyH_all (rs := [5]) (by kernel_rfl) (by simp) (fun i hi => ?_)
          obtain rfl : i = 5 := by simpa using hi
          refine wantN (i := 5) rfl (by rfl) (callN (f := 54) (some 25) rfl Tryz.func54 (by kernel_rfl) (by kernel_rfl) rfl rfl ?_)
          simp only [List.map_toArray, List.map_cons, List.map_nil]
          refine (S1.out _ hS.1).mono ?_
          rintro e wn ⟨rfl, hbn⟩
          have hS1 := keepK hS hbn
          clear hbn
          refine ⟨_, rfl, hS1, ?_⟩
          try dsimp only
          simp only [Act.put, List.setIfInBounds_toArray, List.set_cons_succ, List.set_cons_zero]
          refine wpAnyH_done (by kernel_rfl) ?_ _
          have Hw7 := Lib.hid hS1.1
          clear x0
          have Hlow := Lib.hid (below_then Hb4.out Hw7.out)
          obtain ⟨y0, y1⟩ := (HP4.out.later Hw7.out).two
          have K7 := Lib.hid (K3.out _ Hlow.out)
          go_wp2_with fail
          refine K7.out.mono ?_
          rintro e w8 ⟨rfl, hb8⟩
          have hb9 := below_then Hlow.out hb8
          have T8 := Lib.hid (T.out w8 hb9)
          have Hb8 := Lib.hid hb9
          clear hb8 hb9
          go_wp2_with fail
          refine T8.out.mono ?_
          rintro e w9 ⟨rfl, hb9⟩
          have Hb9 := Lib.hid (below_then Hb8.out hb9)
          clear hb9
          go_wp2_with fail
          exact Bad.out N j _ _ Hst.out hN0 (.placed _ N j hN0 (by simp) (by simp)) (Hb9.out.alloc Hb9.out.size _)
    · obtain rfl : j = l.length := by omega
      have hr := Hr.out
      rw [List.drop_length] at hr
      have Hr2 := Lib.hid (show newF 0 [] l = (0, -1) from hr.symm)
      have CL := Lib.hid (cloneP_any l _ wr (HV.out.later hb) (by omega))
      clear hr hb hlt
      go_wp2_with fail
      refine CL.out.mono ?_
      rintro e w8 ⟨mv, rfl, hbuf, hb8⟩
      obtain ⟨p8, c8, rfl⟩ := hbuf.form
      have Hb8 := Lib.hid (below_then Hbq.out hb8)
      have hw8 := (below_then Hbq.out hb8).size
      have HN := Lib.hid (show NegAt (w8.alloc (.cells #[.slice p8 l.length c8, .slice none 0 0] 93)) w.heap.size (fun k => k = w8.heap.size) w8.heap.size (.slice p8 l.length c8) l [] from
        ⟨⟨.slice none 0 0, Blk.new w8 _ _, PrBuf.nil _ _, fun k hk => by simp [Value.ownBlock] at hk⟩, (PrBuf.prs (row_off (hbuf.alloc _) (fun k hk e => by have := (World.ownsRow.lt hbuf k hk).2; omega))), rfl, fun k hk => by subst hk; exact ⟨hw8, by simp⟩, fun k hk hne => absurd hk hne⟩)
      have HBf := Lib.hid (show PrBuf w.heap.size (w8.alloc (.cells #[.slice p8 l.length c8, .slice none 0 0] 93)) (.slice p8 l.length c8) l from (PrBuf.low hbuf Hbq.out.size).alloc _)
      clear hbuf hb8 CL hw8
      go_wp2_with fail
      exact Good.out _ _ _ Hr2.out HN.out HBf.out (Hb8.out.alloc Hb8.out.size _)
end Go.Proofs.YteapbjeapnmloaaGreatDoor
namespace Go.Proofs.YteapbjeapnmloaaGreatDoor
open Go Go.RowKit
set_option linter.unusedVariables false
theorem dig_at0 (w : World) : (Instr.index 110 (.agg #[.string (S [72, 101, 97, 100, 101, 114, 68, 105, 103, 101, 115, 116]), .int .i64 1, .string (S [68, 97, 116, 97, 68, 105, 103, 101, 115, 116]), .int .i64 2]) (.int .i64 0)).run Tryz.prog w = .ok (.agg #[.string (S [72, 101, 97, 100, 101, 114, 68, 105, 103, 101, 115, 116]), .int .i64 1]) w := by kernel_rfl
theorem dig_at1 (w : World) : (Instr.index 110 (.agg #[.string (S [72, 101, 97, 100, 101, 114, 68, 105, 103, 101, 115, 116]), .int .i64 1, .string (S [68, 97, 116, 97, 68, 105, 103, 101, 115, 116]), .int .i64 2]) (.int .i64 1)).run Tryz.prog w = .ok (.agg #[.string (S [68, 97, 116, 97, 68, 105, 103, 101, 115, 116]), .int .i64 2]) w := by kernel_rfl
set_option maxRecDepth 100000 in
set_option maxHeartbeats 2000000 in
theorem digN_any {w : World} {B : Nat} {H : Nat → Prop} {nb : Nat} {mv : Value} {mine recd : List Pr} (h : NegAt w B H nb mv mine recd) (hl : recd.length ≤ 140737488355328) :
    Calls Tryz.prog 34 #[.pointer (some ⟨nb, 0, none⟩)] w fun e w' => e = .returned (.int .i64 (digN recd)) ∧ Below w.heap.size w w' := by
  have V1 := Lib.hid (fun W (hb : Below w.heap.size w W) => valueN_any [72, 101, 97, 100, 101, 114, 68, 105, 103, 101, 115, 116] (h.later hb) hl)
  have V2 := Lib.hid (fun W (hb : Below w.heap.size w W) => valueN_any [68, 97, 116, 97, 68, 105, 103, 101, 115, 116] (h.later hb) hl)
  have hD : digN recd = (if (valN recd [72, 101, 97, 100, 101, 114, 68, 105, 103, 101, 115, 116]).1 = [67, 82, 67, 51, 50, 67] then 1 else 0) + (if (valN recd [68, 97, 116, 97, 68, 105, 103, 101, 115, 116]).1 = [67, 82, 67, 51, 50, 67] then 2 else 0) := rfl
  rw [hD]
  clear hD
  obtain ⟨⟨x, n⟩, hx⟩ : ∃ r, valN recd [72, 101, 97, 100, 101, 114, 68, 105, 103, 101, 115, 116] = r := ⟨_, rfl⟩
  obtain ⟨⟨y, m⟩, hy⟩ : ∃ r, valN recd [68, 97, 116, 97, 68, 105, 103, 101, 115, 116] = r := ⟨_, rfl⟩
  rw [hx] at V1 ⊢
  rw [hy] at V2 ⊢
  unfold RetVE at V1 V2
  obtain ⟨e1, he1⟩ : ∃ e, errV n = e := ⟨_, rfl⟩
  obtain ⟨e2, he2⟩ : ∃ e, errV m = e := ⟨_, rfl⟩
  simp only [he1] at V1
  simp only [he2] at V2
  clear hx hy h he1 he2
  by_cases hx : x = [67, 82, 67, 51, 50, 67] <;> by_cases hy : y = [67, 82, 67, 51, 50, 67]
  all_goals
    have Hx := Lib.hid hx
    have Hy := Lib.hid hy
    first
      | (have ex : (x == [67, 82, 67, 51, 50, 67]) = true := by simpa using hx)
      | (have ex : (x == [67, 82, 67, 51, 50, 67]) = false := by simpa using hx)
    first
      | (have ey : (y == [67, 82, 67, 51, 50, 67]) = true := by simpa using hy)
      | (have ey : (y == [67, 82, 67, 51, 50, 67]) = false := by simpa using hy)
    first
      | subst hx
      | clear hx
    first
      | subst hy
      | clear hy
    obtain ⟨wa, hwa⟩ : ∃ wa, w.alloc (.cells #[.string (S [72, 101, 97, 100, 101, 114, 68, 105, 103, 101, 115, 116]), .int .i64 1] 109) = wa := ⟨_, rfl⟩
    have hba : Below w.heap.size w wa := by rw [← hwa]; exact (Below.refl _ _).alloc (Nat.le_refl _) _
    have hAa : Blk wa w.heap.size #[.string (S [72, 101, 97, 100, 101, 114, 68, 105, 103, 101, 115, 116]), .int .i64 1] 109 := by rw [← hwa]; exact Blk.new w _ _
    have HAa := Lib.hid hAa
    have Hba := Lib.hid hba
    have C1 := Lib.hid (V1.out wa hba)
    obtain ⟨x0, x1⟩ := HAa.out.two
    clear hba hAa
    have i0 := dig_at0
    have i1 := dig_at1
    go_enter Tryz.func34, Tryz.ntmps34
    go_wp2_with fail
    refine wp_loop_rounds 3 ?_
    rw [rounds_succ]
    go_wp2_with fail
    refine C1.out.mono ?_
    rintro e w1 ⟨rfl, hb1⟩
    obtain ⟨y0, y1⟩ := (HAa.out.later hb1).two
    have hb2 := below_then Hba.out hb1
    obtain ⟨wb, hwb⟩ : ∃ wb, w1.alloc (.cells #[.string (S [68, 97, 116, 97, 68, 105, 103, 101, 115, 116]), .int .i64 2] 109) = wb := ⟨_, rfl⟩
    have hbb : Below w1.heap.size w1 wb := by rw [← hwb]; exact (Below.refl _ _).alloc (Nat.le_refl _) _
    have hBb : Blk wb w1.heap.size #[.string (S [68, 97, 116, 97, 68, 105, 103, 101, 115, 116]), .int .i64 2] 109 := by rw [← hwb]; exact Blk.new w1 _ _
    have HBb := Lib.hid hBb
    have hb3 := below_then hb2 hbb
    have Hb3 := Lib.hid hb3
    have C2 := Lib.hid (V2.out wb hb3)
    obtain ⟨z0, z1⟩ := HBb.out.two
    clear hb1 hb2 hbb hBb hb3
    go_wp2_with fail
    rw [rounds_succ]
    go_wp2_with fail
    refine C2.out.mono ?_
    rintro e w2 ⟨rfl, hb4⟩
    obtain ⟨u0, u1⟩ := (HBb.out.later hb4).two
    have Hb4 := Lib.hid (below_then Hb3.out hb4)
    clear hb4
    go_wp2_with fail
    rw [rounds_succ]
    go_wp2_with fail
    go_ret
    refine ⟨?_, Hb4.out⟩
    first | rfl | (simp; rfl) | (rw [if_neg Hx.out, if_neg Hy.out]; rfl) | (rw [if_neg Hy.out]; simp; rfl) | (rw [if_neg Hx.out]; simp; rfl)
end Go.Proofs.YteapbjeapnmloaaGreatDoor
namespace Go.Proofs.YteapbjeapnmloaaGreatDoor
open Go.RowKit
def RetBool (w : World) (e : Ending) (w' : World) : Prop := ∃ b, e = .returned (.bool b) ∧ Below w.heap.size w w'
end Go.Proofs.YteapbjeapnmloaaGreatDoor
namespace Go.Proofs.YteapbjeapnmloaaGreatDoor
open Go.RowKit
set_option maxRecDepth 100000 in
theorem thickK_any (l : List Pr) (v : Value) (w : World) (hv : PrsV w v l) (hl47 : l.length ≤ 140737488355328) :
    Calls Tryz.prog 19 #[v] w (RetBool w) := by
  obtain ⟨p, c, rfl, _, hc⟩ := hv
  have Hc := Lib.hid hc
  clear hc
  go_enter Tryz.func19, Tryz.ntmps19
  go_wp2_with fail
  go_loopw [3, 10] (fun x i wr => ∃ (j : Nat) (n : Int), j ≤ l.length ∧ i = .int .i64 j ∧ x = .int .i64 n ∧ Below w.heap.size w wr) (fun _ i _ => l.length - (intOf i).toNat)
  case atStart => exact ⟨0, _, by omega, rfl, rfl, Below.refl _ _⟩
  case round =>
    obtain ⟨j, n, hj, rfl, rfl, hb⟩ := hrel
    have Hb := Lib.hid hb
    by_cases hlt : j < l.length
    · obtain ⟨b, o, rfl, hcl⟩ := Hc.out (by omega)
      obtain ⟨h1, h2⟩ := hcl j hlt
      rw [← (bcell hb).1 b (o + j * 2) (block_lt_of_cell (w := w) (a := ⟨b, o + j * 2, none⟩) h1)] at h1
      rw [← (bcell hb).1 b (o + j * 2 + 1) (block_lt_of_cell (w := w) (a := ⟨b, o + j * 2 + 1, none⟩) h2)] at h2
      obtain ⟨⟨k, d⟩, ha⟩ : ∃ a, l[j] = a := ⟨_, rfl⟩
      rw [ha] at h1 h2
      simp only at h1 h2
      have Hb1 := Lib.hid (hb.alloc hb.size (.cells #[.string (S k), .string (S d)] 35))
      clear hcl hb ha
      go_wp2_with fail
      go_roundw
      case rel => exact ⟨j + 1, _, by omega, by go_num, rfl, Hb1.out⟩
      case measure => simp [intOf]; omega
    · clear hb
      go_wp2_with fail
      go_ret
      exact ⟨_, rfl, Hb.out⟩
end Go.Proofs.YteapbjeapnmloaaGreatDoor
namespace Go.Proofs.YteapbjeapnmloaaGreatDoor
open Go.RowKit
set_option linter.unusedVariables false
/-- a nego that a law made: what was there at the law's call is so -/
structure NS (w0 W : World) (H : Nat → Prop) (nb : Nat) (mv : Value) (mine recd : List Pr) : Prop where
  low : Below w0.heap.size w0 W
  neg : NegAt W w0.heap.size H nb mv mine recd
  ok : MineOk mine
  rok : RecOk recd
theorem NS.later {w0 W W' : World} {H : Nat → Prop} {nb : Nat} {mv : Value} {mine recd : List Pr} (h : NS w0 W H nb mv mine recd) (hb : Below W.heap.size W W') : NS w0 W' H nb mv mine recd := ⟨below_then h.low hb, h.neg.later hb, h.ok, h.rok⟩
theorem NS.mask {w0 W : World} {H : Nat → Prop} {nb : Nat} {mv : Value} {mine recd : List Pr} (h : NS w0 W H nb mv mine recd) : Below w0.heap.size w0 (offW H W) := below_mask h.low (fun k hk => (h.neg.base k hk).1)
theorem NS.args {w0 W : World} {H : Nat → Prop} {nb : Nat} {mv : Value} {mine recd : List Pr} (h : NS w0 W H nb mv mine recd) {v : Value} {l : List Pr} (hv : PrsV w0 v l) : PrsV (offW H W) v l := hv.later h.mask
theorem NS.err {w0 W : World} {H : Nat → Prop} {nb : Nat} {mv : Value} {mine recd : List Pr} (h : NS w0 W H nb mv mine recd) (hg : ErrCell w0) : ErrCell W := hg.later h.low
def RetAnsS (w0 w : World) (H : Nat → Prop) (nb : Nat) (mv : Value) (mine s : List Pr) (n p : Int) (r : List Pr) (e : Ending) (w' : World) : Prop := ∃ v ev H', e = .returned (.tuple #[v, ev]) ∧ PrBuf w.heap.size (offW H' w') v s ∧ ErrIs (offW H' w') ev n p ∧ NS w0 w' H' nb mv mine r ∧ Keeps w.heap.size w w' H H'
theorem ans_ns {w0 w : World} {H : Nat → Prop} {nb : Nat} {mv v : Value} {mine recd l s r : List Pr} {n p : Int} {lg dc : Bool} (hr : ansN mine recd l lg dc = ((s, n, p), r)) (h : NS w0 w H nb mv mine recd) (hv : PrsV (offW H w) v l) (hf : fitPs l) (hE : Env w0) :
    Calls Tryz.prog 21 #[.pointer (some ⟨nb, 0, none⟩), v, .bool lg, .bool dc] w (RetAnsS w0 w H nb mv mine s n p r) := by
  refine (answer_any l v lg dc h.neg hv hf h.ok h.rok (hE.later h.mask)).mono ?_
  rintro e w' ⟨v', ev, H', rfl, hb, he, hN, hk⟩
  have hrok := ansN_ok (mine := mine) (l := l) (lg := lg) (dc := dc) h.rok
  rw [hr] at hb he hN hrok
  exact ⟨v', ev, H', rfl, hb, he, ⟨Keeps.from h.low hk (fun k hh => (h.neg.base k hh).1), hN, h.ok, hrok⟩, hk⟩
theorem rec_ns {w0 w : World} {H : Nat → Prop} {nb : Nat} {mv : Value} {mine recd : List Pr} (h : NS w0 w H nb mv mine recd) : Calls Tryz.prog 22 #[.pointer (some ⟨nb, 0, none⟩)] w (RetPB w recd) := recordN_any h.neg (by have := h.rok.few; omega)
theorem val_ns {w0 w : World} {H : Nat → Prop} {nb : Nat} {mv : Value} {mine recd : List Pr} (key : List UInt8) (h : NS w0 w H nb mv mine recd) : Calls Tryz.prog 27 #[.pointer (some ⟨nb, 0, none⟩), .string (S key)] w (RetVE w (valN recd key)) := valueN_any key h.neg (by have := h.rok.few; omega)
theorem own_ns {w0 w : World} {H : Nat → Prop} {nb : Nat} {mv : Value} {mine recd : List Pr} (key : List UInt8) (h : NS w0 w H nb mv mine recd) : Calls Tryz.prog 35 #[.pointer (some ⟨nb, 0, none⟩), .string (S key)] w (RetVE w (valN mine key)) := ownN_any key h.neg (by have := h.ok.few; omega)
theorem dig_ns {w0 w : World} {H : Nat → Prop} {nb : Nat} {mv : Value} {mine recd : List Pr} (h : NS w0 w H nb mv mine recd) : Calls Tryz.prog 34 #[.pointer (some ⟨nb, 0, none⟩)] w fun e w' => e = .returned (.int .i64 (digN recd)) ∧ Below w.heap.size w w' := digN_any h.neg (by have := h.rok.few; omega)
/-- the same at a known value -/
theorem val_at {w0 w : World} {H : Nat → Prop} {nb : Nat} {mv ev : Value} {mine recd : List Pr} {key x : List UInt8} {n : Int} (hr : valN recd key = (x, n)) (he : errV n = ev) (h : NS w0 w H nb mv mine recd) : Calls Tryz.prog 27 #[.pointer (some ⟨nb, 0, none⟩), .string (S key)] w fun e w' => e = .returned (.tuple #[.string (S x), ev]) ∧ Below w.heap.size w w' := by
  have := val_ns key h
  unfold RetVE at this
  rw [hr] at this
  simp only at this
  rwa [he] at this
theorem own_at {w0 w : World} {H : Nat → Prop} {nb : Nat} {mv ev : Value} {mine recd : List Pr} {key x : List UInt8} {n : Int} (hr : valN mine key = (x, n)) (he : errV n = ev) (h : NS w0 w H nb mv mine recd) : Calls Tryz.prog 35 #[.pointer (some ⟨nb, 0, none⟩), .string (S key)] w fun e w' => e = .returned (.tuple #[.string (S x), ev]) ∧ Below w.heap.size w w' := by
  have := own_ns key h
  unfold RetVE at this
  rw [hr] at this
  simp only at this
  rwa [he] at this
/-- a nego of what one has, or nothing -/
def RetMade (w0 w : World) (l : List Pr) (e : Ending) (w' : World) : Prop :=
  (e = .returned (.pointer none) ∧ Below w.heap.size w w') ∨ ∃ nb mv, e = .returned (.pointer (some ⟨nb, 0, none⟩)) ∧ NS w0 w' (fun k => k = nb) nb mv l [] ∧ PrBuf w.heap.size w' mv l ∧ w.heap.size ≤ nb ∧ Below w.heap.size w w'
set_option maxRecDepth 100000 in
theorem made_any {w0 w : World} (l : List Pr) (v : Value) (hb : Below w0.heap.size w0 w) (hv : PrsV w0 v l) (hf : fitPs l) (hE : Env w0) (hg : ErrCell w0) :
    Calls Tryz.prog 18 #[v] w (RetMade w0 w l) := by
  have T := Lib.hid (thickK_any l v w (hv.later hb) hf.1)
  have N := Lib.hid (fun W (h : Below w.heap.size w W) => newN_any l v W (hv.later (below_then hb h)) hf (hE.later (below_then hb h)) (hg.later (below_then hb h)))
  obtain ⟨p, c, rfl⟩ := hv.form
  have Hb := Lib.hid hb
  clear hv hE hg hb
  go_enter Tryz.func18, Tryz.ntmps18
  go_wp2_with fail
  refine T.out.mono ?_
  rintro e w1 ⟨b, rfl, hb1⟩
  have N1 := Lib.hid (N.out w1 hb1)
  have Hb1 := Lib.hid hb1
  clear hb1 T N
  cases b with
  | true =>
    go_wp2_with fail
    go_ret
    exact .inl ⟨rfl, Hb1.out⟩
  | false =>
    go_wp2_with fail
    refine N1.out.mono ?_
    rintro e w2 h
    rcases h with ⟨h0, nb, mv, rfl, hN, hbf, hb2⟩ | ⟨h0, ev, rfl, he, hb2⟩
    · have Hb2 := Lib.hid (below_then Hb1.out hb2)
      have HN := Lib.hid (show NS w0 w2 (fun k => k = nb) nb mv l [] from ⟨below_then (below_then Hb.out Hb1.out) hb2, hN.mono (below_then Hb.out Hb1.out).size, (newN_is h0).1, recOk_nil⟩)
      have HBf := Lib.hid (show PrBuf w.heap.size w2 mv l ∧ w.heap.size ≤ nb from ⟨hbf.low Hb1.out.size, Nat.le_trans Hb1.out.size (hN.base nb rfl).1⟩)
      clear hb2 hN h0 hbf
      go_wp2_with fail
      go_ret
      exact .inr ⟨nb, mv, rfl, HN.out, HBf.out.1, HBf.out.2, Hb2.out⟩
    · have Hb2 := Lib.hid (below_then Hb1.out hb2)
      obtain ⟨te, xe, rfl⟩ := he.iface h0
      clear hb2 he h0
      go_wp2_with fail
      go_ret
      exact .inl ⟨rfl, Hb2.out⟩
end Go.Proofs.YteapbjeapnmloaaGreatDoor
namespace Go.Proofs.YteapbjeapnmloaaGreatDoor
open Go.RowKit
set_option linter.unusedVariables false
def stA : List Pr := [⟨[72, 101, 97, 100, 101, 114, 68, 105, 103, 101, 115, 116], [67, 82, 67, 51, 50, 67, 44, 78, 111, 110, 101]⟩]
def stB : List Pr := [⟨[72, 101, 97, 100, 101, 114, 68, 105, 103, 101, 115, 116], [78, 111, 110, 101, 44, 67, 82, 67, 51, 50, 67]⟩, ⟨[88, 45, 97], [49]⟩, ⟨[73, 110, 105, 116, 105, 97, 116, 111, 114, 78, 97, 109, 101], [109, 101]⟩, ⟨[77, 97, 120, 67, 111, 110, 110, 101, 99, 116, 105, 111, 110, 115], [48]⟩]
def stC : List Pr := [⟨[72, 101, 97, 100, 101, 114, 68, 105, 103, 101, 115, 116], [78, 111, 110, 101]⟩, ⟨[88, 45, 97], [78, 111, 116, 85, 110, 100, 101, 114, 115, 116, 111, 111, 100]⟩, ⟨[77, 97, 120, 67, 111, 110, 110, 101, 99, 116, 105, 111, 110, 115], [82, 101, 106, 101, 99, 116]⟩]
def stD : List Pr := [⟨[72, 101, 97, 100, 101, 114, 68, 105, 103, 101, 115, 116], [78, 111, 110, 101]⟩, ⟨[73, 110, 105, 116, 105, 97, 116, 111, 114, 78, 97, 109, 101], [109, 101]⟩]
theorem st_new : (newN stA).1 = 0 := by kernel_rfl
theorem st_ans : ansN stA [] stB true false = ((stC, 0, -1), stD) := by kernel_rfl
theorem st_val : valN stD [68, 97, 116, 97, 68, 105, 103, 101, 115, 116] = ([78, 111, 110, 101], 0) := by kernel_rfl
theorem st_dig : digN stD = 0 := by kernel_rfl
theorem fitPs_ok {l : List Pr} (h : l.length ≤ 100) (h2 : ∀ p ∈ l, p.k.length ≤ 1000 ∧ p.v.length ≤ 1000) : fitPs l := ⟨by omega, fun p hp => by have := h2 p hp; omega⟩
set_option maxRecDepth 100000 in
set_option maxHeartbeats 1000000 in
theorem settled_any (w : World) (hE : Env w) (hg : ErrCell w) : Calls Tryz.prog 17 #[] w fun e w' => e = .returned (.bool true) ∧ Below w.heap.size w w' := by
  obtain ⟨w1, hw1⟩ : ∃ w1, w.alloc (.cells #[.string (S [72, 101, 97, 100, 101, 114, 68, 105, 103, 101, 115, 116]), .string (S [67, 82, 67, 51, 50, 67, 44, 78, 111, 110, 101])] 35) = w1 := ⟨_, rfl⟩
  have hb1 : Below w.heap.size w w1 := by rw [← hw1]; exact (Below.refl _ _).alloc (Nat.le_refl _) _
  have hp1 : PrsV w1 (.slice (some ⟨w.heap.size, 0, none⟩) 1 1) stA := by rw [← hw1]; exact prs_new w stA 35
  have N := Lib.hid (newN_any stA _ w1 hp1 (fitPs_ok (by decide) (by decide)) (hE.later hb1) (hg.later hb1))
  have Hb1 := Lib.hid hb1
  have HE := Lib.hid hE
  have Hg := Lib.hid hg
  clear hb1 hp1 hE hg
  go_enter Tryz.func17, Tryz.ntmps17
  go_wp2_with fail
  refine N.out.mono ?_
  rintro e w2 h
  rcases h with ⟨h0, nb, mv, rfl, hN, _, hb2⟩ | ⟨h0, _⟩
  case inr => exact absurd st_new h0
  have hb2' := below_then Hb1.out hb2
  have HS := Lib.hid (show NS w w2 (fun k => k = nb) nb mv stA [] from ⟨hb2', hN.mono Hb1.out.size, (newN_is h0).1, recOk_nil⟩)
  obtain ⟨w3, hw3⟩ : ∃ w3, w2.alloc (.cells #[.string (S [72, 101, 97, 100, 101, 114, 68, 105, 103, 101, 115, 116]), .string (S [78, 111, 110, 101, 44, 67, 82, 67, 51, 50, 67]), .string (S [88, 45, 97]), .string (S [49]), .string (S [73, 110, 105, 116, 105, 97, 116, 111, 114, 78, 97, 109, 101]), .string (S [109, 101]), .string (S [77, 97, 120, 67, 111, 110, 110, 101, 99, 116, 105, 111, 110, 115]), .string (S [48])] 35) = w3 := ⟨_, rfl⟩
  have hb3 : Below w2.heap.size w2 w3 := by rw [← hw3]; exact (Below.refl _ _).alloc (Nat.le_refl _) _
  have hp3 : PrsV (offW (fun k => k = nb) w3) (.slice (some ⟨w2.heap.size, 0, none⟩) 4 4) stB := by
    have h1 : PrsV w3 (.slice (some ⟨w2.heap.size, 0, none⟩) 4 4) stB := by rw [← hw3]; exact prs_new w2 stB 35
    exact h1.apart (by have := (HS.out.neg.base nb rfl).2; omega)
  have A := Lib.hid (ans_ns st_ans (HS.out.later hb3) hp3 (fitPs_ok (by decide) (by decide)) HE.out)
  clear hb2 hb2' hN h0 hb3 hp3 N HS
  go_wp2_with fail
  refine A.out.mono ?_
  rintro e w4 ⟨v, ev, H4, rfl, hbuf, he, hS, hk⟩
  obtain rfl := he.zero
  obtain ⟨p4, c4, hv4⟩ := hbuf.form
  subst hv4
  have HS4 := Lib.hid hS
  have HB4 := Lib.hid hbuf
  have V := Lib.hid (val_at (ev := .nilIface) st_val rfl hS)
  clear hbuf he hS hk A
  go_wp2_with fail
  refine V.out.mono ?_
  rintro e w5 ⟨rfl, hb5⟩
  have HS5 := Lib.hid (HS4.out.later hb5)
  obtain ⟨w6, hw6⟩ : ∃ w6, w5.alloc (.cells #[.string (S [72, 101, 97, 100, 101, 114, 68, 105, 103, 101, 115, 116]), .string (S [78, 111, 110, 101]), .string (S [88, 45, 97]), .string (S [78, 111, 116, 85, 110, 100, 101, 114, 115, 116, 111, 111, 100]), .string (S [77, 97, 120, 67, 111, 110, 110, 101, 99, 116, 105, 111, 110, 115]), .string (S [82, 101, 106, 101, 99, 116])] 35) = w6 := ⟨_, rfl⟩
  have hb6 : Below w5.heap.size w5 w6 := by rw [← hw6]; exact (Below.refl _ _).alloc (Nat.le_refl _) _
  have hp6 : PrsV w6 (.slice (some ⟨w5.heap.size, 0, none⟩) 3 3) stC := by rw [← hw6]; exact prs_new w5 stC 35
  have E := Lib.hid (equalP_same stC _ _ w6 (by decide) (HB4.out.prs.later (Keeps.of (below_then hb5 hb6) H4).off').off hp6)
  have HS6 := Lib.hid (HS5.out.later hb6)
  clear hb5 hb6 hp6 V HS4 HB4 HS5
  go_wp2_with fail
  refine E.out.mono ?_
  rintro e w7 ⟨rfl, hb7⟩
  have HS7 := Lib.hid (HS6.out.later hb7)
  have D := dig_ns HS7.out
  rw [st_dig] at D
  have D := Lib.hid D
  clear hb7 E HS6
  go_wp2_with fail
  refine D.out.mono ?_
  rintro e w8 ⟨rfl, hb8⟩
  have HS8 := Lib.hid (HS7.out.later hb8)
  have R := Lib.hid (rec_ns HS8.out)
  clear hb8 D HS7
  go_wp2_with fail
  refine R.out.mono ?_
  rintro e w9 ⟨v9, rfl, hbuf9, hb9⟩
  obtain ⟨p9, c9, rfl⟩ := hbuf9.form
  have HS9 := Lib.hid (HS8.out.later hb9)
  clear hb9 R hbuf9
  go_wp2_with fail
  go_ret
  exact ⟨rfl, HS9.out.low⟩
end Go.Proofs.YteapbjeapnmloaaGreatDoor
namespace Go.Proofs.YteapbjeapnmloaaGreatDoor
open Go.RowKit
set_option linter.unusedVariables false
theorem PrBuf.kp {base : Nat} {w w' : World} {H H' : Nat → Prop} {v : Value} {l : List Pr} (h : PrBuf base (offW H w) v l) (hk : Keeps w.heap.size w w' H H') : PrBuf base (offW H' w') v l := PrBuf.later h hk.off'
theorem PrBuf.bl {base : Nat} {w w' : World} {H : Nat → Prop} {v : Value} {l : List Pr} (h : PrBuf base (offW H w) v l) (hb : Below w.heap.size w w') : PrBuf base (offW H w') v l := PrBuf.later h (Keeps.of hb H).off'
theorem PrsV.kp {w w' : World} {H H' : Nat → Prop} {v : Value} {l : List Pr} (h : PrsV (offW H w) v l) (hk : Keeps w.heap.size w w' H H') : PrsV (offW H' w') v l := PrsV.later h hk.off'
theorem PrsV.bl {w w' : World} {H : Nat → Prop} {v : Value} {l : List Pr} (h : PrsV (offW H w) v l) (hb : Below w.heap.size w w') : PrsV (offW H w') v l := PrsV.later h (Keeps.of hb H).off'
theorem ErrIs.kp {w w' : World} {H H' : Nat → Prop} {v : Value} {n p : Int} (h : ErrIs (offW H w) v n p) (hk : Keeps w.heap.size w w' H H') : ErrIs (offW H' w') v n p := ErrIs.later h hk.off'
theorem ErrIs.bl {w w' : World} {H : Nat → Prop} {v : Value} {n p : Int} (h : ErrIs (offW H w) v n p) (hb : Below w.heap.size w w') : ErrIs (offW H w') v n p := ErrIs.later h (Keeps.of hb H).off'
/-- one pair in a new block -/
theorem lit_one {w0 w : World} {H : Nat → Prop} {nb : Nat} {mv : Value} {mine recd : List Pr} (h : NS w0 w H nb mv mine recd) (x : Pr) : PrsV (offW H (w.alloc (.cells #[.string (S x.k), .string (S x.v)] 35))) (.slice (some ⟨w.heap.size, 0, none⟩) 1 1) [x] :=
  PrsV.apartH (prs_new w [x] 35) (fun hh => by have := (h.neg.base _ hh).2; omega)
theorem fit_one {x : Pr} (h : wrongP x = 0) : fitPs [x] := by
  have := thick_okP h
  exact ⟨by simp, fun p hp => by rw [List.mem_singleton.1 hp]; omega⟩
theorem clone_off {w0 w w' : World} {H : Nat → Prop} {nb : Nat} {mv v : Value} {mine recd l : List Pr} (h : NS w0 w H nb mv mine recd) (hb : PrBuf w.heap.size w' v l) : PrBuf w.heap.size (offW H w') v l := hb.offN h.neg (Nat.le_refl _)
theorem names_row : ∀ k ∈ keNames, (rowOf k).isSome = true := by decide +kernel
theorem names_18 : keNames.length = 18 := by kernel_rfl
/-- two negos that a law made of the same -/
structure NT (w0 W : World) (H K : Nat → Prop) (na nb : Nat) (ma mb : Value) (mine reca recb : List Pr) : Prop where
  low : Below w0.heap.size w0 W
  a : NegAt W w0.heap.size H na ma mine reca
  b : NegAt W w0.heap.size K nb mb mine recb
  d : ∀ k, H k → ¬ K k
  ka : PrsV (offW K W) ma mine
  kb : PrsV (offW H W) mb mine
  ok : MineOk mine
  ra : RecOk reca
  rb : RecOk recb
theorem NT.later {w0 W W' : World} {H K : Nat → Prop} {na nb : Nat} {ma mb : Value} {mine reca recb : List Pr} (h : NT w0 W H K na nb ma mb mine reca recb) (hb : Below W.heap.size W W') : NT w0 W' H K na nb ma mb mine reca recb :=
  ⟨below_then h.low hb, h.a.later hb, h.b.later hb, h.d, h.ka.bl hb, h.kb.bl hb, h.ok, h.ra, h.rb⟩
theorem NT.mk' {w0 W W' : World} {na nb : Nat} {ma mb : Value} {mine : List Pr} (ha : NS w0 W (fun k => k = na) na ma mine []) (hb : Below W.heap.size W W') (hB : NS w0 W' (fun k => k = nb) nb mb mine []) (hbuf : PrBuf W.heap.size W' mb mine) (hge : W.heap.size ≤ nb) : NT w0 W' (fun k => k = na) (fun k => k = nb) na nb ma mb mine [] [] := by
  have hna := (ha.neg.base na rfl).2
  refine ⟨hB.low, ha.neg.later hb, hB.neg, fun k h1 h2 => by omega, ?_, ?_, ha.ok, recOk_nil, recOk_nil⟩
  · obtain ⟨p, c, rfl, hlc, hc⟩ := ha.neg.mine.off
    have hl := PrsV.later (W' := W') (⟨p, c, rfl, hlc, hc⟩ : PrsV W (.slice p mine.length c) mine) hb
    by_cases h0 : 0 < mine.length
    · obtain ⟨b, o, rfl, hcell⟩ := hc h0
      have hlt : b < W.heap.size := block_lt_of_cell (w := W) (a := ⟨b, o + 0 * 2, none⟩) (hcell 0 h0).1
      exact hl.apart (by omega)
    · exact ⟨p, c, rfl, hlc, fun h => absurd h h0⟩
  · exact PrBuf.prs (row_off hbuf (fun k hk e => by have := hbuf.ge k hk; have := hna; omega))
/-- both negos' blocks -/
def U (H K : Nat → Prop) : Nat → Prop := fun k => H k ∨ K k
theorem NT.left {w0 W W' : World} {H K H' : Nat → Prop} {na nb : Nat} {ma mb : Value} {mine reca recb reca' : List Pr} (h : NT w0 W H K na nb ma mb mine reca recb) (ha : NegAt W' w0.heap.size H' na ma mine reca') (hk : Keeps W.heap.size W W' H H') (hr : RecOk reca') : NT w0 W' H' K na nb ma mb mine reca' recb := by
  refine ⟨Keeps.from h.low hk (fun k hh => (h.a.base k hh).1), ha, h.b.other hk (fun k h1 h2 => h.d k h2 h1) (h.b.mine.both h.kb), fun k h1 h2 => ?_, ?_, h.kb.kp hk, h.ok, hr, h.rb⟩
  · rcases hk.old k h1 with hc | hc
    · exact h.d k hc h2
    · have := (h.b.base k h2).2; omega
  · exact ((h.ka.both h.a.mine).kp (hk.wide K)).sub (fun k hh => .inl hh)
theorem NT.right {w0 W W' : World} {H K K' : Nat → Prop} {na nb : Nat} {ma mb : Value} {mine reca recb recb' : List Pr} (h : NT w0 W H K na nb ma mb mine reca recb) (hb : NegAt W' w0.heap.size K' nb mb mine recb') (hk : Keeps W.heap.size W W' K K') (hr : RecOk recb') : NT w0 W' H K' na nb ma mb mine reca recb' := by
  refine ⟨Keeps.from h.low hk (fun k hh => (h.b.base k hh).1), h.a.other hk (fun k h1 h2 => h.d k h1 h2) (h.a.mine.both h.ka), hb, fun k h1 h2 => ?_, h.ka.kp hk, ?_, h.ok, h.ra, hr⟩
  · rcases hk.old k h2 with hc | hc
    · exact h.d k h1 hc
    · have := (h.a.base k h1).2; omega
  · exact ((h.kb.both h.b.mine).kp (hk.wide H)).sub (fun k hh => .inl hh)
theorem NT.mask {w0 W : World} {H K : Nat → Prop} {na nb : Nat} {ma mb : Value} {mine reca recb : List Pr} (h : NT w0 W H K na nb ma mb mine reca recb) : Below w0.heap.size w0 (offW (U H K) W) := below_mask h.low (fun k hk => by rcases hk with hk | hk; exact (h.a.base k hk).1; exact (h.b.base k hk).1)
theorem NT.args {w0 W : World} {H K : Nat → Prop} {na nb : Nat} {ma mb v : Value} {mine reca recb l : List Pr} (h : NT w0 W H K na nb ma mb mine reca recb) (hv : PrsV w0 v l) : PrsV (offW (U H K) W) v l := hv.later h.mask
theorem NT.err {w0 W : World} {H K : Nat → Prop} {na nb : Nat} {ma mb : Value} {mine reca recb : List Pr} (h : NT w0 W H K na nb ma mb mine reca recb) (hg : ErrCell w0) : ErrCell W := hg.later h.low
theorem NT.errU {w0 W : World} {H K : Nat → Prop} {na nb : Nat} {ma mb v : Value} {mine reca recb : List Pr} {n p : Int} (h : NT w0 W H K na nb ma mb mine reca recb) (he : ErrIs W v n p) : ErrIs (offW (U H K) W) v n p := by
  have h1 := he.offN h.a
  have h2 := he.offN h.b
  cases h1 with
  | good => exact .good
  | bare _ hn => exact .bare _ hn
  | placed b _ _ hn h0 h1 =>
    cases h2 with
    | placed _ _ _ _ g0 g1 =>
      have hU : ¬ U H K b := fun hh => by
        rcases hh with hh | hh
        · exact off_cellout h0 hh
        · exact off_cellout g0 hh
      exact .placed b _ _ hn (by rw [off_to (a := ⟨b, 0, none⟩) hU]; exact off_cell h0) (by rw [off_to (a := ⟨b, 1, none⟩) hU]; exact off_cell h1)
/-- an answer of the first one -/
def RetAnsL (w0 w : World) (H K : Nat → Prop) (na nb : Nat) (ma mb : Value) (mine recb s : List Pr) (n p : Int) (r : List Pr) (e : Ending) (w' : World) : Prop := ∃ v ev H', e = .returned (.tuple #[v, ev]) ∧ PrBuf w.heap.size (offW (U H' K) w') v s ∧ ErrIs (offW (U H' K) w') ev n p ∧ NT w0 w' H' K na nb ma mb mine r recb ∧ Keeps w.heap.size w w' (U H K) (U H' K)
theorem ans_left {w0 w : World} {H K : Nat → Prop} {na nb : Nat} {ma mb v : Value} {mine reca recb l s r : List Pr} {n p : Int} {lg dc : Bool} (hr : ansN mine reca l lg dc = ((s, n, p), r)) (h : NT w0 w H K na nb ma mb mine reca recb) (hv : PrsV (offW (U H K) w) v l) (hf : fitPs l) (hE : Env w0) :
    Calls Tryz.prog 21 #[.pointer (some ⟨na, 0, none⟩), v, .bool lg, .bool dc] w (RetAnsL w0 w H K na nb ma mb mine recb s n p r) := by
  refine (answer_any l v lg dc h.a (hv.sub (fun k hh => .inl hh)) hf h.ok h.ra (hE.later (below_mask h.low (fun k hk => (h.a.base k hk).1)))).mono ?_
  rintro e w' ⟨v', ev, H', rfl, hb, he, hN, hk⟩
  have hrok := ansN_ok (mine := mine) (l := l) (lg := lg) (dc := dc) h.ra
  rw [hr] at hb he hN hrok
  have hT := h.left hN hk hrok
  refine ⟨v', ev, H', rfl, ?_, hT.errU he.off, hT, hk.wide' K⟩
  obtain ⟨h1, h2⟩ := off_row hb
  exact row_off h1 (fun k hk' hh => by
    rcases hh with hh | hh
    · exact h2 k hk' hh
    · have := World.ownsRow.lt h1 k hk'; have := (h.b.base k hh).2; omega)
/-- an answer of the second one -/
def RetAnsR (w0 w : World) (H K : Nat → Prop) (na nb : Nat) (ma mb : Value) (mine reca s : List Pr) (n p : Int) (r : List Pr) (e : Ending) (w' : World) : Prop := ∃ v ev K', e = .returned (.tuple #[v, ev]) ∧ PrBuf w.heap.size (offW (U H K') w') v s ∧ ErrIs (offW (U H K') w') ev n p ∧ NT w0 w' H K' na nb ma mb mine reca r ∧ Keeps w.heap.size w w' (U H K) (U H K')
theorem ans_right {w0 w : World} {H K : Nat → Prop} {na nb : Nat} {ma mb v : Value} {mine reca recb l s r : List Pr} {n p : Int} {lg dc : Bool} (hr : ansN mine recb l lg dc = ((s, n, p), r)) (h : NT w0 w H K na nb ma mb mine reca recb) (hv : PrsV (offW (U H K) w) v l) (hf : fitPs l) (hE : Env w0) :
    Calls Tryz.prog 21 #[.pointer (some ⟨nb, 0, none⟩), v, .bool lg, .bool dc] w (RetAnsR w0 w H K na nb ma mb mine reca s n p r) := by
  refine (answer_any l v lg dc h.b (hv.sub (fun k hh => .inr hh)) hf h.ok h.rb (hE.later (below_mask h.low (fun k hk => (h.b.base k hk).1)))).mono ?_
  rintro e w' ⟨v', ev, K', rfl, hb, he, hN, hk⟩
  have hrok := ansN_ok (mine := mine) (l := l) (lg := lg) (dc := dc) h.rb
  rw [hr] at hb he hN hrok
  have hT := h.right hN hk hrok
  refine ⟨v', ev, K', rfl, ?_, hT.errU he.off, hT, hk.wide H⟩
  obtain ⟨h1, h2⟩ := off_row hb
  exact row_off h1 (fun k hk' hh => by
    rcases hh with hh | hh
    · have := World.ownsRow.lt h1 k hk'; have := (h.a.base k hh).2; omega
    · exact h2 k hk' hh)
theorem rec_left {w0 w : World} {H K : Nat → Prop} {na nb : Nat} {ma mb : Value} {mine reca recb : List Pr} (h : NT w0 w H K na nb ma mb mine reca recb) : Calls Tryz.prog 22 #[.pointer (some ⟨na, 0, none⟩)] w (RetPB w reca) := recordN_any h.a (by have := h.ra.few; omega)
theorem rec_right {w0 w : World} {H K : Nat → Prop} {na nb : Nat} {ma mb : Value} {mine reca recb : List Pr} (h : NT w0 w H K na nb ma mb mine reca recb) : Calls Tryz.prog 22 #[.pointer (some ⟨nb, 0, none⟩)] w (RetPB w recb) := recordN_any h.b (by have := h.rb.few; omega)
end Go.Proofs.YteapbjeapnmloaaGreatDoor
