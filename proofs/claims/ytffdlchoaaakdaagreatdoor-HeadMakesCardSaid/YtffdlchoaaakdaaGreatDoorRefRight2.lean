/- ref.HeadRight where just values may be wrong; the whole of it. -/
import Derived.Test.YtffdlchoaaakdaaGreatDoorRefRight
namespace Go.Proofs.YtffdlchoaaakdaaGreatDoor
open Go.RowKit
theorem keep3 {W w w' : World} {a b c : Addr} {x y z : Value} (h : Below W.heap.size W w ∧ w.cell? a = some x ∧ w.cell? b = some y ∧ w.cell? c = some z) (hb : Below w.heap.size w w') :
    Below W.heap.size W w' ∧ w'.cell? a = some x ∧ w'.cell? b = some y ∧ w'.cell? c = some z :=
  ⟨below_then h.1 hb, by rw [hb.cell (block_lt_of_cell h.2.1)]; exact h.2.1, by rw [hb.cell (block_lt_of_cell h.2.2.1)]; exact h.2.2.1, by rw [hb.cell (block_lt_of_cell h.2.2.2)]; exact h.2.2.2⟩
theorem number_fits (x sz : Nat) (h8 : sz ≤ 8) (hx : x < 2 ^ 64) (hg : x / 2 ^ (8 * sz) = 0) (w : World) :
    Calls Tryz.prog 28 #[.int .u64 x, .int .i64 sz] w fun e w' => e = .returned (.tuple #[.string (S (be x sz)), .int .i64 0]) ∧ Below w.heap.size w w' := by
  have he : putE x (sz : Int) = 0 := by unfold putE; rw [if_neg (by omega), Int.toNat_natCast, if_pos hg]
  have hs : putS x (sz : Int) = be x sz := by unfold putS; rw [he, if_pos rfl, Int.toNat_natCast]
  have := number_all x sz w hx
  rw [he, hs] at this
  exact this
theorem number_over (x sz : Nat) (h8 : sz ≤ 8) (hx : x < 2 ^ 64) (hg : x / 2 ^ (8 * sz) ≠ 0) (w : World) :
    Calls Tryz.prog 28 #[.int .u64 x, .int .i64 sz] w fun e w' => e = .returned (.tuple #[.string (S []), .int .i64 4]) ∧ Below w.heap.size w w' := by
  have he : putE x (sz : Int) = 4 := by unfold putE; rw [if_neg (by omega), Int.toNat_natCast, if_neg hg]
  have hs : putS x (sz : Int) = [] := by unfold putS; rw [he, if_neg (by decide)]
  have := number_all x sz w hx
  rw [he, hs] at this
  exact this
set_option maxRecDepth 100000 in
set_option maxHeartbeats 1000000 in
theorem refRight_vals (h : Hd) (v : Value) (k : Kd) (w : World) (hk : kindOf h.op = some k) (hfl : I64 h.fl) (hv : Vals w v h.vs)
    (hnow : h.now = true → h.op < 32) (hok : flOk h.fl k.fl = true) (hlen : h.vs.length = k.fs.length) : Calls Tryz.prog 16 #[headV h v] w (RetF w (badR k.fs h.vs)) := by
  obtain ⟨op, now, fl, vs⟩ := h
  unfold headV
  simp only at *
  obtain ⟨p, c, rfl, hx, hcell⟩ := hv
  have F := kindFacts hk
  have hb0 := ((Below.refl w.heap.size w).alloc (Nat.le_refl _) (.cells #[.int .i64 op, .bool now, .int .i64 fl, (.slice p vs.length c)] 24)).alloc (by simp) (.cells #[.int .i64 0, .int .i64 0] 49)
  have hC0 := cell2_new (w.alloc (.cells #[.int .i64 op, .bool now, .int .i64 fl, (.slice p vs.length c)] 24))
  rw [World.size_alloc] at hC0
  have hH0 := (Blk.new w #[.int .i64 op, .bool now, .int .i64 fl, (.slice p vs.length c)] 24).alloc (.cells #[.int .i64 0, .int .i64 0] 49)
  have C := refKind_any op ((w.alloc (.cells #[.int .i64 op, .bool now, .int .i64 fl, (.slice p vs.length c)] 24)).alloc (.cells #[.int .i64 0, .int .i64 0] 49))
  rw [hk] at C
  have HC := Lib.hid C
  have Hb0 := Lib.hid hb0
  have HC0 := Lib.hid hC0
  have HH0 := Lib.hid hH0
  obtain ⟨bv, ov, rfl, hcv⟩ := hcell (by have := F.len0; omega)
  have h0 : 0 ≤ fl := by
    unfold flOk at hok
    simp at hok
    exact hok.1
  have hA := or_yes fl k.fl F.fl h0 hfl.2 hok
  have hAA : ((k.fl : Int) != (k.fl : Int)) = false := by simp
  have hl10 := F.len
  have hl1 := F.len0
  have Fok := Lib.hid F.fok
  have Hlen := Lib.hid hlen
  have Hcv := Lib.hid hcv
  have hbv : bv < w.heap.size := block_lt_of_cell (w := w) (a := ⟨bv, ov + 0, none⟩) (hcv 0 (by omega))
  have hcase : (now = true ∧ op < 32) ∨ now = false := by cases now with
    | true => exact .inl ⟨rfl, hnow rfl⟩
    | false => exact .inr rfl
  have hne : ((k.fs.length : Int) != (vs.length : Int)) = false := by rw [hlen]; simp
  have hvl : vs.length ≤ 10 := by omega
  clear hk hb0 C hC0 hH0 hfl F hok hnow hlen hcv hcell
  rcases hcase with ⟨rfl, h32⟩ | rfl
  all_goals
    go_enter Tryz.func16, Tryz.ntmps16
    go_wp2_with fail
    refine HC.out.mono ?_
    rintro e w1 ⟨bf, rfl, hF, hb⟩
    obtain ⟨q0, q1, q2, q3⟩ := (Blk.later HH0.out hb).four
    have hz : w.heap.size + 1 < w1.heap.size := by have := hb.size; simp at this; omega
    have Hb := Lib.hid (below_then Hb0.out hb)
    have HC1 := Lib.hid (HC0.out.later hb)
    have HH1 := Lib.hid (Blk.later HH0.out hb)
    have HF := Lib.hid hF
    clear hb hF
    go_wp2_with fail
    clear q0 q1 q2 q3
    go_loopw [51] (fun i wr => ∃ j : Nat, j ≤ k.fs.length ∧ i = .int .i64 j ∧ (∀ x (hx : x < k.fs.length) (hx2 : x < vs.length), x < j → vs[x] / 2 ^ (8 * k.fs[x].sz) = 0) ∧ Below w1.heap.size w1 wr) (fun i _ => k.fs.length - (intOf i).toNat)
    case atStart => exact ⟨0, by omega, rfl, fun x _ _ hx => by omega, Below.refl _ _⟩
    case round =>
      obtain ⟨j, hj, rfl, hno, hbw⟩ := hrel
      have Hno := Lib.hid hno
      have Hbw := Lib.hid hbw
      by_cases hlt : j < k.fs.length
      · obtain ⟨_, _, q2⟩ := Flds.get (Blk.later HF.out hbw) j hlt
        obtain ⟨_, _, _, c3⟩ := (Blk.later HH1.out hbw).four
        have hjv : j < vs.length := by rw [Hlen.out]; exact hlt
        have hcj : wr.cell? ⟨bv, ov + j, none⟩ = some (.int .u64 (vs[j] : Int)) := by
          rw [(bcell (below_then Hb.out hbw)).1 bv (ov + j) hbv]; exact Hcv.out j hjv
        obtain ⟨f, hf⟩ : ∃ f, k.fs[j] = f := ⟨_, rfl⟩
        obtain ⟨x, hxj⟩ : ∃ x, vs[j] = x := ⟨_, rfl⟩
        obtain ⟨o1, o2, o3, o4, o5, o6⟩ := Fok.out f (by rw [← hf]; exact List.getElem_mem _)
        have hx64 : x < 2 ^ 64 := by rw [← hxj]; exact hx _ (List.getElem_mem _)
        rw [hf] at q2
        rw [hxj] at hcj
        have Hf := Lib.hid hf
        have Hxj := Lib.hid hxj
        clear hno hbw hf hxj o6
        have hj0 : (0 : Int) ≤ (j : Int) := by omega
        by_cases hg : x / 2 ^ (8 * f.sz) = 0
        · have HN := Lib.hid (number_fits x f.sz o4 hx64 hg)
          have Hg := Lib.hid hg
          clear hg hx64
          go_wp2_with fail
          go_region_held3 (fun w' => Below wr.heap.size wr w' ∧ w'.cell? ⟨w.heap.size, 3, none⟩ = some (.slice (some ⟨bv, ov, none⟩) vs.length c) ∧ w'.cell? ⟨bv, ov + j, none⟩ = some (.int .u64 (x : Int)) ∧ w'.cell? ⟨bf, j * 3 + 2, none⟩ = some (.int .i64 (f.sz : Int)))
            (first | assumption | exact ⟨Below.refl _ _, c3, hcj, q2⟩ | exact ⟨(Below.refl _ _).drew, c3, hcj, q2⟩ | exact keep3 (by assumption) hb')
            (first | ((with_reducible refine (HN.out _).mono ?_); rintro e w' ⟨rfl, hb'⟩))
          have hl := (‹Below wr.heap.size wr w' ∧ _›).1
          clear c3 hcj q2
          go_wp2_with fail
          go_roundw
          case rel => exact ⟨j + 1, by omega, by go_num, fun x hx hx2 hxj => by
            by_cases e : x = j
            · subst e; rw [Hf.out, Hxj.out]; exact Hg.out
            · exact Hno.out x hx hx2 (by omega), below_then Hbw.out hl⟩
          case measure => simp [intOf]; omega
        · have HN := Lib.hid (number_over x f.sz o4 hx64 hg)
          have Hg := Lib.hid hg
          clear hg hx64
          go_wp2_with fail
          go_region_held3 (fun w' => Below wr.heap.size wr w' ∧ w'.cell? ⟨w.heap.size, 3, none⟩ = some (.slice (some ⟨bv, ov, none⟩) vs.length c) ∧ w'.cell? ⟨bv, ov + j, none⟩ = some (.int .u64 (x : Int)) ∧ w'.cell? ⟨bf, j * 3 + 2, none⟩ = some (.int .i64 (f.sz : Int)))
            (first | assumption | exact ⟨Below.refl _ _, c3, hcj, q2⟩ | exact ⟨(Below.refl _ _).drew, c3, hcj, q2⟩ | exact keep3 (by assumption) hb')
            (first | ((with_reducible refine (HN.out _).mono ?_); rintro e w' ⟨rfl, hb'⟩))
          have hl := (‹Below wr.heap.size wr w' ∧ _›).1
          have HC2 := (HC1.out.later Hbw.out).later hl
          obtain ⟨d0, d1⟩ := HC2.cells
          have f0 := HC2.frozen 0
          have f1 := HC2.frozen 1
          have Hl := Lib.hid (below_then (below_then Hb.out Hbw.out) hl)
          have hbad : badVal k.fs vs = some j := badVal_first hlt hjv (fun x hx => Hno.out x (by omega) (by omega) hx) (by rw [Hf.out, Hxj.out]; exact Hg.out)
          have Hbad := Lib.hid hbad
          clear c3 hcj q2 hl HC2 hbad
          go_wp2_with fail
          refine bodyPost_ret (v := faultV 2 j) (by simp [results, Tryz.results16, go_sem, d0, d1, faultV]) rfl ?_
          rw [badR_some Hbad.out]
          exact ⟨rfl, (Hl.out.setCell (by simp) _).setCell (by simp) _⟩
      · clear hno hbw
        have HC2 := Lib.hid (HC1.out.later Hbw.out)
        have Hl := Lib.hid (below_then Hb.out Hbw.out)
        have hjn : j = k.fs.length := by omega
        have Hbad := Lib.hid (badR_none (badVal_none Hlen.out (fun x hx => Hno.out x hx (by rw [Hlen.out]; exact hx) (by omega))))
        clear hjn
        go_wp2_with fail
        refine (goodF _).mono ?_
        rintro e w2 ⟨rfl, hb⟩
        have HC3 := HC2.out.later hb
        obtain ⟨d0, d1⟩ := HC3.cells
        have f0 := HC3.frozen 0
        have f1 := HC3.frozen 1
        have Hl2 := Lib.hid (below_then Hl.out hb)
        clear hb HC3
        go_wp2_with fail
        refine bodyPost_ret (v := faultV 0 (-1)) (by simp [results, Tryz.results16, go_sem, d0, d1, faultV]) rfl ?_
        rw [Hbad.out]
        exact ⟨rfl, (Hl2.out.setCell (by simp) _).setCell (by simp) _⟩
theorem refRight_any (h : Hd) (v : Value) (w : World) (hfl : I64 h.fl) (hv : Vals w v h.vs) (hll : h.vs.length ≤ 9223372036854775807) :
    Calls Tryz.prog 16 #[headV h v] w (RetF w (rightR h)) := by
  cases hk : kindOf h.op with
  | none =>
    have e : rightR h = (1, -1) := by unfold rightR; rw [hk]
    rw [e]
    exact refRight_none h v w hk
  | some k =>
    have e : rightR h = rightK k h.now h.op h.fl h.vs := by unfold rightR; rw [hk]
    rw [e]
    unfold rightK
    by_cases hb : ((h.now && decide (32 ≤ h.op)) || !flOk h.fl k.fl) = true
    · rw [if_pos hb]
      refine refRight_form h v k w hk hfl ?_
      simp only [Bool.or_eq_true, Bool.not_eq_true'] at hb
      exact hb
    · rw [if_neg hb]
      simp only [Bool.or_eq_true, Bool.and_eq_true, decide_eq_true_eq, Bool.not_eq_true', not_or, not_and] at hb
      have hnow : h.now = true → h.op < 32 := fun hn => by have := hb.1 hn; omega
      have hok : flOk h.fl k.fl = true := by simpa using hb.2
      by_cases hl : h.vs.length ≠ k.fs.length
      · rw [if_pos hl]
        exact refRight_len h v k w hk hfl hv hll hnow hok hl
      · rw [if_neg hl]
        exact refRight_vals h v k w hk hfl hv hnow hok (by omega)
end Go.Proofs.YtffdlchoaaakdaaGreatDoor
