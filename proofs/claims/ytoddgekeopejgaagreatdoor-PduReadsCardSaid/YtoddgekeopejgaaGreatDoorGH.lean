/- Several texts in one: ref.HeadRight: what is wrong with a head, as the reference has it.  | ref.HeadRight where just values may be wrong; the whole of it.  | wp_region_flow with its side conditions reckoned, its steps one by one.  | Fault.Is.  | ref.HeadWrite: a head in 48 bytes, as the reference has it: what can't be written.  | ref.HeadWrite: a head that can be written.  | ref.HeadWrite: a head that can be written at once. Made by gen_rwrite.py.  | ref.HeadWrite: a head that can be written, not at once. Made by gen_rwrite.py.  -/
import Derived.Test.YtoddgekeopejgaaGreatDoorGF
import Derived.Test.YtoddgekeopejgaaGreatDoorGG
import Derived.Test.YtoddgekeopejgaaGreatDoorGD
import Derived.Laws.Tables
import Derived.Test.YtoddgekeopejgaaGreatDoorShRep
import Derived.Deep.RegionHeld3
import Derived.IntWalk
import Derived.Great.FillDense
namespace Go.Proofs.YtoddgekeopejgaaGreatDoor
open Go.RowKit
def RetF (w : World) (r : Int × Int) (e : Ending) (w' : World) : Prop := e = .returned (faultV r.1 r.2) ∧ Below w.heap.size w w'
theorem refRight_none (h : Hd) (v : Value) (w : World) (hk : kindOf h.op = none) : Calls Tryz.prog 47 #[headV h v] w (RetF w (1, -1)) := by
  unfold headV
  have hb0 := ((Below.refl w.heap.size w).alloc (Nat.le_refl _) (.cells #[.int .i64 h.op, .bool h.now, .int .i64 h.fl, v] 24)).alloc (by simp) (.cells #[.int .i64 0, .int .i64 0] 68)
  have hC0 := cell2_new (w.alloc (.cells #[.int .i64 h.op, .bool h.now, .int .i64 h.fl, v] 24))
  rw [World.size_alloc] at hC0
  have C := refKind_any h.op ((w.alloc (.cells #[.int .i64 h.op, .bool h.now, .int .i64 h.fl, v] 24)).alloc (.cells #[.int .i64 0, .int .i64 0] 68))
  rw [hk] at C
  have HC := Lib.hid C
  have Hb0 := Lib.hid hb0
  have HC0 := Lib.hid hC0
  clear hk hb0 C hC0
  go_enter Tryz.func47, Tryz.ntmps47
  go_wp2_with fail
  refine HC.out.mono ?_
  rintro e w1 ⟨rfl, hb⟩
  have Hb := Lib.hid (below_then Hb0.out hb)
  have HC1 := Lib.hid (HC0.out.later hb)
  clear hb
  go_wp2_with fail
  refine (bareF 1 _).mono ?_
  rintro e w2 ⟨rfl, hb⟩
  have Hb2 := Lib.hid (below_then Hb.out hb)
  have HC2 := HC1.out.later hb
  obtain ⟨q0, q1⟩ := HC2.cells
  have f0 := HC2.frozen 0
  have f1 := HC2.frozen 1
  clear hb HC2
  go_wp2_with fail
  refine bodyPost_ret (v := faultV 1 (-1)) (by simp [results, Tryz.results47, go_sem, q0, q1, faultV]) rfl ⟨rfl, ?_⟩
  exact (Hb2.out.setCell (by simp) _).setCell (by simp) _
theorem refRight_form (h : Hd) (v : Value) (k : Kd) (w : World) (hk : kindOf h.op = some k) (hfl : I64 h.fl)
    (hbad : (h.now && decide (32 ≤ h.op)) = true ∨ flOk h.fl k.fl = false) : Calls Tryz.prog 47 #[headV h v] w (RetF w (3, -1)) := by
  obtain ⟨op, now, fl, vs⟩ := h
  unfold headV
  simp only at *
  have F := kindFacts hk
  have hb0 := ((Below.refl w.heap.size w).alloc (Nat.le_refl _) (.cells #[.int .i64 op, .bool now, .int .i64 fl, v] 24)).alloc (by simp) (.cells #[.int .i64 0, .int .i64 0] 68)
  have hC0 := cell2_new (w.alloc (.cells #[.int .i64 op, .bool now, .int .i64 fl, v] 24))
  rw [World.size_alloc] at hC0
  have hH0 := (Blk.new w #[.int .i64 op, .bool now, .int .i64 fl, v] 24).alloc (.cells #[.int .i64 0, .int .i64 0] 68)
  have C := refKind_any op ((w.alloc (.cells #[.int .i64 op, .bool now, .int .i64 fl, v] 24)).alloc (.cells #[.int .i64 0, .int .i64 0] 68))
  rw [hk] at C
  have HC := Lib.hid C
  have Hb0 := Lib.hid hb0
  have HC0 := Lib.hid hC0
  have HH0 := Lib.hid hH0
  have hcase : (now = true ∧ 32 ≤ op) ∨ (now = true ∧ op < 32 ∧ fl < 0) ∨ (now = true ∧ op < 32 ∧ 0 ≤ fl ∧ (bits .or .i64 fl (k.fl : Int) != k.fl) = true) ∨ (now = false ∧ fl < 0) ∨ (now = false ∧ 0 ≤ fl ∧ (bits .or .i64 fl (k.fl : Int) != k.fl) = true) := by
    have hno : ¬ (now = true ∧ 32 ≤ op) → 0 ≤ fl → (bits .or .i64 fl (k.fl : Int) != k.fl) = true := fun hn h0 => or_no fl k.fl F.fl h0 hfl.2 (hbad.resolve_left (by simpa using hn))
    cases now with
    | true =>
      by_cases h1 : 32 ≤ op
      · exact .inl ⟨rfl, h1⟩
      · by_cases h2 : fl < 0
        · exact .inr (.inl ⟨rfl, by omega, h2⟩)
        · exact .inr (.inr (.inl ⟨rfl, by omega, by omega, hno (fun h => h1 h.2) (by omega)⟩))
    | false =>
      by_cases h2 : fl < 0
      · exact .inr (.inr (.inr (.inl ⟨rfl, h2⟩)))
      · exact .inr (.inr (.inr (.inr ⟨rfl, by omega, hno (fun h => by cases h.1) (by omega)⟩)))
  clear hk hb0 C hC0 hH0 hbad hfl F
  rcases hcase with ⟨rfl, h1⟩ | ⟨rfl, h1, h2⟩ | ⟨rfl, h1, h2, h3⟩ | ⟨rfl, h2⟩ | ⟨rfl, h2, h3⟩
  all_goals
    go_enter Tryz.func47, Tryz.ntmps47
    go_wp2_with fail
    refine HC.out.mono ?_
    rintro e w1 ⟨bf, rfl, hF, hb⟩
    obtain ⟨q0, q1, q2, q3⟩ := (Blk.later HH0.out hb).four
    have hz : w.heap.size + 1 < w1.heap.size := by have := hb.size; simp at this; omega
    have Hb := Lib.hid (below_then Hb0.out hb)
    have HC1 := Lib.hid (HC0.out.later hb)
    have HH1 := Lib.hid (Blk.later HH0.out hb)
    have HF := Lib.hid hF
    clear hb hF
    go_wp2_with fail
    refine (bareF 3 _).mono ?_
    rintro e w2 ⟨rfl, hb⟩
    have Hb2 := Lib.hid (below_then Hb.out hb)
    have HC2 := HC1.out.later hb
    obtain ⟨c0, c1⟩ := HC2.cells
    have f0 := HC2.frozen 0
    have f1 := HC2.frozen 1
    clear hb HC2 q0 q1 q2 q3
    go_wp2_with fail
    refine bodyPost_ret (v := faultV 3 (-1)) (by simp [results, Tryz.results47, go_sem, c0, c1, faultV]) rfl ⟨rfl, ?_⟩
    exact (Hb2.out.setCell (by simp) _).setCell (by simp) _
theorem refRight_len (h : Hd) (v : Value) (k : Kd) (w : World) (hk : kindOf h.op = some k) (hfl : I64 h.fl) (hv : Vals w v h.vs) (hll : h.vs.length ≤ 9223372036854775807)
    (hnow : h.now = true → h.op < 32) (hok : flOk h.fl k.fl = true) (hlen : h.vs.length ≠ k.fs.length) : Calls Tryz.prog 47 #[headV h v] w (RetF w (7, -1)) := by
  obtain ⟨op, now, fl, vs⟩ := h
  unfold headV
  simp only at *
  obtain ⟨p, c, rfl, _, _⟩ := hv
  have F := kindFacts hk
  have hb0 := ((Below.refl w.heap.size w).alloc (Nat.le_refl _) (.cells #[.int .i64 op, .bool now, .int .i64 fl, (.slice p vs.length c)] 24)).alloc (by simp) (.cells #[.int .i64 0, .int .i64 0] 68)
  have hC0 := cell2_new (w.alloc (.cells #[.int .i64 op, .bool now, .int .i64 fl, (.slice p vs.length c)] 24))
  rw [World.size_alloc] at hC0
  have hH0 := (Blk.new w #[.int .i64 op, .bool now, .int .i64 fl, (.slice p vs.length c)] 24).alloc (.cells #[.int .i64 0, .int .i64 0] 68)
  have C := refKind_any op ((w.alloc (.cells #[.int .i64 op, .bool now, .int .i64 fl, (.slice p vs.length c)] 24)).alloc (.cells #[.int .i64 0, .int .i64 0] 68))
  rw [hk] at C
  have HC := Lib.hid C
  have Hb0 := Lib.hid hb0
  have HC0 := Lib.hid hC0
  have HH0 := Lib.hid hH0
  have h0 : 0 ≤ fl := by
    unfold flOk at hok
    simp at hok
    exact hok.1
  have hA := or_yes fl k.fl F.fl h0 hfl.2 hok
  have hAA : ((k.fl : Int) != (k.fl : Int)) = false := by simp
  have hl10 := F.len
  have hcase : (now = true ∧ op < 32) ∨ now = false := by cases now with
    | true => exact .inl ⟨rfl, hnow rfl⟩
    | false => exact .inr rfl
  have hne : ((k.fs.length : Int) != (vs.length : Int)) = true := by rw [bne_iff_ne]; omega
  clear hk hb0 C hC0 hH0 hfl F hok hnow hlen
  rcases hcase with ⟨rfl, h32⟩ | rfl
  all_goals
    go_enter Tryz.func47, Tryz.ntmps47
    go_wp2_with fail
    refine HC.out.mono ?_
    rintro e w1 ⟨bf, rfl, hF, hb⟩
    obtain ⟨q0, q1, q2, q3⟩ := (Blk.later HH0.out hb).four
    have hz : w.heap.size + 1 < w1.heap.size := by have := hb.size; simp at this; omega
    have Hb := Lib.hid (below_then Hb0.out hb)
    have HC1 := Lib.hid (HC0.out.later hb)
    have HH1 := Lib.hid (Blk.later HH0.out hb)
    have HF := Lib.hid hF
    clear hb hF
    go_wp2_with fail
    refine (bareF 7 _).mono ?_
    rintro e w2 ⟨rfl, hb⟩
    have Hb2 := Lib.hid (below_then Hb.out hb)
    have HC2 := HC1.out.later hb
    obtain ⟨c0, c1⟩ := HC2.cells
    have f0 := HC2.frozen 0
    have f1 := HC2.frozen 1
    clear hb HC2 q0 q1 q2 q3
    go_wp2_with fail
    refine bodyPost_ret (v := faultV 7 (-1)) (by simp [results, Tryz.results47, go_sem, c0, c1, faultV]) rfl ⟨rfl, ?_⟩
    exact (Hb2.out.setCell (by simp) _).setCell (by simp) _
end Go.Proofs.YtoddgekeopejgaaGreatDoor
namespace Go.Proofs.YtoddgekeopejgaaGreatDoor
open Go.RowKit
theorem keep3 {W w w' : World} {a b c : Addr} {x y z : Value} (h : Below W.heap.size W w ∧ w.cell? a = some x ∧ w.cell? b = some y ∧ w.cell? c = some z) (hb : Below w.heap.size w w') :
    Below W.heap.size W w' ∧ w'.cell? a = some x ∧ w'.cell? b = some y ∧ w'.cell? c = some z :=
  ⟨below_then h.1 hb, by rw [hb.cell (block_lt_of_cell h.2.1)]; exact h.2.1, by rw [hb.cell (block_lt_of_cell h.2.2.1)]; exact h.2.2.1, by rw [hb.cell (block_lt_of_cell h.2.2.2)]; exact h.2.2.2⟩
theorem number_fits (x sz : Nat) (h8 : sz ≤ 8) (hx : x < 2 ^ 64) (hg : x / 2 ^ (8 * sz) = 0) (w : World) :
    Calls Tryz.prog 67 #[.int .u64 x, .int .i64 sz] w fun e w' => e = .returned (.tuple #[.string (S (be x sz)), .int .i64 0]) ∧ Below w.heap.size w w' := by
  have he : putE x (sz : Int) = 0 := by unfold putE; rw [if_neg (by omega), Int.toNat_natCast, if_pos hg]
  have hs : putS x (sz : Int) = be x sz := by unfold putS; rw [he, if_pos rfl, Int.toNat_natCast]
  have := number_all x sz w hx
  rw [he, hs] at this
  exact this
theorem number_over (x sz : Nat) (h8 : sz ≤ 8) (hx : x < 2 ^ 64) (hg : x / 2 ^ (8 * sz) ≠ 0) (w : World) :
    Calls Tryz.prog 67 #[.int .u64 x, .int .i64 sz] w fun e w' => e = .returned (.tuple #[.string (S []), .int .i64 4]) ∧ Below w.heap.size w w' := by
  have he : putE x (sz : Int) = 4 := by unfold putE; rw [if_neg (by omega), Int.toNat_natCast, if_neg hg]
  have hs : putS x (sz : Int) = [] := by unfold putS; rw [he, if_neg (by decide)]
  have := number_all x sz w hx
  rw [he, hs] at this
  exact this
set_option maxRecDepth 100000 in
set_option maxHeartbeats 1000000 in
theorem refRight_vals (h : Hd) (v : Value) (k : Kd) (w : World) (hk : kindOf h.op = some k) (hfl : I64 h.fl) (hv : Vals w v h.vs)
    (hnow : h.now = true → h.op < 32) (hok : flOk h.fl k.fl = true) (hlen : h.vs.length = k.fs.length) : Calls Tryz.prog 47 #[headV h v] w (RetF w (badR k.fs h.vs)) := by
  obtain ⟨op, now, fl, vs⟩ := h
  unfold headV
  simp only at *
  obtain ⟨p, c, rfl, hx, hcell⟩ := hv
  have F := kindFacts hk
  have hb0 := ((Below.refl w.heap.size w).alloc (Nat.le_refl _) (.cells #[.int .i64 op, .bool now, .int .i64 fl, (.slice p vs.length c)] 24)).alloc (by simp) (.cells #[.int .i64 0, .int .i64 0] 68)
  have hC0 := cell2_new (w.alloc (.cells #[.int .i64 op, .bool now, .int .i64 fl, (.slice p vs.length c)] 24))
  rw [World.size_alloc] at hC0
  have hH0 := (Blk.new w #[.int .i64 op, .bool now, .int .i64 fl, (.slice p vs.length c)] 24).alloc (.cells #[.int .i64 0, .int .i64 0] 68)
  have C := refKind_any op ((w.alloc (.cells #[.int .i64 op, .bool now, .int .i64 fl, (.slice p vs.length c)] 24)).alloc (.cells #[.int .i64 0, .int .i64 0] 68))
  rw [hk] at C
  have HC := Lib.hid C
  have Hb0 := Lib.hid hb0
  have HC0 := Lib.hid hC0
  have HH0 := Lib.hid hH0
  obtain ⟨bv, ov, rfl, hcv⟩ := hcell (by have := F.len0; omega)
  have h0 : 0 ≤ fl := by
    unfold flOk at hok
    simp at hok
    exact hok.1
  have hA := or_yes fl k.fl F.fl h0 hfl.2 hok
  have hAA : ((k.fl : Int) != (k.fl : Int)) = false := by simp
  have hl10 := F.len
  have hl1 := F.len0
  have Fok := Lib.hid F.fok
  have Hlen := Lib.hid hlen
  have Hcv := Lib.hid hcv
  have hbv : bv < w.heap.size := block_lt_of_cell (w := w) (a := ⟨bv, ov + 0, none⟩) (hcv 0 (by omega))
  have hcase : (now = true ∧ op < 32) ∨ now = false := by cases now with
    | true => exact .inl ⟨rfl, hnow rfl⟩
    | false => exact .inr rfl
  have hne : ((k.fs.length : Int) != (vs.length : Int)) = false := by rw [hlen]; simp
  have hvl : vs.length ≤ 10 := by omega
  clear hk hb0 C hC0 hH0 hfl F hok hnow hlen hcv hcell
  rcases hcase with ⟨rfl, h32⟩ | rfl
  all_goals
    go_enter Tryz.func47, Tryz.ntmps47
    go_wp2_with fail
    refine HC.out.mono ?_
    rintro e w1 ⟨bf, rfl, hF, hb⟩
    obtain ⟨q0, q1, q2, q3⟩ := (Blk.later HH0.out hb).four
    have hz : w.heap.size + 1 < w1.heap.size := by have := hb.size; simp at this; omega
    have Hb := Lib.hid (below_then Hb0.out hb)
    have HC1 := Lib.hid (HC0.out.later hb)
    have HH1 := Lib.hid (Blk.later HH0.out hb)
    have HF := Lib.hid hF
    clear hb hF
    go_wp2_with fail
    clear q0 q1 q2 q3
    go_loopw [51] (fun i wr => ∃ j : Nat, j ≤ k.fs.length ∧ i = .int .i64 j ∧ (∀ x (hx : x < k.fs.length) (hx2 : x < vs.length), x < j → vs[x] / 2 ^ (8 * k.fs[x].sz) = 0) ∧ Below w1.heap.size w1 wr) (fun i _ => k.fs.length - (intOf i).toNat)
    case atStart => exact ⟨0, by omega, rfl, fun x _ _ hx => by omega, Below.refl _ _⟩
    case round =>
      obtain ⟨j, hj, rfl, hno, hbw⟩ := hrel
      have Hno := Lib.hid hno
      have Hbw := Lib.hid hbw
      by_cases hlt : j < k.fs.length
      · obtain ⟨_, _, q2⟩ := Flds.get (Blk.later HF.out hbw) j hlt
        obtain ⟨_, _, _, c3⟩ := (Blk.later HH1.out hbw).four
        have hjv : j < vs.length := by rw [Hlen.out]; exact hlt
        have hcj : wr.cell? ⟨bv, ov + j, none⟩ = some (.int .u64 (vs[j] : Int)) := by
          rw [(bcell (below_then Hb.out hbw)).1 bv (ov + j) hbv]; exact Hcv.out j hjv
        obtain ⟨f, hf⟩ : ∃ f, k.fs[j] = f := ⟨_, rfl⟩
        obtain ⟨x, hxj⟩ : ∃ x, vs[j] = x := ⟨_, rfl⟩
        obtain ⟨o1, o2, o3, o4, o5, o6⟩ := Fok.out f (by rw [← hf]; exact List.getElem_mem _)
        have hx64 : x < 2 ^ 64 := by rw [← hxj]; exact hx _ (List.getElem_mem _)
        rw [hf] at q2
        rw [hxj] at hcj
        have Hf := Lib.hid hf
        have Hxj := Lib.hid hxj
        clear hno hbw hf hxj o6
        have hj0 : (0 : Int) ≤ (j : Int) := by omega
        by_cases hg : x / 2 ^ (8 * f.sz) = 0
        · have HN := Lib.hid (number_fits x f.sz o4 hx64 hg)
          have Hg := Lib.hid hg
          clear hg hx64
          go_wp2_with fail
          go_region_held3 (fun w' => Below wr.heap.size wr w' ∧ w'.cell? ⟨w.heap.size, 3, none⟩ = some (.slice (some ⟨bv, ov, none⟩) vs.length c) ∧ w'.cell? ⟨bv, ov + j, none⟩ = some (.int .u64 (x : Int)) ∧ w'.cell? ⟨bf, j * 3 + 2, none⟩ = some (.int .i64 (f.sz : Int)))
            (first | assumption | exact ⟨Below.refl _ _, c3, hcj, q2⟩ | exact ⟨(Below.refl _ _).drew, c3, hcj, q2⟩ | exact keep3 (by assumption) hb')
            (first | ((with_reducible refine (HN.out _).mono ?_); rintro e w' ⟨rfl, hb'⟩))
          have hl := (‹Below wr.heap.size wr w' ∧ _›).1
          clear c3 hcj q2
          go_wp2_with fail
          go_roundw
          case rel => exact ⟨j + 1, by omega, by go_num, fun x hx hx2 hxj => by
            by_cases e : x = j
            · subst e; rw [Hf.out, Hxj.out]; exact Hg.out
            · exact Hno.out x hx hx2 (by omega), below_then Hbw.out hl⟩
          case measure => simp [intOf]; omega
        · have HN := Lib.hid (number_over x f.sz o4 hx64 hg)
          have Hg := Lib.hid hg
          clear hg hx64
          go_wp2_with fail
          go_region_held3 (fun w' => Below wr.heap.size wr w' ∧ w'.cell? ⟨w.heap.size, 3, none⟩ = some (.slice (some ⟨bv, ov, none⟩) vs.length c) ∧ w'.cell? ⟨bv, ov + j, none⟩ = some (.int .u64 (x : Int)) ∧ w'.cell? ⟨bf, j * 3 + 2, none⟩ = some (.int .i64 (f.sz : Int)))
            (first | assumption | exact ⟨Below.refl _ _, c3, hcj, q2⟩ | exact ⟨(Below.refl _ _).drew, c3, hcj, q2⟩ | exact keep3 (by assumption) hb')
            (first | ((with_reducible refine (HN.out _).mono ?_); rintro e w' ⟨rfl, hb'⟩))
          have hl := (‹Below wr.heap.size wr w' ∧ _›).1
          have HC2 := (HC1.out.later Hbw.out).later hl
          obtain ⟨d0, d1⟩ := HC2.cells
          have f0 := HC2.frozen 0
          have f1 := HC2.frozen 1
          have Hl := Lib.hid (below_then (below_then Hb.out Hbw.out) hl)
          have hbad : badVal k.fs vs = some j := badVal_first hlt hjv (fun x hx => Hno.out x (by omega) (by omega) hx) (by rw [Hf.out, Hxj.out]; exact Hg.out)
          have Hbad := Lib.hid hbad
          clear c3 hcj q2 hl HC2 hbad
          go_wp2_with fail
          refine bodyPost_ret (v := faultV 2 j) (by simp [results, Tryz.results47, go_sem, d0, d1, faultV]) rfl ?_
          rw [badR_some Hbad.out]
          exact ⟨rfl, (Hl.out.setCell (by simp) _).setCell (by simp) _⟩
      · clear hno hbw
        have HC2 := Lib.hid (HC1.out.later Hbw.out)
        have Hl := Lib.hid (below_then Hb.out Hbw.out)
        have hjn : j = k.fs.length := by omega
        have Hbad := Lib.hid (badR_none (badVal_none Hlen.out (fun x hx => Hno.out x hx (by rw [Hlen.out]; exact hx) (by omega))))
        clear hjn
        go_wp2_with fail
        refine (goodF _).mono ?_
        rintro e w2 ⟨rfl, hb⟩
        have HC3 := HC2.out.later hb
        obtain ⟨d0, d1⟩ := HC3.cells
        have f0 := HC3.frozen 0
        have f1 := HC3.frozen 1
        have Hl2 := Lib.hid (below_then Hl.out hb)
        clear hb HC3
        go_wp2_with fail
        refine bodyPost_ret (v := faultV 0 (-1)) (by simp [results, Tryz.results47, go_sem, d0, d1, faultV]) rfl ?_
        rw [Hbad.out]
        exact ⟨rfl, (Hl2.out.setCell (by simp) _).setCell (by simp) _⟩
theorem refRight_any (h : Hd) (v : Value) (w : World) (hfl : I64 h.fl) (hv : Vals w v h.vs) (hll : h.vs.length ≤ 9223372036854775807) :
    Calls Tryz.prog 47 #[headV h v] w (RetF w (rightR h)) := by
  cases hk : kindOf h.op with
  | none =>
    have e : rightR h = (1, -1) := by unfold rightR; rw [hk]
    rw [e]
    exact refRight_none h v w hk
  | some k =>
    have e : rightR h = rightK k h.now h.op h.fl h.vs := by unfold rightR; rw [hk]
    rw [e]
    unfold rightK
    by_cases hb : ((h.now && decide (32 ≤ h.op)) || !flOk h.fl k.fl) = true
    · rw [if_pos hb]
      refine refRight_form h v k w hk hfl ?_
      simp only [Bool.or_eq_true, Bool.not_eq_true'] at hb
      exact hb
    · rw [if_neg hb]
      simp only [Bool.or_eq_true, Bool.and_eq_true, decide_eq_true_eq, Bool.not_eq_true', not_or, not_and] at hb
      have hnow : h.now = true → h.op < 32 := fun hn => by have := hb.1 hn; omega
      have hok : flOk h.fl k.fl = true := by simpa using hb.2
      by_cases hl : h.vs.length ≠ k.fs.length
      · rw [if_pos hl]
        exact refRight_len h v k w hk hfl hv hll hnow hok hl
      · rw [if_neg hl]
        exact refRight_vals h v k w hk hfl hv hnow hok (by omega)
end Go.Proofs.YtoddgekeopejgaaGreatDoor
namespace Go.Proofs.YtoddgekeopejgaaGreatDoor
open Go Go.RowKit
def flowOk (n0 : Nat) (ops : Array Oper) : Bool :=
  (ops.toList.zipIdx.all fun p => p.1.after.toList.all fun e => decide (e.on < p.2)) && (ops.toList.all fun o => o.guard.isNone && match o.dst with
    | some d => decide (d < n0)
    | none => false) && decide (ops.toList.map (·.dst)).Nodup
theorem flowOk_back {n0 : Nat} {ops : Array Oper} (h : flowOk n0 ops = true) (i : Nat) (o : Oper) (ho : ops[i]? = some o) : ∀ e ∈ o.after, e.on < i := by
  unfold flowOk at h
  simp only [Bool.and_eq_true] at h
  intro e he
  have h1 := List.all_eq_true.1 h.1.1 (o, i) (List.mem_zipIdx_iff_getElem?.2 (by simpa using ho))
  simpa using List.all_eq_true.1 h1 e (by simpa using he)
theorem flowOk_one {n0 : Nat} {ops : Array Oper} (h : flowOk n0 ops = true) (i : Nat) (o : Oper) (ho : ops[i]? = some o) : o.guard = none ∧ ∃ d, o.dst = some d ∧ d < n0 := by
  unfold flowOk at h
  simp only [Bool.and_eq_true] at h
  have h1 := List.all_eq_true.1 h.1.2 o (List.mem_of_getElem? (i := i) (by simpa using ho))
  simp only [Bool.and_eq_true, Option.isNone_iff_eq_none] at h1
  refine ⟨h1.1, ?_⟩
  cases hd : o.dst with
  | none => rw [hd] at h1; cases h1.2
  | some d => rw [hd] at h1; exact ⟨d, rfl, by simpa using h1.2⟩
theorem flowOk_inj {n0 : Nat} {ops : Array Oper} (h : flowOk n0 ops = true) (i j : Nat) (o o' : Oper) (ho : ops[i]? = some o) (ho' : ops[j]? = some o') (e : o.dst = o'.dst) : i = j := by
  unfold flowOk at h
  simp only [Bool.and_eq_true, decide_eq_true_eq] at h
  have hi : (ops.toList.map (·.dst))[i]? = some o.dst := by rw [List.getElem?_map, show ops.toList[i]? = some o by simpa using ho]; rfl
  have hj : (ops.toList.map (·.dst))[j]? = some o.dst := by rw [List.getElem?_map, show ops.toList[j]? = some o' by simpa using ho', e]; rfl
  obtain ⟨hi1, hi2⟩ := List.getElem?_eq_some_iff.1 hi
  obtain ⟨hj1, hj2⟩ := List.getElem?_eq_some_iff.1 hj
  have hp := List.pairwise_iff_getElem.1 h.2
  rcases Nat.lt_trichotomy i j with hlt | he | hlt
  · exact absurd (hi2.trans hj2.symm) (hp i j hi1 hj1 hlt)
  · exact he
  · exact absurd (hj2.trans hi2.symm) (hp j i hj1 hi1 hlt)
def flowUse (ops : Array Oper) (o : Oper) (j d : Nat) : Bool := (match ops.toList[j]? with
  | some o' => o'.dst == some d
  | none => false) && o.after.toList.any fun e => e.on == j && Region.binds .any e
def flowFree (ops : Array Oper) (s : Nat) : Bool := ops.toList.all fun o => o.dst != some s
def stepAll (G : Nat → Oper → Prop) : Nat → List Oper → Prop
  | _, [] => True
  | i, o :: l => G i o ∧ stepAll G (i + 1) l
theorem stepAll_at {G : Nat → Oper → Prop} : ∀ {l : List Oper} {k i : Nat} {o : Oper}, stepAll G k l → l[i]? = some o → G (k + i) o
  | [], _, _, _, _, h => by cases h
  | x :: l, k, 0, o, hg, h => by cases h; exact hg.1
  | x :: l, k, i + 1, o, hg, h => by
    have := stepAll_at (k := k + 1) hg.2 (by simpa using h)
    rw [show k + (i + 1) = k + 1 + i from by omega]; exact this
/-- one operation: what it is given, what it must do -/
def FlowStep (P : Program) (ops : Array Oper) (Pv : Nat → Value → World → Prop) (a0 : Act) (w0 : World) (Q : Exit → Act → World → Prop) (i : Nat) (o : Oper) : Prop :=
  ∀ (a : Act) (w : World), Below w0.heap.size w0 w → (∀ s, flowFree ops s = true → a.tmps.getD s undef = a0.tmps.getD s undef) → (∀ j d, flowUse ops o j d = true → Pv j (a.tmps.getD d undef) w) →
    Oper.wp P o a w (fun a' w' => ∃ v, a' = a.put o.dst v ∧ Pv i v w' ∧ Below w.heap.size w w') Q
theorem wp_region_flowB {P : Program} {ops : Array Oper} {Q : Exit → Act → World → Prop} {id : Nat} {a0 : Act} {w0 : World} (hm : P.follows .mixedOrders = true) (hok : flowOk a0.tmps.size ops = true)
    (Pv : Nat → Value → World → Prop) (hstable : ∀ i v (W W' : World), Pv i v W → Below W.heap.size W W' → Pv i v W')
    (hstep : stepAll (FlowStep P ops Pv a0 w0 Q) 0 ops.toList)
    (hdone : ∀ (a : Act) (w : World), Below w0.heap.size w0 w → a.defers = a0.defers → a.tmps.size = a0.tmps.size → (∀ s, flowFree ops s = true → a.tmps.getD s undef = a0.tmps.getD s undef) → (∀ j o d, ops.toList[j]? = some o → o.dst = some d → Pv j (a.tmps.getD d undef) w) → Q .normal a w) :
    (Code.region id ops true).wp P Q a0 w0 := by
  have hfree : ∀ s, flowFree ops s = true → ∀ (j : Nat) (o : Oper), ops[j]? = some o → o.dst ≠ some s := fun s hs j o ho => by
    have := List.all_eq_true.1 hs o (List.mem_of_getElem? (i := j) (by simpa using ho))
    simpa using this
  refine wp_region_flow hm (flowOk_back hok) Pv hstable (fun i o h => (flowOk_one hok i o h).2) (flowOk_inj hok) (fun i o h => (flowOk_one hok i o h).1) ?_ ?_
  · intro i o ho listed a w hI hall
    have h := stepAll_at (i := i) (o := o) hstep (by simpa using ho)
    rw [Nat.zero_add] at h
    refine h a w hI.low (fun s hs => hI.rest s (hfree s hs)) (fun j d hu => ?_)
    unfold flowUse at hu
    simp only [Bool.and_eq_true, List.any_eq_true, beq_iff_eq] at hu
    obtain ⟨hu1, e, he, rfl, hb⟩ := hu
    cases hj : ops.toList[e.on]? with
    | none => rw [hj] at hu1; cases hu1
    | some o' =>
      rw [hj] at hu1
      exact hI.vals e.on o' d (by simpa using hj) (by simpa using hu1) (hall e (by simpa using he) hb)
  · intro listed a w hI hall
    exact hdone a w hI.low hI.defers hI.size (fun s hs => hI.rest s (hfree s hs)) (fun j o d ho hd => hI.vals j o d (by simpa using ho) hd (hall j (by have := (List.getElem?_eq_some_iff.1 ho).1; simpa using this)))
/-- values put one behind the other -/
def puts : Act → List (Option Tmp) → List Value → Act
  | a, d :: ds, v :: vs => puts (a.put d v) ds vs
  | a, _, _ => a
theorem act_eq {a b : Act} (hs : a.tmps.size = b.tmps.size) (hd : a.defers = b.defers) (h : ∀ s, a.tmps.getD s undef = b.tmps.getD s undef) : a = b := by
  obtain ⟨T, D⟩ := a
  obtain ⟨T', D'⟩ := b
  simp only at hs hd h
  subst hd
  congr 1
  apply Array.ext hs
  intro i h1 h2
  have := h i
  simpa [Array.getD, h1, h2] using this
theorem put_size (a : Act) (d : Option Tmp) (v : Value) : (a.put d v).tmps.size = a.tmps.size := by cases d <;> simp [Act.put]
theorem put_defers (a : Act) (d : Option Tmp) (v : Value) : (a.put d v).defers = a.defers := by cases d <;> simp [Act.put]
theorem puts_size : ∀ (ds : List (Option Tmp)) (vs : List Value) (a : Act), (puts a ds vs).tmps.size = a.tmps.size
  | [], vs, a => by cases vs <;> rfl
  | d :: ds, [], a => rfl
  | d :: ds, v :: vs, a => by rw [puts, puts_size ds vs, put_size]
theorem puts_defers : ∀ (ds : List (Option Tmp)) (vs : List Value) (a : Act), (puts a ds vs).defers = a.defers
  | [], vs, a => by cases vs <;> rfl
  | d :: ds, [], a => rfl
  | d :: ds, v :: vs, a => by rw [puts, puts_defers ds vs, put_defers]
theorem puts_out (s : Nat) : ∀ (ds : List (Option Tmp)) (vs : List Value) (a : Act), some s ∉ ds → (puts a ds vs).tmps.getD s undef = a.tmps.getD s undef
  | [], vs, a, _ => by cases vs <;> rfl
  | d :: ds, [], a, _ => rfl
  | d :: ds, v :: vs, a, h => by
    rw [puts, puts_out s ds vs _ (fun hm => h (List.mem_cons_of_mem _ hm))]
    cases d with
    | none => simp [Act.put]
    | some d => exact getD_put_ne v (fun e => h (by rw [e]; exact List.mem_cons_self ..))
theorem puts_in (s : Nat) : ∀ (ds : List (Option Tmp)) (vs : List Value) (a : Act) (j : Nat) (v : Value), ds.Nodup → ds[j]? = some (some s) → vs[j]? = some v → s < a.tmps.size → (puts a ds vs).tmps.getD s undef = v
  | [], _, _, _, _, _, h, _, _ => by simp at h
  | _ :: _, [], _, _, _, _, _, h, _ => by simp at h
  | d :: ds, u :: vs, a, 0, v, hn, h1, h2, hs => by
    simp only [List.getElem?_cons_zero, Option.some.injEq] at h1 h2
    subst h1 h2
    rw [puts, puts_out s ds vs _ (List.nodup_cons.1 hn).1]
    exact getD_put_same u hs
  | d :: ds, u :: vs, a, j + 1, v, hn, h1, h2, hs => by
    rw [puts]
    exact puts_in s ds vs _ j v (List.nodup_cons.1 hn).2 (by simpa using h1) (by simpa using h2) (by rw [put_size]; exact hs)
theorem wp_region_flowC {P : Program} {ops : Array Oper} {Q : Exit → Act → World → Prop} {id : Nat} {a0 : Act} {w0 : World} (hm : P.follows .mixedOrders = true) (hok : flowOk a0.tmps.size ops = true)
    (Pv : Nat → Value → World → Prop) (hstable : ∀ i v (W W' : World), Pv i v W → Below W.heap.size W W' → Pv i v W')
    (hstep : stepAll (FlowStep P ops Pv a0 w0 Q) 0 ops.toList)
    (hdone : ∀ (vs : List Value) (w : World), Below w0.heap.size w0 w → vs.length = ops.toList.length → (∀ j v, vs[j]? = some v → Pv j v w) → Q .normal (puts a0 (ops.toList.map (·.dst)) vs) w) :
    (Code.region id ops true).wp P Q a0 w0 := by
  refine wp_region_flowB hm hok Pv hstable hstep (fun a w hb hd hs hfree hvals => ?_)
  have hok' := hok
  unfold flowOk at hok'
  simp only [Bool.and_eq_true, decide_eq_true_eq] at hok'
  have h := hdone (ops.toList.map fun o => a.tmps.getD (o.dst.getD 0) undef) w hb (by simp) (fun j v hj => by
    rw [List.getElem?_map] at hj
    cases ho : ops.toList[j]? with
    | none => rw [ho] at hj; cases hj
    | some o =>
      rw [ho] at hj
      obtain ⟨_, d, hd, _⟩ := flowOk_one hok j o (by simpa using ho)
      have := Option.some.inj hj
      simp only [hd, Option.getD_some] at this
      rw [← this]
      exact hvals j o d ho hd)
  have e : a = puts a0 (ops.toList.map (·.dst)) (ops.toList.map fun o => a.tmps.getD (o.dst.getD 0) undef) := by
    refine act_eq (by rw [puts_size, hs]) (by rw [puts_defers, hd]) (fun s => ?_)
    by_cases hf : some s ∈ ops.toList.map (·.dst)
    · obtain ⟨j, hj, he⟩ := List.mem_iff_getElem.1 hf
      have hj' : j < ops.toList.length := by simpa using hj
      have hd' : (ops.toList[j]).dst = some s := by simpa using he
      obtain ⟨_, d, hdd, hlt⟩ := flowOk_one hok j (ops.toList[j]) (by rw [← Array.getElem?_toList]; exact List.getElem?_eq_getElem hj')
      have hds : d = s := by rw [hd'] at hdd; exact (Option.some.inj hdd).symm
      refine (puts_in s _ _ a0 j _ hok'.2 (by rw [List.getElem?_eq_getElem hj, he]) ?_ (hds ▸ hlt)).symm
      rw [List.getElem?_map, List.getElem?_eq_getElem hj']
      show some (a.tmps.getD ((ops.toList[j]).dst.getD 0) undef) = _
      rw [hd']
      rfl
    · rw [puts_out s _ _ _ hf]
      refine hfree s (List.all_eq_true.2 fun o ho => ?_)
      simp only [bne_iff_ne]
      exact fun h => hf (List.mem_map.2 ⟨o, ho, h⟩)
  rw [← e] at h
  exact h
end Go.Proofs.YtoddgekeopejgaaGreatDoor
namespace Go.Proofs.YtoddgekeopejgaaGreatDoor
open Go.RowKit
theorem isF_good (p : Int) (w : World) : Calls Tryz.prog 48 #[.agg #[.int .i64 0, .int .i64 p]] w fun e w' => e = .returned (.bool true) ∧ Below w.heap.size w w' := by
  go_enter Tryz.func48, Tryz.ntmps48
  go_wp2_with fail
  go_ret
  exact ⟨rfl, (Below.refl _ _).alloc (Nat.le_refl _) _⟩
theorem isF_bad (n p : Int) (w : World) (hn : n ≠ 0) : Calls Tryz.prog 48 #[.agg #[.int .i64 n, .int .i64 p]] w fun e w' => e = .returned (.bool false) ∧ Below w.heap.size w w' := by
  have hb : (n == 0) = false := by simpa using hn
  go_enter Tryz.func48, Tryz.ntmps48
  go_wp2_with fail
  go_ret
  exact ⟨rfl, (Below.refl _ _).alloc (Nat.le_refl _) _⟩
end Go.Proofs.YtoddgekeopejgaaGreatDoor
namespace Go.Proofs.YtoddgekeopejgaaGreatDoor
open Go.RowKit
theorem refWrite_bad (h : Hd) (v : Value) (words data : Int) (w : World) (hfl : I64 h.fl) (hv : Vals w v h.vs) (hll : h.vs.length ≤ 9223372036854775807) (hr : (rightR h).1 ≠ 0) :
    Calls Tryz.prog 38 #[headV h v, .int .i64 words, .int .i64 data] w (RetSF w ([], rightR h)) := by
  have C : ∀ W, Vals W v h.vs → Calls Tryz.prog 47 #[headV h v] W (RetF W (rightR h)) := fun W hv => refRight_any h v W hfl hv hll
  obtain ⟨⟨r1, r2⟩, hrr⟩ : ∃ r, rightR h = r := ⟨_, rfl⟩
  rw [hrr] at hr C
  rw [hrr]
  clear hrr
  obtain ⟨op, now, fl, vs⟩ := h
  unfold headV at *
  simp only at *
  have hb0 := ((Below.refl w.heap.size w).alloc (Nat.le_refl _) (.cells #[.int .i64 op, .bool now, .int .i64 fl, v] 24)).alloc (by simp) (.cells #[.int .i64 0, .int .i64 0] 68)
  have hC0 := cell2_new (w.alloc (.cells #[.int .i64 op, .bool now, .int .i64 fl, v] 24))
  rw [World.size_alloc] at hC0
  have C0 := Lib.hid (C _ (hv.later hb0))
  have HI := Lib.hid (fun W => isF_bad r1 r2 W hr)
  have Hb0 := Lib.hid hb0
  have HC0 := Lib.hid hC0
  clear hb0 C hC0 hv hr
  go_enter Tryz.func38, Tryz.ntmps38
  go_wp2_with fail
  refine C0.out.mono ?_
  rintro e w1 ⟨rfl, hb⟩
  have Hb1 := Lib.hid (below_then Hb0.out hb)
  have HC1 := Lib.hid (HC0.out.later hb)
  unfold faultV
  simp only
  clear hb
  go_wp2_with fail
  have hN : Cell2 (w1.alloc (.cells #[.int .i64 r1, .int .i64 r2] 68)) w1.heap.size r1 r2 := heap_alloc_new w1 _
  have hbn := (Below.refl w1.heap.size w1).alloc (Nat.le_refl _) (.cells #[.int .i64 r1, .int .i64 r2] 68)
  have HC2 := Lib.hid (HC1.out.later hbn)
  have Hb2 := Lib.hid (below_then Hb1.out hbn)
  have HN := Lib.hid hN
  clear hN hbn
  refine (HI.out _).mono ?_
  rintro e w2 ⟨rfl, hb⟩
  obtain ⟨q0, q1⟩ := (HN.out.later hb).cells
  obtain ⟨d0, d1⟩ := (HC2.out.later hb).cells
  have f0 := (HC2.out.later hb).frozen 0
  have f1 := (HC2.out.later hb).frozen 1
  have Hb3 := Lib.hid (below_then Hb2.out hb)
  clear hb
  go_wp2_with fail
  go_region
  all_goals
    go_wp2_with fail
    refine bodyPost_ret (v := .tuple #[.string (S []), .agg #[.int .i64 r1, .int .i64 r2]]) (by simp [results, Tryz.results38, go_sem, d0, d1]) rfl ⟨rfl, ?_⟩
    exact (Hb3.out.drew.setCell (by simp) _).setCell (by simp) _
theorem refWrite_limit (h : Hd) (v : Value) (words data : Int) (w : World) (hfl : I64 h.fl) (hv : Vals w v h.vs) (hll : h.vs.length ≤ 9223372036854775807) (hr : rightR h = (0, -1))
    (hl : words < 0 ∨ 255 < words ∨ data < 0 ∨ 16777215 < data) :
    Calls Tryz.prog 38 #[headV h v, .int .i64 words, .int .i64 data] w (RetSF w ([], 4, -1)) := by
  have C : ∀ W, Vals W v h.vs → Calls Tryz.prog 47 #[headV h v] W (RetF W (rightR h)) := fun W hv => refRight_any h v W hfl hv hll
  rw [hr] at C
  clear hr
  obtain ⟨op, now, fl, vs⟩ := h
  unfold headV at *
  simp only at *
  have hb0 := ((Below.refl w.heap.size w).alloc (Nat.le_refl _) (.cells #[.int .i64 op, .bool now, .int .i64 fl, v] 24)).alloc (by simp) (.cells #[.int .i64 0, .int .i64 0] 68)
  have hC0 := cell2_new (w.alloc (.cells #[.int .i64 op, .bool now, .int .i64 fl, v] 24))
  rw [World.size_alloc] at hC0
  have C0 := Lib.hid (C _ (hv.later hb0))
  have Hb0 := Lib.hid hb0
  have HC0 := Lib.hid hC0
  have hcase : (words < 0 ∨ 255 < words) ∨ ((0 ≤ words ∧ words ≤ 255) ∧ (data < 0 ∨ 16777215 < data)) := by omega
  clear hb0 C hC0 hv hl
  rcases hcase with hw | ⟨hw, hd⟩
  · have W1 := Lib.hid (fun W => within_false words 0 255 W hw)
    clear hw
    go_enter Tryz.func38, Tryz.ntmps38
    go_wp2_with fail
    refine C0.out.mono ?_
    rintro e w1 ⟨rfl, hb⟩
    have Hb1 := Lib.hid (below_then Hb0.out hb)
    have HC1 := Lib.hid (HC0.out.later hb)
    unfold faultV
    simp only
    clear hb
    go_wp2_with fail
    have hbn := (Below.refl w1.heap.size w1).alloc (Nat.le_refl _) (.cells #[.int .i64 0, .int .i64 (-1)] 68)
    have HC2 := Lib.hid (HC1.out.later hbn)
    have Hb2 := Lib.hid (below_then Hb1.out hbn)
    clear hbn
    refine (isF_good _ _).mono ?_
    rintro e w2 ⟨rfl, hb⟩
    have HC3 := Lib.hid (HC2.out.later hb)
    have Hb3 := Lib.hid (below_then Hb2.out hb)
    clear hb
    go_wp2_with fail
    refine (W1.out _).mono ?_
    rintro e w3 ⟨rfl, rfl⟩
    go_wp2_with fail
    refine (bareF 4 _).mono ?_
    rintro e w4 ⟨rfl, hb⟩
    have HC4 := HC3.out.later hb
    obtain ⟨d0, d1⟩ := HC4.cells
    have f0 := HC4.frozen 0
    have f1 := HC4.frozen 1
    have Hb4 := Lib.hid (below_then Hb3.out hb)
    clear hb HC4
    go_wp2_with fail
    refine bodyPost_ret (v := .tuple #[.string (S []), .agg #[.int .i64 4, .int .i64 (-1)]]) (by simp [results, Tryz.results38, go_sem, d0, d1]) rfl ⟨rfl, ?_⟩
    exact (Hb4.out.setCell (by simp) _).setCell (by simp) _
  · have W1 := Lib.hid (fun W => within_true words 0 255 W hw.1 hw.2)
    have W2 := Lib.hid (fun W => within_false data 0 16777215 W hd)
    clear hw hd
    go_enter Tryz.func38, Tryz.ntmps38
    go_wp2_with fail
    refine C0.out.mono ?_
    rintro e w1 ⟨rfl, hb⟩
    have Hb1 := Lib.hid (below_then Hb0.out hb)
    have HC1 := Lib.hid (HC0.out.later hb)
    unfold faultV
    simp only
    clear hb
    go_wp2_with fail
    have hbn := (Below.refl w1.heap.size w1).alloc (Nat.le_refl _) (.cells #[.int .i64 0, .int .i64 (-1)] 68)
    have HC2 := Lib.hid (HC1.out.later hbn)
    have Hb2 := Lib.hid (below_then Hb1.out hbn)
    clear hbn
    refine (isF_good _ _).mono ?_
    rintro e w2 ⟨rfl, hb⟩
    have HC3 := Lib.hid (HC2.out.later hb)
    have Hb3 := Lib.hid (below_then Hb2.out hb)
    clear hb
    go_wp2_with fail
    refine (W1.out _).mono ?_
    rintro e w3 ⟨rfl, rfl⟩
    go_wp2_with fail
    refine (W2.out _).mono ?_
    rintro e w3 ⟨rfl, rfl⟩
    go_wp2_with fail
    refine (bareF 4 _).mono ?_
    rintro e w4 ⟨rfl, hb⟩
    have HC4 := HC3.out.later hb
    obtain ⟨d0, d1⟩ := HC4.cells
    have f0 := HC4.frozen 0
    have f1 := HC4.frozen 1
    have Hb4 := Lib.hid (below_then Hb3.out hb)
    clear hb HC4
    go_wp2_with fail
    refine bodyPost_ret (v := .tuple #[.string (S []), .agg #[.int .i64 4, .int .i64 (-1)]]) (by simp [results, Tryz.results38, go_sem, d0, d1]) rfl ⟨rfl, ?_⟩
    exact (Hb4.out.setCell (by simp) _).setCell (by simp) _
end Go.Proofs.YtoddgekeopejgaaGreatDoor
namespace Go.Proofs.YtoddgekeopejgaaGreatDoor
open Go Go.RowKit
theorem repeatL_zs (c : Nat) : Lib.repeatL [0] c = List.replicate c 0 := by
  induction c with
  | zero => rfl
  | succ c ih => show [0] ++ Lib.repeatL [0] c = _; rw [ih]; rfl
theorem rep40_any (w : World) : Calls Tryz.prog 70 #[.string (S [0]), .int .i64 40] w fun e w' => e = .returned (.string (S (List.replicate 40 0))) ∧ Below w.heap.size w w' := by
  have h := Tryz.strings_Repeat (S [0]) (40 : Nat) w (by omega) (by rw [S_size]; decide)
  have e : (S [0]).data.toList = [0] := rfl
  rw [e, repeatL_zs] at h
  exact h
theorem list14 {l : List Value} (h : l.length = 14) : ∃ y0 y1 y2 y3 y4 y5 y6 y7 y8 y9 y10 y11 y12 y13, l = [y0, y1, y2, y3, y4, y5, y6, y7, y8, y9, y10, y11, y12, y13] :=
  match l, h with
  | [y0, y1, y2, y3, y4, y5, y6, y7, y8, y9, y10, y11, y12, y13], _ => ⟨y0, y1, y2, y3, y4, y5, y6, y7, y8, y9, y10, y11, y12, y13, rfl⟩
theorem wrap_u8_in {n : Int} (h0 : 0 ≤ n) (h1 : n < 256) : IntKind.u8.wrap n = n := by
  simp [IntKind.wrap, IntKind.signed, IntKind.bits]
  omega
theorem opw_conv8 {o : Oper} {a : Act} {w : World} {x : Operand} {n : Int} {K : Act → World → Prop} {Q : Exit → Act → World → Prop} (ho : o.op = .convert 3 5 x) (hx : a.eval x = .int .i64 n) (hK : K (a.put o.dst (.int .u8 (IntKind.u8.wrap n))) w) : Oper.wp Tryz.prog o a w K Q := by
  refine opw_value ?_ hK
  have h : (convert 3 5 (.int .i64 n)).run Tryz.prog w = .ok (.int .u8 (IntKind.u8.wrap n)) w := by
    have u := Tryz.underlying3
    have u' := Tryz.underlying5
    go_simp
  unfold execOp
  rw [ho]
  simp only [Sem.run_bind, hx, h]
  rfl
theorem opw_fieldAddr2 {o : Oper} {a : Act} {w : World} {x : Operand} {b : Nat} {K : Act → World → Prop} {Q : Exit → Act → World → Prop} (ho : o.op = .fieldAddr 24 x 2) (hx : a.eval x = .pointer (some ⟨b, 0, none⟩)) (hK : K (a.put o.dst (.pointer (some ⟨b, 2, none⟩))) w) : Oper.wp Tryz.prog o a w K Q := by
  refine opw_value ?_ hK
  have h : (Instr.fieldAt 24 (.pointer (some ⟨b, 0, none⟩)) 2).run Tryz.prog w = .ok (.pointer (some ⟨b, 2, none⟩)) w := by
    have u := Tryz.underlying24
    go_simp
  unfold execOp
  rw [ho]
  simp only [Sem.run_bind, hx, h]
  rfl
theorem opw_loadI {o : Oper} {a : Act} {w : World} {x : Operand} {b i : Nat} {n : Int} {K : Act → World → Prop} {Q : Exit → Act → World → Prop} (ho : o.op = .load 3 x) (hx : a.eval x = .pointer (some ⟨b, i, none⟩)) (hc : w.cell? ⟨b, i, none⟩ = some (.int .i64 n)) (hK : K (a.put o.dst (.int .i64 n)) w) : Oper.wp Tryz.prog o a w K Q := by
  refine opw_value ?_ hK
  have h : (Instr.loadAt 3 (.pointer (some ⟨b, i, none⟩))).run Tryz.prog w = .ok (.int .i64 n) w := by
    go_simp
  unfold execOp
  rw [ho]
  simp only [Sem.run_bind, hx, h]
  rfl
theorem opw_row5 {o : Oper} {a : Act} {w : World} {x0 x1 x4 : Operand} {b0 b1 b4 : UInt8} {K : Act → World → Prop} {Q : Exit → Act → World → Prop} (ho : o.op = .buildSlice 103 5 #[(0, x0), (1, x1), (2, .const (.int .u8 0)), (3, .const (.int .u8 0)), (4, x4)])
    (h0 : a.eval x0 = .int .u8 (b0.toNat : Int)) (h1 : a.eval x1 = .int .u8 (b1.toNat : Int)) (h4 : a.eval x4 = .int .u8 (b4.toNat : Int)) (hK : K (a.put o.dst (.slice (some ⟨w.heap.size, 0, none⟩) 5 5)) (w.alloc (.cells (cells8 [b0, b1, 0, 0, b4]) 5))) : Oper.wp Tryz.prog o a w K Q := by
  obtain ⟨i, hi, hz, hs, _⟩ := info_parts (show (Tryz.prog.info? 5).map (fun i => (i.zero, i.size, i.bytes)) = some (some (.int .u8 0), 1, 1) by kernel_rfl)
  refine opw_value ?_ hK
  have h := run_buildSlice (P := Tryz.prog) w 103 5 5 #[(0, .int .u8 (b0.toNat : Int)), (1, .int .u8 (b1.toNat : Int)), (2, .int .u8 0), (3, .int .u8 0), (4, .int .u8 (b4.toNat : Int))] (cells8 [b0, b1, 0, 0, b4]) i _ Tryz.underlying103 hi hz (by rw [hs]; omega) (by rw [hs]; omega) (by
    rw [hs]
    exact Great.fill_whole (s := 1) (by decide) [.int .u8 (b0.toNat : Int), .int .u8 (b1.toNat : Int), .int .u8 0, .int .u8 0, .int .u8 (b4.toNat : Int)] _ (fun v hv => by simp at hv; rcases hv with rfl | rfl | rfl | rfl <;> rfl) (by simp))
  unfold execOp
  rw [ho]
  have e : ((#[(0, x0), (1, x1), (2, .const (.int .u8 0)), (3, .const (.int .u8 0)), (4, x4)] : Array (Nat × Operand)).map fun (i, x) => (i, a.eval x)) = #[(0, .int .u8 (b0.toNat : Int)), (1, .int .u8 (b1.toNat : Int)), (2, .int .u8 0), (3, .int .u8 0), (4, .int .u8 (b4.toNat : Int))] := by
    simp only [List.map_toArray, List.map_cons, List.map_nil, h0, h1, h4]
    rfl
  simp only [Sem.run_bind, e, h]
  rfl
theorem opw_str5 {o : Oper} {a : Act} {w : World} {x : Operand} {b : Nat} {l : List UInt8} {K : Act → World → Prop} {Q : Exit → Act → World → Prop} (ho : o.op = .convert 103 9 x) (hx : a.eval x = .slice (some ⟨b, 0, none⟩) l.length l.length) (hB : Blk w b (cells8 l) 5)
    (hK : K (a.put o.dst (.string (S l))) w) : Oper.wp Tryz.prog o a w K Q := by
  refine opw_value ?_ hK
  have h := run_string_at (P := Tryz.prog) 103 9 5 Tryz.underlying103 Tryz.underlying5 Tryz.underlying9 w b 0 l l.length (fun j hj => by rw [Nat.zero_add]; exact (hB.cell j).trans (cells8_get l j hj))
  unfold execOp
  rw [ho]
  simp only [Sem.run_bind, hx, h]
  rfl
theorem opw_addS {o : Oper} {a : Act} {w : World} {x y : Operand} {l m : List UInt8} {K : Act → World → Prop} {Q : Exit → Act → World → Prop} (ho : o.op = .binOp .add 9 x y 9) (hx : a.eval x = .string (S l)) (hy : a.eval y = .string (S m)) (hl : l.length + m.length ≤ 9223372036854775807) (hK : K (a.put o.dst (.string (S (l ++ m)))) w) : Oper.wp Tryz.prog o a w K Q := by
  refine opw_value ?_ hK
  have h : (binOp .add 9 (.string (S l)) (.string (S m))).run Tryz.prog w = .ok (.string (S (l ++ m))) w := by
    go_simp
  unfold execOp
  rw [ho]
  simp [hx, hy, h, eqGuard]
def wrP (first fl words : Int) (hb : Nat) (b0 b1 b4 : UInt8) (bd : List UInt8) : List (Value → World → Prop) :=
  [fun v _ => v = .int .i64 first, fun v _ => v = .int .u8 (b0.toNat : Int), fun v _ => v = .pointer (some ⟨hb, 2, none⟩), fun v _ => v = .int .i64 fl, fun v _ => v = .int .u8 (b1.toNat : Int), fun v _ => v = .int .i64 words,
   fun v _ => v = .int .u8 (b4.toNat : Int), fun v w => ∃ b, v = .slice (some ⟨b, 0, none⟩) 5 5 ∧ Blk w b (cells8 [b0, b1, 0, 0, b4]) 5, fun v _ => v = .string (S [b0, b1, 0, 0, b4]), fun v _ => v = .string (S bd),
   fun v _ => v = .string (S ([b0, b1, 0, 0, b4] ++ bd)), fun v _ => v = .string (S (List.replicate 40 0)), fun v _ => v = .string (S ([b0, b1, 0, 0, b4] ++ bd ++ List.replicate 40 0)), fun v _ => v = .string (S ([b0, b1, 0, 0, b4] ++ bd ++ List.replicate 40 0))]
def wrPv (first fl words : Int) (hb : Nat) (b0 b1 b4 : UInt8) (bd : List UInt8) (i : Nat) (v : Value) (w : World) : Prop := ((wrP first fl words hb b0 b1 b4 bd).getD i fun _ _ => True) v w
theorem wrPv_later (first fl words : Int) (hb : Nat) (b0 b1 b4 : UInt8) (bd : List UInt8) (i : Nat) (v : Value) (W W' : World) (h : wrPv first fl words hb b0 b1 b4 bd i v W) (hbl : Below W.heap.size W W') : wrPv first fl words hb b0 b1 b4 bd i v W' :=
  match i, h with
  | 0, h => h
  | 1, h => h
  | 2, h => h
  | 3, h => h
  | 4, h => h
  | 5, h => h
  | 6, h => h
  | 7, ⟨b, e, hB⟩ => ⟨b, e, hB.later hbl⟩
  | 8, h => h
  | 9, h => h
  | 10, h => h
  | 11, h => h
  | 12, h => h
  | 13, h => h
  | _ + 14, _ => trivial
end Go.Proofs.YtoddgekeopejgaaGreatDoor
namespace Go.Proofs.YtoddgekeopejgaaGreatDoor
open Go Go.RowKit
set_option maxRecDepth 100000 in
set_option maxHeartbeats 4000000 in
theorem refWrite_now (op fl : Int) (vs : List Nat) (v : Value) (words data : Nat) (k : Kd) (w : World) (hk : kindOf op = some k) (hfl : I64 fl) (hv : Vals w v vs) (hll : vs.length ≤ 9223372036854775807) (hr : rightR ⟨op, true, fl, vs⟩ = (0, -1))
    (hw : words ≤ 255) (hd : data ≤ 16777215) :
    Calls Tryz.prog 38 #[.agg #[.int .i64 op, .bool true, .int .i64 fl, v], .int .i64 words, .int .i64 data] w (RetSF w (headB ⟨op, true, fl, vs⟩ words data, 0, -1)) := by
  have C : ∀ W, Vals W v vs → Calls Tryz.prog 47 #[.agg #[.int .i64 op, .bool true, .int .i64 fl, v]] W (RetF W (rightR ⟨op, true, fl, vs⟩)) := fun W hv => refRight_any ⟨op, true, fl, vs⟩ v W hfl hv hll
  obtain ⟨k', hk', hnow, hok, hlen, hbad⟩ := rightR_good hr
  obtain rfl : k' = k := Option.some.inj (hk'.symm.trans hk)
  rw [hr] at C
  have hHB := headB_eq (h := ⟨op, true, fl, vs⟩) hk words data
  clear hr hk'
  simp only at *
  obtain ⟨p, c, rfl, hx64, hcell⟩ := id hv
  have F := kindFacts hk
  have hop := kindOf_range hk
  have hflb := flOk_bd F.fl hok
  obtain ⟨bv, ov, rfl, hcv⟩ := hcell (by have := F.len0; omega)
  have hbv : bv < w.heap.size := block_lt_of_cell (w := w) (a := ⟨bv, ov + 0, none⟩) (hcv 0 (by have := F.len0; omega))
  have hb0 := ((Below.refl w.heap.size w).alloc (Nat.le_refl _) (.cells #[.int .i64 op, .bool true, .int .i64 fl, .slice (some ⟨bv, ov, none⟩) vs.length c] 24)).alloc (by simp) (.cells #[.int .i64 0, .int .i64 0] 68)
  have hC0 := cell2_new (w.alloc (.cells #[.int .i64 op, .bool true, .int .i64 fl, .slice (some ⟨bv, ov, none⟩) vs.length c] 24))
  rw [World.size_alloc] at hC0
  have hH0 := (Blk.new w #[.int .i64 op, .bool true, .int .i64 fl, .slice (some ⟨bv, ov, none⟩) vs.length c] 24).alloc (.cells #[.int .i64 0, .int .i64 0] 68)
  have C0 := Lib.hid (C _ (hv.later hb0))
  have Hb0 := Lib.hid hb0
  have HC0 := Lib.hid hC0
  have HH0 := Lib.hid hH0
  have W1 := Lib.hid (fun W => within_true words 0 255 W (by omega) (by omega))
  have W2 := Lib.hid (fun W => within_true data 0 16777215 W (by omega) (by omega))
  have HN := Lib.hid (number_fits data 3 (by decide) (by omega) (Nat.div_eq_of_lt (by omega)))
  have K := fun w => refKind_any op w
  rw [hk] at K
  have HK := Lib.hid K
  have HHB := Lib.hid hHB
  have Hcv := Lib.hid hcv
  have Hlen := Lib.hid hlen
  have HF := Lib.hid F
  have Fok := Lib.hid F.fok
  have hl10 := F.len
  have hvl : vs.length ≤ 10 := by omega
  have Hx := Lib.hid hx64
  have HBad := Lib.hid hbad
  have hdw : IntKind.u64.wrap (data : Int) = data := wrap_u64_lt data (by omega)
  have h64 : op + 64 ≤ 200 := by omega
  have e0 := Lib.hid (show IntKind.u8.wrap (op + 64) = ((UInt8.ofNat (op.toNat + 64)).toNat : Int) by rw [UInt8.toNat_ofNat', wrap_u8_in (by omega) (by omega)]; omega)
  have e1 := Lib.hid (show IntKind.u8.wrap fl = ((UInt8.ofNat fl.toNat).toNat : Int) by rw [UInt8.toNat_ofNat', wrap_u8_in (by omega) (by omega)]; omega)
  have e4 := Lib.hid (show IntKind.u8.wrap (words : Int) = ((UInt8.ofNat words).toNat : Int) by rw [UInt8.toNat_ofNat', wrap_u8_in (by omega) (by omega)]; omega)
  have Hbase := Lib.hid (show [UInt8.ofNat (op.toNat + 64), UInt8.ofNat fl.toNat, 0, 0, UInt8.ofNat words] ++ be data 3 ++ List.replicate 40 0 = baseB ⟨op, true, fl, vs⟩ words data by
    unfold baseB
    simp [be, Nat.mod_eq_of_lt (show words < 256 by omega)])
  clear hb0 C hC0 hH0 hv K hHB hk hok hnow hcv hlen hx64 hcell hbad F
  go_enter Tryz.func38, Tryz.ntmps38
  go_wp2_with fail
  refine C0.out.mono ?_
  rintro e w1 ⟨rfl, hb⟩
  have Hb1 := Lib.hid (below_then Hb0.out hb)
  have HC1 := Lib.hid (HC0.out.later hb)
  have HH1 := Lib.hid (HH0.out.later hb)
  unfold faultV
  simp only
  clear hb
  go_wp2_with fail
  have hbn := (Below.refl w1.heap.size w1).alloc (Nat.le_refl _) (.cells #[.int .i64 0, .int .i64 (-1)] 68)
  have HC2 := Lib.hid (HC1.out.later hbn)
  have HH2 := Lib.hid (HH1.out.later hbn)
  have Hb2 := Lib.hid (below_then Hb1.out hbn)
  clear hbn
  refine (isF_good _ _).mono ?_
  rintro e w2 ⟨rfl, hb⟩
  have HC3 := Lib.hid (HC2.out.later hb)
  have HH3 := Lib.hid (HH2.out.later hb)
  have Hb3 := Lib.hid (below_then Hb2.out hb)
  clear hb
  obtain ⟨q0, q1, q2, q3⟩ := HH3.out.four
  go_wp2_with fail
  refine (W1.out _).mono ?_
  rintro e w3 ⟨rfl, rfl⟩
  go_wp2_with fail
  refine (W2.out _).mono ?_
  rintro e w3 ⟨rfl, rfl⟩
  go_wp2_with fail
  refine (HN.out _).mono ?_
  rintro e w4 ⟨rfl, hb⟩
  have HC4 := Lib.hid (HC3.out.later hb)
  have HH4 := Lib.hid (HH3.out.later hb)
  have Hb4 := Lib.hid (below_then Hb3.out hb)
  clear hb q0 q1 q2 q3
  go_wp2_with fail
  refine wp_region_flowC (by kernel_rfl) (by kernel_rfl) (wrPv (op + 64) fl words w.heap.size (UInt8.ofNat (op.toNat + 64)) (UInt8.ofNat fl.toNat) (UInt8.ofNat words) (be data 3)) (wrPv_later _ _ _ _ _ _ _ _) ⟨?_, ?_, ?_, ?_, ?_, ?_, ?_, ?_, ?_, ?_, ?_, ?_, ?_, ?_, trivial⟩ ?_
  · intro a W hb hf hv
    exact opw_move rfl ⟨_, rfl, hf 9 rfl, Below.refl _ _⟩
  · intro a W hb hf hv
    have x : a.eval (.tmp 48) = .int .i64 (op + 64) := hv 0 48 rfl
    exact opw_conv8 rfl x ⟨_, rfl, congrArg (Value.int .u8) e0.out, Below.refl _ _⟩
  · intro a W hb hf hv
    have x : a.eval (.tmp 3) = .pointer (some ⟨w.heap.size, 0, none⟩) := hf 3 rfl
    exact opw_fieldAddr2 rfl x ⟨_, rfl, rfl, Below.refl _ _⟩
  · intro a W hb hf hv
    have x : a.eval (.tmp 50) = .pointer (some ⟨w.heap.size, 2, none⟩) := hv 2 50 rfl
    exact opw_loadI rfl x (HH4.out.later hb).four.2.2.1 ⟨_, rfl, rfl, Below.refl _ _⟩
  · intro a W hb hf hv
    have x : a.eval (.tmp 51) = .int .i64 fl := hv 3 51 rfl
    exact opw_conv8 rfl x ⟨_, rfl, congrArg (Value.int .u8) e1.out, Below.refl _ _⟩
  · intro a W hb hf hv
    exact opw_move rfl ⟨_, rfl, hf 1 rfl, Below.refl _ _⟩
  · intro a W hb hf hv
    have x : a.eval (.tmp 53) = .int .i64 (words : Int) := hv 5 53 rfl
    exact opw_conv8 rfl x ⟨_, rfl, congrArg (Value.int .u8) e4.out, Below.refl _ _⟩
  · intro a W hb hf hv
    have x0 : a.eval (.tmp 49) = .int .u8 ((UInt8.ofNat (op.toNat + 64)).toNat : Int) := hv 1 49 rfl
    have x1 : a.eval (.tmp 52) = .int .u8 ((UInt8.ofNat fl.toNat).toNat : Int) := hv 4 52 rfl
    have x4 : a.eval (.tmp 54) = .int .u8 ((UInt8.ofNat words).toNat : Int) := hv 6 54 rfl
    exact opw_row5 rfl x0 x1 x4 ⟨_, rfl, ⟨_, rfl, Blk.new W _ _⟩, (Below.refl _ _).alloc (Nat.le_refl _) _⟩
  · intro a W hb hf hv
    obtain ⟨b, x, hB⟩ := hv 7 55 rfl
    exact opw_str5 (l := [UInt8.ofNat (op.toNat + 64), UInt8.ofNat fl.toNat, 0, 0, UInt8.ofNat words]) rfl x hB ⟨_, rfl, rfl, Below.refl _ _⟩
  · intro a W hb hf hv
    exact opw_move rfl ⟨_, rfl, hf 10 rfl, Below.refl _ _⟩
  · intro a W hb hf hv
    have x : a.eval (.tmp 56) = .string (S _) := hv 8 56 rfl
    have y : a.eval (.tmp 57) = .string (S _) := hv 9 57 rfl
    exact opw_addS rfl x y (by simp [be_len]) ⟨_, rfl, rfl, Below.refl _ _⟩
  · intro a W hb hf hv
    refine opw_call (f := 70) Tryz.func70 (by kernel_rfl) (by kernel_rfl) rfl rfl ?_
    simp only [List.map_toArray, List.map_cons, List.map_nil]
    exact (rep40_any W).mono fun (e : Ending) w' ⟨he, hb⟩ => ⟨_, he, _, rfl, rfl, hb⟩
  · intro a W hb hf hv
    have x : a.eval (.tmp 58) = .string (S _) := hv 10 58 rfl
    have y : a.eval (.tmp 59) = .string (S _) := hv 11 59 rfl
    exact opw_addS rfl x y (by simp [be_len]) ⟨_, rfl, rfl, Below.refl _ _⟩
  · intro a W hb hf hv
    exact opw_assign rfl ⟨_, rfl, hv 12 60 rfl, Below.refl _ _⟩
  intro l w5 hb hl hv
  obtain ⟨y0, y1, y2, y3, y4, y5, y6, y7, y8, y9, y10, y11, y12, y13, rfl⟩ := list14 hl
  obtain rfl : y0 = .int .i64 (op + 64) := hv 0 _ rfl
  obtain rfl : y1 = .int .u8 ((UInt8.ofNat (op.toNat + 64)).toNat : Int) := hv 1 _ rfl
  obtain rfl : y2 = .pointer (some ⟨w.heap.size, 2, none⟩) := hv 2 _ rfl
  obtain rfl : y3 = .int .i64 fl := hv 3 _ rfl
  obtain rfl : y4 = .int .u8 ((UInt8.ofNat fl.toNat).toNat : Int) := hv 4 _ rfl
  obtain rfl : y5 = .int .i64 (words : Int) := hv 5 _ rfl
  obtain rfl : y6 = .int .u8 ((UInt8.ofNat words).toNat : Int) := hv 6 _ rfl
  obtain ⟨b7, rfl, _⟩ : ∃ b, y7 = .slice (some ⟨b, 0, none⟩) 5 5 ∧ _ := hv 7 _ rfl
  obtain rfl : y8 = .string (S [UInt8.ofNat (op.toNat + 64), UInt8.ofNat fl.toNat, 0, 0, UInt8.ofNat words]) := hv 8 _ rfl
  obtain rfl : y9 = .string (S (be data 3)) := hv 9 _ rfl
  obtain rfl : y10 = .string (S ([UInt8.ofNat (op.toNat + 64), UInt8.ofNat fl.toNat, 0, 0, UInt8.ofNat words] ++ be data 3)) := hv 10 _ rfl
  obtain rfl : y11 = .string (S (List.replicate 40 0)) := hv 11 _ rfl
  have g12 : y12 = .string (S ([UInt8.ofNat (op.toNat + 64), UInt8.ofNat fl.toNat, 0, 0, UInt8.ofNat words] ++ be data 3 ++ List.replicate 40 0)) := hv 12 _ rfl
  have g13 : y13 = .string (S ([UInt8.ofNat (op.toNat + 64), UInt8.ofNat fl.toNat, 0, 0, UInt8.ofNat words] ++ be data 3 ++ List.replicate 40 0)) := hv 13 _ rfl
  have hBl := baseB_len ⟨op, true, fl, vs⟩ words data
  rw [Hbase.out] at g12 g13
  obtain ⟨B, hB⟩ : ∃ B, baseB ⟨op, true, fl, vs⟩ words data = B := ⟨_, rfl⟩
  rw [hB] at g12 g13 hBl
  subst g12 g13
  have HHB' := HHB.out
  rw [hB] at HHB'
  have HHB2 := Lib.hid HHB'
  have HBl := Lib.hid hBl
  have Hb5 := Lib.hid (below_then Hb4.out hb)
  have HC5 := Lib.hid (HC4.out.later hb)
  have HH5 := Lib.hid (HH4.out.later hb)
  clear hv hl hB hBl HHB' hb
  simp only [List.map_cons, List.map_nil, puts, Act.put, List.setIfInBounds_toArray, List.set_cons_succ, List.set_cons_zero]
  obtain ⟨q0, q1, q2, q3⟩ := HH5.out.four
  have hz5 : w.heap.size < w5.heap.size := HH5.out.lt
  go_wp2_with fail
  refine (HK.out _).mono ?_
  rintro e w6 ⟨bf, rfl, hF, hb⟩
  have Hb6 := Lib.hid (below_then Hb5.out hb)
  have HC6 := Lib.hid (HC5.out.later hb)
  have HH6 := Lib.hid (HH5.out.later hb)
  have HF6 := Lib.hid hF
  clear hb hF q0 q1 q2 q3
  go_wp2_with fail
  go_loopw [12, 71] (fun sv i wr => ∃ j : Nat, j ≤ k'.fs.length ∧ i = .int .i64 j ∧ sv = .string (S (putN k'.fs vs B j)) ∧ Below w6.heap.size w6 wr) (fun _ i _ => k'.fs.length - (intOf i).toNat)
  case atStart => exact ⟨0, by omega, rfl, rfl, Below.refl _ _⟩
  case round =>
    obtain ⟨j, hj, rfl, rfl, hbw⟩ := hrel
    have Hbw := Lib.hid hbw
    have hPl : (putN k'.fs vs B j).length = 48 := by rw [putN_len (fun f hf => by rw [HBl.out]; exact (Fok.out f hf).2.1), HBl.out]
    by_cases hlt : j < k'.fs.length
    · obtain ⟨q0, q1, q2⟩ := Flds.get (Blk.later HF6.out hbw) j hlt
      obtain ⟨_, _, _, c3⟩ := (Blk.later HH6.out hbw).four
      have hjv : j < vs.length := by rw [Hlen.out]; exact hlt
      have hcj : wr.cell? ⟨bv, ov + j, none⟩ = some (.int .u64 (vs[j] : Int)) := by
        rw [(bcell (below_then Hb6.out hbw)).1 bv (ov + j) hbv]; exact Hcv.out j hjv
      have hstep := putN_step k'.fs vs B j hlt hjv
      have hgood := badVal_good HBad.out j hlt hjv
      obtain ⟨f, hf⟩ : ∃ f, k'.fs[j] = f := ⟨_, rfl⟩
      obtain ⟨x, hxj⟩ : ∃ x, vs[j] = x := ⟨_, rfl⟩
      obtain ⟨o1, o2, o3, o4, o5, o6⟩ := Fok.out f (by rw [← hf]; exact List.getElem_mem _)
      have hx64 : x < 2 ^ 64 := by rw [← hxj]; exact Hx.out _ (List.getElem_mem _)
      rw [hf, hxj] at hstep hgood
      rw [hf] at q0 q1 q2
      rw [hxj] at hcj
      obtain ⟨P, hP⟩ : ∃ P, putN k'.fs vs B j = P := ⟨_, rfl⟩
      rw [hP] at hPl hstep
      rw [hP]
      have Hstep := Lib.hid hstep
      have HNx := Lib.hid (number_fits x f.sz o4 hx64 hgood)
      obtain ⟨d0, d1, d2⟩ := (Blk.new wr #[.string (S f.nm), .int .i64 (f.pos : Int), .int .i64 (f.sz : Int)] 112).three
      have hba := (Below.refl wr.heap.size wr).alloc (Nat.le_refl _) (.cells #[.string (S f.nm), .int .i64 (f.pos : Int), .int .i64 (f.sz : Int)] 112)
      have Hba := Lib.hid hba
      have z3 : (wr.alloc (.cells #[.string (S f.nm), .int .i64 (f.pos : Int), .int .i64 (f.sz : Int)] 112)).cell? ⟨w.heap.size, 3, none⟩ = _ := (hba.cell (block_lt_of_cell c3)).trans c3
      have zj : (wr.alloc (.cells #[.string (S f.nm), .int .i64 (f.pos : Int), .int .i64 (f.sz : Int)] 112)).cell? ⟨bv, ov + j, none⟩ = _ := (hba.cell (block_lt_of_cell hcj)).trans hcj
      clear hbw hf hxj o6 hstep hgood hba hP hx64
      have hj0 : (0 : Int) ≤ (j : Int) := by omega
      go_wp2_with fail
      clear q0 q1 q2 c3 hcj
      generalize wr.alloc (.cells #[.string (S f.nm), .int .i64 (f.pos : Int), .int .i64 (f.sz : Int)] 112) = wa at Hba d0 d1 d2 z3 zj ⊢
      go_region_held3 (fun w' => Below wa.heap.size wa w' ∧ w'.cell? ⟨w.heap.size, 3, none⟩ = some (.slice (some ⟨bv, ov, none⟩) vs.length c) ∧ w'.cell? ⟨bv, ov + j, none⟩ = some (.int .u64 (x : Int)) ∧ w'.cell? ⟨wr.heap.size, 2, none⟩ = some (.int .i64 (f.sz : Int)))
        (first | assumption | exact ⟨Below.refl _ _, z3, zj, d2⟩ | exact ⟨(Below.refl _ _).drew, z3, zj, d2⟩ | exact keep3 (by assumption) hb')
        (first | ((with_reducible refine (HNx.out _).mono ?_); rintro e w' ⟨rfl, hb'⟩))
      have hl := (‹Below wa.heap.size wa w' ∧ _›).1
      have d1' : w'.cell? ⟨wr.heap.size, 1, none⟩ = some (.int .i64 (f.pos : Int)) := (hl.cell (block_lt_of_cell d1)).trans d1
      have d2' : w'.cell? ⟨wr.heap.size, 2, none⟩ = some (.int .i64 (f.sz : Int)) := (hl.cell (block_lt_of_cell d2)).trans d2
      have Hl := Lib.hid (below_then (below_then Hbw.out Hba.out) hl)
      have hbl : (be x f.sz).length = f.sz := be_len _ _
      obtain ⟨X, hX⟩ : ∃ X, be x f.sz = X := ⟨_, rfl⟩
      rw [hX] at hbl Hstep
      rw [hX]
      have g1 : IntKind.i64.wrap ((f.pos : Int) + (f.sz : Int)) = (f.pos : Int) + f.sz := IntWalk.i64_in _ (by omega)
      have g2 : ((f.pos : Int) + (f.sz : Int)).toNat = f.pos + f.sz := by omega
      have g3 : (0 : Int) ≤ (f.pos : Int) + (f.sz : Int) := by omega
      have g4 : (f.pos : Int) + (f.sz : Int) ≤ (P.length : Int) := by omega
      have g5 : (f.pos : Int) ≤ (P.length : Int) := by omega
      clear hl z3 zj d0 d1 d2 hX
      have n1 : ¬ 9223372036854775807 < (List.take f.pos P).length + X.length := by simp only [List.length_take]; omega
      have n2 : ¬ 9223372036854775807 < (List.take f.pos P ++ X).length + (List.drop (f.pos + f.sz) P).length := by simp only [List.length_append, List.length_take, List.length_drop]; omega
      go_wp2_with fail
      go_quiet (fail)
      go_wp2_with fail
      go_roundw
      case rel => exact ⟨j + 1, by omega, by go_num, by rw [← Hstep.out]; unfold splice; rw [hbl, List.take_of_length_le (show (List.drop (f.pos + f.sz) P).length ≤ 48 - (f.pos + f.sz) by simp only [List.length_drop]; omega), List.append_assoc], below_drewN Hl.out _⟩
      case measure => simp [intOf]; omega
    · obtain rfl : j = k'.fs.length := by omega
      have hend := putN_all k'.fs vs B Hlen.out
      rw [← HHB2.out] at hend
      have Hend := Lib.hid hend
      have HC7 := Lib.hid (HC6.out.later hbw)
      clear hbw hend
      go_wp2_with fail
      refine (goodF _).mono ?_
      rintro e w7 ⟨rfl, hb⟩
      have HC8 := HC7.out.later hb
      obtain ⟨d0, d1⟩ := HC8.cells
      have f0 := HC8.frozen 0
      have f1 := HC8.frozen 1
      have Hl2 := Lib.hid (below_then (below_then Hb6.out Hbw.out) hb)
      clear hb HC8
      go_wp2_with fail
      refine bodyPost_ret (v := .tuple #[.string (S (putN k'.fs vs B k'.fs.length)), .agg #[.int .i64 0, .int .i64 (-1)]]) (by simp [results, Tryz.results38, go_sem, d0, d1]) rfl ⟨?_, ?_⟩
      · rw [Hend.out]
      · exact (Hl2.out.setCell (by simp) _).setCell (by simp) _
end Go.Proofs.YtoddgekeopejgaaGreatDoor
namespace Go.Proofs.YtoddgekeopejgaaGreatDoor
open Go Go.RowKit
set_option maxRecDepth 100000 in
set_option maxHeartbeats 4000000 in
theorem refWrite_later (op fl : Int) (vs : List Nat) (v : Value) (words data : Nat) (k : Kd) (w : World) (hk : kindOf op = some k) (hfl : I64 fl) (hv : Vals w v vs) (hll : vs.length ≤ 9223372036854775807) (hr : rightR ⟨op, false, fl, vs⟩ = (0, -1))
    (hw : words ≤ 255) (hd : data ≤ 16777215) :
    Calls Tryz.prog 38 #[.agg #[.int .i64 op, .bool false, .int .i64 fl, v], .int .i64 words, .int .i64 data] w (RetSF w (headB ⟨op, false, fl, vs⟩ words data, 0, -1)) := by
  have C : ∀ W, Vals W v vs → Calls Tryz.prog 47 #[.agg #[.int .i64 op, .bool false, .int .i64 fl, v]] W (RetF W (rightR ⟨op, false, fl, vs⟩)) := fun W hv => refRight_any ⟨op, false, fl, vs⟩ v W hfl hv hll
  obtain ⟨k', hk', hnow, hok, hlen, hbad⟩ := rightR_good hr
  obtain rfl : k' = k := Option.some.inj (hk'.symm.trans hk)
  rw [hr] at C
  have hHB := headB_eq (h := ⟨op, false, fl, vs⟩) hk words data
  clear hr hk'
  simp only at *
  obtain ⟨p, c, rfl, hx64, hcell⟩ := id hv
  have F := kindFacts hk
  have hop := kindOf_range hk
  have hflb := flOk_bd F.fl hok
  obtain ⟨bv, ov, rfl, hcv⟩ := hcell (by have := F.len0; omega)
  have hbv : bv < w.heap.size := block_lt_of_cell (w := w) (a := ⟨bv, ov + 0, none⟩) (hcv 0 (by have := F.len0; omega))
  have hb0 := ((Below.refl w.heap.size w).alloc (Nat.le_refl _) (.cells #[.int .i64 op, .bool false, .int .i64 fl, .slice (some ⟨bv, ov, none⟩) vs.length c] 24)).alloc (by simp) (.cells #[.int .i64 0, .int .i64 0] 68)
  have hC0 := cell2_new (w.alloc (.cells #[.int .i64 op, .bool false, .int .i64 fl, .slice (some ⟨bv, ov, none⟩) vs.length c] 24))
  rw [World.size_alloc] at hC0
  have hH0 := (Blk.new w #[.int .i64 op, .bool false, .int .i64 fl, .slice (some ⟨bv, ov, none⟩) vs.length c] 24).alloc (.cells #[.int .i64 0, .int .i64 0] 68)
  have C0 := Lib.hid (C _ (hv.later hb0))
  have Hb0 := Lib.hid hb0
  have HC0 := Lib.hid hC0
  have HH0 := Lib.hid hH0
  have W1 := Lib.hid (fun W => within_true words 0 255 W (by omega) (by omega))
  have W2 := Lib.hid (fun W => within_true data 0 16777215 W (by omega) (by omega))
  have HN := Lib.hid (number_fits data 3 (by decide) (by omega) (Nat.div_eq_of_lt (by omega)))
  have K := fun w => refKind_any op w
  rw [hk] at K
  have HK := Lib.hid K
  have HHB := Lib.hid hHB
  have Hcv := Lib.hid hcv
  have Hlen := Lib.hid hlen
  have HF := Lib.hid F
  have Fok := Lib.hid F.fok
  have hl10 := F.len
  have hvl : vs.length ≤ 10 := by omega
  have Hx := Lib.hid hx64
  have HBad := Lib.hid hbad
  have hdw : IntKind.u64.wrap (data : Int) = data := wrap_u64_lt data (by omega)
  have h64 : op + 64 ≤ 200 := by omega
  have e0 := Lib.hid (show IntKind.u8.wrap (op) = ((UInt8.ofNat (op.toNat + 0)).toNat : Int) by rw [UInt8.toNat_ofNat', wrap_u8_in (by omega) (by omega)]; omega)
  have e1 := Lib.hid (show IntKind.u8.wrap fl = ((UInt8.ofNat fl.toNat).toNat : Int) by rw [UInt8.toNat_ofNat', wrap_u8_in (by omega) (by omega)]; omega)
  have e4 := Lib.hid (show IntKind.u8.wrap (words : Int) = ((UInt8.ofNat words).toNat : Int) by rw [UInt8.toNat_ofNat', wrap_u8_in (by omega) (by omega)]; omega)
  have Hbase := Lib.hid (show [UInt8.ofNat (op.toNat + 0), UInt8.ofNat fl.toNat, 0, 0, UInt8.ofNat words] ++ be data 3 ++ List.replicate 40 0 = baseB ⟨op, false, fl, vs⟩ words data by
    unfold baseB
    simp [be, Nat.mod_eq_of_lt (show words < 256 by omega)])
  clear hb0 C hC0 hH0 hv K hHB hk hok hnow hcv hlen hx64 hcell hbad F
  go_enter Tryz.func38, Tryz.ntmps38
  go_wp2_with fail
  refine C0.out.mono ?_
  rintro e w1 ⟨rfl, hb⟩
  have Hb1 := Lib.hid (below_then Hb0.out hb)
  have HC1 := Lib.hid (HC0.out.later hb)
  have HH1 := Lib.hid (HH0.out.later hb)
  unfold faultV
  simp only
  clear hb
  go_wp2_with fail
  have hbn := (Below.refl w1.heap.size w1).alloc (Nat.le_refl _) (.cells #[.int .i64 0, .int .i64 (-1)] 68)
  have HC2 := Lib.hid (HC1.out.later hbn)
  have HH2 := Lib.hid (HH1.out.later hbn)
  have Hb2 := Lib.hid (below_then Hb1.out hbn)
  clear hbn
  refine (isF_good _ _).mono ?_
  rintro e w2 ⟨rfl, hb⟩
  have HC3 := Lib.hid (HC2.out.later hb)
  have HH3 := Lib.hid (HH2.out.later hb)
  have Hb3 := Lib.hid (below_then Hb2.out hb)
  clear hb
  obtain ⟨q0, q1, q2, q3⟩ := HH3.out.four
  go_wp2_with fail
  refine (W1.out _).mono ?_
  rintro e w3 ⟨rfl, rfl⟩
  go_wp2_with fail
  refine (W2.out _).mono ?_
  rintro e w3 ⟨rfl, rfl⟩
  go_wp2_with fail
  refine (HN.out _).mono ?_
  rintro e w4 ⟨rfl, hb⟩
  have HC4 := Lib.hid (HC3.out.later hb)
  have HH4 := Lib.hid (HH3.out.later hb)
  have Hb4 := Lib.hid (below_then Hb3.out hb)
  clear hb q0 q1 q2 q3
  go_wp2_with fail
  refine wp_region_flowC (by kernel_rfl) (by kernel_rfl) (wrPv (op) fl words w.heap.size (UInt8.ofNat (op.toNat + 0)) (UInt8.ofNat fl.toNat) (UInt8.ofNat words) (be data 3)) (wrPv_later _ _ _ _ _ _ _ _) ⟨?_, ?_, ?_, ?_, ?_, ?_, ?_, ?_, ?_, ?_, ?_, ?_, ?_, ?_, trivial⟩ ?_
  · intro a W hb hf hv
    exact opw_move rfl ⟨_, rfl, hf 9 rfl, Below.refl _ _⟩
  · intro a W hb hf hv
    have x : a.eval (.tmp 48) = .int .i64 (op) := hv 0 48 rfl
    exact opw_conv8 rfl x ⟨_, rfl, congrArg (Value.int .u8) e0.out, Below.refl _ _⟩
  · intro a W hb hf hv
    have x : a.eval (.tmp 3) = .pointer (some ⟨w.heap.size, 0, none⟩) := hf 3 rfl
    exact opw_fieldAddr2 rfl x ⟨_, rfl, rfl, Below.refl _ _⟩
  · intro a W hb hf hv
    have x : a.eval (.tmp 50) = .pointer (some ⟨w.heap.size, 2, none⟩) := hv 2 50 rfl
    exact opw_loadI rfl x (HH4.out.later hb).four.2.2.1 ⟨_, rfl, rfl, Below.refl _ _⟩
  · intro a W hb hf hv
    have x : a.eval (.tmp 51) = .int .i64 fl := hv 3 51 rfl
    exact opw_conv8 rfl x ⟨_, rfl, congrArg (Value.int .u8) e1.out, Below.refl _ _⟩
  · intro a W hb hf hv
    exact opw_move rfl ⟨_, rfl, hf 1 rfl, Below.refl _ _⟩
  · intro a W hb hf hv
    have x : a.eval (.tmp 53) = .int .i64 (words : Int) := hv 5 53 rfl
    exact opw_conv8 rfl x ⟨_, rfl, congrArg (Value.int .u8) e4.out, Below.refl _ _⟩
  · intro a W hb hf hv
    have x0 : a.eval (.tmp 49) = .int .u8 ((UInt8.ofNat (op.toNat + 0)).toNat : Int) := hv 1 49 rfl
    have x1 : a.eval (.tmp 52) = .int .u8 ((UInt8.ofNat fl.toNat).toNat : Int) := hv 4 52 rfl
    have x4 : a.eval (.tmp 54) = .int .u8 ((UInt8.ofNat words).toNat : Int) := hv 6 54 rfl
    exact opw_row5 rfl x0 x1 x4 ⟨_, rfl, ⟨_, rfl, Blk.new W _ _⟩, (Below.refl _ _).alloc (Nat.le_refl _) _⟩
  · intro a W hb hf hv
    obtain ⟨b, x, hB⟩ := hv 7 55 rfl
    exact opw_str5 (l := [UInt8.ofNat (op.toNat + 0), UInt8.ofNat fl.toNat, 0, 0, UInt8.ofNat words]) rfl x hB ⟨_, rfl, rfl, Below.refl _ _⟩
  · intro a W hb hf hv
    exact opw_move rfl ⟨_, rfl, hf 10 rfl, Below.refl _ _⟩
  · intro a W hb hf hv
    have x : a.eval (.tmp 56) = .string (S _) := hv 8 56 rfl
    have y : a.eval (.tmp 57) = .string (S _) := hv 9 57 rfl
    exact opw_addS rfl x y (by simp [be_len]) ⟨_, rfl, rfl, Below.refl _ _⟩
  · intro a W hb hf hv
    refine opw_call (f := 70) Tryz.func70 (by kernel_rfl) (by kernel_rfl) rfl rfl ?_
    simp only [List.map_toArray, List.map_cons, List.map_nil]
    exact (rep40_any W).mono fun (e : Ending) w' ⟨he, hb⟩ => ⟨_, he, _, rfl, rfl, hb⟩
  · intro a W hb hf hv
    have x : a.eval (.tmp 58) = .string (S _) := hv 10 58 rfl
    have y : a.eval (.tmp 59) = .string (S _) := hv 11 59 rfl
    exact opw_addS rfl x y (by simp [be_len]) ⟨_, rfl, rfl, Below.refl _ _⟩
  · intro a W hb hf hv
    exact opw_assign rfl ⟨_, rfl, hv 12 60 rfl, Below.refl _ _⟩
  intro l w5 hb hl hv
  obtain ⟨y0, y1, y2, y3, y4, y5, y6, y7, y8, y9, y10, y11, y12, y13, rfl⟩ := list14 hl
  obtain rfl : y0 = .int .i64 (op) := hv 0 _ rfl
  obtain rfl : y1 = .int .u8 ((UInt8.ofNat (op.toNat + 0)).toNat : Int) := hv 1 _ rfl
  obtain rfl : y2 = .pointer (some ⟨w.heap.size, 2, none⟩) := hv 2 _ rfl
  obtain rfl : y3 = .int .i64 fl := hv 3 _ rfl
  obtain rfl : y4 = .int .u8 ((UInt8.ofNat fl.toNat).toNat : Int) := hv 4 _ rfl
  obtain rfl : y5 = .int .i64 (words : Int) := hv 5 _ rfl
  obtain rfl : y6 = .int .u8 ((UInt8.ofNat words).toNat : Int) := hv 6 _ rfl
  obtain ⟨b7, rfl, _⟩ : ∃ b, y7 = .slice (some ⟨b, 0, none⟩) 5 5 ∧ _ := hv 7 _ rfl
  obtain rfl : y8 = .string (S [UInt8.ofNat (op.toNat + 0), UInt8.ofNat fl.toNat, 0, 0, UInt8.ofNat words]) := hv 8 _ rfl
  obtain rfl : y9 = .string (S (be data 3)) := hv 9 _ rfl
  obtain rfl : y10 = .string (S ([UInt8.ofNat (op.toNat + 0), UInt8.ofNat fl.toNat, 0, 0, UInt8.ofNat words] ++ be data 3)) := hv 10 _ rfl
  obtain rfl : y11 = .string (S (List.replicate 40 0)) := hv 11 _ rfl
  have g12 : y12 = .string (S ([UInt8.ofNat (op.toNat + 0), UInt8.ofNat fl.toNat, 0, 0, UInt8.ofNat words] ++ be data 3 ++ List.replicate 40 0)) := hv 12 _ rfl
  have g13 : y13 = .string (S ([UInt8.ofNat (op.toNat + 0), UInt8.ofNat fl.toNat, 0, 0, UInt8.ofNat words] ++ be data 3 ++ List.replicate 40 0)) := hv 13 _ rfl
  have hBl := baseB_len ⟨op, false, fl, vs⟩ words data
  rw [Hbase.out] at g12 g13
  obtain ⟨B, hB⟩ : ∃ B, baseB ⟨op, false, fl, vs⟩ words data = B := ⟨_, rfl⟩
  rw [hB] at g12 g13 hBl
  subst g12 g13
  have HHB' := HHB.out
  rw [hB] at HHB'
  have HHB2 := Lib.hid HHB'
  have HBl := Lib.hid hBl
  have Hb5 := Lib.hid (below_then Hb4.out hb)
  have HC5 := Lib.hid (HC4.out.later hb)
  have HH5 := Lib.hid (HH4.out.later hb)
  clear hv hl hB hBl HHB' hb
  simp only [List.map_cons, List.map_nil, puts, Act.put, List.setIfInBounds_toArray, List.set_cons_succ, List.set_cons_zero]
  obtain ⟨q0, q1, q2, q3⟩ := HH5.out.four
  have hz5 : w.heap.size < w5.heap.size := HH5.out.lt
  go_wp2_with fail
  refine (HK.out _).mono ?_
  rintro e w6 ⟨bf, rfl, hF, hb⟩
  have Hb6 := Lib.hid (below_then Hb5.out hb)
  have HC6 := Lib.hid (HC5.out.later hb)
  have HH6 := Lib.hid (HH5.out.later hb)
  have HF6 := Lib.hid hF
  clear hb hF q0 q1 q2 q3
  go_wp2_with fail
  go_loopw [12, 71] (fun sv i wr => ∃ j : Nat, j ≤ k'.fs.length ∧ i = .int .i64 j ∧ sv = .string (S (putN k'.fs vs B j)) ∧ Below w6.heap.size w6 wr) (fun _ i _ => k'.fs.length - (intOf i).toNat)
  case atStart => exact ⟨0, by omega, rfl, rfl, Below.refl _ _⟩
  case round =>
    obtain ⟨j, hj, rfl, rfl, hbw⟩ := hrel
    have Hbw := Lib.hid hbw
    have hPl : (putN k'.fs vs B j).length = 48 := by rw [putN_len (fun f hf => by rw [HBl.out]; exact (Fok.out f hf).2.1), HBl.out]
    by_cases hlt : j < k'.fs.length
    · obtain ⟨q0, q1, q2⟩ := Flds.get (Blk.later HF6.out hbw) j hlt
      obtain ⟨_, _, _, c3⟩ := (Blk.later HH6.out hbw).four
      have hjv : j < vs.length := by rw [Hlen.out]; exact hlt
      have hcj : wr.cell? ⟨bv, ov + j, none⟩ = some (.int .u64 (vs[j] : Int)) := by
        rw [(bcell (below_then Hb6.out hbw)).1 bv (ov + j) hbv]; exact Hcv.out j hjv
      have hstep := putN_step k'.fs vs B j hlt hjv
      have hgood := badVal_good HBad.out j hlt hjv
      obtain ⟨f, hf⟩ : ∃ f, k'.fs[j] = f := ⟨_, rfl⟩
      obtain ⟨x, hxj⟩ : ∃ x, vs[j] = x := ⟨_, rfl⟩
      obtain ⟨o1, o2, o3, o4, o5, o6⟩ := Fok.out f (by rw [← hf]; exact List.getElem_mem _)
      have hx64 : x < 2 ^ 64 := by rw [← hxj]; exact Hx.out _ (List.getElem_mem _)
      rw [hf, hxj] at hstep hgood
      rw [hf] at q0 q1 q2
      rw [hxj] at hcj
      obtain ⟨P, hP⟩ : ∃ P, putN k'.fs vs B j = P := ⟨_, rfl⟩
      rw [hP] at hPl hstep
      rw [hP]
      have Hstep := Lib.hid hstep
      have HNx := Lib.hid (number_fits x f.sz o4 hx64 hgood)
      obtain ⟨d0, d1, d2⟩ := (Blk.new wr #[.string (S f.nm), .int .i64 (f.pos : Int), .int .i64 (f.sz : Int)] 112).three
      have hba := (Below.refl wr.heap.size wr).alloc (Nat.le_refl _) (.cells #[.string (S f.nm), .int .i64 (f.pos : Int), .int .i64 (f.sz : Int)] 112)
      have Hba := Lib.hid hba
      have z3 : (wr.alloc (.cells #[.string (S f.nm), .int .i64 (f.pos : Int), .int .i64 (f.sz : Int)] 112)).cell? ⟨w.heap.size, 3, none⟩ = _ := (hba.cell (block_lt_of_cell c3)).trans c3
      have zj : (wr.alloc (.cells #[.string (S f.nm), .int .i64 (f.pos : Int), .int .i64 (f.sz : Int)] 112)).cell? ⟨bv, ov + j, none⟩ = _ := (hba.cell (block_lt_of_cell hcj)).trans hcj
      clear hbw hf hxj o6 hstep hgood hba hP hx64
      have hj0 : (0 : Int) ≤ (j : Int) := by omega
      go_wp2_with fail
      clear q0 q1 q2 c3 hcj
      generalize wr.alloc (.cells #[.string (S f.nm), .int .i64 (f.pos : Int), .int .i64 (f.sz : Int)] 112) = wa at Hba d0 d1 d2 z3 zj ⊢
      go_region_held3 (fun w' => Below wa.heap.size wa w' ∧ w'.cell? ⟨w.heap.size, 3, none⟩ = some (.slice (some ⟨bv, ov, none⟩) vs.length c) ∧ w'.cell? ⟨bv, ov + j, none⟩ = some (.int .u64 (x : Int)) ∧ w'.cell? ⟨wr.heap.size, 2, none⟩ = some (.int .i64 (f.sz : Int)))
        (first | assumption | exact ⟨Below.refl _ _, z3, zj, d2⟩ | exact ⟨(Below.refl _ _).drew, z3, zj, d2⟩ | exact keep3 (by assumption) hb')
        (first | ((with_reducible refine (HNx.out _).mono ?_); rintro e w' ⟨rfl, hb'⟩))
      have hl := (‹Below wa.heap.size wa w' ∧ _›).1
      have d1' : w'.cell? ⟨wr.heap.size, 1, none⟩ = some (.int .i64 (f.pos : Int)) := (hl.cell (block_lt_of_cell d1)).trans d1
      have d2' : w'.cell? ⟨wr.heap.size, 2, none⟩ = some (.int .i64 (f.sz : Int)) := (hl.cell (block_lt_of_cell d2)).trans d2
      have Hl := Lib.hid (below_then (below_then Hbw.out Hba.out) hl)
      have hbl : (be x f.sz).length = f.sz := be_len _ _
      obtain ⟨X, hX⟩ : ∃ X, be x f.sz = X := ⟨_, rfl⟩
      rw [hX] at hbl Hstep
      rw [hX]
      have g1 : IntKind.i64.wrap ((f.pos : Int) + (f.sz : Int)) = (f.pos : Int) + f.sz := IntWalk.i64_in _ (by omega)
      have g2 : ((f.pos : Int) + (f.sz : Int)).toNat = f.pos + f.sz := by omega
      have g3 : (0 : Int) ≤ (f.pos : Int) + (f.sz : Int) := by omega
      have g4 : (f.pos : Int) + (f.sz : Int) ≤ (P.length : Int) := by omega
      have g5 : (f.pos : Int) ≤ (P.length : Int) := by omega
      clear hl z3 zj d0 d1 d2 hX
      have n1 : ¬ 9223372036854775807 < (List.take f.pos P).length + X.length := by simp only [List.length_take]; omega
      have n2 : ¬ 9223372036854775807 < (List.take f.pos P ++ X).length + (List.drop (f.pos + f.sz) P).length := by simp only [List.length_append, List.length_take, List.length_drop]; omega
      go_wp2_with fail
      go_quiet (fail)
      go_wp2_with fail
      go_roundw
      case rel => exact ⟨j + 1, by omega, by go_num, by rw [← Hstep.out]; unfold splice; rw [hbl, List.take_of_length_le (show (List.drop (f.pos + f.sz) P).length ≤ 48 - (f.pos + f.sz) by simp only [List.length_drop]; omega), List.append_assoc], below_drewN Hl.out _⟩
      case measure => simp [intOf]; omega
    · obtain rfl : j = k'.fs.length := by omega
      have hend := putN_all k'.fs vs B Hlen.out
      rw [← HHB2.out] at hend
      have Hend := Lib.hid hend
      have HC7 := Lib.hid (HC6.out.later hbw)
      clear hbw hend
      go_wp2_with fail
      refine (goodF _).mono ?_
      rintro e w7 ⟨rfl, hb⟩
      have HC8 := HC7.out.later hb
      obtain ⟨d0, d1⟩ := HC8.cells
      have f0 := HC8.frozen 0
      have f1 := HC8.frozen 1
      have Hl2 := Lib.hid (below_then (below_then Hb6.out Hbw.out) hb)
      clear hb HC8
      go_wp2_with fail
      refine bodyPost_ret (v := .tuple #[.string (S (putN k'.fs vs B k'.fs.length)), .agg #[.int .i64 0, .int .i64 (-1)]]) (by simp [results, Tryz.results38, go_sem, d0, d1]) rfl ⟨?_, ?_⟩
      · rw [Hend.out]
      · exact (Hl2.out.setCell (by simp) _).setCell (by simp) _
end Go.Proofs.YtoddgekeopejgaaGreatDoor
