/- The reference's Same. -/
import Derived.Test.YtlkikkfbennmnaaGreatDoorPduSame
import Derived.BigRegion
import Derived.RegionTactic
import Derived.Laws.StructEq
import Derived.Deep.QuietTactic
import Derived.BigQuiet
namespace Go.Proofs.YtlkikkfbennmnaaGreatDoor
open Go.RowKit
set_option linter.unusedVariables false
theorem heads_two (W : World) (X Y : Array Value) : Blk ((W.alloc (.cells X 42)).alloc (.cells Y 42)).drew W.heap.size X 42 ∧ Blk ((W.alloc (.cells X 42)).alloc (.cells Y 42)).drew (W.heap.size + 1) Y 42 ∧ Below W.heap.size W ((W.alloc (.cells X 42)).alloc (.cells Y 42)).drew := by
  refine ⟨((Blk.new W _ _).alloc _).drew, ?_, ((((Below.refl W.heap.size W).alloc (Nat.le_refl _) _).alloc (by simp) _).drew)⟩
  have := Blk.new (W.alloc (.cells X 42)) Y 42
  simp only [World.size_alloc] at this
  exact this.drew
set_option maxRecDepth 100000 in
set_option maxHeartbeats 2000000 in
theorem refSame_same (p : Pd) (vv va vv' va' : Value) (w : World) (h : PduAt w p vv va) (h' : PduAt w p vv' va') (hvs : p.h.vs.length ≤ 140737488355328) (hal : p.a.length ≤ 140737488355328) :
    Calls Tryz.prog 34 #[pduV p vv va, pduV p vv' va'] w fun e w' => e = .returned (.bool true) ∧ Below w.heap.size w w' := by
  obtain ⟨⟨op, now, fl, vs⟩, al, d⟩ := p
  simp only at hvs hal
  obtain ⟨pv, cv, rfl⟩ : ∃ p c, vv = .slice p vs.length c := by obtain ⟨p, c, h, _⟩ := h.v; exact ⟨p, c, h⟩
  obtain ⟨pa, ca, rfl⟩ := h.a.form
  obtain ⟨pv', cv', rfl⟩ : ∃ p c, vv' = .slice p vs.length c := by obtain ⟨p, c, h, _⟩ := h'.v; exact ⟨p, c, h⟩
  obtain ⟨pa', ca', rfl⟩ := h'.a.form
  have hb1 := (Below.refl w.heap.size w).alloc (Nat.le_refl _) (.cells #[.int .i64 op, .bool now, .int .i64 fl, .slice pv vs.length cv, .slice pa al.length ca, .string (S d)] 45)
  have hb2 := hb1.alloc hb1.size (.cells #[.int .i64 op, .bool now, .int .i64 fl, .slice pv' vs.length cv', .slice pa' al.length ca', .string (S d)] 45)
  have hk1 := (Blk.new w #[.int .i64 op, .bool now, .int .i64 fl, .slice pv vs.length cv, .slice pa al.length ca, .string (S d)] 45).alloc (.cells #[.int .i64 op, .bool now, .int .i64 fl, .slice pv' vs.length cv', .slice pa' al.length ca', .string (S d)] 45)
  have hk2 := Blk.new (w.alloc (.cells #[.int .i64 op, .bool now, .int .i64 fl, .slice pv vs.length cv, .slice pa al.length ca, .string (S d)] 45)) #[.int .i64 op, .bool now, .int .i64 fl, .slice pv' vs.length cv', .slice pa' al.length ca', .string (S d)] 45
  unfold pduV
  simp only
  have HP := Lib.hid h
  have HP' := Lib.hid h'
  clear h h'
  go_enter Tryz.func34, Tryz.ntmps34
  go_wp2_with fail
  generalize hW0 : (w.alloc (.cells #[.int .i64 op, .bool now, .int .i64 fl, .slice pv vs.length cv, .slice pa al.length ca, .string (S d)] 45)).alloc (.cells #[.int .i64 op, .bool now, .int .i64 fl, .slice pv' vs.length cv', .slice pa' al.length ca', .string (S d)] 45) = W0 at hb2 hk1 hk2 ⊢
  obtain ⟨B2, hB2⟩ : ∃ B, w.heap.size + 1 = B := ⟨_, rfl⟩
  simp only [World.size_alloc] at hk2
  simp only [hB2] at hk2 ⊢
  obtain ⟨q0, q1, q2, q3, q4, q5⟩ := hk1.six
  obtain ⟨r0, r1, r2, r3, r4, r5⟩ := hk2.six
  have hlt1 := hk1.lt
  have hlt2 := hk2.lt
  have HK1 := Lib.hid hk1
  have HK2 := Lib.hid hk2
  have Hb2 := Lib.hid hb2
  clear hb1 hb2 hk1 hk2 hW0
  go_region
  all_goals
    first
    | (show Exit.then _ _ _ _ (((W0.alloc (.cells #[.int .i64 op, .bool now, .int .i64 fl, .slice pv vs.length cv] 42)).alloc (.cells #[.int .i64 op, .bool now, .int .i64 fl, .slice pv' vs.length cv'] 42)).drew)
       obtain ⟨hx, hy, hb⟩ := heads_two W0 #[.int .i64 op, .bool now, .int .i64 fl, .slice pv vs.length cv] #[.int .i64 op, .bool now, .int .i64 fl, .slice pv' vs.length cv']
       generalize ((W0.alloc (.cells #[.int .i64 op, .bool now, .int .i64 fl, .slice pv vs.length cv] 42)).alloc (.cells #[.int .i64 op, .bool now, .int .i64 fl, .slice pv' vs.length cv'] 42)).drew = W1 at hx hy hb ⊢
       have HK1' := Lib.hid (HK1.out.later hb)
       have HK2' := Lib.hid (HK2.out.later hb)
       have Hb1 := Lib.hid (below_then Hb2.out hb)
       clear q0 q1 q2 q3 q4 q5 r0 r1 r2 r3 r4 r5 hb hlt1 hlt2 HK1 HK2 Hb2
       generalize W0.heap.size + 1 = by1 at hy ⊢
       generalize W0.heap.size = bx1 at hx ⊢
       have HX := Lib.hid hx
       have HY := Lib.hid hy
       obtain ⟨x0, x1, x2, x3⟩ := hx.four
       obtain ⟨y0, y1, y2, y3⟩ := hy.four
       clear hx hy
       obtain ⟨q0, q1, q2, q3, q4, q5⟩ := HK1'.out.six
       obtain ⟨r0, r1, r2, r3, r4, r5⟩ := HK2'.out.six
       go_wp2_with fail)
    | (show Exit.then _ _ _ _ (((W0.alloc (.cells #[.int .i64 op, .bool now, .int .i64 fl, .slice pv' vs.length cv'] 42)).alloc (.cells #[.int .i64 op, .bool now, .int .i64 fl, .slice pv vs.length cv] 42)).drew)
       obtain ⟨hy, hx, hb⟩ := heads_two W0 #[.int .i64 op, .bool now, .int .i64 fl, .slice pv' vs.length cv'] #[.int .i64 op, .bool now, .int .i64 fl, .slice pv vs.length cv]
       generalize ((W0.alloc (.cells #[.int .i64 op, .bool now, .int .i64 fl, .slice pv' vs.length cv'] 42)).alloc (.cells #[.int .i64 op, .bool now, .int .i64 fl, .slice pv vs.length cv] 42)).drew = W1 at hx hy hb ⊢
       have HK1' := Lib.hid (HK1.out.later hb)
       have HK2' := Lib.hid (HK2.out.later hb)
       have Hb1 := Lib.hid (below_then Hb2.out hb)
       clear q0 q1 q2 q3 q4 q5 r0 r1 r2 r3 r4 r5 hb hlt1 hlt2 HK1 HK2 Hb2
       generalize W0.heap.size + 1 = bx1 at hx ⊢
       generalize W0.heap.size = by1 at hy ⊢
       have HX := Lib.hid hx
       have HY := Lib.hid hy
       obtain ⟨x0, x1, x2, x3⟩ := hx.four
       obtain ⟨y0, y1, y2, y3⟩ := hy.four
       clear hx hy
       obtain ⟨q0, q1, q2, q3, q4, q5⟩ := HK1'.out.six
       obtain ⟨r0, r1, r2, r3, r4, r5⟩ := HK2'.out.six
       go_wp2_with fail)
  all_goals
    clear q0 q1 q2 q3 q4 q5 r0 r1 r2 r3 r4 r5 x0 x1 x2 x3 y0 y1 y2 y3
    go_loopw [60] (fun i wr => ∃ j : Nat, j ≤ vs.length ∧ i = .int .i64 j ∧ Below W1.heap.size W1 wr) (fun i _ => vs.length - (intOf i).toNat)
    case atStart => exact ⟨0, by omega, rfl, Below.refl _ _⟩
    case round =>
      obtain ⟨j, hj, rfl, hbr⟩ := hrel
      have Hbr := Lib.hid hbr
      have hlowr := below_then Hb1.out hbr
      by_cases hlt : j < vs.length
      · have hvr := (HP.out.later hlowr).v
        have hvr' := (HP'.out.later hlowr).v
        obtain ⟨_, _, e1, _, hc1⟩ := hvr
        obtain ⟨_, _, e2, _, hc2⟩ := hvr'
        simp only [Value.slice.injEq] at e1 e2
        obtain ⟨b, o, hp1, hcl⟩ := hc1 (by simp only; omega)
        obtain ⟨b', o', hp2, hcl'⟩ := hc2 (by simp only; omega)
        obtain rfl : pv = some ⟨b, o, none⟩ := e1.1.trans hp1
        obtain rfl : pv' = some ⟨b', o', none⟩ := e2.1.trans hp2
        have h1 := hcl j hlt
        have h2 := hcl' j hlt
        simp only at h1 h2
        obtain ⟨x, hx⟩ : ∃ x, vs[j] = x := ⟨_, rfl⟩
        rw [hx] at h1 h2
        have x3 := (HX.out.later hbr).four.2.2.2
        have y3 := (HY.out.later hbr).four.2.2.2
        have hj0 : (0 : Int) ≤ (j : Int) := by omega
        have hxx : ((x : Int) != (x : Int)) = false := by simp
        clear hbr hlowr hcl hcl' hx e1 e2 hp1 hp2 hc1 hc2
        go_wp2_with fail
        go_quiet (fail)
        go_wp2_with fail
        go_roundw
        case rel => exact ⟨j + 1, by omega, by go_num, below_drewN Hbr.out _⟩
        case measure => simp [intOf]; omega
      · have q4 := (HK1'.out.later hbr).six.2.2.2.2.1
        clear hbr
        go_wp2_with fail
        clear q4
        go_loopw [78] (fun i wq => ∃ k : Nat, k ≤ al.length ∧ i = .int .i64 k ∧ Below wr.heap.size wr wq) (fun i _ => al.length - (intOf i).toNat)
        case atStart => exact ⟨0, by omega, rfl, Below.refl _ _⟩
        case round =>
          obtain ⟨k, hk, rfl, hbq⟩ := hrel
          have Hq0 := Lib.hid hbq
          have hbr2 := below_then Hbr.out hbq
          have Hbq := Lib.hid hbr2
          have hlowq := below_then Hb1.out hbr2
          by_cases hlt2 : k < al.length
          · obtain ⟨_, _, e1, _, hc1⟩ := (HP.out.later hlowq).a
            obtain ⟨_, _, e2, _, hc2⟩ := (HP'.out.later hlowq).a
            simp only [Value.slice.injEq] at e1 e2
            obtain ⟨b, o, hp1, hcl⟩ := hc1 (by simp only; omega)
            obtain ⟨b', o', hp2, hcl'⟩ := hc2 (by simp only; omega)
            obtain rfl : pa = some ⟨b, o, none⟩ := e1.1.trans hp1
            obtain rfl : pa' = some ⟨b', o', none⟩ := e2.1.trans hp2
            obtain ⟨h1, h2⟩ := hcl k hlt2
            obtain ⟨h3, h4⟩ := hcl' k hlt2
            simp only at h1 h2 h3 h4
            obtain ⟨⟨ak, ad⟩, hx⟩ : ∃ x, al[k] = x := ⟨_, rfl⟩
            rw [hx] at h1 h2 h3 h4
            simp only at h1 h2 h3 h4
            have q4 := (HK1'.out.later hbr2).six.2.2.2.2.1
            have r4 := (HK2'.out.later hbr2).six.2.2.2.2.1
            have hk0 : (0 : Int) ≤ (k : Int) := by omega
            have E2 := fun w => ah_same w ak ad
            clear hbq hbr2 hlowq hcl hcl' hx e1 e2 hp1 hp2 hc1 hc2
            go_wp2_with fail
            go_quiet (fail)
            go_wp2_with fail
            go_roundw
            case rel => exact ⟨k + 1, by omega, by go_num, below_drewN Hq0.out _⟩
            case measure => simp [intOf]; omega
          · clear hbq hbr2 hlowq
            go_wp2_with fail
            go_ret
            exact ⟨rfl, below_then Hb1.out Hbq.out⟩
end Go.Proofs.YtlkikkfbennmnaaGreatDoor
