/- keys.Of: the row of a key. -/
import Derived.Test.YtikcgnalcchlpaaGreatDoorKRows
import Derived.Test.YtikcgnalcchlpaaGreatDoorBlk
import Derived.Test.YtikcgnalcchlpaaGreatDoorErrV
namespace Go.Proofs.YtikcgnalcchlpaaGreatDoor
open Go.RowKit Go.Shelf
attribute [local go_sem] Oper.semAt_some
def keZ : Array Value := #[.string (S []), .int .i64 0, .int .i64 0, .int .i64 0, .string (S []), .bool false, .bool false]
def ofV (s : List UInt8) : Value := match rowOf s with
  | some k => .tuple #[.agg (keC k).toArray, .nilIface]
  | none => .tuple #[.agg keZ, .iface 22 (.int .i64 5)]
theorem Blk.seven {W : World} {b : Nat} {x0 x1 x2 x3 x4 x5 x6 : Value} {t : TypeId} (h : Blk W b #[x0, x1, x2, x3, x4, x5, x6] t) : W.cell? ⟨b, 0, none⟩ = some x0 ∧ W.cell? ⟨b, 1, none⟩ = some x1 ∧ W.cell? ⟨b, 2, none⟩ = some x2 ∧ W.cell? ⟨b, 3, none⟩ = some x3 ∧ W.cell? ⟨b, 4, none⟩ = some x4 ∧ W.cell? ⟨b, 5, none⟩ = some x5 ∧ W.cell? ⟨b, 6, none⟩ = some x6 :=
  ⟨h.cell 0, h.cell 1, h.cell 2, h.cell 3, h.cell 4, h.cell 5, h.cell 6⟩
theorem seven_stored {w W : World} {N b : Nat} {o0 o1 o2 o3 o4 o5 o6 oe : Value} {t te : TypeId} (x0 x1 x2 x3 x4 x5 x6 e : Value) (hR : Blk W b #[o0, o1, o2, o3, o4, o5, o6] t) (hE : Blk W (b + 1) #[oe] te) (hb : N ≤ b) (hB : Below N w W) :
    Blk ((((((((W.setCell ⟨b, 0, none⟩ x0).setCell ⟨b, 1, none⟩ x1).setCell ⟨b, 2, none⟩ x2).setCell ⟨b, 3, none⟩ x3).setCell ⟨b, 4, none⟩ x4).setCell ⟨b, 5, none⟩ x5).setCell ⟨b, 6, none⟩ x6).setCell ⟨b + 1, 0, none⟩ e) b #[x0, x1, x2, x3, x4, x5, x6] t ∧
    Blk ((((((((W.setCell ⟨b, 0, none⟩ x0).setCell ⟨b, 1, none⟩ x1).setCell ⟨b, 2, none⟩ x2).setCell ⟨b, 3, none⟩ x3).setCell ⟨b, 4, none⟩ x4).setCell ⟨b, 5, none⟩ x5).setCell ⟨b, 6, none⟩ x6).setCell ⟨b + 1, 0, none⟩ e) (b + 1) #[e] te ∧
    Below N w ((((((((W.setCell ⟨b, 0, none⟩ x0).setCell ⟨b, 1, none⟩ x1).setCell ⟨b, 2, none⟩ x2).setCell ⟨b, 3, none⟩ x3).setCell ⟨b, 4, none⟩ x4).setCell ⟨b, 5, none⟩ x5).setCell ⟨b, 6, none⟩ x6).setCell ⟨b + 1, 0, none⟩ e) ∧
    KeepsOthers W ((((((((W.setCell ⟨b, 0, none⟩ x0).setCell ⟨b, 1, none⟩ x1).setCell ⟨b, 2, none⟩ x2).setCell ⟨b, 3, none⟩ x3).setCell ⟨b, 4, none⟩ x4).setCell ⟨b, 5, none⟩ x5).setCell ⟨b, 6, none⟩ x6).setCell ⟨b + 1, 0, none⟩ e) := by
  have r0 : Blk (W.setCell ⟨b, 0, none⟩ x0) b #[x0, o1, o2, o3, o4, o5, o6] t := hR.set 0 x0
  have r1 : Blk ((W.setCell ⟨b, 0, none⟩ x0).setCell ⟨b, 1, none⟩ x1) b #[x0, x1, o2, o3, o4, o5, o6] t := r0.set 1 x1
  have r2 : Blk (((W.setCell ⟨b, 0, none⟩ x0).setCell ⟨b, 1, none⟩ x1).setCell ⟨b, 2, none⟩ x2) b #[x0, x1, x2, o3, o4, o5, o6] t := r1.set 2 x2
  have r3 : Blk ((((W.setCell ⟨b, 0, none⟩ x0).setCell ⟨b, 1, none⟩ x1).setCell ⟨b, 2, none⟩ x2).setCell ⟨b, 3, none⟩ x3) b #[x0, x1, x2, x3, o4, o5, o6] t := r2.set 3 x3
  have r4 : Blk (((((W.setCell ⟨b, 0, none⟩ x0).setCell ⟨b, 1, none⟩ x1).setCell ⟨b, 2, none⟩ x2).setCell ⟨b, 3, none⟩ x3).setCell ⟨b, 4, none⟩ x4) b #[x0, x1, x2, x3, x4, o5, o6] t := r3.set 4 x4
  have r5 : Blk ((((((W.setCell ⟨b, 0, none⟩ x0).setCell ⟨b, 1, none⟩ x1).setCell ⟨b, 2, none⟩ x2).setCell ⟨b, 3, none⟩ x3).setCell ⟨b, 4, none⟩ x4).setCell ⟨b, 5, none⟩ x5) b #[x0, x1, x2, x3, x4, x5, o6] t := r4.set 5 x5
  have r6 : Blk (((((((W.setCell ⟨b, 0, none⟩ x0).setCell ⟨b, 1, none⟩ x1).setCell ⟨b, 2, none⟩ x2).setCell ⟨b, 3, none⟩ x3).setCell ⟨b, 4, none⟩ x4).setCell ⟨b, 5, none⟩ x5).setCell ⟨b, 6, none⟩ x6) b #[x0, x1, x2, x3, x4, x5, x6] t := r5.set 6 x6
  have s0 : Blk (W.setCell ⟨b, 0, none⟩ x0) (b + 1) #[oe] te := Blk.other hE (Nat.succ_ne_self b) x0
  have s1 : Blk ((W.setCell ⟨b, 0, none⟩ x0).setCell ⟨b, 1, none⟩ x1) (b + 1) #[oe] te := Blk.other s0 (Nat.succ_ne_self b) x1
  have s2 : Blk (((W.setCell ⟨b, 0, none⟩ x0).setCell ⟨b, 1, none⟩ x1).setCell ⟨b, 2, none⟩ x2) (b + 1) #[oe] te := Blk.other s1 (Nat.succ_ne_self b) x2
  have s3 : Blk ((((W.setCell ⟨b, 0, none⟩ x0).setCell ⟨b, 1, none⟩ x1).setCell ⟨b, 2, none⟩ x2).setCell ⟨b, 3, none⟩ x3) (b + 1) #[oe] te := Blk.other s2 (Nat.succ_ne_self b) x3
  have s4 : Blk (((((W.setCell ⟨b, 0, none⟩ x0).setCell ⟨b, 1, none⟩ x1).setCell ⟨b, 2, none⟩ x2).setCell ⟨b, 3, none⟩ x3).setCell ⟨b, 4, none⟩ x4) (b + 1) #[oe] te := Blk.other s3 (Nat.succ_ne_self b) x4
  have s5 : Blk ((((((W.setCell ⟨b, 0, none⟩ x0).setCell ⟨b, 1, none⟩ x1).setCell ⟨b, 2, none⟩ x2).setCell ⟨b, 3, none⟩ x3).setCell ⟨b, 4, none⟩ x4).setCell ⟨b, 5, none⟩ x5) (b + 1) #[oe] te := Blk.other s4 (Nat.succ_ne_self b) x5
  have s6 : Blk (((((((W.setCell ⟨b, 0, none⟩ x0).setCell ⟨b, 1, none⟩ x1).setCell ⟨b, 2, none⟩ x2).setCell ⟨b, 3, none⟩ x3).setCell ⟨b, 4, none⟩ x4).setCell ⟨b, 5, none⟩ x5).setCell ⟨b, 6, none⟩ x6) (b + 1) #[oe] te := Blk.other s5 (Nat.succ_ne_self b) x6
  have t0 : Below N w (W.setCell ⟨b, 0, none⟩ x0) := Below.setCell hB (p := ⟨b, 0, none⟩) hb x0
  have t1 : Below N w ((W.setCell ⟨b, 0, none⟩ x0).setCell ⟨b, 1, none⟩ x1) := Below.setCell t0 (p := ⟨b, 1, none⟩) hb x1
  have t2 : Below N w (((W.setCell ⟨b, 0, none⟩ x0).setCell ⟨b, 1, none⟩ x1).setCell ⟨b, 2, none⟩ x2) := Below.setCell t1 (p := ⟨b, 2, none⟩) hb x2
  have t3 : Below N w ((((W.setCell ⟨b, 0, none⟩ x0).setCell ⟨b, 1, none⟩ x1).setCell ⟨b, 2, none⟩ x2).setCell ⟨b, 3, none⟩ x3) := Below.setCell t2 (p := ⟨b, 3, none⟩) hb x3
  have t4 : Below N w (((((W.setCell ⟨b, 0, none⟩ x0).setCell ⟨b, 1, none⟩ x1).setCell ⟨b, 2, none⟩ x2).setCell ⟨b, 3, none⟩ x3).setCell ⟨b, 4, none⟩ x4) := Below.setCell t3 (p := ⟨b, 4, none⟩) hb x4
  have t5 : Below N w ((((((W.setCell ⟨b, 0, none⟩ x0).setCell ⟨b, 1, none⟩ x1).setCell ⟨b, 2, none⟩ x2).setCell ⟨b, 3, none⟩ x3).setCell ⟨b, 4, none⟩ x4).setCell ⟨b, 5, none⟩ x5) := Below.setCell t4 (p := ⟨b, 5, none⟩) hb x5
  have t6 : Below N w (((((((W.setCell ⟨b, 0, none⟩ x0).setCell ⟨b, 1, none⟩ x1).setCell ⟨b, 2, none⟩ x2).setCell ⟨b, 3, none⟩ x3).setCell ⟨b, 4, none⟩ x4).setCell ⟨b, 5, none⟩ x5).setCell ⟨b, 6, none⟩ x6) := Below.setCell t5 (p := ⟨b, 6, none⟩) hb x6
  have u0 : KeepsOthers W (W.setCell ⟨b, 0, none⟩ x0) := KeepsOthers.setCell _ _ _
  have u1 : KeepsOthers W ((W.setCell ⟨b, 0, none⟩ x0).setCell ⟨b, 1, none⟩ x1) := u0.trans (KeepsOthers.setCell _ _ _)
  have u2 : KeepsOthers W (((W.setCell ⟨b, 0, none⟩ x0).setCell ⟨b, 1, none⟩ x1).setCell ⟨b, 2, none⟩ x2) := u1.trans (KeepsOthers.setCell _ _ _)
  have u3 : KeepsOthers W ((((W.setCell ⟨b, 0, none⟩ x0).setCell ⟨b, 1, none⟩ x1).setCell ⟨b, 2, none⟩ x2).setCell ⟨b, 3, none⟩ x3) := u2.trans (KeepsOthers.setCell _ _ _)
  have u4 : KeepsOthers W (((((W.setCell ⟨b, 0, none⟩ x0).setCell ⟨b, 1, none⟩ x1).setCell ⟨b, 2, none⟩ x2).setCell ⟨b, 3, none⟩ x3).setCell ⟨b, 4, none⟩ x4) := u3.trans (KeepsOthers.setCell _ _ _)
  have u5 : KeepsOthers W ((((((W.setCell ⟨b, 0, none⟩ x0).setCell ⟨b, 1, none⟩ x1).setCell ⟨b, 2, none⟩ x2).setCell ⟨b, 3, none⟩ x3).setCell ⟨b, 4, none⟩ x4).setCell ⟨b, 5, none⟩ x5) := u4.trans (KeepsOthers.setCell _ _ _)
  have u6 : KeepsOthers W (((((((W.setCell ⟨b, 0, none⟩ x0).setCell ⟨b, 1, none⟩ x1).setCell ⟨b, 2, none⟩ x2).setCell ⟨b, 3, none⟩ x3).setCell ⟨b, 4, none⟩ x4).setCell ⟨b, 5, none⟩ x5).setCell ⟨b, 6, none⟩ x6) := u5.trans (KeepsOthers.setCell _ _ _)
  exact ⟨r6.other (Nat.ne_of_lt (Nat.lt_succ_self b)) e, s6.set 0 e, Below.setCell t6 (p := ⟨b + 1, 0, none⟩) (Nat.le_succ_of_le hb) e, u6.trans (KeepsOthers.setCell _ _ _)⟩
set_option maxRecDepth 100000 in
set_option maxHeartbeats 1000000 in
theorem of_in (F : Fence) (n : Nat) (hf : F.fn 24) (hr : F.fn 40) (hro : F.round = none) (hn : 6 ≤ n) (s : List UInt8) (w : World) :
    CallsIn F n Tryz.prog 24 #[.string (S s)] w fun e W' => e = .returned (ofV s) ∧ Below w.heap.size w W' := by
  have h1 : 1 ≤ n := by omega
  refine callsIn_of_wp_marks Tryz.func24 rfl hf ?_ hro
  simp only [Tryz.ntmps24, List.size_toArray, List.length_cons, List.length_nil, Nat.reduceAdd, Nat.reduceSub, Array.replicate_succ, Array.replicate_zero, List.push_toArray, List.append_toArray, List.nil_append, List.cons_append]
  gi_wp2
  obtain ⟨wa, hwa⟩ : ∃ wa, w.alloc (.cells #[.string (S s)] 9) = wa := ⟨_, rfl⟩
  obtain ⟨wb, hwb⟩ : ∃ wb, wa.alloc (.cells keZ 56) = wb := ⟨_, rfl⟩
  have za : wa.heap.size = w.heap.size + 1 := by rw [← hwa]; simp
  have zb : wb.heap.size = w.heap.size + 2 := by rw [← hwb]; simp [za]
  have bO : Blk ((wb.alloc (.cells #[.nilIface] 26))) w.heap.size #[.string (S s)] 9 := by rw [← hwb, ← hwa]; exact ((Blk.new w #[.string (S s)] 9).alloc _).alloc _
  have bR : Blk ((wb.alloc (.cells #[.nilIface] 26))) (w.heap.size + 1) keZ 56 := by rw [← hwb, ← za]; exact (Blk.new wa keZ 56).alloc _
  have bE : Blk ((wb.alloc (.cells #[.nilIface] 26))) (w.heap.size + 1 + 1) #[.nilIface] 26 := by
    have := Blk.new wb #[.nilIface] 26
    rwa [zb] at this
  have hB0 : Below w.heap.size w (wb.alloc (.cells #[.nilIface] 26)) := by
    rw [← hwb, ← hwa]
    exact (((Below.refl _ w).alloc (Nat.le_refl _) _).alloc (by simp) _).alloc (by simp; omega) _
  have hsz : (wb.alloc (.cells #[.nilIface] 26)).heap.size = w.heap.size + 3 := by simp [zb]
  obtain ⟨W0, hW0⟩ : ∃ W0, ((w.alloc (.cells #[.string (S s)] 9)).alloc (.cells keZ 56)).alloc (.cells #[.nilIface] 26) = W0 := ⟨_, rfl⟩
  rw [hwa, hwb] at hW0
  rw [hW0] at bO bR bE hB0 hsz
  subst hwa
  subst hwb
  unfold keZ at hW0 bR
  rw [hW0]
  clear hW0
  refine wpIn_rangeFunc_ownH hro h1 (gf := 40) (lb := #[]) rfl hr (enters_of Tryz.func40 (by kernel_rfl) rfl)
    (krows_stops F (n - 1) hr hro (by omega) w.heap.size W0) belowK_t (belowK_b (by omega)) (Below.refl _ _) (fun _ => rfl)
    (fun pre W => ((Blk W w.heap.size #[.string (S s)] 9 ∧ Blk W (w.heap.size + 1) #[.string (S []), .int .i64 0, .int .i64 0, .int .i64 0, .string (S []), .bool false, .bool false] 56 ∧ Blk W (w.heap.size + 1 + 1) #[.nilIface] 26) ∧ (∀ k ∈ pre, k.nm ≠ s)) ∧ Below w.heap.size w W)
    (fun c pre W => (c = .ret ∧ ∃ q k, pre = q ++ [k] ∧ (∀ k ∈ q, k.nm ≠ s) ∧ k.nm = s ∧ Blk W (w.heap.size + 1) (keC k).toArray 56 ∧ Blk W (w.heap.size + 1 + 1) #[.nilIface] 26) ∧ Below w.heap.size w W)
    (OwnFrom.and (OwnFrom.and (OwnFrom.and (Own.from (Blk.own _ _ _) _) (OwnFrom.and (Own.from (Blk.own _ _ _) _) (Own.from (Blk.own _ _ _) _))) (Own.from (own_const _) _)) (ownFrom_below (Nat.le_refl _) (by omega)))
    (fun c => OwnFrom.and (Own.from (fun s X Y row hs hg hr => by
      obtain ⟨hc, q, k, h1, h2, h3, h4, h5⟩ := hs
      exact ⟨hc, q, k, h1, h2, h3, Blk.own _ (fun _ : Unit => _) _ () X Y row h4 hg hr, Blk.own _ (fun _ : Unit => _) _ () X Y row h5 hg hr⟩) _) (ownFrom_below (Nat.le_refl _) (by omega)))
    ⟨⟨⟨bO, bR, bE⟩, fun k hk => by cases hk⟩, hB0⟩
    (fun x a' W => ∃ Bx, w.heap.size + 2 < Bx ∧ Blk W Bx (keC x).toArray 56 ∧ a' = { tmps := #[.string (S s), .pointer (some ⟨w.heap.size, 0, none⟩), .pointer (some ⟨w.heap.size + 1, 0, none⟩), .pointer (some ⟨w.heap.size + 1 + 1, 0, none⟩), .pointer (some ⟨Bx, 0, none⟩), keV x, undef, undef, undef, undef, undef, undef, undef], defers := [] })
    (fun x a' _ X Y row hs hg hr => by obtain ⟨Bx, h1, h2, h3⟩ := hs; exact ⟨Bx, h1, Blk.own Bx (fun _ : Unit => _) _ () X Y row h2 hg (fun r e => (hr r e).2), h3⟩)
    ?assign ?body ?done ?stop
  case assign =>
    rintro l pre x W K ⟨⟨⟨bO1, bR1, bE1⟩, hpre⟩, hB1⟩ hK
    unfold keV keC at *
    gi_wp2
    exact hK _ _ ((KeepsOthers.alloc _ _).from _) ((Below.refl _ W).alloc hB1.size _) ⟨⟨⟨bO1.alloc _, bR1.alloc _, bE1.alloc _⟩, hpre⟩, hB1.alloc hB1.size _⟩ ⟨W.heap.size, bE1.lt, Blk.new W _ _, rfl⟩
  case body =>
    rintro l pre x a' W hl ⟨r, hr⟩ ⟨⟨⟨bO1, bR1, bE1⟩, hpre⟩, hB1⟩ ⟨Bx, hBx, bX, rfl⟩ hlt
    obtain ⟨c0, c1, c2, c3, c4, c5, c6⟩ := bR1.seven
    have f0 := bR1.frozen 0
    have f1 := bR1.frozen 1
    have f2 := bR1.frozen 2
    have f3 := bR1.frozen 3
    have f4 := bR1.frozen 4
    have f5 := bR1.frozen 5
    have f6 := bR1.frozen 6
    have ce := bE1.one
    have fe := bE1.frozen 0
    have co := bO1.one
    unfold keC at bX
    obtain ⟨x0, x1, x2, x3, x4, x5, x6⟩ := bX.seven
    by_cases hx : x.nm = s
    · have hx' : (x.nm == s) = true := by simpa using hx
      have Hx := Lib.hid hx
      clear hx
      gi_wp2
      obtain ⟨g1, g2, g3, g4⟩ := seven_stored (.string (S x.nm)) (.int .i64 (x.kd : Int)) (.int .i64 (x.lo : Int)) (.int .i64 (x.hi : Int)) (.string (S x.df)) (.bool x.no) (.bool x.lg) .nilIface bR1 bE1 (Nat.le_succ _) hB1
      exact ⟨g4.from _, ⟨rfl, pre, x, rfl, hpre, Hx.out, g1, g2⟩, g3⟩
    · have hx' : (x.nm == s) = false := by simpa using hx
      gi_wp2
      exact ⟨KeepsFrom.refl _ _, Below.refl _ _, ⟨⟨bO1, bR1, bE1⟩, fun k hk => by
        rcases List.mem_append.1 hk with h | h
        · exact hpre k h
        · rw [List.mem_singleton.1 h]; exact hx⟩, hB1⟩
  case done =>
    rintro D xs W hD rfl ⟨⟨⟨bO1, bR1, bE1⟩, hpre⟩, hB1⟩ hK
    obtain ⟨c0, c1, c2, c3, c4, c5, c6⟩ := bR1.seven
    have f0 := bR1.frozen 0
    have f1 := bR1.frozen 1
    have f2 := bR1.frozen 2
    have f3 := bR1.frozen 3
    have f4 := bR1.frozen 4
    have f5 := bR1.frozen 5
    have f6 := bR1.frozen 6
    have ce := bE1.one
    have fe := bE1.frozen 0
    gi_wp2
    obtain ⟨g1, g2, g3, g4⟩ := seven_stored (.string (S [])) (.int .i64 0) (.int .i64 0) (.int .i64 0) (.string (S [])) (.bool false) (.bool false) (.iface 22 (.int .i64 5)) bR1 bE1 (Nat.le_succ _) hB1
    have hK' := g4.same D _ hK rfl
    refine ⟨by simp, .inl ⟨_, _, rfl, run_takeDeferred hK', ?_⟩⟩
    have e1 : w.heap.size + 1 ≠ D := by omega
    have e2 : w.heap.size + 1 + 1 ≠ D := by omega
    have hB2 := g3.trans (belowK_b (w := w) (Nat.le_refl _) _ D _ (.deferred none) (by omega) hK' rfl rfl)
    have g1' := g1.put (.deferred none) e1
    have g2' := g2.put (.deferred none) e2
    obtain ⟨q0, q1, q2, q3, q4, q5, q6⟩ := g1'.seven
    have qe := g2'.one
    refine ⟨ofV s, ?_, rfl, hB2⟩
    unfold ofV
    rw [rowOf_none hpre]
    clear g1 g2 g3 g4 hK' g1' g2' hB2 c0 c1 c2 c3 c4 c5 c6 f0 f1 f2 f3 f4 f5 f6 ce fe
    simp [results, Tryz.results24, go_sem, q0, q1, q2, q3, q4, q5, q6, qe, keZ]
  case stop =>
    rintro D c pre W hD hp ⟨⟨rfl, q, k, rfl, hq, hk, bR1, bE1⟩, hB1⟩ hK
    gi_wp2
    refine ⟨by simp, .inl ⟨_, _, rfl, run_takeDeferred hK, ?_⟩⟩
    have e1 : w.heap.size + 1 ≠ D := by omega
    have e2 : w.heap.size + 1 + 1 ≠ D := by omega
    have hB2 := hB1.trans (belowK_b (w := w) (Nat.le_refl _) _ D _ (.deferred none) (by omega) hK rfl rfl)
    unfold keC at bR1
    have g1' := bR1.put (.deferred none) e1
    have g2' := bE1.put (.deferred none) e2
    obtain ⟨q0, q1, q2, q3, q4, q5, q6⟩ := g1'.seven
    have qe := g2'.one
    refine ⟨ofV s, ?_, rfl, hB2⟩
    unfold ofV
    rw [rowOf_prefix hp hq hk]
    clear g1' g2' hB2 hq hp hk
    simp [results, Tryz.results24, go_sem, q0, q1, q2, q3, q4, q5, q6, qe, keC]
theorem of_any (s : List UInt8) (w : World) : Calls Tryz.prog 24 #[.string (S s)] w fun e W' => e = .returned (ofV s) ∧ Below w.heap.size w W' :=
  (callsIn_wide (n := 6)).1 (of_in _ 6 trivial trivial rfl (Nat.le_refl _) s w)
theorem of_none {s : List UInt8} (w : World) (h : rowOf s = none) : Calls Tryz.prog 24 #[.string (S s)] w fun e W' => e = .returned (.tuple #[.agg keZ, .iface 22 (.int .i64 5)]) ∧ Below w.heap.size w W' := by
  have C := of_any s w
  unfold ofV at C
  rw [h] at C
  exact C
theorem of_some {s : List UInt8} {k : Ke} (w : World) (h : rowOf s = some k) : Calls Tryz.prog 24 #[.string (S s)] w fun e W' => e = .returned (.tuple #[.agg (keC k).toArray, .nilIface]) ∧ Below w.heap.size w W' := by
  have C := of_any s w
  unfold ofV at C
  rw [h] at C
  exact C
end Go.Proofs.YtikcgnalcchlpaaGreatDoor
