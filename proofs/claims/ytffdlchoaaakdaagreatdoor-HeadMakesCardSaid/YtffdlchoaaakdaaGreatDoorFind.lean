/- head.find: the row of an op. -/
import Derived.Test.YtffdlchoaaakdaaGreatDoorHRows
import Derived.Test.YtffdlchoaaakdaaGreatDoorBlk
namespace Go.Proofs.YtffdlchoaaakdaaGreatDoor
open Go.RowKit Go.Shelf
attribute [local go_sem] Oper.semAt_some
def zeroC : Array Value := #[.int .i64 0, .string (S []), .int .i64 0, .string (S [])]
def findV (op : Int) : Value := match kindOf op with
  | some k => .tuple #[.agg (rowC k).toArray, .nilIface]
  | none => .tuple #[.agg zeroC, .iface 28 (.int .i64 1)]
theorem row_stored {w W : World} {N b : Nat} {o0 o1 o2 o3 oe : Value} {t te : TypeId} (x0 x1 x2 x3 e : Value) (hR : Blk W b #[o0, o1, o2, o3] t) (hE : Blk W (b + 1) #[oe] te) (hb : N ≤ b) (hB : Below N w W) :
    Blk (((((W.setCell ⟨b, 0, none⟩ x0).setCell ⟨b, 1, none⟩ x1).setCell ⟨b, 2, none⟩ x2).setCell ⟨b, 3, none⟩ x3).setCell ⟨b + 1, 0, none⟩ e) b #[x0, x1, x2, x3] t ∧
    Blk (((((W.setCell ⟨b, 0, none⟩ x0).setCell ⟨b, 1, none⟩ x1).setCell ⟨b, 2, none⟩ x2).setCell ⟨b, 3, none⟩ x3).setCell ⟨b + 1, 0, none⟩ e) (b + 1) #[e] te ∧
    Below N w (((((W.setCell ⟨b, 0, none⟩ x0).setCell ⟨b, 1, none⟩ x1).setCell ⟨b, 2, none⟩ x2).setCell ⟨b, 3, none⟩ x3).setCell ⟨b + 1, 0, none⟩ e) ∧
    KeepsOthers W (((((W.setCell ⟨b, 0, none⟩ x0).setCell ⟨b, 1, none⟩ x1).setCell ⟨b, 2, none⟩ x2).setCell ⟨b, 3, none⟩ x3).setCell ⟨b + 1, 0, none⟩ e) := by
  refine ⟨?_, ?_, ?_, ?_⟩
  · exact ((((hR.set 0 x0).set 1 x1).set 2 x2).set 3 x3).other (by omega) e
  · exact ((((hE.other (by omega) x0).other (by omega) x1).other (by omega) x2).other (by omega) x3).set 0 e
  · exact ((((hB.setCell (p := ⟨b, 0, none⟩) hb _).setCell (p := ⟨b, 1, none⟩) hb _).setCell (p := ⟨b, 2, none⟩) hb _).setCell (p := ⟨b, 3, none⟩) hb _).setCell (p := ⟨b + 1, 0, none⟩) (by show N ≤ b + 1; omega) _
  · exact ((((KeepsOthers.setCell _ _ _).trans (KeepsOthers.setCell _ _ _)).trans (KeepsOthers.setCell _ _ _)).trans (KeepsOthers.setCell _ _ _)).trans (KeepsOthers.setCell _ _ _)
theorem kindOf_prefix {op : Int} {q : List Kd} {k : Kd} (hp : q ++ [k] <+: kinds) (hq : ∀ k ∈ q, (k.op : Int) ≠ op) (hk : (k.op : Int) = op) : kindOf op = some k := by
  obtain ⟨r, hr⟩ := hp
  unfold kindOf
  rw [← hr, List.append_assoc, List.find?_append, List.find?_eq_none.2 (fun x hx => by simpa using hq x hx)]
  simp [hk]
theorem kindOf_none {op : Int} (hq : ∀ k ∈ kinds, (k.op : Int) ≠ op) : kindOf op = none := by
  unfold kindOf
  exact List.find?_eq_none.2 (fun x hx => by simpa using hq x hx)
set_option maxRecDepth 100000 in
set_option maxHeartbeats 1000000 in
theorem find_in (F : Fence) (n : Nat) (hf : F.fn 23) (hr : F.fn 37) (hro : F.round = none) (hn : 6 ≤ n) (op : Int) (w : World) :
    CallsIn F n Tryz.prog 23 #[.int .i64 op] w fun e W' => e = .returned (findV op) ∧ Below w.heap.size w W' := by
  have h1 : 1 ≤ n := by omega
  refine callsIn_of_wp_marks Tryz.func23 rfl hf ?_ hro
  simp only [Tryz.ntmps23, List.size_toArray, List.length_cons, List.length_nil, Nat.reduceAdd, Nat.reduceSub, Array.replicate_succ, Array.replicate_zero, List.push_toArray, List.append_toArray, List.nil_append, List.cons_append]
  gi_wp2
  have bO := ((Blk.new w #[.int .i64 op] 3).alloc (.cells #[.int .i64 0, .string (S []), .int .i64 0, .string (S [])] 68)).alloc (.cells #[.nilIface] 30)
  have bR := (Blk.new (w.alloc (.cells #[.int .i64 op] 3)) #[.int .i64 0, .string (S []), .int .i64 0, .string (S [])] 68).alloc (.cells #[.nilIface] 30)
  have bE := Blk.new ((w.alloc (.cells #[.int .i64 op] 3)).alloc (.cells #[.int .i64 0, .string (S []), .int .i64 0, .string (S [])] 68)) #[.nilIface] 30
  simp only [World.size_alloc] at bR bE
  have hB0 : Below w.heap.size w (((w.alloc (.cells #[.int .i64 op] 3)).alloc (.cells #[.int .i64 0, .string (S []), .int .i64 0, .string (S [])] 68)).alloc (.cells #[.nilIface] 30)) := (((Below.refl _ w).alloc (Nat.le_refl _) _).alloc (by simp) _).alloc (by simp; omega) _
  have hsz : (((w.alloc (.cells #[.int .i64 op] 3)).alloc (.cells #[.int .i64 0, .string (S []), .int .i64 0, .string (S [])] 68)).alloc (.cells #[.nilIface] 30)).heap.size = w.heap.size + 3 := by simp
  obtain ⟨W0, hW0⟩ : ∃ W0, ((w.alloc (.cells #[.int .i64 op] 3)).alloc (.cells #[.int .i64 0, .string (S []), .int .i64 0, .string (S [])] 68)).alloc (.cells #[.nilIface] 30) = W0 := ⟨_, rfl⟩
  rw [hW0] at bO bR bE hB0 hsz ⊢
  clear hW0
  refine wpIn_rangeFunc_ownH hro h1 (gf := 37) (lb := #[]) rfl hr (enters_of Tryz.func37 (by kernel_rfl) rfl)
    (rows_stops F (n - 1) hr hro (by omega) w.heap.size W0) belowK_t (belowK_b (by omega)) (Below.refl _ _) (fun _ => rfl)
    (fun pre W => ((Blk W w.heap.size #[.int .i64 op] 3 ∧ Blk W (w.heap.size + 1) #[.int .i64 0, .string (S []), .int .i64 0, .string (S [])] 68 ∧ Blk W (w.heap.size + 1 + 1) #[.nilIface] 30) ∧ (∀ k ∈ pre, (k.op : Int) ≠ op)) ∧ Below w.heap.size w W)
    (fun c pre W => (c = .ret ∧ ∃ q k, pre = q ++ [k] ∧ (∀ k ∈ q, (k.op : Int) ≠ op) ∧ (k.op : Int) = op ∧ Blk W (w.heap.size + 1) (rowC k).toArray 68 ∧ Blk W (w.heap.size + 1 + 1) #[.nilIface] 30) ∧ Below w.heap.size w W)
    (OwnFrom.and (OwnFrom.and (OwnFrom.and (Own.from (Blk.own _ _ _) _) (OwnFrom.and (Own.from (Blk.own _ _ _) _) (Own.from (Blk.own _ _ _) _))) (Own.from (own_const _) _)) (ownFrom_below (Nat.le_refl _) (by omega)))
    (fun c => OwnFrom.and (Own.from (fun s X Y row hs hg hr => by
      obtain ⟨hc, q, k, h1, h2, h3, h4, h5⟩ := hs
      exact ⟨hc, q, k, h1, h2, h3, Blk.own _ (fun _ : Unit => _) _ () X Y row h4 hg hr, Blk.own _ (fun _ : Unit => _) _ () X Y row h5 hg hr⟩) _) (ownFrom_below (Nat.le_refl _) (by omega)))
    ⟨⟨⟨bO, bR, bE⟩, fun k hk => by cases hk⟩, hB0⟩
    (fun x a' W => ∃ Bx, w.heap.size + 2 < Bx ∧ Blk W Bx (rowC x).toArray 68 ∧ a' = { tmps := #[.int .i64 op, .pointer (some ⟨w.heap.size, 0, none⟩), .pointer (some ⟨w.heap.size + 1, 0, none⟩), .pointer (some ⟨w.heap.size + 1 + 1, 0, none⟩), .pointer (some ⟨Bx, 0, none⟩), rowV x, undef, undef, undef, undef, undef, undef, undef], defers := [] })
    (fun x a' _ X Y row hs hg hr => by obtain ⟨Bx, h1, h2, h3⟩ := hs; exact ⟨Bx, h1, Blk.own Bx (fun _ : Unit => _) _ () X Y row h2 hg (fun r e => (hr r e).2), h3⟩)
    ?assign ?body ?done ?stop
  case assign =>
    rintro l pre x W K ⟨⟨⟨bO1, bR1, bE1⟩, hpre⟩, hB1⟩ hK
    unfold rowV rowC at *
    gi_wp2
    exact hK _ _ ((KeepsOthers.alloc _ _).from _) ((Below.refl _ W).alloc hB1.size _) ⟨⟨⟨bO1.alloc _, bR1.alloc _, bE1.alloc _⟩, hpre⟩, hB1.alloc hB1.size _⟩ ⟨W.heap.size, bE1.lt, Blk.new W _ _, rfl⟩
  case body =>
    rintro l pre x a' W hl ⟨r, hr⟩ ⟨⟨⟨bO1, bR1, bE1⟩, hpre⟩, hB1⟩ ⟨Bx, hBx, bX, rfl⟩ hlt
    obtain ⟨c0, c1, c2, c3⟩ := bR1.four
    have f0 := bR1.frozen 0
    have f1 := bR1.frozen 1
    have f2 := bR1.frozen 2
    have f3 := bR1.frozen 3
    have ce := bE1.one
    have fe := bE1.frozen 0
    have co := bO1.one
    unfold rowC at bX
    obtain ⟨x0, x1, x2, x3⟩ := bX.four
    by_cases hx : (x.op : Int) = op
    · have hx' : ((x.op : Int) == op) = true := by simpa using hx
      have Hx := Lib.hid hx
      clear hx
      gi_wp2
      obtain ⟨g1, g2, g3, g4⟩ := row_stored (.int .i64 (x.op : Int)) (.string (S x.nm)) (.int .i64 (x.fl : Int)) (.string (S x.tx)) .nilIface bR1 bE1 (Nat.le_succ _) hB1
      exact ⟨g4.from _, ⟨rfl, pre, x, rfl, hpre, Hx.out, g1, g2⟩, g3⟩
    · have hx' : ((x.op : Int) == op) = false := by simpa using hx
      gi_wp2
      exact ⟨KeepsFrom.refl _ _, Below.refl _ _, ⟨⟨bO1, bR1, bE1⟩, fun k hk => by
        rcases List.mem_append.1 hk with h | h
        · exact hpre k h
        · rw [List.mem_singleton.1 h]; exact hx⟩, hB1⟩
  case done =>
    rintro D xs W hD rfl ⟨⟨⟨bO1, bR1, bE1⟩, hpre⟩, hB1⟩ hK
    obtain ⟨c0, c1, c2, c3⟩ := bR1.four
    have f0 := bR1.frozen 0
    have f1 := bR1.frozen 1
    have f2 := bR1.frozen 2
    have f3 := bR1.frozen 3
    have ce := bE1.one
    have fe := bE1.frozen 0
    gi_wp2
    obtain ⟨g1, g2, g3, g4⟩ := row_stored (.int .i64 0) (.string (S [])) (.int .i64 0) (.string (S [])) (.iface 28 (.int .i64 1)) bR1 bE1 (Nat.le_succ _) hB1
    have hK' := g4.same D _ hK rfl
    refine ⟨by simp, .inl ⟨_, _, rfl, run_takeDeferred hK', ?_⟩⟩
    have e1 : w.heap.size + 1 ≠ D := by omega
    have e2 : w.heap.size + 1 + 1 ≠ D := by omega
    have hB2 := g3.trans (belowK_b (w := w) (Nat.le_refl _) _ D _ (.deferred none) (by omega) hK' rfl rfl)
    have g1' := g1.put (.deferred none) e1
    have g2' := g2.put (.deferred none) e2
    obtain ⟨q0, q1, q2, q3⟩ := g1'.four
    have qe := g2'.one
    refine ⟨findV op, ?_, rfl, hB2⟩
    unfold findV
    rw [kindOf_none hpre]
    clear g1 g2 g3 g4 hK' g1' g2' hB2 c0 c1 c2 c3 f0 f1 f2 f3 ce fe
    simp [results, Tryz.results23, go_sem, q0, q1, q2, q3, qe, zeroC]
  case stop =>
    rintro D c pre W hD hp ⟨⟨rfl, q, k, rfl, hq, hk, bR1, bE1⟩, hB1⟩ hK
    gi_wp2
    refine ⟨by simp, .inl ⟨_, _, rfl, run_takeDeferred hK, ?_⟩⟩
    have e1 : w.heap.size + 1 ≠ D := by omega
    have e2 : w.heap.size + 1 + 1 ≠ D := by omega
    have hB2 := hB1.trans (belowK_b (w := w) (Nat.le_refl _) _ D _ (.deferred none) (by omega) hK rfl rfl)
    unfold rowC at bR1
    have g1' := bR1.put (.deferred none) e1
    have g2' := bE1.put (.deferred none) e2
    obtain ⟨q0, q1, q2, q3⟩ := g1'.four
    have qe := g2'.one
    refine ⟨findV op, ?_, rfl, hB2⟩
    unfold findV
    rw [kindOf_prefix hp hq hk]
    clear g1' g2' hB2 hq hp hk
    simp [results, Tryz.results23, go_sem, q0, q1, q2, q3, qe, rowC]
theorem find_any (op : Int) (w : World) : Calls Tryz.prog 23 #[.int .i64 op] w fun e W' => e = .returned (findV op) ∧ Below w.heap.size w W' :=
  (callsIn_wide (n := 6)).1 (find_in _ 6 trivial trivial rfl (Nat.le_refl _) op w)
end Go.Proofs.YtffdlchoaaakdaaGreatDoor
