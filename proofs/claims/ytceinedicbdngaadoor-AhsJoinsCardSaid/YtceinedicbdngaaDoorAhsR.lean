/- ahs.first, ahs.Read. -/
import Derived.Test.YtceinedicbdngaaDoorAhs
import Derived.Laws.AppendOwn
import Derived.Laws.OwnMore
namespace Go.Proofs.YtceinedicbdngaaDoor
open Go.RowKit
/-- a header and an error are returned -/
def RetFA (w : World) (r : Int × Ah) (e : Ending) (w' : World) : Prop := ∃ ev, e = .returned (.tuple #[.agg #[.int .i64 r.2.k, .string (S r.2.d)], ev]) ∧ ErrIs w' ev r.1 (-1) ∧ Below w.heap.size w w'
set_option maxRecDepth 100000 in
theorem first_any (s : List UInt8) (w : World) (hl : s.length ≤ 1100) :
    Calls Tryd.prog 34 #[.string (S s)] w (RetFA w (firstA s)) := by
  have hb0 := (Below.refl w.heap.size w).alloc (Nat.le_refl _) (.cells #[.int .i64 0, .string (S [])] 41)
  have Hb0 := Lib.hid hb0
  have HK := Lib.hid (Blk.new w #[.int .i64 0, .string (S [])] 41)
  by_cases h3 : s.length < 3
  · have E := Lib.hid (firstA_few h3)
    clear hb0
    go_enter Tryd.func34, Tryd.ntmps34
    go_wp2_with fail
    obtain ⟨q0, q1⟩ := HK.out.two
    go_wp2_with fail
    refine bodyPost_ret (v := .tuple #[.agg #[.int .i64 0, .string (S [])], .iface 24 (.int .i64 7)]) (by simp [results, Tryd.results34, go_sem]) rfl ?_
    rw [E.out]
    exact ⟨_, rfl, .bare 7 (by decide), Hb0.out⟩
  · have hn := val2_lt s
    obtain ⟨n, hv⟩ : ∃ n, val (s.take 2) = n := ⟨_, rfl⟩
    have G := fun w => Lib.hid (get_ok (s.take 2) w (by simp; omega))
    have E1 := Lib.hid (firstA_more (s := s))
    have E2 := Lib.hid (firstA_form (s := s))
    have E3 := Lib.hid (firstA_ok (s := s))
    simp only [hv] at G hn E1 E2 E3
    have hw := IntWalk.i64_in (n : Int) (by omega)
    by_cases hfew : s.length < 3 + n + pad (3 + n)
    · have U := fun w => Lib.hid (unpad_few s (3 + n) w (by omega) (.inr hfew))
      simp only [Int.natCast_add] at U
      have E := Lib.hid (E1.out (by omega) hfew)
      clear hb0 hv hfew E1 E2 E3
      go_enter Tryd.func34, Tryd.ntmps34
      go_wp2_with fail
      refine (G _).out.mono ?_
      rintro e w1 ⟨rfl, rfl⟩
      go_wp2_with fail
      refine (U _).out.mono ?_
      rintro e w1 ⟨rfl, rfl⟩
      go_wp2_with fail
      refine bodyPost_ret (v := .tuple #[.agg #[.int .i64 0, .string (S [])], .iface 24 (.int .i64 7)]) (by simp [results, Tryd.results34, go_sem]) rfl ?_
      rw [E.out]
      exact ⟨_, rfl, .bare 7 (by decide), Hb0.out⟩
    · cases hz : ((s.drop (3 + n)).take (pad (3 + n)) == zs (pad (3 + n))) with
      | false =>
        have U := fun w => Lib.hid (unpad_bad s (3 + n) w (by omega) (by omega) hz)
        simp only [Int.natCast_add] at U
        have E := Lib.hid (E2.out (by omega) (by omega) hz)
        clear hb0 hv hfew E1 E2 E3 hz
        go_enter Tryd.func34, Tryd.ntmps34
        go_wp2_with fail
        refine (G _).out.mono ?_
        rintro e w1 ⟨rfl, rfl⟩
        go_wp2_with fail
        refine (U _).out.mono ?_
        rintro e w1 ⟨rfl, m, rfl⟩
        go_wp2_with fail
        refine bodyPost_ret (v := .tuple #[.agg #[.int .i64 0, .string (S [])], .iface 24 (.int .i64 3)]) (by simp [results, Tryd.results34, go_sem]) rfl ?_
        rw [E.out]
        exact ⟨_, rfl, .bare 3 (by decide), ((below_drewN Hb0.out m).setCell (Nat.le_refl _) _).setCell (Nat.le_refl _) _⟩
      | true =>
        have U := fun w => Lib.hid (unpad_ok s (3 + n) w (by omega) (by omega) hz)
        simp only [Int.natCast_add] at U
        have E := Lib.hid (E3.out (by omega) (by omega) hz)
        have h2l : 2 < s.length := by omega
        have h3n : ((s.take (3 + n)).length) = 3 + n := by simp; omega
        have hdt : List.drop 3 (s.take (3 + n)) = (s.drop 3).take n := by rw [List.drop_take]; congr 1; omega
        obtain ⟨c, hc⟩ : ∃ c, s[2]'h2l = c := ⟨_, rfl⟩
        have hg : s.getD 2 0 = c := by rw [List.getD_eq_getElem?_getD, List.getElem?_eq_getElem h2l, hc]; rfl
        rw [hg] at E
        obtain ⟨t, ht⟩ : ∃ t, s.take (3 + n) = t := ⟨_, rfl⟩
        rw [ht] at h3n hdt U
        rw [← hdt] at E
        have hld : (t.drop 3).length = n := by simp; omega
        clear hb0 hv hfew E1 E2 E3 hz hg ht hdt
        go_enter Tryd.func34, Tryd.ntmps34
        go_wp2_with fail
        refine (G _).out.mono ?_
        rintro e w1 ⟨rfl, rfl⟩
        go_wp2_with fail
        refine (U _).out.mono ?_
        rintro e w1 ⟨rfl, m, rfl⟩
        have HK1 := Lib.hid (HK.out.drewN m)
        have HB1 := Lib.hid (below_drewN Hb0.out m)
        generalize (w.alloc (.cells #[.int .i64 0, .string (S [])] 41)).drewN m = w1 at HK1 HB1 ⊢
        obtain ⟨q0, q1⟩ := HK1.out.two
        have f0 := HK1.out.frozen 0
        have f1 := HK1.out.frozen 1
        go_wp2_with fail
        go_region
        go_wp2_with fail
        have w1c : wrap64 (c.toNat : Int) = (c.toNat : Int) := IntWalk.wrap64_in _ (by have := c.toNat_lt; omega)
        have htk : List.take n (List.drop 3 t) = List.drop 3 t := List.take_of_length_le (by omega)
        refine bodyPost_ret (v := .tuple #[.agg #[.int .i64 (c.toNat : Int), .string (S (t.drop 3))], .nilIface]) (by simp [results, Tryd.results34, go_sem, q0, q1, w1c, htk]) rfl ?_
        rw [E.out]
        exact ⟨_, rfl, .good, (HB1.out.drew.setCell (Nat.le_refl _) _).setCell (Nat.le_refl _) _⟩
/-- headers that a call collects in a slice of its own -/
def ahsVs (l : List Ah) : List Value := l.flatMap fun a => [.int .i64 a.k, .string (S a.d)]
theorem ahsVs_len : ∀ l : List Ah, (ahsVs l).length = l.length * 2
  | [] => rfl
  | a :: l => by
    have := ahsVs_len l
    unfold ahsVs at *
    simp only [List.flatMap_cons, List.length_append, List.length_cons, List.length_nil] at *
    omega
theorem ahsVs_app (l m : List Ah) : ahsVs (l ++ m) = ahsVs l ++ ahsVs m := by simp [ahsVs]
theorem ahsVs_one (l : List Ah) : ∀ u ∈ ahsVs l, u.oneCell' = true := by
  intro u hu
  unfold ahsVs at hu
  obtain ⟨a, _, h⟩ := List.mem_flatMap.1 hu
  rcases List.mem_cons.1 h with rfl | h
  · rfl
  · rw [List.mem_singleton.1 h]; rfl
theorem ahsVs_get : ∀ (l : List Ah) (j : Nat) (hj : j < l.length), (ahsVs l)[j * 2]? = some (.int .i64 l[j].k) ∧ (ahsVs l)[j * 2 + 1]? = some (.string (S l[j].d))
  | [], j, hj => by simp at hj
  | a :: l, 0, _ => ⟨rfl, rfl⟩
  | a :: l, j + 1, hj => by
    obtain ⟨h1, h2⟩ := ahsVs_get l j (by simpa using hj)
    have e : ahsVs (a :: l) = .int .i64 a.k :: .string (S a.d) :: ahsVs l := rfl
    rw [e, show (j + 1) * 2 = j * 2 + 1 + 1 by omega, List.getElem?_cons_succ, List.getElem?_cons_succ, h1, show j * 2 + 1 + 1 + 1 = (j * 2 + 1) + 1 + 1 by omega, List.getElem?_cons_succ, List.getElem?_cons_succ, h2]
    exact ⟨rfl, rfl⟩
def ABuf (base : Nat) (W : World) (v : Value) (l : List Ah) : Prop := W.ownsRow base 41 2 v l.length (ahsVs l)
theorem ABuf.nil (base : Nat) (W : World) : ABuf base W (.slice none 0 0) [] := World.ownsRow_nil W base 41 2
theorem ABuf.alloc {base : Nat} {W : World} {v : Value} {l : List Ah} (h : ABuf base W v l) (o : Obj) : ABuf base (W.alloc o) v l := World.ownsRow.alloc h o
theorem ABuf.drew {base : Nat} {W : World} {v : Value} {l : List Ah} (h : ABuf base W v l) : ABuf base W.drew v l := h
theorem ABuf.drewN {base : Nat} {W : World} {v : Value} {l : List Ah} (h : ABuf base W v l) (n : Nat) : ABuf base (W.drewN n) v l := h
theorem ABuf.later {base : Nat} {W W' : World} {v : Value} {l : List Ah} (h : ABuf base W v l) (hb : Below W.heap.size W W') : ABuf base W' v l := by
  refine World.ownsRow.kept (row := none) h ⟨hb.os, hb.tape, hb.output, hb.size, fun k hk _ => hb.block k hk⟩ ?_
  cases hv : v.ownBlock with
  | none => exact .inl rfl
  | some k => exact .inr (by simp)
theorem ABuf.form {base : Nat} {W : World} {v : Value} {l : List Ah} (h : ABuf base W v l) : ∃ p cap, v = .slice p l.length cap := by
  rcases h.2 with ⟨rfl, h0⟩ | ⟨g, cap, cur, hv, _⟩
  · exact ⟨none, 0, by rw [h0]⟩
  · exact ⟨_, _, hv⟩
theorem ABuf.ahs {base : Nat} {W : World} {v : Value} {l : List Ah} (h : ABuf base W v l) : AhsV W v l := by
  rcases h.2 with ⟨rfl, h0⟩ | ⟨g, cap, cur, rfl, hbg, hg, hnc, hcm, hcs, htake⟩
  · obtain rfl : l = [] := List.eq_nil_of_length_eq_zero h0
    exact AhsV.nil W
  · refine ⟨_, _, rfl, hnc, fun _ => ⟨g, 0, rfl, fun j hj => ?_⟩⟩
    obtain ⟨g1, g2⟩ := ahsVs_get l j hj
    have h1 := World.ownsRow.cells h (g := g) rfl (j * 2) _ g1
    have h2 := World.ownsRow.cells h (g := g) rfl (j * 2 + 1) _ g2
    have e1 : (⟨g, 0, none⟩ : Addr).add (j * 2) = ⟨g, 0 + j * 2, none⟩ := by simp only [Addr.add]; split <;> simp_all
    have e2 : (⟨g, 0, none⟩ : Addr).add (j * 2 + 1) = ⟨g, 0 + j * 2 + 1, none⟩ := by simp only [Addr.add]; split <;> simp_all <;> omega
    rw [e1] at h1
    rw [e2] at h2
    exact ⟨h1, h2⟩
theorem ABuf.ne {base : Nat} {W : World} {v : Value} {l : List Ah} (h : ABuf base W v l) {b : Nat} (hb : W.heap.size ≤ b) : ∀ k, v.ownBlock = some k → b ≠ k := fun k hk => by
  have := (World.ownsRow.lt h k hk).2
  omega
theorem ABuf.ge {base : Nat} {W : World} {v : Value} {l : List Ah} (h : ABuf base W v l) : ∀ k, v.ownBlock = some k → base ≤ k := fun k hk => (World.ownsRow.lt h k hk).1
theorem Blk.grownA {W W' : World} {b : Nat} {C : Array Value} {t : TypeId} {row : Option Nat} (h : Blk W b C t) (hg : W.grownBy W' row) (hne : ∀ k, row = some k → b ≠ k) : Blk W' b C t :=
  (hg.block b h.lt (fun e => hne b e.symm rfl)).trans h
theorem ABuf.other {base b : Nat} {W W' : World} {v : Value} {l : List Ah} (h : ABuf base W v l) (hg : W.grownBy W' (some b)) (hb : b < base) : ABuf base W' v l := by
  refine World.ownsRow.kept h hg ?_
  cases hv : v.ownBlock with
  | none => exact .inl rfl
  | some k => exact .inr (fun e => by have := (World.ownsRow.lt h k hv).1; have := Option.some.inj e; omega)
theorem grownBy_cell (W : World) (a : Addr) (u : Value) : W.grownBy (W.setCell a u) (some a.block) :=
  ⟨rfl, rfl, rfl, by simp, fun k _ hne => by
    have hk : k ≠ a.block := fun e => hne (by rw [e])
    exact Below.heap_setCell W a u k hk⟩
theorem ABuf.set {base : Nat} {W : World} {v : Value} {l : List Ah} (h : ABuf base W v l) {a : Addr} (hb : a.block < base) (u : Value) : ABuf base (W.setCell a u) v l := h.other (grownBy_cell W a u) hb
theorem infoAh : ∃ i, Tryd.prog.info? 41 = some i ∧ i.zero = some (.agg #[.int .i64 0, .string (S [])]) ∧ i.size = 2 ∧ i.bytes = 24 := info_parts (show (Tryd.prog.info? 41).map (fun i => (i.zero, i.size, i.bytes)) = some (some (.agg #[.int .i64 0, .string (S [])]), 2, 24) by kernel_rfl)
end Go.Proofs.YtceinedicbdngaaDoor
