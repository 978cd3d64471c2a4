/- KeysLists: a list with one word more is one just if that isn't there yet, and isn't empty. -/
import Derived.Test.YtbllnelnajfjgaaDoorKeyed
import Derived.Test.YtbllnelnajfjgaaDoorContS
import Derived.Test.YtbllnelnajfjgaaDoorEqS
import Derived.Test.YtbllnelnajfjgaaDoorShHas
import Derived.Test.YtbllnelnajfjgaaDoorShJn
import Derived.Deep.AppendSrc
import Derived.Lib.AppendZeros
namespace Go.Proofs.YtbllnelnajfjgaaDoor
open Go Go.RowKit
set_option linter.unusedVariables false
theorem wpList_append_wanted {P : Program} (w : World) {ops : Array Oper} {rest : List Oper} {o : Oper} {a : Act} {Q : Exit → Act → World → Prop} (hw : Region.wanted o (yielded ops a.tmps) = true) (s x : Operand) (t tn : TypeId)
    (ho : o.op = .call { callee := .builtin .append, args := #[s, x], argTypes := #[t, tn] }) (vs vx : Value) (hs : a.eval s = vs) (hx : a.eval x = vx)
    (v' : Value) (w' : World) (hr : (Builtin.append_ #[t, tn] o.type #[vs, vx]).run P w = .ok v' w') (h : wpList P ops Q rest (a.put o.dst v') w') : wpList P ops Q (o :: rest) a w :=
  BigFrame.wpList_want hw fun _ hK => Lib.wp_append_run w s x t tn ho vs vx hs hx v' w' hr (hK _ _ h)
theorem join_cons (a : List UInt8) {l : List (List UInt8)} (h : l ≠ []) : Lib.join (a :: l) [44] = a ++ 44 :: Lib.join l [44] := by
  cases l with
  | nil => exact absurd rfl h
  | cons b l =>
    unfold Lib.join List.intercalate
    rw [List.intersperse_cons_cons, List.flatten_cons, List.flatten_cons]
    rfl
theorem join_split : ∀ (n : Nat) (s : List UInt8), s.length ≤ n → Lib.join (split1 44 s) [44] = s := by
  intro n
  induction n with
  | zero =>
    intro s hs
    obtain rfl : s = [] := List.eq_nil_of_length_eq_zero (by omega)
    rfl
  | succ n ih =>
    intro s hs
    cases h : cut1 44 s with
    | none => rw [split1_none h]; simp [Lib.join, List.intercalate]
    | some q =>
      obtain ⟨a, b⟩ := q
      obtain ⟨he, _⟩ := cut1_some h
      rw [split1_some h, join_cons a (split1_ne 44 b), ih b (by have := congrArg List.length he; simp at this; omega)]
      exact he.symm
theorem joinC_any (l : List (List UInt8)) (g c : Nat) (w : World) (hcell : ∀ j (hj : j < l.length), w.cell? ⟨g, 0 + j, none⟩ = some (.string (S l[j]))) (hnc : l.length ≤ c) (h0 : 0 < l.length) (hl : l.length ≤ 1000000) (hf : (Lib.join l [44]).length ≤ 1000000) :
    Calls Tryd.prog 24 #[.slice (some ⟨g, 0, none⟩) l.length c, .string (S [44])] w fun e w' => e = .returned (.string (S (Lib.join l [44]))) ∧ Below w.heap.size w w' := by
  have hl1 : (l.map S).length = l.length := by simp
  have hmm : (l.map S).map (·.data.toList) = l := by
    rw [List.map_map]
    have : ((fun x : ByteArray => x.data.toList) ∘ S) = id := funext fun x => by simp [S]
    rw [this, List.map_id]
  have hsep : (S [44]).data.toList = [44] := by simp [S]
  have C := Tryd.strings_Join g 0 c (l.map S) (S [44]) w (fun j x hx => by
      rw [List.getElem?_map] at hx
      have hj : j < l.length := by
        rcases Nat.lt_or_ge j l.length with h | h
        · exact h
        · rw [List.getElem?_eq_none h] at hx; cases hx
      rw [List.getElem?_eq_getElem hj] at hx
      simp at hx
      rw [hcell j hj, hx]) (block_lt_of_cell (w := w) (a := ⟨g, 0 + 0, none⟩) (hcell 0 h0)) (by rw [hl1]; omega) (by rw [hl1]; exact hnc) (by rw [hmm, hsep]; omega)
  rw [hl1, hmm, hsep] at C
  exact C
/-- an append to a slice of the law's own: the slice itself reads as it did, and so does whatever lies in another block -/
theorem append_kept {base g n cv : Nat} {l : List (List UInt8)} {x : List UInt8} {w : World} {a : Addr} (h : StBuf base w (.slice (some ⟨g, 0, none⟩) n cv) l) (ha : ∀ j u, ([.string (S x)] : List Value)[j]? = some u → w.cell? (a.add j) = some u) (hl : l.length ≤ 1000) (hb : base ≤ w.heap.size) :
    ∃ v' w', (Builtin.append_ #[33, 33] 33 #[.slice (some ⟨g, 0, none⟩) n cv, .slice (some a) 1 1]).run Tryd.prog w = .ok v' w' ∧ StrV w' v' (l ++ [x]) ∧ (∀ j (hj : j < l.length), w'.cell? ⟨g, 0 + j, none⟩ = some (.string (S l[j]))) ∧ n ≤ cv ∧ n = l.length ∧ (∀ k, k < w.heap.size → k ≠ g → w'.heap[k]? = w.heap[k]?) ∧ Below base w w' := by
  obtain ⟨i0, hi, hz0, hz1, hz2⟩ := infoSt
  have hst := h.strs
  obtain ⟨p0, c0, hv0, hc0⟩ := hst
  have hn : n = l.length := by injection hv0
  subst hn
  have hge := h.ge
  have h' := h
  rcases h'.2 with ⟨h1, _⟩ | ⟨g1, cap, cur, hv, hbg, hg, hnc, hcm, hcs, htake⟩
  · cases h1
  obtain ⟨rfl, rfl⟩ : g = g1 ∧ cv = cap := by simpa using hv
  have hglt : g < w.heap.size := (Array.getElem?_eq_some_iff.1 hg).1
  obtain ⟨v5, w5, hrun, hown, hgrow, _⟩ := run_append_own (P := Tryd.prog) (w := w) base 33 33 9 i0 (.string (S [])) 1 16 Tryd.underlying33 hi hz0 hz1 hz2 rfl (by decide) (.slice (some ⟨g, 0, none⟩) l.length cv) l.length (strVs l) h a 1 1 [.string (S x)] rfl ha (strVs_one [x]) (by unfold maxLen; omega) (by omega) hb
  have hown' : StBuf base w5 v5 (l ++ [x]) := by
    unfold StBuf
    rw [strVs_app, List.length_append]
    exact hown
  have hcells : ∀ j (hj : j < l.length), w.cell? ⟨g, 0 + j, none⟩ = some (.string (S l[j])) := fun j hj => by
    obtain ⟨b, o, hp, hcell⟩ := hc0 (by omega)
    obtain ⟨rfl, rfl⟩ : some (⟨g, 0, none⟩ : Addr) = p0 ∧ cv = c0 := by simpa using hv0
    obtain ⟨rfl, rfl⟩ : g = b ∧ 0 = o := by simpa using hp
    exact hcell j hj
  have hsrc : Src Tryd.prog i0.size 33 (.slice (some a) 1 1) 1 [.string (S x)] w := by
    rw [hz1]
    exact Src.ofSlice w Tryd.underlying33 a 1 1 [.string (S x)] rfl ha (strVs_one [x])
  refine ⟨v5, w5, hrun, hown'.strs, ?_, hnc, rfl, fun k hk hne => hgrow.block k hk (by simpa [Value.ownBlock] using hne), ?_⟩
  · by_cases hroom : l.length + 1 ≤ cv
    · have hr := run_append_room_src (P := Tryd.prog) (w := w) 33 33 33 9 i0 Tryd.underlying33 hi g 0 l.length cv (.slice (some a) 1 1) 1 [.string (S x)] hsrc hroom
        (fun j hj => by
          have hj0 : j = 0 := by simpa using hj
          subst hj0
          rw [cell_of_row w g _ cur 9 (0, 0) hg, hz1, Array.getElem?_eq_getElem (by omega)]
          rfl)
        (fun j hj => by
          unfold World.frozen?
          rw [hg]
          simp)
      rw [hrun] at hr
      have hw : w5 = w.setCells g (0 + l.length * i0.size) [.string (S x)] := by injection hr
      intro j hj
      rw [hw, hz1]
      simp only [World.setCells]
      rw [World.cell?_setCell_other _ _ _ _ (by first | (simp; done) | (simp; omega))]
      exact hcells j hj
    · have hr := run_append_grow_src (P := Tryd.prog) (w := w) 33 33 33 9 i0 (.string (S [])) Tryd.underlying33 hi hz0 (some ⟨g, 0, none⟩) l.length cv (strVs l)
        (by rw [hz1]; exact run_firstCells_some w.drew 1 l.length ⟨g, 0, none⟩ l.length cv (strVs l) (by rw [strVs_len]; omega) (fun j u hu => by
          have hj : j < l.length := by
            rcases Nat.lt_or_ge j l.length with h | h
            · exact h
            · rw [List.getElem?_eq_none (by rw [strVs_len]; exact h)] at hu; cases hu
          have e1 : (⟨g, 0, none⟩ : Addr).add j = ⟨g, 0 + j, none⟩ := by simp only [Addr.add]; split <;> simp_all
          rw [e1]
          have := hcells j hj
          simp only [strVs, List.getElem?_map, List.getElem?_eq_getElem hj, Option.map_some] at hu
          rw [← hu]
          exact this)) (.slice (some a) 1 1) 1 [.string (S x)] hsrc (by omega) (by omega)
        (by
          rw [hz2]
          have := nextslicecap_le (need := l.length + 1) (old := cv) (by omega)
          omega)
      rw [hrun] at hr
      have hw : Below w.heap.size w w5 := by
        injection hr with _ hr2
        rw [hr2]
        exact (Below.refl _ _).drew.alloc (Nat.le_refl _) _
      intro j hj
      rw [(bcell hw).1 g (0 + j) hglt]
      exact hcells j hj
  · exact (Below.refl _ _).grown hgrow hb (fun k hk => hge k hk)
theorem contains44 (s : List UInt8) (w : World) (hl : s.length ≤ 1000000) (hm : MaxCell w) : Calls Tryd.prog 23 #[.string (S s), .string (S [44])] w fun e w' => e = .returned (.bool (decide ((44 : UInt8) ∈ s))) ∧ w = w' := by
  obtain ⟨m, hm⟩ := hm
  have C := Tryd.strings_Contains (S s) (S [44]) m w (by rw [S_size]; omega) hm
  have e1 : (S s).data.toList = s := by simp [S]
  have e2 : (S [44]).data.toList = [44] := by simp [S]
  rw [e1, e2] at C
  refine C.mono ?_
  rintro e w' ⟨rfl, rfl⟩
  refine ⟨?_, rfl⟩
  have h : Lib.contains s [44] = decide ((44 : UInt8) ∈ s) := by
    unfold Lib.contains
    rw [index_one]
    cases h : cut1 44 s with
    | none => rw [decide_eq_false (cut1_none h)]; rfl
    | some q =>
      obtain ⟨a, b⟩ := q
      rw [decide_eq_true (show (44 : UInt8) ∈ s by rw [(cut1_some h).1]; simp)]
      simp
  rw [h]
theorem listR_snoc {s x : List UInt8} (hs : OkL (split1 44 s)) (hx : (44 : UInt8) ∉ x) : listR (s ++ 44 :: x) = if x ≠ [] ∧ x ∉ split1 44 s then some (split1 44 s ++ [x]) else none := by
  unfold listR
  rw [split_snoc 44 s.length s x (Nat.le_refl _) hx]
  by_cases h : x ≠ [] ∧ x ∉ split1 44 s
  · rw [if_pos h, if_pos ((okL_snoc hs).2 h)]
  · rw [if_neg h, if_neg (fun h' => h ((okL_snoc hs).1 h'))]
set_option maxRecDepth 100000 in
set_option maxHeartbeats 1000000 in
theorem keysLists_any (s x : List UInt8) (w : World) (h1 : s.length ≤ 140737488351232) (h2 : x.length ≤ 140737488351232) (hE : Env w) (hg : ErrCell w) :
    Calls Tryd.prog 8 #[.string (S s), .string (S x)] w fun e w' => e = .returned (.bool true) ∧ Below w.heap.size w w' := by
  have Fk := Lib.hid (keyed_any w hE hg)
  by_cases hbig : 300 < s.length + x.length
  · have hbig' : (300 : Int) < (s.length : Int) + (x.length : Int) := by omega
    clear hE hg
    go_enter Tryd.func8, Tryd.ntmps8
    go_wp2_with fail
    refine Fk.out.mono ?_
    rintro e w1 ⟨rfl, hb1⟩
    have Hb1 := Lib.hid hb1
    clear hb1
    go_wp2_with fail
    go_ret
    exact ⟨rfl, Hb1.out⟩
  have hbig' : (s.length : Int) + (x.length : Int) ≤ 300 := by omega
  have ls : s.length ≤ 300 := by omega
  have lx : x.length ≤ 300 := by omega
  have CN := Lib.hid (fun W (h : Below w.heap.size w W) => contains44 x W (by omega) (hE.later h).mc)
  by_cases hc : (44 : UInt8) ∈ x
  · rw [decide_eq_true hc] at CN
    clear hE hg hbig hc
    go_enter Tryd.func8, Tryd.ntmps8
    go_wp2_with fail
    refine Fk.out.mono ?_
    rintro e w1 ⟨rfl, hb1⟩
    have Hb1 := Lib.hid hb1
    clear hb1
    go_wp2_with fail
    refine (CN.out w1 Hb1.out).mono ?_
    rintro e w' ⟨rfl, rfl⟩
    go_wp2_with fail
    go_ret
    exact ⟨rfl, Hb1.out⟩
  rw [decide_eq_false hc] at CN
  have L1 := Lib.hid (fun W (h : Below w.heap.size w W) => list_any s W (by omega) (hE.later h).mc)
  have L2 := Lib.hid (fun W (h : Below w.heap.size w W) => list_any (s ++ 44 :: x) W (by simp; omega) (hE.later h).mc)
  have sum1 : ¬ 9223372036854775807 < s.length + 1 := by omega
  have sum2 : ¬ 9223372036854775807 < s.length + 1 + x.length := by omega
  have hsp := split1_sum 44 s.length s (Nat.le_refl _)
  cases hr : listR s with
  | none =>
    rw [hr] at L1
    clear hE hg hbig hr hsp L2
    go_enter Tryd.func8, Tryd.ntmps8
    go_wp2_with fail
    refine Fk.out.mono ?_
    rintro e w1 ⟨rfl, hb1⟩
    have Hb1 := Lib.hid hb1
    clear hb1
    go_wp2_with fail
    refine (CN.out w1 Hb1.out).mono ?_
    rintro e w' ⟨rfl, rfl⟩
    go_wp2_with fail
    refine (L1.out w1 Hb1.out).mono ?_
    rintro e w2 ⟨v, rfl, hv, hb2⟩
    have Hb2 := Lib.hid (below_then Hb1.out hb2)
    obtain ⟨p, c, rfl⟩ := hv.form
    clear hb2 hv
    rw [show errV (listN none) = .iface 24 (.int .i64 3) from rfl]
    simp only [Option.getD_none, List.length_nil]
    go_wp2_with fail
    go_ret
    exact ⟨rfl, Hb2.out⟩
  | some l =>
    have hok : OkL (split1 44 s) ∧ l = split1 44 s := by
      unfold listR at hr
      split at hr
      · rename_i h; cases hr; exact ⟨h, rfl⟩
      · cases hr
    obtain ⟨hok, rfl⟩ := hok
    have hr2 := listR_snoc hok hc
    have hjs := Lib.hid (join_split s.length s (Nat.le_refl _))
    have hl0 : 0 < (split1 44 s).length := List.length_pos_iff.2 (split1_ne 44 s)
    have hlen := hsp.2
    rw [hr] at L1
    obtain ⟨l, hl⟩ : ∃ l, split1 44 s = l := ⟨_, rfl⟩
    rw [hl] at hr2 L1 hl0 hlen hjs
    have HL := Lib.hid hlen
    have CS := Lib.hid (fun (v : Value) W (hv : StrV W v l) => containsS_any l v x W hv (by omega))
    have bad : ∀ (_ : listR (s ++ 44 :: x) = none) (_ : x = [] ∨ (x.isEmpty = false ∧ decide (x ∈ l) = true)), Calls Tryd.prog 8 #[.string (S s), .string (S x)] w fun e w' => e = .returned (.bool true) ∧ Below w.heap.size w w' := by
      intro hn hh
      rw [hn] at L2
      have Hh := Lib.hid hh
      clear hE hg hbig hr hsp hr2 hok hn hh hc hl hl0 hlen
      go_enter Tryd.func8, Tryd.ntmps8
      go_wp2_with fail
      refine Fk.out.mono ?_
      rintro e w1 ⟨rfl, hb1⟩
      have Hb1 := Lib.hid hb1
      clear hb1
      go_wp2_with fail
      refine (CN.out w1 Hb1.out).mono ?_
      rintro e w' ⟨rfl, rfl⟩
      go_wp2_with fail
      refine (L1.out w1 Hb1.out).mono ?_
      rintro e w2 ⟨v, rfl, hv, hb2⟩
      have Hb2 := Lib.hid (below_then Hb1.out hb2)
      have hv2 := hv.strs
      clear hb2 hv
      rw [show errV (listN (some l)) = .nilIface from rfl]
      go_wp2_with fail
      refine (L2.out w2 Hb2.out).mono ?_
      rintro e w3 ⟨v3, rfl, hv3, hb3⟩
      have Hb3 := Lib.hid (below_then Hb2.out hb3)
      have HV3 := Lib.hid (hv2.later hb3)
      simp only [Option.getD_some] at HV3
      obtain ⟨p3, c3, rfl⟩ := hv3.form
      clear hb3 hv3 hv2
      rw [show errV (listN none) = .iface 24 (.int .i64 3) from rfl]
      simp only [Option.getD_none, List.length_nil]
      rcases Hh.out with rfl | ⟨hxe, hm⟩
      · go_wp2_with fail
        go_ret
        exact ⟨rfl, Hb3.out⟩
      · have C3 := CS.out _ _ HV3.out
        rw [hm] at C3
        have C3 := Lib.hid C3
        clear hm
        go_wp2_with fail
        refine C3.out.mono ?_
        rintro e w' ⟨rfl, rfl⟩
        go_wp2_with fail
        go_ret
        exact ⟨rfl, Hb3.out⟩
    by_cases hx0 : x = []
    · exact bad (by rw [hr2, if_neg (fun h => h.1 hx0)]) (.inl hx0)
    have hxe : x.isEmpty = false := by cases x with | nil => exact absurd rfl hx0 | cons _ _ => rfl
    by_cases hm : x ∈ l
    · exact bad (by rw [hr2, if_neg (fun h => h.2 hm)]) (.inr ⟨hxe, decide_eq_true hm⟩)
    rw [if_pos ⟨hx0, hm⟩] at hr2
    rw [hr2] at L2
    rw [decide_eq_false hm] at CS
    have EQ := Lib.hid (fun (v v' : Value) W (h1 : StrV W v (l ++ [x])) (h2 : StrV W v' (l ++ [x])) => equalS_same (l ++ [x]) v v' W (by simp; omega) h1 h2)
    have Hl0 := Lib.hid hl0
    clear bad hE hg hbig hr hsp hr2 hok hc hl hl0 hx0 hm
    go_enter Tryd.func8, Tryd.ntmps8
    go_wp2_with fail
    refine Fk.out.mono ?_
    rintro e w1 ⟨rfl, hb1⟩
    have Hb1 := Lib.hid hb1
    clear hb1
    go_wp2_with fail
    refine (CN.out w1 Hb1.out).mono ?_
    rintro e w' ⟨rfl, rfl⟩
    go_wp2_with fail
    refine (L1.out w1 Hb1.out).mono ?_
    rintro e w2 ⟨v, rfl, hv, hb2⟩
    have Hb2 := Lib.hid (below_then Hb1.out hb2)
    have Hs2 := Lib.hid hb2.size
    clear hb2
    rw [show errV (listN (some l)) = .nilIface from rfl]
    go_wp2_with fail
    refine (L2.out w2 Hb2.out).mono ?_
    rintro e w3 ⟨v3, rfl, hv3, hb3⟩
    have Hb3 := Lib.hid (below_then Hb2.out hb3)
    simp only [Option.getD_some] at hv hv3
    have hv' := hv.later hb3
    have HV := Lib.hid hv'
    have HV3 := Lib.hid hv3.strs
    have HG3 := Lib.hid hv3.ge
    have C3 := Lib.hid (CS.out _ _ hv'.strs)
    obtain ⟨pv, cv, rfl⟩ := hv.form
    have HG2' := Lib.hid (fun k hk => (World.ownsRow.lt hv k hk).2)
    have hge := Lib.hid (show w1.heap.size ≤ w3.heap.size from by have := hb3.size; have := Hs2.out; omega)
    clear hb3 hv3 hv hv'
    rw [show errV (listN (some (l ++ [x]))) = .nilIface from rfl]
    obtain ⟨HA1, HA2, HA3, HA4, HA5⟩ := appS_sides x w3 w3.heap.size l.length 0 rfl (by omega) (by omega)
    go_wp2_with fail
    obtain ⟨w4, hw4⟩ : ∃ w4, w3.alloc (.cells #[.string (S x)] 9) = w4 := ⟨_, rfl⟩
    have hb4 : Below w3.heap.size w3 w4 := by rw [← hw4]; exact (Below.refl _ _).alloc (Nat.le_refl _) _
    have HBa : StBuf w1.heap.size w4 (.slice pv l.length cv) l := HV.out.later hb4
    rw [hw4] at HA1
    obtain ⟨g, hpv⟩ : ∃ g, pv = some ⟨g, 0, none⟩ := by
      rcases HBa.2 with ⟨h, h0⟩ | ⟨g, cap, cur, hv, _⟩
      · exact absurd h0 (by have := Hl0.out; omega)
      · exact ⟨g, by simpa using congrArg (fun v => match v with | Value.slice p _ _ => p | _ => none) hv⟩
    have HBa' := HBa
    rw [hpv] at HBa'
    obtain ⟨v5, w5, hrun, hs5, hc5, hnc, _, hoth, hb5⟩ := append_kept HBa' HA1.out (by have := HL.out; omega) (by have := hge.out; have := hb4.size; omega)
    have Hb5 := Lib.hid (show Below w.heap.size w w5 from (below_then Hb3.out hb4).trans (hb5.mono Hb1.out.size))
    have hv35 : StrV w5 v3 (l ++ [x]) := by
      obtain ⟨p3, c3, hv3', hcell3⟩ := HV3.out
      refine ⟨p3, c3, hv3', fun h0 => ?_⟩
      obtain ⟨b3, o3, hp3, hc3⟩ := hcell3 h0
      refine ⟨b3, o3, hp3, fun j hj => ?_⟩
      have h3 := hc3 j hj
      have hlt3 : b3 < w3.heap.size := block_lt_of_cell (w := w3) (a := ⟨b3, o3 + j, none⟩) h3
      have hne : b3 ≠ g := by
        have h1 := HG3.out b3 (by rw [hv3', hp3]; rfl)
        have h2 := HG2'.out g (by rw [hpv]; rfl)
        omega
      rw [cell_same (hoth b3 (by have := hb4.size; omega) hne), (bcell hb4).1 b3 _ hlt3]
      exact h3
    have E5 := Lib.hid (EQ.out v3 v5 w5 hv35 hs5)
    have J5 := Lib.hid (fun W (hb : Below w5.heap.size w5 W) => show Calls Tryd.prog 24 #[.slice pv l.length cv, .string (S [44])] W (fun e w' => e = .returned (.string (S s)) ∧ Below W.heap.size W w') from by
      rw [hpv]
      have := joinC_any l g cv W (fun j hj => by rw [(bcell hb).1 g (0 + j) (block_lt_of_cell (w := w5) (a := ⟨g, 0 + j, none⟩) (hc5 j hj))]; exact hc5 j hj) hnc Hl0.out (by have := HL.out; omega) (by rw [hjs.out]; omega)
      rwa [hjs.out] at this)
    have e1 : (s == s) = true := by simp
    have H5f : ∃ p c, v5 = .slice p (l.length + 1) c := by have h := hs5.form; rwa [show (l ++ [x]).length = l.length + 1 from by simp] at h
    rw [← hpv] at hrun
    have HRun := Lib.hid hrun
    clear hrun hpv HBa' HG2' HBa hb4 hs5 hc5 hnc hoth hb5 hv35 EQ HA1 HA2 HA3 HA4 HA5
    obtain ⟨p5, c5, rfl⟩ := H5f
    go_wp2_with fail
    refine C3.out.mono ?_
    rintro e w' ⟨rfl, rfl⟩
    go_wp2_with (at_builtin; refine wpList_append_wanted _ (by rfl) _ _ _ _ rfl _ _ rfl rfl _ _ HRun.out ?_)
    refine E5.out.mono ?_
    rintro e w6 ⟨rfl, hb6⟩
    have J6 := Lib.hid (J5.out w6 hb6)
    have Hb6 := Lib.hid (below_then Hb5.out hb6)
    clear hb6
    go_wp2_with fail
    refine J6.out.mono ?_
    rintro e w7 ⟨rfl, hb7⟩
    have Hb7 := Lib.hid (below_then Hb6.out hb7)
    clear hb7
    go_wp2_with fail
    go_ret
    exact ⟨rfl, Hb7.out⟩
end Go.Proofs.YtbllnelnajfjgaaDoor
