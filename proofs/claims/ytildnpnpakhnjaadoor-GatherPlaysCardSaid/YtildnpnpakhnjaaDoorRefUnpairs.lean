/- ref.Unpairs. -/
import Derived.Test.YtildnpnpakhnjaaDoorRefPairs
import Derived.Test.YtildnpnpakhnjaaDoorPairMath2
import Derived.Test.YtildnpnpakhnjaaDoorStepOwn
import Derived.Test.YtildnpnpakhnjaaDoorShSpl
import Derived.Lib.IndexBytes
namespace Go.Proofs.YtildnpnpakhnjaaDoor
open Go.RowKit
set_option linter.unusedVariables false
theorem inB_cut (c : UInt8) (s : List UInt8) : inB s c = match cut1 c s with
    | none => -1
    | some (a, _) => (a.length : Int) := by
  unfold inB
  rw [← Lib.index_one]
  exact index_one c s
theorem split0_any (s : List UInt8) (w : World) (hl : s.length ≤ 1000000) (hm : MaxCell w) :
    Calls Tryd.prog 56 #[.string (S s), .string (S [0])] w fun e w' => e = .returned (.slice (some ⟨w.heap.size, 0, none⟩) (split1 0 s).length (split1 0 s).length) ∧
      (∀ j (hj : j < (split1 0 s).length), w'.cell? ⟨w.heap.size, j, none⟩ = some (.string (S (split1 0 s)[j]))) ∧ w.heap.size < w'.heap.size ∧ Below w.heap.size w w' := by
  obtain ⟨m, hm2⟩ := hm
  have C := Tryd.strings_Split (S s) (S [0]) m _ (by rw [S_size]; omega) hm2 (by rw [S_size]; decide)
  have e1 : Lib.countB (S s) (S [0]) = Lib.count s [0] := by show Lib.count (S s).data.toList (S [0]).data.toList = _; simp [S]
  have hd := Lib.splitB_data (S [0]) 0 (Lib.count s [0]) (S s)
  have e2 : (S [0]).data.toList = [0] := by simp [S]
  have e3 : (S s).data.toList = s := by simp [S]
  rw [e2, e3, split1_is] at hd
  have hinv : ∀ s : ByteArray, S s.data.toList = s := fun s => by apply ByteArray.ext; simp [S]
  have hd2 := congrArg (List.map S) hd
  rw [List.map_map] at hd2
  rw [show (S ∘ fun x : ByteArray => x.data.toList) = id from funext fun s => hinv s, List.map_id] at hd2
  rw [e1, hd2, count_one] at C
  refine C.mono ?_
  rintro e w' ⟨rfl, rfl⟩
  refine ⟨rfl, fun j hj => ?_, by simp, (Below.refl _ _).alloc (Nat.le_refl _) _⟩
  rw [World.cell?_alloc_mark]
  simp only [List.map_map, List.getElem?_toArray, List.getElem?_map]
  rw [List.getElem?_eq_getElem hj]
  simp
theorem PrBuf.set {base : Nat} {W : World} {v : Value} {l : List Pr} (h : PrBuf base W v l) {b : Nat} (hb : b < base) (i : Nat) (x : Value) : PrBuf base (W.setCell ⟨b, i, none⟩ x) v l := by
  refine World.ownsRow.kept (row := some b) h ⟨rfl, rfl, rfl, by simp [World.setCell], fun k hk hne => setCell_heap_other (fun e => hne (by rw [e])) x⟩ ?_
  cases hv : v.ownBlock with
  | none => exact .inl rfl
  | some k => exact .inr (by have := h.ge k hv; simp; omega)
set_option maxRecDepth 100000 in
set_option maxHeartbeats 2000000 in
theorem refUnpairs_any (s : List UInt8) (w : World) (hl : s.length ≤ 1000000) (hm : MaxCell w) :
    Calls Tryd.prog 26 #[.string (S s)] w (RetPF w (prParse s)) := by
  obtain ⟨i0, hi, hz0, hz1, hz2⟩ := infoPr
  have hb0 := (Below.refl w.heap.size w).alloc (Nat.le_refl _) (.cells #[.int .i64 0, .int .i64 0] 26)
  have HF0 := Lib.hid (cell2_new w)
  have SP := split0_any s _ hl (hm.later hb0)
  have hsum := split1_sum 0 s.length s (Nat.le_refl _)
  have hU := unp_parse s
  have hne := split1_ne 0 s
  obtain ⟨ps, hps⟩ : ∃ ps, split1 0 s = ps := ⟨_, rfl⟩
  rw [hps] at SP hsum hU hne
  obtain ⟨n1, hn1⟩ : ∃ n1, ps.length = n1 + 1 := ⟨ps.length - 1, by have := List.length_pos_iff.2 hne; omega⟩
  have hn6 : n1 ≤ 1000000 := by have := hsum.2; omega
  simp only [hn1] at SP
  have SPh := Lib.hid SP
  have Hb0 := Lib.hid hb0
  have Hsum := Lib.hid hsum.1
  have HU := Lib.hid hU
  have Hn1 := Lib.hid hn1
  have GF := fun w => Lib.hid (goodF w)
  have BF := fun w => Lib.hid (bareF 4 w)
  clear hb0 hm hsum hU hne hps SP
  go_enter Tryd.func26, Tryd.ntmps26
  go_wp2_with fail
  refine SPh.out.mono ?_
  rintro e w1 ⟨rfl, hcl, hlt1, hb1⟩
  have Hcl := Lib.hid hcl
  have HF1 := Lib.hid (HF0.out.later hb1)
  have Hb1 := Lib.hid (below_then Hb0.out hb1)
  have Hlt1 := Lib.hid hlt1
  clear SPh hcl hb1 hlt1 HF0
  simp only [World.size_alloc] at Hcl Hlt1 ⊢
  go_wp2_with fail
  go_loopw [4, 17] (fun x i wr => ∃ (j : Nat) (acc : List Pr), j ≤ n1 ∧ j ≤ 60 ∧ i = .int .i64 j ∧ acc.length = j ∧ unpF j (ps.drop j) acc = prParse s ∧ PrBuf w1.heap.size wr x acc ∧ Below w1.heap.size w1 wr) (fun _ i _ => n1 - (intOf i).toNat)
  case atStart => exact ⟨0, [], by omega, by omega, rfl, rfl, HU.out, PrBuf.nil _ _, Below.refl _ _⟩
  case round =>
    obtain ⟨j, acc, hj, hj60, rfl, hacc, hr, hbuf, hb⟩ := hrel
    have HF := Lib.hid (HF1.out.later hb)
    have Hbw := Lib.hid (below_then Hb1.out hb)
    have Hb := Lib.hid hb
    have Hbuf := Lib.hid hbuf
    have Hge := Lib.hid hbuf.ge
    have Hacc := Lib.hid hacc
    obtain ⟨pv, cv, rfl⟩ := hbuf.form
    by_cases hlt : j < n1
    · have hji : (j : Int) < (n1 : Int) := by omega
      have hjl : j < ps.length := by omega
      have hcell := Hcl.out j (by omega)
      rw [← (bcell hb).1 (w.heap.size + 1) j Hlt1.out] at hcell
      obtain ⟨x, hx⟩ : ∃ x, ps[j] = x := ⟨_, rfl⟩
      have hxl := Hsum.out ps[j] (List.getElem_mem hjl)
      have hd2 : ps.drop (j + 1) ≠ [] := fun e => by have := congrArg List.length e; simp at this; omega
      obtain ⟨y, r, hyr⟩ : ∃ y r, ps.drop (j + 1) = y :: r := by
        cases e : ps.drop (j + 1) with
        | nil => exact absurd e hd2
        | cons y r => exact ⟨y, r, rfl⟩
      rw [List.drop_eq_getElem_cons hjl, hyr, unpF_two] at hr
      rw [hx] at hcell hr hxl
      have Hyr := Lib.hid hyr
      have I := fun W => inB_any x 61 W
      rw [inB_cut] at I
      simp only [show (((61 : UInt8).toNat : Nat) : Int) = 61 from rfl] at I
      have hx6 : (x.length : Int) ≤ 1000000 := by omega
      cases h61 : cut1 61 x with
      | none =>
        simp only [h61] at hr I
        have Hr := Lib.hid hr
        have I := fun W => Lib.hid (I W)
        obtain ⟨x0, x1⟩ := HF.out.cells
        have f0 := HF.out.frozen 0
        have f1 := HF.out.frozen 1
        clear hr hb hbuf hd2 hyr hx hxl h61 hacc
        go_wp2_with fail
        refine (I _).out.mono ?_
        rintro e w2 ⟨rfl, rfl⟩
        go_wp2_with fail
        obtain ⟨g1, g2⟩ := fault_set 3 (j : Int) HF.out Hbw.out
        refine bodyPost_ret (v := .tuple #[.slice none 0 0, .agg #[.int .i64 3, .int .i64 (j : Int)]]) (by simp [results, Tryd.results26, go_sem, x0, x1]) rfl ?_
        rw [← Hr.out]
        exact ⟨_, rfl, PrsV.nil _, g2⟩
      | some q =>
        obtain ⟨k, v⟩ := q
        obtain ⟨hxe, _⟩ := cut1_some h61
        simp only [h61] at hr I
        have hkl : k.length + 1 + v.length = x.length := by rw [hxe]; simp; omega
        have htk : List.take k.length x = k := by rw [hxe]; simp
        have hdv : List.drop (k.length + 1) (k ++ 61 :: v) = v := by rw [List.drop_append]; simp
        have htv : List.take (x.length - (k.length + 1)) (List.drop (k.length + 1) x) = v := by
          rw [hxe, hdv, List.take_of_length_le (by simp; omega)]
        have K := fun W => Lib.hid (refKey_any k W (by omega))
        have V := fun W => Lib.hid (refVal_any v W (by omega))
        generalize hkk : k.length = kl at hkl htk htv I
        have i1 : (kl : Int) + 1 ≤ (x.length : Int) := by omega
        have i2 : (0 : Int) ≤ (kl : Int) + 1 := by omega
        have i3 : ((kl : Int) + 1).toNat = kl + 1 := by omega
        have i4 : kl ≤ x.length := by omega
        have i5 : kl + 1 ≤ x.length := by omega
        have i6 : (kl : Int) ≤ (x.length : Int) := by omega
        have I := fun W => Lib.hid (I W)
        have Hr := Lib.hid hr
        by_cases h60 : j = 60
        · rw [if_pos h60] at Hr
          subst h60
          have hji : (60 : Int) < (n1 : Int) := by omega
          clear hr hb hbuf hd2 hyr hx hxl h61 hacc hxe hkl hdv hkk
          go_wp2_with fail
          refine (I _).out.mono ?_
          rintro e w2 ⟨rfl, rfl⟩
          go_wp2_with fail
          refine (BF _).out.mono ?_
          rintro e w2 ⟨rfl, hb2⟩
          have HF2 := Lib.hid (HF.out.later hb2)
          have Hb2 := Lib.hid (below_then Hbw.out hb2)
          obtain ⟨x0, x1⟩ := HF2.out.cells
          have f0 := HF2.out.frozen 0
          have f1 := HF2.out.frozen 1
          clear hb2
          go_wp2_with fail
          obtain ⟨g1, g2⟩ := fault_set 4 (-1) HF2.out Hb2.out
          refine bodyPost_ret (v := .tuple #[.slice none 0 0, .agg #[.int .i64 4, .int .i64 (-1)]]) (by simp [results, Tryd.results26, go_sem, x0, x1]) rfl ?_
          rw [← Hr.out]
          exact ⟨_, rfl, PrsV.nil _, g2⟩
        rw [if_neg h60] at Hr
        have h60b : ((j : Int) == 60) = false := by simp; omega
        have h59 : j + 1 ≤ 60 := by omega
        clear hr hd2 hyr hx hxl h61 hacc hxe hdv hkk h60
        cases hk : isKey k with
        | false =>
          simp only [hk] at K Hr
          have hr2 : (([] : List Pr), (5 : Int), (j : Int)) = prParse s := by simpa using Hr.out
          have Hr2 := Lib.hid hr2
          clear hb hbuf hkl Hr hr2 hk
          go_wp2_with fail
          refine (I _).out.mono ?_
          rintro e w2 ⟨rfl, rfl⟩
          go_wp2_with fail
          refine (K _).out.mono ?_
          rintro e w2 ⟨rfl, hb2⟩
          have HF2 := Lib.hid (HF.out.later hb2)
          have Hb2 := Lib.hid (below_then Hbw.out hb2)
          obtain ⟨x0, x1⟩ := HF2.out.cells
          have f0 := HF2.out.frozen 0
          have f1 := HF2.out.frozen 1
          clear hb2
          go_wp2_with fail
          obtain ⟨g1, g2⟩ := fault_set 5 (j : Int) HF2.out Hb2.out
          refine bodyPost_ret (v := .tuple #[.slice none 0 0, .agg #[.int .i64 5, .int .i64 (j : Int)]]) (by simp [results, Tryd.results26, go_sem, x0, x1]) rfl ?_
          rw [← Hr2.out]
          exact ⟨_, rfl, PrsV.nil _, g2⟩
        | true =>
          simp only [hk] at K Hr
          cases hvv : isVal v with
          | false =>
            simp only [hvv] at V Hr
            have hr2 : (([] : List Pr), (3 : Int), (j : Int)) = prParse s := by simpa using Hr.out
            have Hr2 := Lib.hid hr2
            clear hb hbuf hkl Hr hr2 hk hvv
            go_wp2_with fail
            refine (I _).out.mono ?_
            rintro e w2 ⟨rfl, rfl⟩
            go_wp2_with fail
            refine (K _).out.mono ?_
            rintro e w2 ⟨rfl, hb2⟩
            have HF2 := Lib.hid (HF.out.later hb2)
            have Hb2 := Lib.hid (below_then Hbw.out hb2)
            clear hb2 hcell
            go_wp2_with fail
            refine (V _).out.mono ?_
            rintro e w3 ⟨rfl, hb3⟩
            have HF3 := Lib.hid (HF2.out.later hb3)
            have Hb3 := Lib.hid (below_then Hb2.out hb3)
            obtain ⟨x0, x1⟩ := HF3.out.cells
            have f0 := HF3.out.frozen 0
            have f1 := HF3.out.frozen 1
            clear hb3
            go_wp2_with fail
            obtain ⟨g1, g2⟩ := fault_set 3 (j : Int) HF3.out Hb3.out
            refine bodyPost_ret (v := .tuple #[.slice none 0 0, .agg #[.int .i64 3, .int .i64 (j : Int)]]) (by simp [results, Tryd.results26, go_sem, x0, x1]) rfl ?_
            rw [← Hr2.out]
            exact ⟨_, rfl, PrsV.nil _, g2⟩
          | true =>
            simp only [hvv] at V Hr
            have hr2 : unpF (j + 1) (y :: r) (acc ++ [⟨k, v⟩]) = prParse s := by simpa using Hr.out
            rw [← Hyr.out] at hr2
            have Hr2 := Lib.hid hr2
            clear hb hbuf hkl Hr hr2 hk hvv
            go_wp2_with fail
            refine (I _).out.mono ?_
            rintro e w2 ⟨rfl, rfl⟩
            go_wp2_with fail
            refine (K _).out.mono ?_
            rintro e w2 ⟨rfl, hb2⟩
            have Hbuf2 := Lib.hid (Hbuf.out.later hb2)
            have Hb2 := Lib.hid (Hb.out.trans (hb2.mono Hb.out.size))
            clear hb2 hcell
            go_wp2_with fail
            refine (V _).out.mono ?_
            rintro e w3 ⟨rfl, hb3⟩
            have Hbuf3 := Lib.hid (Hbuf2.out.later hb3)
            have Hb3 := Lib.hid (Hb2.out.trans (hb3.mono Hb2.out.size))
            have hsz3 := Hb3.out.size
            obtain ⟨HA1, HA2, HA3, HA4, HA5⟩ := appP_sides k v w3.drew w3.heap.size acc.length w1.heap.size rfl (by have := Hacc.out; omega) hsz3
            have HBa := Lib.hid (Hbuf3.out.drew.alloc (.cells #[.string (S k), .string (S v)] 46))
            have e3 : IntKind.i64.wrap ((kl : Int) + 1) = (kl : Int) + 1 := IntWalk.i64_in _ (by omega)
            clear hb3 Hbuf2 Hb2
            go_wp2_with fail
            go_region_law (refine step_append_own rfl (.tmp 46) (.tmp 55) 22 rfl w1.heap.size 46 i0 (.agg #[.string (S []), .string (S [])]) 2 32 Tryd.underlying22 hi hz0 hz1 hz2 rfl (by decide) (.slice pv acc.length cv) acc.length (prsVs acc) rfl HBa.out ⟨w3.heap.size, 0, none⟩ 1 1 [.string (S k), .string (S v)] rfl rfl HA1.out HA2.out HA3.out HA4.out HA5.out ?_; intro v' wa hown hgrow hnil)
            have hown' : PrBuf w1.heap.size wa v' (acc ++ [⟨k, v⟩]) := by
              unfold PrBuf
              rw [prsVs_app, List.length_append]
              exact hown
            have hlow := (Hb3.out.drew.alloc (by exact hsz3) (.cells #[.string (S k), .string (S v)] 46)).grown hgrow (by have := hsz3; simp; omega) Hge.out
            have Hown := Lib.hid hown'
            have Hlow := Lib.hid hlow
            clear hown hown' hlow hgrow hnil
            go_wp2_with fail
            go_roundw
            case rel => exact ⟨j + 1, acc ++ [⟨k, v⟩], by omega, h59, by go_num, by simp [Hacc.out], Hr2.out, Hown.out, Hlow.out⟩
            case measure => simp [intOf]; omega
    · obtain rfl : j = n1 := by omega
      have hjl : j < ps.length := by omega
      have hcell := Hcl.out j (by omega)
      rw [← (bcell hb).1 (w.heap.size + 1) j Hlt1.out] at hcell
      obtain ⟨x, hx⟩ : ∃ x, ps[j] = x := ⟨_, rfl⟩
      rw [List.drop_eq_getElem_cons hjl, List.drop_eq_nil_of_le (by omega), unpF_one] at hr
      rw [hx] at hcell hr
      have Hr := Lib.hid hr
      by_cases hx0 : x = []
      · rw [if_pos hx0] at Hr
        have hie : x.isEmpty = true := by rw [hx0]; rfl
        subst hx0
        clear hr hb hbuf hx hacc
        go_wp2_with fail
        refine (GF _).out.mono ?_
        rintro e w2 ⟨rfl, hb2⟩
        have HF2 := Lib.hid (HF.out.later hb2)
        have Hb2 := Lib.hid (below_then Hbw.out hb2)
        have Hbuf2 := Lib.hid (Hbuf.out.later hb2)
        have Hw := Lib.hid (Hb.out.size)
        obtain ⟨x0, x1⟩ := HF2.out.cells
        have f0 := HF2.out.frozen 0
        have f1 := HF2.out.frozen 1
        clear hb2
        go_wp2_with fail
        obtain ⟨g1, g2⟩ := fault_set 0 (-1) HF2.out Hb2.out
        refine bodyPost_ret (v := .tuple #[.slice pv acc.length cv, .agg #[.int .i64 0, .int .i64 (-1)]]) (by simp [results, Tryd.results26, go_sem, x0, x1]) rfl ?_
        rw [← Hr.out]
        exact ⟨_, rfl, ((Hbuf2.out.set (by have := Hlt1.out; omega) 0 _).set (by have := Hlt1.out; omega) 1 _).prs, g2⟩
      · rw [if_neg hx0] at Hr
        have hie : x.isEmpty = false := by
          cases x with
          | nil => exact absurd rfl hx0
          | cons _ _ => rfl
        obtain ⟨x0, x1⟩ := HF.out.cells
        have f0 := HF.out.frozen 0
        have f1 := HF.out.frozen 1
        clear hr hb hbuf hx hacc hx0
        go_wp2_with fail
        obtain ⟨g1, g2⟩ := fault_set 7 (j : Int) HF.out Hbw.out
        refine bodyPost_ret (v := .tuple #[.slice none 0 0, .agg #[.int .i64 7, .int .i64 (j : Int)]]) (by simp [results, Tryd.results26, go_sem, x0, x1]) rfl ?_
        rw [← Hr.out]
        exact ⟨_, rfl, PrsV.nil _, g2⟩
end Go.Proofs.YtildnpnpakhnjaaDoor
