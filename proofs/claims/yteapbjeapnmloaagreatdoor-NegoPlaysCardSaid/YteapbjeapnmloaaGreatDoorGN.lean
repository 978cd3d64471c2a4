/- Several texts in one: ref.List.  | ref.KeyFits.  | The reference's Nego: how it lies; of, Own, Value, Digests, NewNego.  | ref.NewNego.  | A map to bool of the call's own: a store of either value.  | ref.Result: what comes of an offer, and of what one has, as the reference has it.  -/
import Derived.Test.YteapbjeapnmloaaGreatDoorGE
import Derived.Test.YteapbjeapnmloaaGreatDoorGA
import Derived.Test.YteapbjeapnmloaaGreatDoorShSplt
import Derived.Lib.IndexBytes
import Derived.Test.YteapbjeapnmloaaGreatDoorGL9
import Derived.Test.YteapbjeapnmloaaGreatDoorGM
import Derived.Test.YteapbjeapnmloaaGreatDoorGG
import Derived.Test.YteapbjeapnmloaaGreatDoorGB
import Derived.Test.YteapbjeapnmloaaGreatDoorKeyIn
import Derived.Carry
import Derived.Test.YteapbjeapnmloaaGreatDoorShHas
namespace Go.Proofs.YteapbjeapnmloaaGreatDoor
open Go.RowKit
set_option linter.unusedVariables false
theorem split44_any (s : List UInt8) (w : World) (hl : s.length ≤ 1000000) (hm : MaxCell w) :
    Calls Tryz.prog 97 #[.string (S s), .string (S [44])] w fun e w' => e = .returned (.slice (some ⟨w.heap.size, 0, none⟩) (split1 44 s).length (split1 44 s).length) ∧
      (∀ j (hj : j < (split1 44 s).length), w'.cell? ⟨w.heap.size, j, none⟩ = some (.string (S (split1 44 s)[j]))) ∧ w.heap.size < w'.heap.size ∧ Below w.heap.size w w' := by
  obtain ⟨m, hm2⟩ := hm
  have C := Tryz.strings_Split (S s) (S [44]) m _ (by rw [S_size]; omega) hm2 (by rw [S_size]; decide)
  have e1 : Lib.countB (S s) (S [44]) = Lib.count s [44] := by show Lib.count (S s).data.toList (S [44]).data.toList = _; simp [S]
  have hd := Lib.splitB_data (S [44]) 0 (Lib.count s [44]) (S s)
  have e2 : (S [44]).data.toList = [44] := by simp [S]
  have e3 : (S s).data.toList = s := by simp [S]
  rw [e2, e3, split1_is] at hd
  have hinv : ∀ s : ByteArray, S s.data.toList = s := fun s => by apply ByteArray.ext; simp [S]
  have hd2 := congrArg (List.map S) hd
  rw [List.map_map] at hd2
  rw [show (S ∘ fun x : ByteArray => x.data.toList) = id from funext fun s => hinv s, List.map_id] at hd2
  rw [e1, hd2, count_one] at C
  refine C.mono ?_
  rintro e w' ⟨rfl, rfl⟩
  refine ⟨rfl, fun j hj => ?_, by simp, (Below.refl _ _).alloc (Nat.le_refl _) _⟩
  rw [World.cell?_alloc_mark]
  simp only [List.map_map, List.getElem?_toArray, List.getElem?_map]
  rw [List.getElem?_eq_getElem hj]
  simp
theorem okL_grow {l : List (List UInt8)} {k : Nat} (hk : k < l.length) (h : OkL (l.take k)) (h1 : l[k] ≠ []) (h2 : ∀ j (hj : j < l.length), j < k → l[j] ≠ l[k]) : OkL (l.take (k + 1)) := by
  rw [← List.take_append_getElem hk]
  refine (okL_snoc h).2 ⟨h1, fun hm => ?_⟩
  obtain ⟨j, hj, he⟩ := List.getElem_of_mem hm
  rw [List.length_take] at hj
  rw [List.getElem_take] at he
  exact h2 j (by omega) (by omega) he
theorem okL_empty {l : List (List UInt8)} {k : Nat} (hk : k < l.length) (h : l[k] = []) : ¬ OkL l := fun ho => ho.1 l[k] (List.getElem_mem hk) h
theorem okL_twice {l : List (List UInt8)} {j k : Nat} (hk : k < l.length) (hj : j < k) (h : l[j]'(by omega) = l[k]) : ¬ OkL l := fun ho => by
  exact List.pairwise_iff_getElem.1 ho.2 j k (by omega) hk hj h
def listI (r : Option (List (List UInt8))) : Int := match r with | some _ => 0 | none => 3
/-- words and an error's number -/
def RetRL (w : World) (r : Option (List (List UInt8))) (e : Ending) (w' : World) : Prop :=
  ∃ v, e = .returned (.tuple #[v, .int .i64 (listI r)]) ∧ StrV w' v (r.getD []) ∧ Below w.heap.size w w'
theorem strV_none (w : World) : StrV w (.slice none 0 0) [] := ⟨none, 0, rfl, fun h => by cases h⟩
set_option maxRecDepth 100000 in
set_option maxHeartbeats 2000000 in
theorem refList_any (s : List UInt8) (w : World) (hl : s.length ≤ 1000000) (hm : MaxCell w) : Calls Tryz.prog 94 #[.string (S s)] w (RetRL w (listR s)) := by
  have SP := Lib.hid (split44_any s w hl hm)
  have hln := (split1_sum 44 s.length s (Nat.le_refl _)).2
  obtain ⟨l, hll⟩ : ∃ l, split1 44 s = l := ⟨_, rfl⟩
  rw [hll] at SP hln
  have hbad : ¬ OkL l → listR s = none := fun h => by unfold listR; rw [hll, if_neg h]
  have hgood : OkL l → listR s = some l := fun h => by unfold listR; rw [hll, if_pos h]
  have Bad := Lib.hid hbad
  have Good := Lib.hid hgood
  have hls : l.length ≤ 1000001 := by omega
  clear hbad hgood hll hln
  obtain ⟨R, hR⟩ : ∃ R, listR s = R := ⟨_, rfl⟩
  rw [hR] at Bad Good ⊢
  clear hR
  go_enter Tryz.func94, Tryz.ntmps94
  go_wp2_with fail
  refine SP.out.mono ?_
  rintro e W ⟨rfl, hcell, hlt0, hbel⟩
  have Hcell := Lib.hid hcell
  have Hbel := Lib.hid hbel
  clear hcell hbel hlt0
  go_wp2_with fail
  go_loopw [13] (fun i wr => ∃ k : Nat, k ≤ l.length ∧ i = .int .i64 k ∧ Hid (OkL (l.take k)) ∧ wr = W) (fun i _ => l.length - (intOf i).toNat)
  case atStart => exact ⟨0, by omega, rfl, Lib.hid (by simpa using okL_nil), rfl⟩
  case round =>
    obtain ⟨k, hk, rfl, Ho, rfl⟩ := hrel
    by_cases hlt : k < l.length
    · have hki : (k : Int) < (l.length : Int) := by omega
      have hck : wr.cell? ⟨w.heap.size, k, none⟩ = some (.string (S l[k])) := Hcell.out k hlt
      obtain ⟨x, hx⟩ : ∃ x, l[k] = x := ⟨_, rfl⟩
      rw [hx] at hck
      have Hx := Lib.hid hx
      clear hx
      go_wp2_with fail
      go_loopw [22] (fun i wq => ∃ j : Nat, j ≤ k ∧ i = .int .i64 j ∧ Hid (∀ i (hi : i < l.length), i < j → l[i] ≠ x) ∧ wq = wr) (fun i _ => k - (intOf i).toNat)
      case atStart => exact ⟨0, by omega, rfl, Lib.hid (fun i hi h => by omega), rfl⟩
      case round =>
        obtain ⟨j, hj, rfl, Hj, rfl⟩ := hrel
        by_cases hjk : j < k
        · have hji : (j : Int) < (k : Int) := by omega
          have hjl : j < l.length := by omega
          have hcj : wr.cell? ⟨w.heap.size, j, none⟩ = some (.string (S l[j])) := Hcell.out j hjl
          obtain ⟨y, hy⟩ : ∃ y, l[j] = y := ⟨_, rfl⟩
          rw [hy] at hcj
          have Hy := Lib.hid hy
          clear hy
          by_cases hxy : x = y
          · subst hxy
            have e1 : (x == x) = true := by simp
            go_wp2_with fail
            go_ret2
            rw [Bad.out (okL_twice hlt hjk (by rw [Hy.out, Hx.out]))]
            exact ⟨_, rfl, strV_none _, Hbel.out⟩
          · have e1 : (x == y) = false := by simpa using hxy
            go_wp2_with fail
            go_roundw
            case rel => exact ⟨j + 1, by omega, by go_num, Lib.hid (fun i hi h => by
              rcases Nat.lt_or_ge i j with h' | h'
              · exact Hj.out i hi h'
              · obtain rfl : i = j := by omega
                rw [Hy.out]; exact fun e => hxy e.symm), by first | rfl | trivial⟩
            case measure => simp [intOf]; omega
        · obtain rfl : j = k := by omega
          have Hjk := Lib.hid Hj.out
          clear Hj hjk
          by_cases hx0 : x = []
          · subst hx0
            go_wp2_with fail
            go_ret2
            rw [Bad.out (okL_empty hlt Hx.out)]
            exact ⟨_, rfl, strV_none _, Hbel.out⟩
          · have hxe : x.isEmpty = false := by cases x with | nil => exact absurd rfl hx0 | cons _ _ => rfl
            go_wp2_with fail
            go_roundw
            case rel => exact ⟨j + 1, by omega, by go_num, Lib.hid (okL_grow hlt Ho.out (by rw [Hx.out]; exact hx0) (fun i hi h => by rw [Hx.out]; exact Hjk.out i hi h)), by first | rfl | trivial⟩
            case measure => simp [intOf]; omega
    · obtain rfl : k = l.length := by omega
      have ho := Ho.out
      rw [List.take_length] at ho
      have Hg := Lib.hid (Good.out ho)
      clear ho Ho hlt Good Bad
      go_wp2_with fail
      go_ret2
      rw [Hg.out]
      exact ⟨_, rfl, ⟨_, _, rfl, fun h => ⟨w.heap.size, 0, rfl, fun j hj => by rw [Nat.zero_add]; exact Hcell.out j hj⟩⟩, Hbel.out⟩
end Go.Proofs.YteapbjeapnmloaaGreatDoor
namespace Go.Proofs.YteapbjeapnmloaaGreatDoor
open Go.RowKit
set_option linter.unusedVariables false
theorem refOf_row {s nm df : List UInt8} {kd lo hi : Nat} {no lg : Bool} (w : World) (h : rowOf s = some ⟨nm, kd, lo, hi, df, no, lg⟩) : Calls Tryz.prog 74 #[.string (S s)] w fun e W' => e = .returned (.tuple #[.agg #[.string (S nm), .int .i64 (kd : Int), .int .i64 (lo : Int), .int .i64 (hi : Int), .string (S df), .bool no, .bool lg], .int .i64 0]) ∧ Below w.heap.size w W' :=
  (refKeyOf_any s w).mono fun e w' ⟨he, hb⟩ => ⟨by rw [he]; unfold keyT; rw [h]; rfl, hb⟩
theorem refOf_no {s : List UInt8} (w : World) (h : rowOf s = none) : Calls Tryz.prog 74 #[.string (S s)] w fun e W' => e = .returned (.tuple #[.agg #[.string (S []), .int .i64 0, .int .i64 0, .int .i64 0, .string (S []), .bool false, .bool false], .int .i64 5]) ∧ Below w.heap.size w W' :=
  (refKeyOf_any s w).mono fun e w' ⟨he, hb⟩ => ⟨by rw [he]; unfold keyT; rw [h], hb⟩
/-- an error's number is returned -/
def RetEN (w : World) (n : Nat) (e : Ending) (w' : World) : Prop := e = .returned (.int .i64 (n : Int)) ∧ Below w.heap.size w w'
set_option maxRecDepth 100000 in
set_option maxHeartbeats 1000000 in
theorem refFits_any (nm v : List UInt8) (w : World) (hv : v.length ≤ 1000) (hm : MaxCell w) :
    Calls Tryz.prog 72 #[.string (S nm), .string (S v)] w (RetEN w (keyFits nm v)) := by
  cases hr : rowOf nm with
  | none =>
    have C := Lib.hid (refOf_no w hr)
    have R := Lib.hid (show keyFits nm v = 5 by unfold keyFits; rw [hr])
    clear hr hm
    go_enter Tryz.func72, Tryz.ntmps72
    go_wp2_with fail
    refine C.out.mono ?_
    rintro e w1 ⟨rfl, hb1⟩
    have Hb1 := Lib.hid (hb1.alloc hb1.size (.cells #[.string (S []), .int .i64 0, .int .i64 0, .int .i64 0, .string (S []), .bool false, .bool false] 48))
    clear hb1
    go_wp2_with fail
    go_ret
    rw [R.out]
    exact ⟨rfl, Hb1.out⟩
  | some k =>
    have hkk := rowOf_ok hr
    have hR := show keyFits nm v = fitK k v by unfold keyFits; rw [hr]
    rw [hR]
    clear hR
    obtain ⟨kn, kd, lo, hi, df, no, lg⟩ := k
    have C0 := refOf_row w hr
    obtain ⟨K, hK⟩ : ∃ K : Int, (kd : Int) = K := ⟨_, rfl⟩
    rw [hK] at C0
    have C := Lib.hid C0
    clear C0
    have LI := Lib.hid (fun W (h : Below w.heap.size w W) => refList_any v W (by omega) (hm.later h))
    have NU := Lib.hid (fun W => refNumeral_any v (lo : Int) (hi : Int) W (by omega))
    have NF := Lib.hid (numE_fit ⟨kn, kd, lo, hi, df, no, lg⟩ v)
    have FL := Lib.hid (@fitK_list ⟨kn, kd, lo, hi, df, no, lg⟩ v)
    have FY := Lib.hid (@fitK_yes ⟨kn, kd, lo, hi, df, no, lg⟩ v)
    have FT := Lib.hid (@fitK_told ⟨kn, kd, lo, hi, df, no, lg⟩ v)
    have h1 := hkk.2.2.1
    have h7 := hkk.2.2.2.1
    simp only at h1 h7
    clear hkk hr hm
    obtain ⟨r, hr⟩ : ∃ r, fitK ⟨kn, kd, lo, hi, df, no, lg⟩ v = r := ⟨_, rfl⟩
    rw [hr] at NF FL FY FT ⊢
    clear hr
    go_enter Tryz.func72, Tryz.ntmps72
    go_wp2_with fail
    refine C.out.mono ?_
    rintro e w1 ⟨rfl, hb1⟩
    obtain ⟨w2, hw2⟩ : ∃ w2, w1.alloc (.cells #[.string (S kn), .int .i64 K, .int .i64 (lo : Int), .int .i64 (hi : Int), .string (S df), .bool no, .bool lg] 48) = w2 := ⟨_, rfl⟩
    have hb2 : Below w.heap.size w w2 := by rw [← hw2]; exact hb1.alloc hb1.size _
    have Hb2 := Lib.hid hb2
    have bK : Blk w2 w1.heap.size #[.string (S kn), .int .i64 K, .int .i64 (lo : Int), .int .i64 (hi : Int), .string (S df), .bool no, .bool lg] 48 := by rw [← hw2]; exact Blk.new w1 _ _
    obtain ⟨_, c1, c2, c3, _, _, _⟩ := bK.seven
    clear bK
    have LI := Lib.hid (LI.out w2 hb2)
    have NU := Lib.hid (NU.out w2)
    clear hb1 hb2 C
    have hc : (kd = 1 ∧ K = 1) ∨ (kd = 2 ∧ K = 2) ∨ (kd = 3 ∧ K = 3) ∨ (kd = 4 ∧ K = 4) ∨ (kd = 5 ∧ K = 5) ∨ (kd = 6 ∧ K = 6) ∨ (kd = 7 ∧ K = 7) := by omega
    clear h1 h7 hK
    rcases hc with ⟨rfl, rfl⟩ | ⟨rfl, rfl⟩ | ⟨rfl, rfl⟩ | ⟨rfl, rfl⟩ | ⟨rfl, rfl⟩ | ⟨rfl, rfl⟩ | ⟨rfl, rfl⟩
    · have E := Lib.hid (FY.out (.inl rfl))
      by_cases hy : v = yesL
      · subst hy
        rw [if_pos (.inl rfl)] at E
        unfold yesL
        go_wp2_with fail
        go_ret
        rw [E.out]
        exact ⟨rfl, Hb2.out⟩
      · by_cases hn : v = noL
        · subst hn
          rw [if_pos (.inr rfl)] at E
          unfold noL
          go_wp2_with fail
          go_ret
          rw [E.out]
          exact ⟨rfl, Hb2.out⟩
        · rw [if_neg (by rintro (h | h); exact hy h; exact hn h)] at E
          have g1 : ¬ v = [89, 101, 115] := hy
          have g2 : ¬ v = [78, 111] := hn
          have g3 : (v == [89, 101, 115]) = false := by simpa using g1
          have g4 : (v == [78, 111]) = false := by simpa using g2
          clear hy hn
          go_wp2_with fail
          go_ret
          rw [E.out]
          exact ⟨rfl, Hb2.out⟩
    · have E := Lib.hid (FY.out (.inr rfl))
      by_cases hy : v = yesL
      · subst hy
        rw [if_pos (.inl rfl)] at E
        unfold yesL
        go_wp2_with fail
        go_ret
        rw [E.out]
        exact ⟨rfl, Hb2.out⟩
      · by_cases hn : v = noL
        · subst hn
          rw [if_pos (.inr rfl)] at E
          unfold noL
          go_wp2_with fail
          go_ret
          rw [E.out]
          exact ⟨rfl, Hb2.out⟩
        · rw [if_neg (by rintro (h | h); exact hy h; exact hn h)] at E
          have g1 : ¬ v = [89, 101, 115] := hy
          have g2 : ¬ v = [78, 111] := hn
          have g3 : (v == [89, 101, 115]) = false := by simpa using g1
          have g4 : (v == [78, 111]) = false := by simpa using g2
          clear hy hn
          go_wp2_with fail
          go_ret
          rw [E.out]
          exact ⟨rfl, Hb2.out⟩
    · have E := NF.out (.inl rfl)
      rw [E] at NU
      clear E
      go_wp2_with fail
      refine NU.out.mono ?_
      rintro e w3 ⟨rfl, hb3⟩
      have Hb3 := Lib.hid (below_then Hb2.out hb3)
      clear hb3
      go_wp2_with fail
      go_ret
      exact ⟨rfl, Hb3.out⟩
    · have E := NF.out (.inr (.inl rfl))
      rw [E] at NU
      clear E
      go_wp2_with fail
      refine NU.out.mono ?_
      rintro e w3 ⟨rfl, hb3⟩
      have Hb3 := Lib.hid (below_then Hb2.out hb3)
      clear hb3
      go_wp2_with fail
      go_ret
      exact ⟨rfl, Hb3.out⟩
    · have E := Lib.hid (FL.out rfl)
      go_wp2_with fail
      refine LI.out.mono ?_
      rintro e w3 ⟨vl, rfl, _, hb3⟩
      have Hb3 := Lib.hid (below_then Hb2.out hb3)
      clear hb3
      go_wp2_with fail
      go_ret
      refine ⟨?_, Hb3.out⟩
      rw [E.out]
      unfold listI
      cases listR v <;> rfl
    · have E := Lib.hid (FT.out rfl)
      by_cases hv0 : v = []
      · subst hv0
        rw [if_pos rfl] at E
        go_wp2_with fail
        go_ret
        rw [E.out]
        exact ⟨rfl, Hb2.out⟩
      · rw [if_neg hv0] at E
        have hve : v.isEmpty = false := by cases v with | nil => exact absurd rfl hv0 | cons _ _ => rfl
        clear hv0
        go_wp2_with fail
        go_ret
        rw [E.out]
        exact ⟨rfl, Hb2.out⟩
    · have E := NF.out (.inr (.inr rfl))
      rw [E] at NU
      clear E
      go_wp2_with fail
      refine NU.out.mono ?_
      rintro e w3 ⟨rfl, hb3⟩
      have Hb3 := Lib.hid (below_then Hb2.out hb3)
      clear hb3
      go_wp2_with fail
      go_ret
      exact ⟨rfl, Hb3.out⟩
end Go.Proofs.YteapbjeapnmloaaGreatDoor
namespace Go.Proofs.YteapbjeapnmloaaGreatDoor
open Go Go.RowKit
set_option linter.unusedVariables false
/-- the reference's Nego lies at rb -/
structure RN (W : World) (rb : Nat) (mv rv : Value) (mine rec : List Pr) : Prop where
  blk : Blk W rb #[mv, rv] 85
  mine : PrsV W mv mine
  recd : PrsV W rv rec
theorem RN.later {W W' : World} {rb : Nat} {mv rv : Value} {mine rec : List Pr} (h : RN W rb mv rv mine rec) (hb : Below W.heap.size W W') : RN W' rb mv rv mine rec := ⟨h.blk.later hb, h.mine.later hb, h.recd.later hb⟩
/-- a value and an error's number are returned -/
def RetVI (w : World) (r : List UInt8 × Int) (e : Ending) (w' : World) : Prop := e = .returned (.tuple #[.string (S r.1), .int .i64 r.2]) ∧ Below w.heap.size w w'
set_option maxRecDepth 100000 in
theorem refOf_any (l : List Pr) (v : Value) (key : List UInt8) (w : World) (hv : PrsV w v l) (hl : l.length ≤ 140737488355328) :
    Calls Tryz.prog 76 #[v, .string (S key)] w (RetVI w (valN l key)) := by
  have HV := Lib.hid hv
  obtain ⟨p, c, rfl⟩ := hv.form
  clear hv
  cases hr : rowOf key with
  | none =>
    have R := Lib.hid (show valN l key = ([], 5) by unfold valN; rw [hr])
    have C := Lib.hid (refOf_no w hr)
    clear hr
    go_enter Tryz.func76, Tryz.ntmps76
    go_wp2_with fail
    refine C.out.mono ?_
    rintro e w1 ⟨rfl, hb1⟩
    have Hb1 := Lib.hid (hb1.alloc hb1.size (.cells #[.string (S []), .int .i64 0, .int .i64 0, .int .i64 0, .string (S []), .bool false, .bool false] 48))
    clear hb1
    go_wp2_with fail
    go_ret2
    rw [R.out]
    exact ⟨rfl, Hb1.out⟩
  | some k =>
    have hR := show valN l key = ((prFind l key).getD k.df, 0) by unfold valN; rw [hr]
    rw [hR]
    clear hR
    obtain ⟨kn, kd, lo, hi, df, no, lg⟩ := k
    have C := Lib.hid (refOf_row w hr)
    have FP := Lib.hid (fun W (h : PrsV W (.slice p l.length c) l) => refFind_any l key (.slice p l.length c) W h hl)
    obtain ⟨r, hfr⟩ : ∃ r, prFind l key = r := ⟨_, rfl⟩
    rw [hfr] at FP ⊢
    clear hr hfr
    go_enter Tryz.func76, Tryz.ntmps76
    go_wp2_with fail
    refine C.out.mono ?_
    rintro e w1 ⟨rfl, hb1⟩
    obtain ⟨w2, hw2⟩ : ∃ w2, w1.alloc (.cells #[.string (S kn), .int .i64 (kd : Int), .int .i64 (lo : Int), .int .i64 (hi : Int), .string (S df), .bool no, .bool lg] 48) = w2 := ⟨_, rfl⟩
    have hb2 : Below w.heap.size w w2 := by rw [← hw2]; exact hb1.alloc hb1.size _
    have Hb2 := Lib.hid hb2
    have bK : Blk w2 w1.heap.size #[.string (S kn), .int .i64 (kd : Int), .int .i64 (lo : Int), .int .i64 (hi : Int), .string (S df), .bool no, .bool lg] 48 := by rw [← hw2]; exact Blk.new w1 _ _
    obtain ⟨_, _, _, _, c4, _, _⟩ := bK.seven
    have F2 := Lib.hid (FP.out w2 (HV.out.later hb2))
    clear hb1 hb2 bK C FP
    cases r with
    | none =>
      go_wp2_with fail
      refine F2.out.mono ?_
      unfold findR
      rintro e w' ⟨rfl, rfl⟩
      go_wp2_with fail
      go_ret2
      exact ⟨rfl, Hb2.out⟩
    | some x =>
      go_wp2_with fail
      refine F2.out.mono ?_
      unfold findR
      rintro e w' ⟨rfl, rfl⟩
      go_wp2_with fail
      go_ret2
      exact ⟨rfl, Hb2.out⟩
set_option maxRecDepth 100000 in
theorem refOwn_any {w : World} {rb : Nat} {mv rv : Value} {mine rec : List Pr} (key : List UInt8) (h : RN w rb mv rv mine rec) (hl : mine.length ≤ 140737488355328) :
    Calls Tryz.prog 51 #[.pointer (some ⟨rb, 0, none⟩), .string (S key)] w (RetVI w (valN mine key)) := by
  have O := Lib.hid (refOf_any mine mv key w h.mine hl)
  obtain ⟨q0, q1⟩ := h.blk.two
  obtain ⟨p, c, rfl⟩ := h.mine.form
  obtain ⟨r, hr⟩ : ∃ r, valN mine key = r := ⟨_, rfl⟩
  obtain ⟨p', c', rfl⟩ := h.recd.form
  rw [hr] at O ⊢
  obtain ⟨x, n⟩ := r
  clear h hr
  go_enter Tryz.func51, Tryz.ntmps51
  go_wp2_with fail
  refine O.out.mono ?_
  rintro e w1 ⟨rfl, hb1⟩
  have Hb1 := Lib.hid hb1
  clear hb1
  go_wp2_with fail
  go_ret2
  exact ⟨rfl, Hb1.out⟩
set_option maxRecDepth 100000 in
theorem refValue_any {w : World} {rb : Nat} {mv rv : Value} {mine rec : List Pr} (key : List UInt8) (h : RN w rb mv rv mine rec) (hl : rec.length ≤ 140737488355328) :
    Calls Tryz.prog 52 #[.pointer (some ⟨rb, 0, none⟩), .string (S key)] w (RetVI w (valN rec key)) := by
  have O := Lib.hid (refOf_any rec rv key w h.recd hl)
  obtain ⟨q0, q1⟩ := h.blk.two
  obtain ⟨p, c, rfl⟩ := h.mine.form
  obtain ⟨r, hr⟩ : ∃ r, valN rec key = r := ⟨_, rfl⟩
  obtain ⟨p', c', rfl⟩ := h.recd.form
  rw [hr] at O ⊢
  obtain ⟨x, n⟩ := r
  clear h hr
  go_enter Tryz.func52, Tryz.ntmps52
  go_wp2_with fail
  refine O.out.mono ?_
  rintro e w1 ⟨rfl, hb1⟩
  have Hb1 := Lib.hid hb1
  clear hb1
  go_wp2_with fail
  go_ret2
  exact ⟨rfl, Hb1.out⟩
set_option maxRecDepth 100000 in
theorem refDig_any {w : World} {rb : Nat} {mv rv : Value} {mine rec : List Pr} (h : RN w rb mv rv mine rec) (hl : rec.length ≤ 140737488355328) :
    Calls Tryz.prog 50 #[.pointer (some ⟨rb, 0, none⟩)] w fun e w' => e = .returned (.int .i64 (digN rec)) ∧ Below w.heap.size w w' := by
  have V1 := refValue_any [72, 101, 97, 100, 101, 114, 68, 105, 103, 101, 115, 116] h hl
  have V2 := Lib.hid (fun W (hb : Below w.heap.size w W) => refValue_any [68, 97, 116, 97, 68, 105, 103, 101, 115, 116] (h.later hb) hl)
  have hD : digN rec = (if (valN rec [72, 101, 97, 100, 101, 114, 68, 105, 103, 101, 115, 116]).1 = [67, 82, 67, 51, 50, 67] then 1 else 0) + (if (valN rec [68, 97, 116, 97, 68, 105, 103, 101, 115, 116]).1 = [67, 82, 67, 51, 50, 67] then 2 else 0) := rfl
  rw [hD]
  clear hD
  obtain ⟨⟨x, n⟩, hx⟩ : ∃ r, valN rec [72, 101, 97, 100, 101, 114, 68, 105, 103, 101, 115, 116] = r := ⟨_, rfl⟩
  obtain ⟨⟨y, m⟩, hy⟩ : ∃ r, valN rec [68, 97, 116, 97, 68, 105, 103, 101, 115, 116] = r := ⟨_, rfl⟩
  rw [hx] at V1 ⊢
  rw [hy] at V2 ⊢
  have V1 := Lib.hid V1
  clear hx hy h
  by_cases hx : x = [67, 82, 67, 51, 50, 67] <;> by_cases hy : y = [67, 82, 67, 51, 50, 67]
  all_goals
    have Hx := Lib.hid hx
    have Hy := Lib.hid hy
    go_enter Tryz.func50, Tryz.ntmps50
    go_wp2_with fail
    refine V1.out.mono ?_
    rintro e w1 ⟨rfl, hb1⟩
    have Hb1 := Lib.hid hb1
    have V2' := Lib.hid (V2.out w1 hb1)
    clear hb1
    first
      | (have ex : (x == [67, 82, 67, 51, 50, 67]) = true := by simpa using hx)
      | (have ex : (x == [67, 82, 67, 51, 50, 67]) = false := by simpa using hx)
    first
      | (have ey : (y == [67, 82, 67, 51, 50, 67]) = true := by simpa using hy)
      | (have ey : (y == [67, 82, 67, 51, 50, 67]) = false := by simpa using hy)
    first
      | subst hx
      | clear hx
    first
      | subst hy
      | clear hy
    go_wp2_with fail
    refine V2'.out.mono ?_
    rintro e w2 ⟨rfl, hb2⟩
    have Hb2 := Lib.hid (below_then Hb1.out hb2)
    clear hb2
    go_wp2_with fail
    go_ret
    refine ⟨?_, Hb2.out⟩
    first | (simp; done) | (simp [Hx.out]; done) | (simp [Hy.out]; done) | simp [Hx.out, Hy.out]
/-- a Nego, or nothing, and a fault are returned -/
def RetNN (w : World) (mv : Value) (mine : List Pr) (e : Ending) (w' : World) : Prop :=
  ((newN mine).1 = 0 ∧ ∃ rb, e = .returned (.tuple #[.pointer (some ⟨rb, 0, none⟩), .agg #[.int .i64 0, .int .i64 (-1)]]) ∧ w.heap.size ≤ rb ∧ RN w' rb mv (.slice none 0 0) mine [] ∧ Below w.heap.size w w') ∨
  ((newN mine).1 ≠ 0 ∧ e = .returned (.tuple #[.pointer none, .agg #[.int .i64 (newN mine).1, .int .i64 (newN mine).2]]) ∧ Below w.heap.size w w')
end Go.Proofs.YteapbjeapnmloaaGreatDoor
namespace Go.Proofs.YteapbjeapnmloaaGreatDoor
open Go Go.RowKit Go.Maps
set_option linter.unusedVariables false
set_option maxRecDepth 100000 in
set_option maxHeartbeats 2000000 in
theorem refNew_any (l : List Pr) (v : Value) (w : World) (hv : PrsV w v l) (hf : fitPs l) (hm : MaxCell w) :
    Calls Tryz.prog 46 #[v] w (RetNN w v l) := by
  have hb0 := (Below.refl w.heap.size w).alloc (Nat.le_refl _) (.cells #[.int .i64 0, .int .i64 0] 78)
  have HF0 := Lib.hid (cell2_new w)
  have Hb0 := Lib.hid hb0
  have HV := Lib.hid hv
  have Hm := Lib.hid hm
  have R := refPRight_any l v _ (hv.later hb0) hf
  obtain ⟨p, c, rfl⟩ := hv.form
  by_cases h0 : (prRight l).1 = 0
  case neg =>
    have E := Lib.hid (show RetNN w (.slice p l.length c) l (.returned (.tuple #[.pointer none, .agg #[.int .i64 (prRight l).1, .int .i64 (prRight l).2]])) = fun w' => Below w.heap.size w w' from by
      funext w'
      have hn : newN l = prRight l := by unfold newN; rw [if_pos h0]
      unfold RetNN
      rw [hn]
      exact propext ⟨fun h => by rcases h with ⟨h, _⟩ | ⟨_, _, h⟩; exact absurd h h0; exact h, fun h => .inr ⟨h0, rfl, h⟩⟩)
    obtain ⟨⟨n, q⟩, hr⟩ : ∃ r, prRight l = r := ⟨_, rfl⟩
    rw [hr] at R E h0
    have R := Lib.hid R
    have IF := fun p w => Lib.hid (isF_bad n p w h0)
    clear hb0 hv hf hr h0 hm
    go_enter Tryz.func46, Tryz.ntmps46
    go_wp2_with fail
    refine R.out.mono ?_
    rintro e w1 ⟨rfl, hb1⟩
    have hb1n := (Below.refl w1.heap.size w1).alloc (Nat.le_refl _) (.cells #[.int .i64 n, .int .i64 q] 78)
    have HF1 := Lib.hid ((HF0.out.later hb1).later hb1n)
    have Hb1 := Lib.hid (below_then (below_then Hb0.out hb1) hb1n)
    have HG1 := Lib.hid (show Cell2 (w1.alloc (.cells #[.int .i64 n, .int .i64 q] 78)) w1.heap.size n q from heap_alloc_new w1 _)
    have hsz := Hb0.out.size
    have Hne := Lib.hid (show w.heap.size ≠ w1.heap.size by have := hb1.size; simp at this; omega)
    clear hb1 R hb1n
    go_wp2_with fail
    refine (IF _ _).out.mono ?_
    rintro e w2 ⟨rfl, hb2⟩
    have HF2 := Lib.hid (HF1.out.later hb2)
    have HG2 := Lib.hid (HG1.out.later hb2)
    have Hb2 := Lib.hid (below_then Hb1.out hb2)
    obtain ⟨x0, x1⟩ := HF2.out.cells
    have f0 := HF2.out.frozen 0
    have f1 := HF2.out.frozen 1
    obtain ⟨y0, y1⟩ := HG2.out.cells
    clear hb2
    go_wp2_with fail
    go_region
    all_goals
      try go_wp2_with fail
      obtain ⟨g1, g2⟩ := fault_set n q HF2.out Hb2.out
      refine bodyPost_ret (v := .tuple #[.pointer none, .agg #[.int .i64 n, .int .i64 q]]) (by simp [results, Tryz.results46, go_sem, x0, x1]) rfl ?_
      rw [E.out]
      exact g2.drew
  obtain ⟨hok, hfew, hr'⟩ := prRight_is h0
  rw [hr'] at R
  have hn : newN l = newF 0 [] l := by unfold newN; rw [if_neg (by simpa using h0)]
  have Bad := Lib.hid (fun (n q : Int) (w' : World) (h : newF 0 [] l = (n, q)) (h1 : n ≠ 0) (hb : Below w.heap.size w w') => show RetNN w (.slice p l.length c) l (.returned (.tuple #[.pointer none, .agg #[.int .i64 n, .int .i64 q]])) w' from .inr (by rw [hn, h]; exact ⟨h1, rfl, hb⟩))
  have Good := Lib.hid (fun (rb : Nat) (w' : World) (h : newF 0 [] l = (0, -1)) (hs : w.heap.size ≤ rb) (hR : RN w' rb (.slice p l.length c) (.slice none 0 0) l []) (hb : Below w.heap.size w w') => show RetNN w (.slice p l.length c) l (.returned (.tuple #[.pointer (some ⟨rb, 0, none⟩), .agg #[.int .i64 0, .int .i64 (-1)]])) w' from .inl (by rw [hn, h]; exact ⟨rfl, rb, rfl, hs, hR, hb⟩))
  have R := Lib.hid R
  have Hok := Lib.hid hok
  have IF := fun p w => Lib.hid (isF_good p w)
  have GF := fun w => Lib.hid (goodF w)
  have hmm := @run_makeMap Tryz.prog
  obtain ⟨Q, hQ⟩ : ∃ Q, RetNN w (.slice p l.length c) l = Q := ⟨_, rfl⟩
  rw [hQ] at Bad Good ⊢
  clear hb0 hv hf hr' h0 hn hok hQ hm
  go_enter Tryz.func46, Tryz.ntmps46
  go_wp2_with fail
  refine R.out.mono ?_
  rintro e w1 ⟨rfl, hb1⟩
  have hb1n := (Below.refl w1.heap.size w1).alloc (Nat.le_refl _) (.cells #[.int .i64 0, .int .i64 (-1)] 78)
  have HF1 := Lib.hid ((HF0.out.later hb1).later hb1n)
  have Hb1 := Lib.hid (below_then (below_then Hb0.out hb1) hb1n)
  clear hb1 R hb1n
  go_wp2_with fail
  refine (IF _ _).out.mono ?_
  rintro e w2 ⟨rfl, hb2⟩
  have HF2 := Lib.hid (HF1.out.later hb2)
  have Hb2 := Lib.hid (below_then Hb1.out hb2)
  have Hlt2 := Lib.hid (show w.heap.size < w2.heap.size from (Array.getElem?_eq_some_iff.1 HF2.out).1)
  clear hb2 HF1 Hb1
  obtain ⟨W3, hW3⟩ : ∃ W3, w2.alloc (.map #[] 0) = W3 := ⟨_, rfl⟩
  have HM3 := Lib.hid (show BMap 9 W3 w2.heap.size 0 (keyIn []) by rw [← hW3]; exact (BMap.made 9 w2).as (fun x => ⟨fun h => h.elim, fun ⟨y, hy, _⟩ => absurd hy List.not_mem_nil⟩))
  have HF3 := Lib.hid (show Cell2 W3 w.heap.size 0 0 by rw [← hW3]; exact HF2.out.later ((Below.refl _ _).alloc (Nat.le_refl _) _))
  have Hb3 := Lib.hid (show Below w.heap.size w W3 by rw [← hW3]; exact Hb2.out.alloc Hb2.out.size _)
  obtain ⟨mb, hmb⟩ : ∃ mb, w2.heap.size = mb := ⟨_, rfl⟩
  rw [hmb] at HM3 Hlt2
  go_wp2_with fail
  clear hmb hmm hW3
  go_loopw [18] (fun i wr => ∃ j : Nat, j ≤ l.length ∧ i = .int .i64 j ∧ Hid (newF j (keysP (l.take j)) (l.drop j) = newF 0 [] l) ∧ BMap 9 wr mb j (keyIn (keysP (l.take j))) ∧ Cell2 wr w.heap.size 0 0 ∧ Below w.heap.size w wr) (fun i _ => l.length - (intOf i).toNat)
  case atStart => exact ⟨0, by omega, rfl, Lib.hid rfl, HM3.out, HF3.out, Hb3.out⟩
  case round =>
    obtain ⟨j, hj, rfl, Hr, hM, hF, hb⟩ := hrel
    have Hb := Lib.hid hb
    have HF := Lib.hid hF
    have HM := Lib.hid hM
    clear hF hM
    by_cases hlt : j < l.length
    · obtain ⟨b, o, rfl, h1, h2⟩ := (HV.out.later hb).cell hlt
      have hst := newF_step hlt
      rw [Hr.out] at hst
      have hok := Hok.out l[j] (List.getElem_mem hlt)
      have hka := thick_okP hok
      have hkt := keys_take hlt
      obtain ⟨⟨k, d⟩, ha⟩ : ∃ a, l[j] = a := ⟨_, rfl⟩
      rw [ha] at h1 h2 hst hka hkt
      simp only at h1 h2 hst hka hkt
      obtain ⟨w4, hw4⟩ : ∃ w4, wr.alloc (.cells #[.string (S k), .string (S d)] 35) = w4 := ⟨_, rfl⟩
      have hb4 : Below wr.heap.size wr w4 := by rw [← hw4]; exact (Below.refl _ _).alloc (Nat.le_refl _) _
      have hP4 : Blk w4 wr.heap.size #[.string (S k), .string (S d)] 35 := by rw [← hw4]; exact Blk.new wr _ _
      have hM4 := HM.out.later hb4
      have HF4 := Lib.hid (HF.out.later hb4)
      have Hb4 := Lib.hid (below_then Hb.out hb4)
      have hjI : (j : Int) < (l.length : Int) := by omega
      have hmbne : wr.heap.size ≠ mb := fun e => by have := HM.out.lt; omega
      have hfne : w.heap.size ≠ mb := fun e => by have := Hlt2.out; omega
      obtain ⟨x0, x1⟩ := hP4.two
      by_cases hin : k ∈ keysP (l.take j)
      · rw [if_pos hin] at hst
        have Hst := Lib.hid hst
        have L1 := (hM4.look keyedS Tryz.underlying41 (keyS k (by omega))).1 (keyIn_iff.2 hin)
        obtain ⟨y0, y1⟩ := HF4.out.cells
        have f0 := HF4.out.frozen 0
        have f1 := HF4.out.frozen 1
        clear hb hok hka hkt ha hb4 hP4 hM4 hst hin
        go_wp2_with fail
        obtain ⟨g1, g2⟩ := fault_set 9 (j : Int) HF4.out Hb4.out
        refine bodyPost_ret (v := .tuple #[.pointer none, .agg #[.int .i64 9, .int .i64 (j : Int)]]) (by simp [results, Tryz.results46, go_sem, y0, y1]) rfl ?_
        exact Bad.out 9 j _ Hst.out (by decide) g2
      · rw [if_neg hin] at hst
        have L1 := (hM4.look keyedS Tryz.underlying41 (keyS k (by omega))).2 (fun h => hin (keyIn_iff.1 h))
        obtain ⟨w5, hr5, hM5, hg5⟩ := hM4.put keyedS Tryz.underlying41 (by omega) (keyS k (by omega)) trivial
        have HM5 := Lib.hid (show BMap 9 w5 mb (j + 1) (keyIn (keysP (l.take (j + 1)))) by rw [hkt]; exact hM5.as (fun x => keyIn_snoc x))
        have hP5 := hP4.otherB hg5 hmbne
        have HF5 := Lib.hid (show Cell2 w5 w.heap.size 0 0 from Blk.otherB (show Blk w4 w.heap.size #[.int .i64 0, .int .i64 0] 78 from HF4.out) hg5 hfne)
        have hb5 : Below w.heap.size w w5 := Below.grownB Hb4.out hg5 (Nat.le_of_lt Hlt2.out) Hb4.out.size
        have Hb5 := Lib.hid hb5
        obtain ⟨z0, z1⟩ := hP5.two
        have KF := refFits_any k d w5 (by omega) (Hm.out.later hb5)
        unfold RetEN at KF
        obtain ⟨f, hfk⟩ : ∃ f, keyFits k d = f := ⟨_, rfl⟩
        rw [hfk] at KF hst
        by_cases hf0 : f = 0
        · subst hf0
          rw [if_neg (by simp)] at hst
          have Hst := Lib.hid hst
          have KF := Lib.hid KF
          clear hb hok hka hkt ha hb4 hP4 hM4 hst hin hfk hM5 hg5 hP5 hb5
          go_wp2_with fail
          refine KF.out.mono ?_
          rintro e w6 ⟨rfl, hb6⟩
          have HM6 := Lib.hid (HM5.out.later hb6)
          have HF6 := Lib.hid (HF5.out.later hb6)
          have Hb6 := Lib.hid (below_then Hb5.out hb6)
          clear hb6 KF
          go_wp2_with fail
          go_roundw
          case rel => exact ⟨j + 1, by omega, by go_num, Lib.hid Hst.out.symm, HM6.out, HF6.out, Hb6.out⟩
          case measure => simp [intOf]; omega
        · rw [if_pos hf0] at hst
          obtain ⟨N, hN⟩ : ∃ N : Int, (f : Int) = N := ⟨_, rfl⟩
          rw [hN] at KF hst
          have hN0 : ¬ N = 0 := by omega
          have Hst := Lib.hid hst
          have KF := Lib.hid KF
          clear hb hok hka hkt ha hb4 hP4 hM4 hst hin hfk hM5 hg5 hP5 hb5 hN hf0
          go_wp2_with fail
          refine KF.out.mono ?_
          rintro e w6 ⟨rfl, hb6⟩
          have HF6 := Lib.hid (HF5.out.later hb6)
          have Hb6 := Lib.hid (below_then Hb5.out hb6)
          obtain ⟨y0, y1⟩ := HF6.out.cells
          have f0 := HF6.out.frozen 0
          have f1 := HF6.out.frozen 1
          clear hb6 KF
          go_wp2_with fail
          obtain ⟨g1, g2⟩ := fault_set N (j : Int) HF6.out Hb6.out
          refine bodyPost_ret (v := .tuple #[.pointer none, .agg #[.int .i64 N, .int .i64 (j : Int)]]) (by simp [results, Tryz.results46, go_sem, y0, y1]) rfl ?_
          exact Bad.out N j _ Hst.out hN0 g2
    · obtain rfl : j = l.length := by omega
      have hr := Hr.out
      rw [List.drop_length] at hr
      have Hr2 := Lib.hid (show newF 0 [] l = (0, -1) from hr.symm)
      have HVr := Lib.hid (HV.out.later hb)
      have hbn := (Below.refl wr.heap.size wr).alloc (Nat.le_refl _) (.cells #[.slice p l.length c, .slice none 0 0] 85)
      have HN := Lib.hid (show RN (wr.alloc (.cells #[.slice p l.length c, .slice none 0 0] 85)) wr.heap.size (.slice p l.length c) (.slice none 0 0) l [] from ⟨Blk.new wr _ _, HVr.out.later hbn, PrsV.nil _⟩)
      have HF7 := Lib.hid (HF.out.later hbn)
      have Hb7 := Lib.hid (below_then Hb.out hbn)
      have Hrb := Lib.hid hb.size
      clear hr hb hbn hlt
      go_wp2_with fail
      refine (GF _).out.mono ?_
      rintro e w8 ⟨rfl, hb8⟩
      have HN8 := Lib.hid (HN.out.later hb8)
      have HF8 := Lib.hid (HF7.out.later hb8)
      have Hb8 := Lib.hid (below_then Hb7.out hb8)
      have Hne8 := Lib.hid (show wr.heap.size ≠ w.heap.size from fun e => by have h1 := (Array.getElem?_eq_some_iff.1 HF.out).1; omega)
      obtain ⟨y0, y1⟩ := HF8.out.cells
      have f0 := HF8.out.frozen 0
      have f1 := HF8.out.frozen 1
      clear hb8
      go_wp2_with fail
      obtain ⟨g1, g2⟩ := fault_set 0 (-1) HF8.out Hb8.out
      refine bodyPost_ret (v := .tuple #[.pointer (some ⟨wr.heap.size, 0, none⟩), .agg #[.int .i64 0, .int .i64 (-1)]]) (by simp [results, Tryz.results46, go_sem, y0, y1]) rfl ?_
      have hFb : Blk w8 w.heap.size #[.int .i64 0, .int .i64 0] 78 := HF8.out
      refine Good.out wr.heap.size _ Hr2.out Hrb.out ⟨(HN8.out.blk.other Hne8.out _).other Hne8.out _, (HN8.out.mine.setInts hFb 0 _).setInts (x := 0) (y := 0) (hFb.set 0 _) 1 _, PrsV.nil _⟩ g2
end Go.Proofs.YteapbjeapnmloaaGreatDoor
namespace Go.Proofs.YteapbjeapnmloaaGreatDoor
open Go.RowKit Go.Maps
theorem BMap.putV {k t : TypeId} {W : World} {mb n : Nat} {f : Lit → Prop} (h : BMap k W mb n f) (K : Keyed Tryz.prog k) (ht : Tryz.prog.underlying t = some (.map k 4)) (hn : n < 1000000) {key : Value} {kl : Lit} (hkey : keyOf Tryz.prog k key = some kl) (hl : WideAt.IsKeyLit kl) (b : Bool) :
    ∃ w', (Instr.mapUpdate t (.map (some mb)) key (.bool b)).run Tryz.prog W = .ok () w' ∧ BMap k w' mb (n + 1) (fun x => (x = kl ∧ b = true) ∨ (x ≠ kl ∧ f x)) ∧ W.grownBy w' (some mb) := by
  obtain ⟨D, hown, hf⟩ := h
  have hM := hown.isMap
  obtain ⟨w', hrun, r1, r2⟩ := hown.update K ht (by unfold maxLen; omega) hkey (plainElem_bool Tryz.underlying4 b)
  refine ⟨w', hrun, ⟨_, r1, fun x => ?_⟩, r2⟩
  by_cases e : x = kl
  · subst e
    rw [atKey_put_same hM hl]
    cases b with
    | true => exact ⟨fun _ => rfl, fun h => absurd (.inl ⟨rfl, rfl⟩) h⟩
    | false => exact ⟨fun h => by rcases h with ⟨_, h⟩ | ⟨h, _⟩; cases h; exact absurd rfl h, fun _ => rfl⟩
  · rw [atKey_put_other e]
    exact ⟨fun h => (hf x).1 (by rcases h with ⟨h, _⟩ | ⟨_, h⟩; exact absurd h e; exact h), fun h => (hf x).2 (fun h' => h (.inr ⟨e, h'⟩))⟩
end Go.Proofs.YteapbjeapnmloaaGreatDoor
namespace Go.Proofs.YteapbjeapnmloaaGreatDoor
open Go.RowKit
set_option linter.unusedVariables false
/-- a text and an error's number are returned -/
def RetSI (w : World) (r : List UInt8 × Nat) (e : Ending) (w' : World) : Prop := e = .returned (.tuple #[.string (S r.1), .int .i64 (r.2 : Int)]) ∧ Below w.heap.size w w'
theorem containsW_any (b x : List UInt8) (w : World) (hb : b.length ≤ 1000) (hx : x.length ≤ 1000) (hxc : (44 : UInt8) ∉ x) (hm : MaxCell w) :
    Calls Tryz.prog 98 #[.string (S (44 :: (b ++ [44]))), .string (S (44 :: (x ++ [44])))] w fun e w' => e = .returned (.bool (decide (x ∈ split1 44 b))) ∧ w = w' := by
  obtain ⟨m, hm⟩ := hm
  have C := Tryz.strings_Contains (S (44 :: (b ++ [44]))) (S (44 :: (x ++ [44]))) m w (by rw [S_size]; simp; omega) hm
  have e1 : (S (44 :: (b ++ [44]))).data.toList = 44 :: (b ++ [44]) := by simp [S]
  have e2 : (S (44 :: (x ++ [44]))).data.toList = 44 :: (x ++ [44]) := by simp [S]
  rw [e1, e2] at C
  refine C.mono ?_
  rintro e w' ⟨rfl, rfl⟩
  refine ⟨?_, rfl⟩
  have h : Lib.contains (44 :: (b ++ [44])) (44 :: (x ++ [44])) = decide (x ∈ split1 44 b) := by
    unfold Lib.contains
    rw [Bool.eq_iff_iff]
    simp only [decide_eq_true_eq]
    exact index_word b x hxc
  rw [h]
theorem firstR_at {a b : List UInt8} {l : List (List UInt8)} (hl : split1 44 a = l) {k : Nat} (hk : k < l.length) (hno : ∀ i (hi : i < l.length), i < k → l[i] ∉ split1 44 b) (h : l[k] ∈ split1 44 b) : firstR a b = some l[k] := by
  unfold firstR
  rw [hl, List.find?_eq_some_iff_getElem]
  exact ⟨by simpa using h, k, hk, rfl, fun j hj => by simpa using hno j (by omega) hj⟩
theorem firstR_not {a b : List UInt8} {l : List (List UInt8)} (hl : split1 44 a = l) (hno : ∀ i (hi : i < l.length), l[i] ∉ split1 44 b) : firstR a b = none := by
  unfold firstR
  rw [hl, List.find?_eq_none]
  intro x hx
  obtain ⟨i, hi, rfl⟩ := List.mem_iff_getElem.1 hx
  simpa using hno i hi
set_option maxRecDepth 100000 in
theorem refRes_bad (nm a b : List UInt8) (w : World) (ha : a.length ≤ 1000) (hb : b.length ≤ 1000) (hm : MaxCell w) (hbad : keyFits nm a ≠ 0 ∨ keyFits nm b ≠ 0) :
    Calls Tryz.prog 75 #[.string (S nm), .string (S a), .string (S b)] w (RetSI w (keyRes nm a b)) := by
  have FA := refFits_any nm a w ha hm
  unfold RetEN at FA
  by_cases h1 : keyFits nm a = 0
  · have h2 : keyFits nm b ≠ 0 := hbad.resolve_left (fun h => h h1)
    have R := Lib.hid (keyRes_own (b := b) h1 h2)
    rw [h1] at FA
    have FA := Lib.hid FA
    have FB := (fun W (h : Below w.heap.size w W) => refFits_any nm b W hb (hm.later h))
    unfold RetEN at FB
    obtain ⟨n, hn⟩ : ∃ n, keyFits nm b = n := ⟨_, rfl⟩
    rw [hn] at R FB h2
    obtain ⟨N, hN⟩ : ∃ N : Int, (n : Int) = N := ⟨_, rfl⟩
    rw [hN] at FB
    have FB := Lib.hid FB
    have h0 : ¬ N = 0 := by omega
    have HN := Lib.hid hN
    clear hm h1 h2 hbad hn hN
    go_enter Tryz.func75, Tryz.ntmps75
    go_wp2_with fail
    refine FA.out.mono ?_
    rintro e w1 ⟨rfl, hb1⟩
    have Hb1 := Lib.hid hb1
    have FB1 := Lib.hid (FB.out w1 hb1)
    clear hb1
    go_wp2_with fail
    refine FB1.out.mono ?_
    rintro e w2 ⟨rfl, hb2⟩
    have Hb2 := Lib.hid (below_then Hb1.out hb2)
    clear hb2
    go_wp2_with fail
    go_ret2
    rw [R.out]
    exact ⟨by rw [← HN.out]; rfl, Hb2.out⟩
  · have R := Lib.hid (keyRes_off (b := b) h1)
    obtain ⟨n, hn⟩ : ∃ n, keyFits nm a = n := ⟨_, rfl⟩
    rw [hn] at R FA h1
    obtain ⟨N, hN⟩ : ∃ N : Int, (n : Int) = N := ⟨_, rfl⟩
    rw [hN] at FA
    have FA := Lib.hid FA
    have h0 : ¬ N = 0 := by omega
    have HN := Lib.hid hN
    clear hm h1 hbad hn hN
    go_enter Tryz.func75, Tryz.ntmps75
    go_wp2_with fail
    refine FA.out.mono ?_
    rintro e w1 ⟨rfl, hb1⟩
    have Hb1 := Lib.hid hb1
    clear hb1
    go_wp2_with fail
    go_ret2
    rw [R.out]
    exact ⟨by rw [← HN.out]; rfl, Hb1.out⟩
set_option maxRecDepth 100000 in
set_option maxHeartbeats 2000000 in
theorem refRes_and (nm a b kn df : List UInt8) (lo hi : Nat) (no lg : Bool) (w : World) (ha : a.length ≤ 1000) (hb : b.length ≤ 1000) (hE : Env w) (h1 : keyFits nm a = 0) (h2 : keyFits nm b = 0) (hr : rowOf nm = some ⟨kn, 1, lo, hi, df, no, lg⟩) (x y : Bool) (ya : (a = [89, 101, 115] ∧ x = true) ∨ (a = [78, 111] ∧ x = false)) (yb : (b = [89, 101, 115] ∧ y = true) ∨ (b = [78, 111] ∧ y = false)) :
    Calls Tryz.prog 75 #[.string (S nm), .string (S a), .string (S b)] w (RetSI w (yesNo (x && y), 0)) := by
  have FA := refFits_any nm a w ha hE.mc
  unfold RetEN at FA
  rw [h1] at FA
  have FA := Lib.hid FA
  have FB := Lib.hid (fun W (h : Below w.heap.size w W) => show Calls Tryz.prog 72 #[.string (S nm), .string (S b)] W (RetEN W 0) from by
    have := refFits_any nm b W hb (hE.later h).mc
    rwa [h2] at this)
  have OF := Lib.hid (fun W => refOf_row (s := nm) W hr)
  have sum1 : ¬ 9223372036854775807 < a.length + 1 := by omega
  have sum2 : ¬ 9223372036854775807 < a.length + 1 + b.length := by omega
  clear hE h1 h2 hr
  go_enter Tryz.func75, Tryz.ntmps75
  go_wp2_with fail
  refine FA.out.mono ?_
  rintro e w1 ⟨rfl, hb1⟩
  have Hb1 := Lib.hid hb1
  have FB1 := Lib.hid (FB.out w1 hb1)
  clear hb1 FB FA
  go_wp2_with fail
  refine FB1.out.mono ?_
  rintro e w2 ⟨rfl, hb2⟩
  have Hb2 := Lib.hid (below_then Hb1.out hb2)
  clear hb2 FB1
  go_wp2_with fail
  refine (OF.out w2).mono ?_
  rintro e w3 ⟨rfl, hb3⟩
  obtain ⟨w4, hw4⟩ : ∃ w4, w3.alloc (.cells #[.string (S kn), .int .i64 1, .int .i64 (lo : Int), .int .i64 (hi : Int), .string (S df), .bool no, .bool lg] 48) = w4 := ⟨_, rfl⟩
  have Hb4 := Lib.hid (show Below w.heap.size w w4 by rw [← hw4]; exact (below_then Hb2.out hb3).alloc (below_then Hb2.out hb3).size _)
  have bK : Blk w4 w3.heap.size #[.string (S kn), .int .i64 1, .int .i64 (lo : Int), .int .i64 (hi : Int), .string (S df), .bool no, .bool lg] 48 := by rw [← hw4]; exact Blk.new w3 _ _
  obtain ⟨c0, c1, c2, c3, c4, c5, c6⟩ := bK.seven
  clear hb3 bK OF
  rcases ya with ⟨rfl, rfl⟩ | ⟨rfl, rfl⟩ <;> rcases yb with ⟨rfl, rfl⟩ | ⟨rfl, rfl⟩
  all_goals
    go_wp2_with fail
    go_ret2
    exact ⟨rfl, Hb4.out⟩
set_option maxRecDepth 100000 in
set_option maxHeartbeats 2000000 in
theorem refRes_or (nm a b kn df : List UInt8) (lo hi : Nat) (no lg : Bool) (w : World) (ha : a.length ≤ 1000) (hb : b.length ≤ 1000) (hE : Env w) (h1 : keyFits nm a = 0) (h2 : keyFits nm b = 0) (hr : rowOf nm = some ⟨kn, 2, lo, hi, df, no, lg⟩) (x y : Bool) (ya : (a = [89, 101, 115] ∧ x = true) ∨ (a = [78, 111] ∧ x = false)) (yb : (b = [89, 101, 115] ∧ y = true) ∨ (b = [78, 111] ∧ y = false)) :
    Calls Tryz.prog 75 #[.string (S nm), .string (S a), .string (S b)] w (RetSI w (yesNo (x || y), 0)) := by
  have FA := refFits_any nm a w ha hE.mc
  unfold RetEN at FA
  rw [h1] at FA
  have FA := Lib.hid FA
  have FB := Lib.hid (fun W (h : Below w.heap.size w W) => show Calls Tryz.prog 72 #[.string (S nm), .string (S b)] W (RetEN W 0) from by
    have := refFits_any nm b W hb (hE.later h).mc
    rwa [h2] at this)
  have OF := Lib.hid (fun W => refOf_row (s := nm) W hr)
  have sum1 : ¬ 9223372036854775807 < a.length + 1 := by omega
  have sum2 : ¬ 9223372036854775807 < a.length + 1 + b.length := by omega
  clear hE h1 h2 hr
  go_enter Tryz.func75, Tryz.ntmps75
  go_wp2_with fail
  refine FA.out.mono ?_
  rintro e w1 ⟨rfl, hb1⟩
  have Hb1 := Lib.hid hb1
  have FB1 := Lib.hid (FB.out w1 hb1)
  clear hb1 FB FA
  go_wp2_with fail
  refine FB1.out.mono ?_
  rintro e w2 ⟨rfl, hb2⟩
  have Hb2 := Lib.hid (below_then Hb1.out hb2)
  clear hb2 FB1
  go_wp2_with fail
  refine (OF.out w2).mono ?_
  rintro e w3 ⟨rfl, hb3⟩
  obtain ⟨w4, hw4⟩ : ∃ w4, w3.alloc (.cells #[.string (S kn), .int .i64 2, .int .i64 (lo : Int), .int .i64 (hi : Int), .string (S df), .bool no, .bool lg] 48) = w4 := ⟨_, rfl⟩
  have Hb4 := Lib.hid (show Below w.heap.size w w4 by rw [← hw4]; exact (below_then Hb2.out hb3).alloc (below_then Hb2.out hb3).size _)
  have bK : Blk w4 w3.heap.size #[.string (S kn), .int .i64 2, .int .i64 (lo : Int), .int .i64 (hi : Int), .string (S df), .bool no, .bool lg] 48 := by rw [← hw4]; exact Blk.new w3 _ _
  obtain ⟨c0, c1, c2, c3, c4, c5, c6⟩ := bK.seven
  clear hb3 bK OF
  rcases ya with ⟨rfl, rfl⟩ | ⟨rfl, rfl⟩ <;> rcases yb with ⟨rfl, rfl⟩ | ⟨rfl, rfl⟩
  all_goals
    go_wp2_with fail
    go_ret2
    exact ⟨rfl, Hb4.out⟩
set_option maxRecDepth 100000 in
set_option maxHeartbeats 2000000 in
theorem refRes_least (nm a b kn df : List UInt8) (lo hi : Nat) (no lg : Bool) (w : World) (ha : a.length ≤ 1000) (hb : b.length ≤ 1000) (hE : Env w) (h1 : keyFits nm a = 0) (h2 : keyFits nm b = 0) (hr : rowOf nm = some ⟨kn, 3, lo, hi, df, no, lg⟩) (n m : Nat) (hn : numR a = some n) (hm : numR b = some m) (hn40 : n < 1099511627776) (hm40 : m < 1099511627776) :
    Calls Tryz.prog 75 #[.string (S nm), .string (S a), .string (S b)] w (RetSI w (Lib.decDigits (min n m), 0)) := by
  have FA := refFits_any nm a w ha hE.mc
  unfold RetEN at FA
  rw [h1] at FA
  have FA := Lib.hid FA
  have FB := Lib.hid (fun W (h : Below w.heap.size w W) => show Calls Tryz.prog 72 #[.string (S nm), .string (S b)] W (RetEN W 0) from by
    have := refFits_any nm b W hb (hE.later h).mc
    rwa [h2] at this)
  have OF := Lib.hid (fun W => refOf_row (s := nm) W hr)
  have NA := Lib.hid (fun W => show Calls Tryz.prog 96 #[.string (S a)] W fun e w' => e = .returned (.int .i64 (n : Int)) ∧ Below W.heap.size W w' from by
    have := refNum_any a W (by omega)
    rwa [hn] at this)
  have NB := Lib.hid (fun W => show Calls Tryz.prog 96 #[.string (S b)] W fun e w' => e = .returned (.int .i64 (m : Int)) ∧ Below W.heap.size W w' from by
    have := refNum_any b W (by omega)
    rwa [hm] at this)
  have IT := Lib.hid (fun W (h : Below w.heap.size w W) => itoa_any (min n m) W (by omega) (hE.later h))
  have hmm : ((min n m : Nat) : Int) = min (n : Int) (m : Int) := by omega
  rw [hmm] at IT
  clear hmm hn hm hn40 hm40
  have sum1 : ¬ 9223372036854775807 < a.length + 1 := by omega
  have sum2 : ¬ 9223372036854775807 < a.length + 1 + b.length := by omega
  clear hE h1 h2 hr
  go_enter Tryz.func75, Tryz.ntmps75
  go_wp2_with fail
  refine FA.out.mono ?_
  rintro e w1 ⟨rfl, hb1⟩
  have Hb1 := Lib.hid hb1
  have FB1 := Lib.hid (FB.out w1 hb1)
  clear hb1 FB FA
  go_wp2_with fail
  refine FB1.out.mono ?_
  rintro e w2 ⟨rfl, hb2⟩
  have Hb2 := Lib.hid (below_then Hb1.out hb2)
  clear hb2 FB1
  go_wp2_with fail
  refine (OF.out w2).mono ?_
  rintro e w3 ⟨rfl, hb3⟩
  obtain ⟨w4, hw4⟩ : ∃ w4, w3.alloc (.cells #[.string (S kn), .int .i64 3, .int .i64 (lo : Int), .int .i64 (hi : Int), .string (S df), .bool no, .bool lg] 48) = w4 := ⟨_, rfl⟩
  have Hb4 := Lib.hid (show Below w.heap.size w w4 by rw [← hw4]; exact (below_then Hb2.out hb3).alloc (below_then Hb2.out hb3).size _)
  have bK : Blk w4 w3.heap.size #[.string (S kn), .int .i64 3, .int .i64 (lo : Int), .int .i64 (hi : Int), .string (S df), .bool no, .bool lg] 48 := by rw [← hw4]; exact Blk.new w3 _ _
  obtain ⟨c0, c1, c2, c3, c4, c5, c6⟩ := bK.seven
  clear hb3 bK OF
  go_wp2_with fail
  refine (NA.out w4).mono ?_
  rintro e w5 ⟨rfl, hb5⟩
  have Hb5 := Lib.hid (below_then Hb4.out hb5)
  clear hb5 NA
  go_wp2_with fail
  refine (NB.out w5).mono ?_
  rintro e w6 ⟨rfl, hb6⟩
  have Hb6 := Lib.hid (below_then Hb5.out hb6)
  have IT6 := Lib.hid (IT.out w6 Hb6.out)
  clear hb6 NB IT
  go_wp2_with fail
  refine IT6.out.mono ?_
  rintro e w7 ⟨rfl, hb7⟩
  have Hb7 := Lib.hid (below_then Hb6.out hb7)
  clear hb7
  go_wp2_with fail
  go_ret2
  exact ⟨rfl, Hb7.out⟩
set_option maxRecDepth 100000 in
set_option maxHeartbeats 2000000 in
theorem refRes_most (nm a b kn df : List UInt8) (lo hi : Nat) (no lg : Bool) (w : World) (ha : a.length ≤ 1000) (hb : b.length ≤ 1000) (hE : Env w) (h1 : keyFits nm a = 0) (h2 : keyFits nm b = 0) (hr : rowOf nm = some ⟨kn, 4, lo, hi, df, no, lg⟩) (n m : Nat) (hn : numR a = some n) (hm : numR b = some m) (hn40 : n < 1099511627776) (hm40 : m < 1099511627776) :
    Calls Tryz.prog 75 #[.string (S nm), .string (S a), .string (S b)] w (RetSI w (Lib.decDigits (max n m), 0)) := by
  have FA := refFits_any nm a w ha hE.mc
  unfold RetEN at FA
  rw [h1] at FA
  have FA := Lib.hid FA
  have FB := Lib.hid (fun W (h : Below w.heap.size w W) => show Calls Tryz.prog 72 #[.string (S nm), .string (S b)] W (RetEN W 0) from by
    have := refFits_any nm b W hb (hE.later h).mc
    rwa [h2] at this)
  have OF := Lib.hid (fun W => refOf_row (s := nm) W hr)
  have NA := Lib.hid (fun W => show Calls Tryz.prog 96 #[.string (S a)] W fun e w' => e = .returned (.int .i64 (n : Int)) ∧ Below W.heap.size W w' from by
    have := refNum_any a W (by omega)
    rwa [hn] at this)
  have NB := Lib.hid (fun W => show Calls Tryz.prog 96 #[.string (S b)] W fun e w' => e = .returned (.int .i64 (m : Int)) ∧ Below W.heap.size W w' from by
    have := refNum_any b W (by omega)
    rwa [hm] at this)
  have IT := Lib.hid (fun W (h : Below w.heap.size w W) => itoa_any (max n m) W (by omega) (hE.later h))
  have hmm : ((max n m : Nat) : Int) = max (n : Int) (m : Int) := by omega
  rw [hmm] at IT
  clear hmm hn hm hn40 hm40
  have sum1 : ¬ 9223372036854775807 < a.length + 1 := by omega
  have sum2 : ¬ 9223372036854775807 < a.length + 1 + b.length := by omega
  clear hE h1 h2 hr
  go_enter Tryz.func75, Tryz.ntmps75
  go_wp2_with fail
  refine FA.out.mono ?_
  rintro e w1 ⟨rfl, hb1⟩
  have Hb1 := Lib.hid hb1
  have FB1 := Lib.hid (FB.out w1 hb1)
  clear hb1 FB FA
  go_wp2_with fail
  refine FB1.out.mono ?_
  rintro e w2 ⟨rfl, hb2⟩
  have Hb2 := Lib.hid (below_then Hb1.out hb2)
  clear hb2 FB1
  go_wp2_with fail
  refine (OF.out w2).mono ?_
  rintro e w3 ⟨rfl, hb3⟩
  obtain ⟨w4, hw4⟩ : ∃ w4, w3.alloc (.cells #[.string (S kn), .int .i64 4, .int .i64 (lo : Int), .int .i64 (hi : Int), .string (S df), .bool no, .bool lg] 48) = w4 := ⟨_, rfl⟩
  have Hb4 := Lib.hid (show Below w.heap.size w w4 by rw [← hw4]; exact (below_then Hb2.out hb3).alloc (below_then Hb2.out hb3).size _)
  have bK : Blk w4 w3.heap.size #[.string (S kn), .int .i64 4, .int .i64 (lo : Int), .int .i64 (hi : Int), .string (S df), .bool no, .bool lg] 48 := by rw [← hw4]; exact Blk.new w3 _ _
  obtain ⟨c0, c1, c2, c3, c4, c5, c6⟩ := bK.seven
  clear hb3 bK OF
  go_wp2_with fail
  refine (NA.out w4).mono ?_
  rintro e w5 ⟨rfl, hb5⟩
  have Hb5 := Lib.hid (below_then Hb4.out hb5)
  clear hb5 NA
  go_wp2_with fail
  refine (NB.out w5).mono ?_
  rintro e w6 ⟨rfl, hb6⟩
  have Hb6 := Lib.hid (below_then Hb5.out hb6)
  have IT6 := Lib.hid (IT.out w6 Hb6.out)
  clear hb6 NB IT
  go_wp2_with fail
  refine IT6.out.mono ?_
  rintro e w7 ⟨rfl, hb7⟩
  have Hb7 := Lib.hid (below_then Hb6.out hb7)
  clear hb7
  go_wp2_with fail
  go_ret2
  exact ⟨rfl, Hb7.out⟩
set_option maxRecDepth 100000 in
set_option maxHeartbeats 2000000 in
theorem refRes_first (nm a b kn df : List UInt8) (lo hi : Nat) (no lg : Bool) (w : World) (ha : a.length ≤ 1000) (hb : b.length ≤ 1000) (hE : Env w) (h1 : keyFits nm a = 0) (h2 : keyFits nm b = 0) (hr : rowOf nm = some ⟨kn, 5, lo, hi, df, no, lg⟩) :
    Calls Tryz.prog 75 #[.string (S nm), .string (S a), .string (S b)] w (RetSI w (firstN (firstR a b))) := by
  have FA := refFits_any nm a w ha hE.mc
  unfold RetEN at FA
  rw [h1] at FA
  have FA := Lib.hid FA
  have FB := Lib.hid (fun W (h : Below w.heap.size w W) => show Calls Tryz.prog 72 #[.string (S nm), .string (S b)] W (RetEN W 0) from by
    have := refFits_any nm b W hb (hE.later h).mc
    rwa [h2] at this)
  have OF := Lib.hid (fun W => refOf_row (s := nm) W hr)
  have SP := Lib.hid (fun W (h : Below w.heap.size w W) => split44_any a W (by omega) (hE.later h).mc)
  have hsp := split1_sum 44 a.length a (Nat.le_refl _)
  have CW := Lib.hid (fun (x : List UInt8) W (h : Below w.heap.size w W) (h1 : x.length ≤ 1000) (h2 : (44 : UInt8) ∉ x) => containsW_any b x W hb h1 h2 (hE.later h).mc)
  have hms := fun x (hx : x ∈ split1 44 a) => mem_split 44 a.length a x (Nat.le_refl _) hx
  have HA := fun l (hl : split1 44 a = l) k (hk : k < l.length) => @firstR_at a b l hl k hk
  have HN := fun l (hl : split1 44 a = l) => @firstR_not a b l hl
  obtain ⟨l, hl⟩ : ∃ l, split1 44 a = l := ⟨_, rfl⟩
  rw [hl] at SP hsp hms
  have HAt := Lib.hid (HA l hl)
  have HNo := Lib.hid (HN l hl)
  have Hms := Lib.hid hms
  have Hlen := Lib.hid (fun x (hx : x ∈ l) => show x.length ≤ 1000 from Nat.le_trans (hsp.1 x hx) ha)
  have hll : l.length ≤ 1001 := by have := hsp.2; omega
  obtain ⟨r, hr2⟩ : ∃ r, firstR a b = r := ⟨_, rfl⟩
  rw [hr2] at HAt HNo ⊢
  have sb1 : ¬ 9223372036854775807 < b.length + 1 := by omega
  have sb2 : ¬ 9223372036854775807 < 1 + b.length := by omega
  have sb3 : ¬ 9223372036854775807 < b.length + 1 + 1 := by omega
  have sb4 : ¬ 9223372036854775807 < 1 + b.length + 1 := by omega
  clear hsp hms HA HN hl hr2
  have sum1 : ¬ 9223372036854775807 < a.length + 1 := by omega
  have sum2 : ¬ 9223372036854775807 < a.length + 1 + b.length := by omega
  clear hE h1 h2 hr
  go_enter Tryz.func75, Tryz.ntmps75
  go_wp2_with fail
  refine FA.out.mono ?_
  rintro e w1 ⟨rfl, hb1⟩
  have Hb1 := Lib.hid hb1
  have FB1 := Lib.hid (FB.out w1 hb1)
  clear hb1 FB FA
  go_wp2_with fail
  refine FB1.out.mono ?_
  rintro e w2 ⟨rfl, hb2⟩
  have Hb2 := Lib.hid (below_then Hb1.out hb2)
  clear hb2 FB1
  go_wp2_with fail
  refine (OF.out w2).mono ?_
  rintro e w3 ⟨rfl, hb3⟩
  obtain ⟨w4, hw4⟩ : ∃ w4, w3.alloc (.cells #[.string (S kn), .int .i64 5, .int .i64 (lo : Int), .int .i64 (hi : Int), .string (S df), .bool no, .bool lg] 48) = w4 := ⟨_, rfl⟩
  have Hb4 := Lib.hid (show Below w.heap.size w w4 by rw [← hw4]; exact (below_then Hb2.out hb3).alloc (below_then Hb2.out hb3).size _)
  have bK : Blk w4 w3.heap.size #[.string (S kn), .int .i64 5, .int .i64 (lo : Int), .int .i64 (hi : Int), .string (S df), .bool no, .bool lg] 48 := by rw [← hw4]; exact Blk.new w3 _ _
  obtain ⟨c0, c1, c2, c3, c4, c5, c6⟩ := bK.seven
  clear hb3 bK OF
  have SP4 := Lib.hid (SP.out w4 Hb4.out)
  clear SP
  go_wp2_with fail
  refine SP4.out.mono ?_
  rintro e W ⟨rfl, hcell, hlt0, hbel⟩
  have Hcell := Lib.hid hcell
  have HbW := Lib.hid (below_then Hb4.out hbel)
  clear hcell hlt0 hbel SP4 hw4 c0 c1 c2 c3 c4 c5 c6
  go_wp2_with fail
  go_loopw [67] (fun i wr => ∃ k : Nat, k ≤ l.length ∧ i = .int .i64 k ∧ Hid (∀ i (hi : i < l.length), i < k → l[i] ∉ split1 44 b) ∧ wr = W) (fun i _ => l.length - (intOf i).toNat)
  case atStart => exact ⟨0, by omega, rfl, Lib.hid (fun i hi h => by omega), rfl⟩
  case round =>
    obtain ⟨k, hk, rfl, Hno, rfl⟩ := hrel
    by_cases hlt : k < l.length
    · have hki : (k : Int) < (l.length : Int) := by omega
      have hck : wr.cell? ⟨w4.heap.size, k, none⟩ = some (.string (S l[k])) := Hcell.out k hlt
      have hmem : l[k] ∈ l := List.getElem_mem hlt
      have hx1 := Hlen.out _ hmem
      have hx2 := Hms.out _ hmem
      have HA2 := Lib.hid (HAt.out k hlt Hno.out)
      obtain ⟨x, hx⟩ : ∃ x, l[k] = x := ⟨_, rfl⟩
      rw [hx] at hck hx1 hx2 HA2
      have Hx := Lib.hid hx
      have C := Lib.hid (CW.out x wr HbW.out hx1 hx2)
      have sx1 : ¬ 9223372036854775807 < x.length + 1 := by omega
      have sx2 : ¬ 9223372036854775807 < 1 + x.length := by omega
      have sx3 : ¬ 9223372036854775807 < x.length + 1 + 1 := by omega
      have sx4 : ¬ 9223372036854775807 < 1 + x.length + 1 := by omega
      clear hx hmem hx1 hx2
      by_cases hin : x ∈ split1 44 b
      · have HR := Lib.hid (HA2.out hin)
        rw [decide_eq_true hin] at C
        clear hin
        go_wp2_with fail
        refine C.out.mono ?_
        rintro e w' ⟨rfl, rfl⟩
        go_wp2_with fail
        go_ret2
        rw [HR.out]
        exact ⟨rfl, HbW.out⟩
      · have Hin := Lib.hid hin
        rw [decide_eq_false hin] at C
        clear hin
        go_wp2_with fail
        refine C.out.mono ?_
        rintro e w' ⟨rfl, rfl⟩
        go_wp2_with fail
        go_roundw
        case rel => exact ⟨k + 1, by omega, by go_num, Lib.hid (fun i hi h => by
          rcases Nat.lt_or_ge i k with h' | h'
          · exact Hno.out i hi h'
          · obtain rfl : i = k := by omega
            rw [Hx.out]; exact Hin.out), by first | rfl | trivial⟩
        case measure => simp [intOf]; omega
    · have HR := Lib.hid (HNo.out (fun i hi => Hno.out i hi (by omega)))
      obtain rfl : k = l.length := by omega
      clear hlt
      go_wp2_with fail
      go_ret2
      rw [HR.out]
      exact ⟨rfl, HbW.out⟩
set_option maxRecDepth 100000 in
set_option maxHeartbeats 2000000 in
theorem refRes_told (nm a b kn df : List UInt8) (lo hi : Nat) (no lg : Bool) (w : World) (ha : a.length ≤ 1000) (hb : b.length ≤ 1000) (hE : Env w) (h1 : keyFits nm a = 0) (h2 : keyFits nm b = 0) (hr : rowOf nm = some ⟨kn, 6, lo, hi, df, no, lg⟩) :
    Calls Tryz.prog 75 #[.string (S nm), .string (S a), .string (S b)] w (RetSI w (a, 0)) := by
  have FA := refFits_any nm a w ha hE.mc
  unfold RetEN at FA
  rw [h1] at FA
  have FA := Lib.hid FA
  have FB := Lib.hid (fun W (h : Below w.heap.size w W) => show Calls Tryz.prog 72 #[.string (S nm), .string (S b)] W (RetEN W 0) from by
    have := refFits_any nm b W hb (hE.later h).mc
    rwa [h2] at this)
  have OF := Lib.hid (fun W => refOf_row (s := nm) W hr)
  have sum1 : ¬ 9223372036854775807 < a.length + 1 := by omega
  have sum2 : ¬ 9223372036854775807 < a.length + 1 + b.length := by omega
  clear hE h1 h2 hr
  go_enter Tryz.func75, Tryz.ntmps75
  go_wp2_with fail
  refine FA.out.mono ?_
  rintro e w1 ⟨rfl, hb1⟩
  have Hb1 := Lib.hid hb1
  have FB1 := Lib.hid (FB.out w1 hb1)
  clear hb1 FB FA
  go_wp2_with fail
  refine FB1.out.mono ?_
  rintro e w2 ⟨rfl, hb2⟩
  have Hb2 := Lib.hid (below_then Hb1.out hb2)
  clear hb2 FB1
  go_wp2_with fail
  refine (OF.out w2).mono ?_
  rintro e w3 ⟨rfl, hb3⟩
  obtain ⟨w4, hw4⟩ : ∃ w4, w3.alloc (.cells #[.string (S kn), .int .i64 6, .int .i64 (lo : Int), .int .i64 (hi : Int), .string (S df), .bool no, .bool lg] 48) = w4 := ⟨_, rfl⟩
  have Hb4 := Lib.hid (show Below w.heap.size w w4 by rw [← hw4]; exact (below_then Hb2.out hb3).alloc (below_then Hb2.out hb3).size _)
  have bK : Blk w4 w3.heap.size #[.string (S kn), .int .i64 6, .int .i64 (lo : Int), .int .i64 (hi : Int), .string (S df), .bool no, .bool lg] 48 := by rw [← hw4]; exact Blk.new w3 _ _
  obtain ⟨c0, c1, c2, c3, c4, c5, c6⟩ := bK.seven
  clear hb3 bK OF
  go_wp2_with fail
  go_ret2
  exact ⟨rfl, Hb4.out⟩
set_option maxRecDepth 100000 in
set_option maxHeartbeats 2000000 in
theorem refRes_number (nm a b kn df : List UInt8) (lo hi : Nat) (no lg : Bool) (w : World) (ha : a.length ≤ 1000) (hb : b.length ≤ 1000) (hE : Env w) (h1 : keyFits nm a = 0) (h2 : keyFits nm b = 0) (hr : rowOf nm = some ⟨kn, 7, lo, hi, df, no, lg⟩) :
    Calls Tryz.prog 75 #[.string (S nm), .string (S a), .string (S b)] w (RetSI w (a, 0)) := by
  have FA := refFits_any nm a w ha hE.mc
  unfold RetEN at FA
  rw [h1] at FA
  have FA := Lib.hid FA
  have FB := Lib.hid (fun W (h : Below w.heap.size w W) => show Calls Tryz.prog 72 #[.string (S nm), .string (S b)] W (RetEN W 0) from by
    have := refFits_any nm b W hb (hE.later h).mc
    rwa [h2] at this)
  have OF := Lib.hid (fun W => refOf_row (s := nm) W hr)
  have sum1 : ¬ 9223372036854775807 < a.length + 1 := by omega
  have sum2 : ¬ 9223372036854775807 < a.length + 1 + b.length := by omega
  clear hE h1 h2 hr
  go_enter Tryz.func75, Tryz.ntmps75
  go_wp2_with fail
  refine FA.out.mono ?_
  rintro e w1 ⟨rfl, hb1⟩
  have Hb1 := Lib.hid hb1
  have FB1 := Lib.hid (FB.out w1 hb1)
  clear hb1 FB FA
  go_wp2_with fail
  refine FB1.out.mono ?_
  rintro e w2 ⟨rfl, hb2⟩
  have Hb2 := Lib.hid (below_then Hb1.out hb2)
  clear hb2 FB1
  go_wp2_with fail
  refine (OF.out w2).mono ?_
  rintro e w3 ⟨rfl, hb3⟩
  obtain ⟨w4, hw4⟩ : ∃ w4, w3.alloc (.cells #[.string (S kn), .int .i64 7, .int .i64 (lo : Int), .int .i64 (hi : Int), .string (S df), .bool no, .bool lg] 48) = w4 := ⟨_, rfl⟩
  have Hb4 := Lib.hid (show Below w.heap.size w w4 by rw [← hw4]; exact (below_then Hb2.out hb3).alloc (below_then Hb2.out hb3).size _)
  have bK : Blk w4 w3.heap.size #[.string (S kn), .int .i64 7, .int .i64 (lo : Int), .int .i64 (hi : Int), .string (S df), .bool no, .bool lg] 48 := by rw [← hw4]; exact Blk.new w3 _ _
  obtain ⟨c0, c1, c2, c3, c4, c5, c6⟩ := bK.seven
  clear hb3 bK OF
  go_wp2_with fail
  go_ret2
  exact ⟨rfl, Hb4.out⟩
theorem refResult_any (nm a b : List UInt8) (w : World) (ha : a.length ≤ 1000) (hb : b.length ≤ 1000) (hE : Env w) :
    Calls Tryz.prog 75 #[.string (S nm), .string (S a), .string (S b)] w (RetSI w (keyRes nm a b)) := by
  by_cases h1 : keyFits nm a = 0
  · by_cases h2 : keyFits nm b = 0
    · obtain ⟨k, hr, f1⟩ := keyFits_row h1
      obtain ⟨k', hr', f2⟩ := keyFits_row h2
      obtain rfl : k = k' := Option.some.inj (hr.symm.trans hr')
      have hk := rowOf_ok hr
      rw [keyRes_ok hr f1 f2]
      have hc : k.kd = 1 ∨ k.kd = 2 ∨ k.kd = 3 ∨ k.kd = 4 ∨ k.kd = 5 ∨ k.kd = 6 ∨ k.kd = 7 := by omega
      obtain ⟨kn, kd, lo, hi, df, no, lg⟩ := k
      simp only at hc
      rcases hc with rfl | rfl | rfl | rfl | rfl | rfl | rfl
      · rw [resOk_and _ _ rfl]
        exact refRes_and nm a b kn df lo hi no lg w ha hb hE h1 h2 hr _ _ (yes_or (fitK_yes0 (.inl rfl) f1)) (yes_or (fitK_yes0 (.inl rfl) f2))
      · rw [resOk_or _ _ rfl]
        exact refRes_or nm a b kn df lo hi no lg w ha hb hE h1 h2 hr _ _ (yes_or (fitK_yes0 (.inr rfl) f1)) (yes_or (fitK_yes0 (.inr rfl) f2))
      · obtain ⟨n, hn, n1, n2⟩ := fitK_num0 (.inl rfl) f1
        obtain ⟨m, hm, m1, m2⟩ := fitK_num0 (.inl rfl) f2
        rw [resOk_least _ _ rfl, numD_of hn, numD_of hm]
        exact refRes_least nm a b kn df lo hi no lg w ha hb hE h1 h2 hr n m hn hm (numR_lt hn) (numR_lt hm)
      · obtain ⟨n, hn, n1, n2⟩ := fitK_num0 (.inr (.inl rfl)) f1
        obtain ⟨m, hm, m1, m2⟩ := fitK_num0 (.inr (.inl rfl)) f2
        rw [resOk_most _ _ rfl, numD_of hn, numD_of hm]
        exact refRes_most nm a b kn df lo hi no lg w ha hb hE h1 h2 hr n m hn hm (numR_lt hn) (numR_lt hm)
      · rw [resOk_first _ _ rfl]
        have := refRes_first nm a b kn df lo hi no lg w ha hb hE h1 h2 hr
        unfold firstN at this
        cases hf : firstR a b with
        | none => rw [hf] at this; exact this
        | some x => rw [hf] at this; exact this
      · rw [resOk_told _ _ (.inl rfl)]
        exact refRes_told nm a b kn df lo hi no lg w ha hb hE h1 h2 hr
      · rw [resOk_told _ _ (.inr rfl)]
        exact refRes_number nm a b kn df lo hi no lg w ha hb hE h1 h2 hr
    · exact refRes_bad nm a b w ha hb hE.mc (.inr h2)
  · exact refRes_bad nm a b w ha hb hE.mc (.inl h1)
end Go.Proofs.YteapbjeapnmloaaGreatDoor
