/- ref.List. -/
import Derived.Test.YtikcgnalcchlpaaGreatDoorKList
import Derived.Test.YtikcgnalcchlpaaGreatDoorKeyMath2
import Derived.Test.YtikcgnalcchlpaaGreatDoorPairMath2
import Derived.Test.YtikcgnalcchlpaaGreatDoorShSplt
import Derived.Lib.IndexBytes
namespace Go.Proofs.YtikcgnalcchlpaaGreatDoor
open Go.RowKit
set_option linter.unusedVariables false
theorem split44_any (s : List UInt8) (w : World) (hl : s.length ≤ 1000000) (hm : MaxCell w) :
    Calls Tryz.prog 18 #[.string (S s), .string (S [44])] w fun e w' => e = .returned (.slice (some ⟨w.heap.size, 0, none⟩) (split1 44 s).length (split1 44 s).length) ∧
      (∀ j (hj : j < (split1 44 s).length), w'.cell? ⟨w.heap.size, j, none⟩ = some (.string (S (split1 44 s)[j]))) ∧ w.heap.size < w'.heap.size ∧ Below w.heap.size w w' := by
  obtain ⟨m, hm2⟩ := hm
  have C := Tryz.strings_Split (S s) (S [44]) m _ (by rw [S_size]; omega) hm2 (by rw [S_size]; decide)
  have e1 : Lib.countB (S s) (S [44]) = Lib.count s [44] := by show Lib.count (S s).data.toList (S [44]).data.toList = _; simp [S]
  have hd := Lib.splitB_data (S [44]) 0 (Lib.count s [44]) (S s)
  have e2 : (S [44]).data.toList = [44] := by simp [S]
  have e3 : (S s).data.toList = s := by simp [S]
  rw [e2, e3, split1_is] at hd
  have hinv : ∀ s : ByteArray, S s.data.toList = s := fun s => by apply ByteArray.ext; simp [S]
  have hd2 := congrArg (List.map S) hd
  rw [List.map_map] at hd2
  rw [show (S ∘ fun x : ByteArray => x.data.toList) = id from funext fun s => hinv s, List.map_id] at hd2
  rw [e1, hd2, count_one] at C
  refine C.mono ?_
  rintro e w' ⟨rfl, rfl⟩
  refine ⟨rfl, fun j hj => ?_, by simp, (Below.refl _ _).alloc (Nat.le_refl _) _⟩
  rw [World.cell?_alloc_mark]
  simp only [List.map_map, List.getElem?_toArray, List.getElem?_map]
  rw [List.getElem?_eq_getElem hj]
  simp
theorem okL_grow {l : List (List UInt8)} {k : Nat} (hk : k < l.length) (h : OkL (l.take k)) (h1 : l[k] ≠ []) (h2 : ∀ j (hj : j < l.length), j < k → l[j] ≠ l[k]) : OkL (l.take (k + 1)) := by
  rw [← List.take_append_getElem hk]
  refine (okL_snoc h).2 ⟨h1, fun hm => ?_⟩
  obtain ⟨j, hj, he⟩ := List.getElem_of_mem hm
  rw [List.length_take] at hj
  rw [List.getElem_take] at he
  exact h2 j (by omega) (by omega) he
theorem okL_empty {l : List (List UInt8)} {k : Nat} (hk : k < l.length) (h : l[k] = []) : ¬ OkL l := fun ho => ho.1 l[k] (List.getElem_mem hk) h
theorem okL_twice {l : List (List UInt8)} {j k : Nat} (hk : k < l.length) (hj : j < k) (h : l[j]'(by omega) = l[k]) : ¬ OkL l := fun ho => by
  exact List.pairwise_iff_getElem.1 ho.2 j k (by omega) hk hj h
def listI (r : Option (List (List UInt8))) : Int := match r with | some _ => 0 | none => 3
/-- words and an error's number -/
def RetRL (w : World) (r : Option (List (List UInt8))) (e : Ending) (w' : World) : Prop :=
  ∃ v, e = .returned (.tuple #[v, .int .i64 (listI r)]) ∧ StrV w' v (r.getD []) ∧ Below w.heap.size w w'
theorem strV_none (w : World) : StrV w (.slice none 0 0) [] := ⟨none, 0, rfl, fun h => by cases h⟩
set_option maxRecDepth 100000 in
set_option maxHeartbeats 2000000 in
theorem refList_any (s : List UInt8) (w : World) (hl : s.length ≤ 1000000) (hm : MaxCell w) : Calls Tryz.prog 7 #[.string (S s)] w (RetRL w (listR s)) := by
  have SP := Lib.hid (split44_any s w hl hm)
  have hln := (split1_sum 44 s.length s (Nat.le_refl _)).2
  obtain ⟨l, hll⟩ : ∃ l, split1 44 s = l := ⟨_, rfl⟩
  rw [hll] at SP hln
  have hbad : ¬ OkL l → listR s = none := fun h => by unfold listR; rw [hll, if_neg h]
  have hgood : OkL l → listR s = some l := fun h => by unfold listR; rw [hll, if_pos h]
  have Bad := Lib.hid hbad
  have Good := Lib.hid hgood
  have hls : l.length ≤ 1000001 := by omega
  clear hbad hgood hll hln
  obtain ⟨R, hR⟩ : ∃ R, listR s = R := ⟨_, rfl⟩
  rw [hR] at Bad Good ⊢
  clear hR
  go_enter Tryz.func7, Tryz.ntmps7
  go_wp2_with fail
  refine SP.out.mono ?_
  rintro e W ⟨rfl, hcell, hlt0, hbel⟩
  have Hcell := Lib.hid hcell
  have Hbel := Lib.hid hbel
  clear hcell hbel hlt0
  go_wp2_with fail
  go_loopw [13] (fun i wr => ∃ k : Nat, k ≤ l.length ∧ i = .int .i64 k ∧ Hid (OkL (l.take k)) ∧ wr = W) (fun i _ => l.length - (intOf i).toNat)
  case atStart => exact ⟨0, by omega, rfl, Lib.hid (by simpa using okL_nil), rfl⟩
  case round =>
    obtain ⟨k, hk, rfl, Ho, rfl⟩ := hrel
    by_cases hlt : k < l.length
    · have hki : (k : Int) < (l.length : Int) := by omega
      have hck : wr.cell? ⟨w.heap.size, k, none⟩ = some (.string (S l[k])) := Hcell.out k hlt
      obtain ⟨x, hx⟩ : ∃ x, l[k] = x := ⟨_, rfl⟩
      rw [hx] at hck
      have Hx := Lib.hid hx
      clear hx
      go_wp2_with fail
      go_loopw [22] (fun i wq => ∃ j : Nat, j ≤ k ∧ i = .int .i64 j ∧ Hid (∀ i (hi : i < l.length), i < j → l[i] ≠ x) ∧ wq = wr) (fun i _ => k - (intOf i).toNat)
      case atStart => exact ⟨0, by omega, rfl, Lib.hid (fun i hi h => by omega), rfl⟩
      case round =>
        obtain ⟨j, hj, rfl, Hj, rfl⟩ := hrel
        by_cases hjk : j < k
        · have hji : (j : Int) < (k : Int) := by omega
          have hjl : j < l.length := by omega
          have hcj : wr.cell? ⟨w.heap.size, j, none⟩ = some (.string (S l[j])) := Hcell.out j hjl
          obtain ⟨y, hy⟩ : ∃ y, l[j] = y := ⟨_, rfl⟩
          rw [hy] at hcj
          have Hy := Lib.hid hy
          clear hy
          by_cases hxy : x = y
          · subst hxy
            have e1 : (x == x) = true := by simp
            go_wp2_with fail
            go_ret2
            rw [Bad.out (okL_twice hlt hjk (by rw [Hy.out, Hx.out]))]
            exact ⟨_, rfl, strV_none _, Hbel.out⟩
          · have e1 : (x == y) = false := by simpa using hxy
            go_wp2_with fail
            go_roundw
            case rel => exact ⟨j + 1, by omega, by go_num, Lib.hid (fun i hi h => by
              rcases Nat.lt_or_ge i j with h' | h'
              · exact Hj.out i hi h'
              · obtain rfl : i = j := by omega
                rw [Hy.out]; exact fun e => hxy e.symm), by first | rfl | trivial⟩
            case measure => simp [intOf]; omega
        · obtain rfl : j = k := by omega
          have Hjk := Lib.hid Hj.out
          clear Hj hjk
          by_cases hx0 : x = []
          · subst hx0
            go_wp2_with fail
            go_ret2
            rw [Bad.out (okL_empty hlt Hx.out)]
            exact ⟨_, rfl, strV_none _, Hbel.out⟩
          · have hxe : x.isEmpty = false := by cases x with | nil => exact absurd rfl hx0 | cons _ _ => rfl
            go_wp2_with fail
            go_roundw
            case rel => exact ⟨j + 1, by omega, by go_num, Lib.hid (okL_grow hlt Ho.out (by rw [Hx.out]; exact hx0) (fun i hi h => by rw [Hx.out]; exact Hjk.out i hi h)), by first | rfl | trivial⟩
            case measure => simp [intOf]; omega
    · obtain rfl : k = l.length := by omega
      have ho := Ho.out
      rw [List.take_length] at ho
      have Hg := Lib.hid (Good.out ho)
      clear ho Ho hlt Good Bad
      go_wp2_with fail
      go_ret2
      rw [Hg.out]
      exact ⟨_, rfl, ⟨_, _, rfl, fun h => ⟨w.heap.size, 0, rfl, fun j hj => by rw [Nat.zero_add]; exact Hcell.out j hj⟩⟩, Hbel.out⟩
end Go.Proofs.YtikcgnalcchlpaaGreatDoor
