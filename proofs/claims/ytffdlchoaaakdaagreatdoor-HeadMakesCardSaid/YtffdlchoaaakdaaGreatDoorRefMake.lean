/- ref.HeadMake: names and numbers, one by one; plain facts. -/
import Derived.Test.YtffdlchoaaakdaaGreatDoorNumMap
import Derived.Test.YtffdlchoaaakdaaGreatDoorApart
import Derived.Test.YtffdlchoaaakdaaGreatDoorNBuf
import Derived.Test.YtffdlchoaaakdaaGreatDoorRefRight2
import Derived.Test.YtffdlchoaaakdaaGreatDoorRefIs
import Derived.Test.YtffdlchoaaakdaaGreatDoorMake
namespace Go.Proofs.YtffdlchoaaakdaaGreatDoor
open Go.RowKit
def RetHF (w : World) (r : Hd × Int × Int) (e : Ending) (w' : World) : Prop :=
  ∃ v, e = .returned (.tuple #[headV r.1 v, .agg #[.int .i64 r.2.1, .int .i64 r.2.2]]) ∧ Vals w' v r.1.vs ∧ Below w.heap.size w w'
/-- does one of the fields have this name -/
def hasN (fs : List Fd) (n : List UInt8) : Bool := fs.any fun f => f.nm == n
theorem hasN_none {fs : List Fd} {n : List UInt8} (h : idxName fs n = none) : hasN fs n = false := by
  unfold hasN
  rw [List.any_eq_false]
  intro f hf
  simpa using idxName_none h f hf
theorem hasN_some {fs : List Fd} {n : List UInt8} {i : Nat} (h : idxName fs n = some i) : hasN fs n = true := by
  unfold hasN
  rw [List.any_eq_true]
  exact ⟨_, List.getElem_mem (idxName_lt h), by simpa using idxName_at h⟩
theorem hasN_succ (fs : List Fd) (n : List UInt8) (m : Nat) (hm : m < fs.length) : hasN (fs.take (m + 1)) n = (hasN (fs.take m) n || fs[m].nm == n) := by
  unfold hasN
  rw [List.take_succ_eq_append_getElem hm, List.any_append, List.any_cons, List.any_nil, Bool.or_false]
/-- what the map has, field by field -/
def ofMap (fs : List Fd) (g : List UInt8 → Nat) : List Nat := fs.map fun f => g f.nm
theorem ofMap_zero (fs : List Fd) : ofMap fs (fun _ => 0) = List.replicate fs.length 0 := by
  unfold ofMap
  induction fs with
  | nil => rfl
  | cons f fs ih => simp [List.replicate_succ, ih]
theorem ofMap_set {fs : List Fd} (ha : apartF fs = true) {g : List UInt8 → Nat} {n : List UInt8} {i : Nat} (h : idxName fs n = some i) (x : Nat) : (ofMap fs g).set i x = ofMap fs (fun k => if k = n then x else g k) := by
  have hi := idxName_lt h
  have hn := idxName_at h
  unfold ofMap
  apply List.ext_getElem?
  intro j
  rw [List.getElem?_set]
  simp only [List.getElem?_map, List.length_map]
  by_cases e : i = j
  · subst e
    rw [if_pos rfl, if_pos hi, List.getElem?_eq_getElem hi]
    simp only [Option.map_some, hn, ↓reduceIte]
  · rw [if_neg e]
    cases hj : fs[j]? with
    | none => rfl
    | some f =>
      obtain ⟨hj1, hj2⟩ := List.getElem?_eq_some_iff.1 hj
      have hne : f.nm ≠ n := fun h' => names_ne ha hi hj1 e (by rw [hn, hj2, h'])
      simp only [Option.map_some, if_neg hne]
theorem ofMap_succ (fs : List Fd) (g : List UInt8 → Nat) (m : Nat) (hm : m < fs.length) : (ofMap fs g).take (m + 1) = (ofMap fs g).take m ++ [g fs[m].nm] := by
  rw [List.take_succ_eq_append_getElem (by simpa [ofMap] using hm)]
  simp [ofMap]
theorem refMake_none (op fl : Int) (vn vv : Value) (w : World) (hk : kindOf op = none) : Calls Tryz.prog 17 #[.int .i64 op, .int .i64 fl, vn, vv] w (RetHF w (hd0, 1, -1)) := by
  have hb0 := ((Below.refl w.heap.size w).alloc (Nat.le_refl _) (.cells #[.int .i64 0, .bool false, .int .i64 0, .slice none 0 0] 24)).alloc (by simp) (.cells #[.int .i64 0, .int .i64 0] 49)
  have hC0 := cell2_new (w.alloc (.cells #[.int .i64 0, .bool false, .int .i64 0, .slice none 0 0] 24))
  rw [World.size_alloc] at hC0
  have hH0 := (Blk.new w #[.int .i64 0, .bool false, .int .i64 0, .slice none 0 0] 24).alloc (.cells #[.int .i64 0, .int .i64 0] 49)
  have C := refKind_any op ((w.alloc (.cells #[.int .i64 0, .bool false, .int .i64 0, .slice none 0 0] 24)).alloc (.cells #[.int .i64 0, .int .i64 0] 49))
  rw [hk] at C
  have HC := Lib.hid C
  have Hb0 := Lib.hid hb0
  have HC0 := Lib.hid hC0
  have HH0 := Lib.hid hH0
  clear hk hb0 C hC0 hH0
  go_enter Tryz.func17, Tryz.ntmps17
  go_wp2_with fail
  refine HC.out.mono ?_
  rintro e w1 ⟨rfl, hb⟩
  have Hb := Lib.hid (below_then Hb0.out hb)
  have HC1 := Lib.hid (HC0.out.later hb)
  have HH1 := Lib.hid (HH0.out.later hb)
  clear hb
  go_wp2_with fail
  refine (bareF 1 _).mono ?_
  rintro e w2 ⟨rfl, hb⟩
  have Hb2 := Lib.hid (below_then Hb.out hb)
  have HC2 := HC1.out.later hb
  have HH2 := HH1.out.later hb
  obtain ⟨c0, c1⟩ := HC2.cells
  have f0 := HC2.frozen 0
  have f1 := HC2.frozen 1
  obtain ⟨q0, q1, q2, q3⟩ := HH2.four
  have g0 := HH2.frozen 0
  have g1 := HH2.frozen 1
  have g2 := HH2.frozen 2
  have g3 := HH2.frozen 3
  clear hb HC2 HH2
  go_wp2_with fail
  refine bodyPost_ret (v := .tuple #[headV hd0 (.slice none 0 0), .agg #[.int .i64 1, .int .i64 (-1)]]) (by simp [results, Tryz.results17, go_sem, headV, hd0, c0, c1, q0, q1, q2, q3]) rfl ⟨_, rfl, vals_nil _, ?_⟩
  exact (((((Hb2.out.setCell (by simp) _).setCell (by simp) _).setCell (by simp) _).setCell (by simp) _).setCell (by simp) _).setCell (by simp) _
end Go.Proofs.YtffdlchoaaakdaaGreatDoor
