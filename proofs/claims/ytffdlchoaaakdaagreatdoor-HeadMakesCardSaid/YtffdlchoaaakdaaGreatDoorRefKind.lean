/- ref.Kind: what is known of a PDU, as the reference has it. -/
import Derived.Test.YtffdlchoaaakdaaGreatDoorRefKinds
import Derived.Test.YtffdlchoaaakdaaGreatDoorFind
namespace Go.Proofs.YtffdlchoaaakdaaGreatDoor
open Go.RowKit
theorem cellsRk_get : ∀ (ks : List Rk) (bs : List Nat) (j : Nat) (hj : j < ks.length) (hb : j < bs.length) (i : Nat), i < 4 → (cellsRk ks bs)[j * 4 + i]? = (rkC ks[j] bs[j])[i]?
  | [], _, j, hj, _, _, _ => by simp at hj
  | _ :: _, [], j, _, hb, _, _ => by simp at hb
  | k :: ks, b :: bs, j, hj, hb, i, hi => by
    unfold cellsRk
    simp only [List.zip_cons_cons, List.flatMap_cons, List.getElem?_toArray]
    cases j with
    | zero => rw [List.getElem?_append_left (by simp [rkC]; omega)]; simp
    | succ j =>
      rw [List.getElem?_append_right (by simp [rkC]; omega)]
      have h := cellsRk_get ks bs j (by simpa using hj) (by simpa using hb) i hi
      unfold cellsRk at h
      simp only [List.getElem?_toArray] at h
      rw [show (j + 1) * 4 + i - (rkC k b).length = j * 4 + i from by simp [rkC]; omega, h]
      simp
def RetKind (w : World) (k : Kd) (e : Ending) (w' : World) : Prop :=
  ∃ b, e = .returned (.tuple #[.string (S k.nm), .int .i64 (k.fl : Int), .slice (some ⟨b, 0, none⟩) k.fs.length k.fs.length, .bool true]) ∧ Flds w' b k.fs ∧ Below w.heap.size w w'
def RetNoKind (w : World) (e : Ending) (w' : World) : Prop :=
  e = .returned (.tuple #[.string (S []), .int .i64 0, .slice none 0 0, .bool false]) ∧ Below w.heap.size w w'
def RetKindO (w : World) (o : Option Kd) (e : Ending) (w' : World) : Prop := match o with
  | some k => RetKind w k e w'
  | none => RetNoKind w e w'
theorem kinds_len : kinds.length = 18 := by kernel_rfl
structure KindB (w : World) (b : Nat) (bs : List Nat) (W : World) : Prop where
  blk : Blk W b (cellsRk (kinds.map rkOf) bs) 66
  fl : ∀ x ∈ (kinds.map rkOf).zip bs, Flds W x.2 x.1.fs
  low : Below w.heap.size w W
theorem KindB.later {w W W' : World} {b : Nat} {bs : List Nat} (h : KindB w b bs W) (hb : Below W.heap.size W W') : KindB w b bs W' :=
  ⟨h.blk.later hb, fun x hx => Blk.later (h.fl x hx) hb, below_then h.low hb⟩
theorem KindB.get {w W : World} {b : Nat} {bs : List Nat} (h : KindB w b bs W) (j : Nat) (hj : j < kinds.length) (hjb : j < bs.length) :
    W.cell? ⟨b, j * 4, none⟩ = some (.int .i64 (kinds[j].op : Int)) ∧ W.cell? ⟨b, j * 4 + 1, none⟩ = some (.string (S kinds[j].nm)) ∧ W.cell? ⟨b, j * 4 + 2, none⟩ = some (.int .i64 (kinds[j].fl : Int)) ∧
    W.cell? ⟨b, j * 4 + 3, none⟩ = some (.slice (some ⟨bs[j], 0, none⟩) kinds[j].fs.length kinds[j].fs.length) ∧ Flds W bs[j] kinds[j].fs := by
  have hm : j < (kinds.map rkOf).length := by simpa using hj
  have e : (kinds.map rkOf)[j] = rkOf kinds[j] := List.getElem_map _
  have g := fun i hi => (h.blk.cell (j * 4 + i)).trans (cellsRk_get (kinds.map rkOf) bs j hm hjb i hi)
  rw [e] at g
  refine ⟨g 0 (by decide), g 1 (by decide), g 2 (by decide), g 3 (by decide), ?_⟩
  have hz : ((kinds.map rkOf)[j], bs[j]) ∈ (kinds.map rkOf).zip bs := List.mem_of_getElem? (i := j) (by rw [List.getElem?_zip_eq_some]; exact ⟨List.getElem?_eq_getElem _, List.getElem?_eq_getElem _⟩)
  have := h.fl _ hz
  rw [e] at this
  exact this
theorem kindOf_at {op : Int} {j : Nat} (hj : j < kinds.length) (hq : ∀ i (hi : i < j), (kinds[i].op : Int) ≠ op) (hk : (kinds[j].op : Int) = op) : kindOf op = some kinds[j] := by
  refine kindOf_prefix (q := kinds.take j) (k := kinds[j]) ?_ ?_ hk
  · rw [← List.take_succ_eq_append_getElem hj]; exact List.take_prefix _ _
  · intro k hm
    obtain ⟨i, hi, rfl⟩ := List.mem_iff_getElem.1 hm
    rw [List.getElem_take]
    exact hq i (by simp at hi; omega)
set_option maxRecDepth 100000 in
theorem refKind_any (op : Int) (w : World) : Calls Tryz.prog 6 #[.int .i64 op] w (RetKindO w (kindOf op)) := by
  go_enter Tryz.func6, Tryz.ntmps6
  go_wp2_with fail
  refine (kinds_any w).mono ?_
  rintro e w1 ⟨b, bs, rfl, hl, hB, hF, hb⟩
  have HK := Lib.hid (show KindB w b bs w1 from ⟨hB, hF, hb⟩)
  have Hl := Lib.hid hl
  clear hB hF hb hl
  go_wp2_with fail
  go_loopw [10] (fun i wr => ∃ j : Nat, j ≤ 18 ∧ i = .int .i64 j ∧ (∀ i (hi : i < j) (hk : i < kinds.length), (kinds[i].op : Int) ≠ op) ∧ KindB w b bs wr) (fun i _ => 18 - (intOf i).toNat)
  case atStart => exact ⟨0, by omega, rfl, fun i hi => absurd hi (Nat.not_lt_zero _), HK.out⟩
  case round =>
    obtain ⟨j, hj, rfl, hpre, hkb⟩ := hrel
    have HKB := Lib.hid hkb
    have Hpre := Lib.hid hpre
    clear hkb hpre
    by_cases hlt : j < 18
    · have hjk : j < kinds.length := by rw [kinds_len]; exact hlt
      obtain ⟨q0, q1, q2, q3, hfl⟩ := HKB.out.get j hjk (by rw [Hl.out]; exact hlt)
      have hke := fun h => kindOf_at (op := op) hjk (fun i hi => Hpre.out i hi (by rw [kinds_len]; omega)) h
      have hkn := fun (h : (kinds[j].op : Int) ≠ op) i (hi : i < j + 1) (hk : i < kinds.length) => (show (kinds[i].op : Int) ≠ op from by
        by_cases e : i = j
        · subst e; exact h
        · exact Hpre.out i (by omega) hk)
      obtain ⟨k, hk⟩ : ∃ k, kinds[j] = k := ⟨_, rfl⟩
      obtain ⟨B, hB⟩ : ∃ B, bs[j]'(by rw [Hl.out]; exact hlt) = B := ⟨_, rfl⟩
      rw [hk] at q0 q1 q2 q3 hfl hke hkn
      rw [hB] at q3 hfl
      have hnew := Blk.new wr #[.int .i64 (k.op : Int), .string (S k.nm), .int .i64 (k.fl : Int), .slice (some ⟨B, 0, none⟩) k.fs.length k.fs.length] 66
      have hbn := (Below.refl wr.heap.size wr).alloc (Nat.le_refl _) (.cells #[.int .i64 (k.op : Int), .string (S k.nm), .int .i64 (k.fl : Int), .slice (some ⟨B, 0, none⟩) k.fs.length k.fs.length] 66)
      have HFl := Lib.hid (show Flds _ B k.fs from Blk.later hfl hbn)
      have HKB2 := Lib.hid (HKB.out.later hbn)
      have Hke := Lib.hid hke
      have Hkn := Lib.hid hkn
      clear hfl hbn hnew hke hkn hk hB hjk
      by_cases ho : (k.op : Int) = op
      · have hb : ((k.op : Int) == op) = true := by simpa using ho
        have Ho := Lib.hid ho
        clear ho
        go_wp2_with fail
        obtain ⟨c0, c1, c2, c3⟩ := (Blk.new wr #[.int .i64 (k.op : Int), .string (S k.nm), .int .i64 (k.fl : Int), .slice (some ⟨B, 0, none⟩) k.fs.length k.fs.length] 66).four
        generalize (wr.alloc (.cells #[.int .i64 (k.op : Int), .string (S k.nm), .int .i64 (k.fl : Int), .slice (some ⟨B, 0, none⟩) k.fs.length k.fs.length] 66)) = w2 at HFl HKB2 c0 c1 c2 c3 ⊢
        have HR := Lib.hid (show ∀ n, RetKindO w (kindOf op) (.returned (.tuple #[.string (S k.nm), .int .i64 (k.fl : Int), .slice (some ⟨B, 0, none⟩) k.fs.length k.fs.length, .bool true])) (w2.drewN n) from fun n => by rw [Hke.out Ho.out]; exact ⟨B, rfl, HFl.out, below_drewN HKB2.out.low n⟩)
        go_quiet (fail)
        go_wp2_with fail
        exact bodyPost_ret (v := .tuple #[.string (S k.nm), .int .i64 (k.fl : Int), .slice (some ⟨B, 0, none⟩) k.fs.length k.fs.length, .bool true]) (by simp [results, Tryz.results6, go_sem]) rfl (HR.out _)
      · have hb : ((k.op : Int) == op) = false := by simpa using ho
        have Ho := Lib.hid ho
        clear ho
        go_wp2_with fail
        go_roundw
        case rel => exact ⟨j + 1, by omega, by go_num, Hkn.out Ho.out, HKB2.out⟩
        case measure => simp [intOf]; omega
    · have hj18 : j = 18 := by omega
      subst hj18
      have hno := kindOf_none (op := op) (fun k hk => by
        obtain ⟨i, hi, rfl⟩ := List.mem_iff_getElem.1 hk
        exact Hpre.out i (by rw [kinds_len] at hi; exact hi) hi)
      have HR : RetKindO w (kindOf op) (.returned (.tuple #[.string (S []), .int .i64 0, .slice none 0 0, .bool false])) wr := by rw [hno]; exact ⟨rfl, HKB.out.low⟩
      have HR' := Lib.hid HR
      clear hno HR
      go_wp2_with fail
      exact bodyPost_ret (v := .tuple #[.string (S []), .int .i64 0, .slice none 0 0, .bool false]) (by simp [results, Tryz.results6, go_sem]) rfl HR'.out
end Go.Proofs.YtffdlchoaaakdaaGreatDoor
