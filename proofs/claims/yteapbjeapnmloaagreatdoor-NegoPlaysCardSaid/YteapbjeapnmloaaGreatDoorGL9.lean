/- Several texts in one: Numbers in bytes, the highest first. No program stands in it.  | ref.within.  | ref.IsKey, ref.IsValue.  | ref.Bare, ref.Good, Fault.Is; a fault's two cells.  | A fault's block, stored to. No function of the program is walked here.  | Fault.Is.  | ref.PairsRight, ref.FindPair.  | The table of keys as cells of a block. No function of the program is walked here.  | ref.known: 11.1's rows, as the reference has them.  | ref.KeyOf: what is known of a key, as the reference has it.  -/
import Derived.Test.YteapbjeapnmloaaGreatDoorGA
import Derived.Test.YteapbjeapnmloaaGreatDoorRows
import Derived.Test.YteapbjeapnmloaaGreatDoorGB
import Derived.Test.YteapbjeapnmloaaGreatDoorGI
import Derived.Test.YteapbjeapnmloaaGreatDoorShLow
import Derived.Laws.Rows
import Derived.Test.YteapbjeapnmloaaGreatDoorGD
import Derived.Laws.Tables
import Derived.Great.BuildSlice
import Derived.BigFrame
import Derived.Deep.Cut
import Derived.Test.YteapbjeapnmloaaGreatDoorGE
import Derived.LoopN
namespace Go.Proofs.YteapbjeapnmloaaGreatDoor
open Go.RowKit
/-- n bytes of 0 -/
def zs (n : Nat) : List UInt8 := List.replicate n 0
@[go_sem] theorem zs_len (n : Nat) : (zs n).length = n := by simp [zs]
theorem take_zs (n : Nat) (h : n ≤ 3) : List.take n [0, 0, 0] = zs n := by
  match n, h with
  | 0, _ => rfl
  | 1, _ => rfl
  | 2, _ => rfl
  | 3, _ => rfl
/-- n in so many bytes, the highest first -/
def be (n : Nat) : Nat → List UInt8
  | 0 => []
  | k + 1 => UInt8.ofNat (n / 2 ^ (8 * k) % 256) :: be n k
theorem be_len (n k : Nat) : (be n k).length = k := by induction k <;> simp [be, *]
/-- what stands in the eight bytes behind k rounds -/
def putRow (n size k : Nat) : List UInt8 := zs (size - k) ++ be n k ++ zs (8 - size)
theorem putRow_len (n size k : Nat) (hk : k ≤ size) (h : size ≤ 8) : (putRow n size k).length = 8 := by
  simp only [putRow, List.length_append, zs_len, be_len]; omega
theorem putRow_0 (n size : Nat) (h : size ≤ 8) : putRow n size 0 = zs 8 := by
  simp only [putRow, be, zs, List.append_nil, List.replicate_append_replicate]; congr 1; omega
theorem putRow_step (n size k : Nat) (hk : k < size) : (putRow n size k).set (size - 1 - k) (UInt8.ofNat (n / 2 ^ (8 * k) % 256)) = putRow n size (k + 1) := by
  unfold putRow
  obtain ⟨d, hd⟩ : ∃ d, size - k = d + 1 := ⟨size - k - 1, by omega⟩
  have e1 : size - 1 - k = d := by omega
  have e2 : size - (k + 1) = d := by omega
  rw [hd, e1, e2]
  have hz : zs (d + 1) = zs d ++ [0] := by simp [zs, List.replicate_succ']
  rw [hz, List.append_assoc, List.append_assoc, List.set_append_right _ _ (by simp [zs])]
  simp [zs, be]
/-- the number that bytes are, the highest first -/
def val (l : List UInt8) : Nat := l.foldl (fun n b => n * 256 + b.toNat) 0
theorem val_snoc (l : List UInt8) (b : UInt8) : val (l ++ [b]) = val l * 256 + b.toNat := by simp [val]
theorem val_lt : ∀ (n : Nat) (l : List UInt8), l.length = n → val l < 256 ^ n
  | 0, l, h => by
    have : l = [] := List.length_eq_zero_iff.1 h
    subst this; decide
  | n + 1, l, h => by
    rcases List.eq_nil_or_concat l with rfl | ⟨m, b, rfl⟩
    · simp at h
    · rw [List.concat_eq_append, val_snoc]
      have hm : m.length = n := by simpa using h
      have := val_lt n m hm
      have hb := b.toNat_lt
      rw [Nat.pow_succ]; omega
theorem take_succ_snoc (l : List UInt8) (k : Nat) (h : k < l.length) : l.take (k + 1) = l.take k ++ [l[k]] := by
  rw [List.take_succ_eq_append_getElem h]
theorem val_cons (b : UInt8) (l : List UInt8) : val (b :: l) = b.toNat * 256 ^ l.length + val l := by
  have h : ∀ (l : List UInt8) (n : Nat), l.foldl (fun n b => n * 256 + b.toNat) n = n * 256 ^ l.length + val l := by
    intro l
    induction l with
    | nil => intro n; simp [val]
    | cons c l ih =>
      intro n
      have e : val (c :: l) = l.foldl (fun n b => n * 256 + b.toNat) (0 * 256 + c.toNat) := rfl
      rw [List.foldl_cons, ih, e, ih, List.length_cons, Nat.pow_succ]
      rw [Nat.zero_mul, Nat.zero_add, Nat.add_mul, Nat.mul_assoc, Nat.mul_comm 256, Nat.add_assoc]
  show l.foldl (fun n b => n * 256 + b.toNat) (0 * 256 + b.toNat) = _
  rw [h l (0 * 256 + b.toNat), Nat.zero_mul, Nat.zero_add]
theorem val_be' (n : Nat) : ∀ k, val (be n k) = n % 256 ^ k
  | 0 => by simp [be, val, Nat.mod_one]
  | k + 1 => by
    show val (_ :: be n k) = _
    rw [val_cons, val_be' n k, be_len, u8_mod, Nat.pow_mul, show (2 : Nat) ^ 8 = 256 from rfl, Nat.pow_succ, Nat.mod_mul, Nat.mul_comm (256 ^ k), Nat.add_comm]
theorem val_be (n k : Nat) (h : n < 2 ^ (8 * k)) : val (be n k) = n := by
  rw [val_be', Nat.mod_eq_of_lt]
  rw [Nat.pow_mul] at h; exact h
theorem be_val : ∀ (l : List UInt8), be (val l) l.length = l
  | [] => rfl
  | b :: l => by
    have hl := val_lt l.length l rfl
    have hb := b.toNat_lt
    have e1 : val (b :: l) / 2 ^ (8 * l.length) % 256 = b.toNat := by
      rw [val_cons, Nat.pow_mul, show (2 : Nat) ^ 8 = 256 from rfl, Nat.add_comm, Nat.add_mul_div_right _ _ (Nat.pow_pos (by decide)), Nat.div_eq_of_lt hl, Nat.zero_add, Nat.mod_eq_of_lt hb]
    have e2 : ∀ (k : Nat), k ≤ l.length → be (val (b :: l)) k = be (val l) k := by
      intro k
      induction k with
      | zero => intro _; rfl
      | succ k ih =>
        intro hk
        show _ :: _ = _ :: _
        rw [ih (by omega)]
        congr 2
        rw [val_cons, Nat.pow_mul, show (2 : Nat) ^ 8 = 256 from rfl]
        obtain ⟨d, hd⟩ : ∃ d, l.length = k + 1 + d := ⟨l.length - (k + 1), by omega⟩
        rw [hd, Nat.pow_add, Nat.pow_succ, show b.toNat * (256 ^ k * 256 * 256 ^ d) = (b.toNat * 256 ^ d) * 256 * 256 ^ k from by ac_rfl]
        rw [Nat.add_comm, Nat.add_mul_div_right _ _ (Nat.pow_pos (by decide)), Nat.add_mul_mod_self_right]
    show _ :: _ = _
    rw [e1, e2 l.length (Nat.le_refl _), be_val l]
    simp
end Go.Proofs.YteapbjeapnmloaaGreatDoor
namespace Go.Proofs.YteapbjeapnmloaaGreatDoor
open Go.RowKit
set_option linter.unusedVariables false
theorem within_true (n a b : Int) (w : World) (h1 : a ≤ n) (h2 : n ≤ b) : Calls Tryz.prog 112 #[.int .i64 n, .int .i64 a, .int .i64 b] w fun e w' => e = .returned (.bool true) ∧ w = w' := by
  have hd1 : decide (a ≤ n) = true := decide_eq_true h1
  have hd2 : decide (n ≤ b) = true := decide_eq_true h2
  go_enter Tryz.func112, Tryz.ntmps112
  go_wp2_with fail
  go_ret
  exact ⟨rfl, rfl⟩
theorem within_false (n a b : Int) (w : World) (h : n < a ∨ b < n) : Calls Tryz.prog 112 #[.int .i64 n, .int .i64 a, .int .i64 b] w fun e w' => e = .returned (.bool false) ∧ w = w' := by
  by_cases h1 : a ≤ n
  · have h2 : b < n := by omega
    have hd1 : decide (a ≤ n) = true := decide_eq_true h1
    have hd2 : decide (n ≤ b) = false := decide_eq_false (by omega)
    clear h
    go_enter Tryz.func112, Tryz.ntmps112
    go_wp2_with fail
    go_ret
    exact ⟨rfl, rfl⟩
  · have h2 : n < a := by omega
    have hd1 : decide (a ≤ n) = false := decide_eq_false h1
    clear h
    go_enter Tryz.func112, Tryz.ntmps112
    go_wp2_with fail
    go_ret
    exact ⟨rfl, rfl⟩
end Go.Proofs.YteapbjeapnmloaaGreatDoor
namespace Go.Proofs.YteapbjeapnmloaaGreatDoor
open Go.RowKit
set_option linter.unusedVariables false
def big26 : List UInt8 := [65, 66, 67, 68, 69, 70, 71, 72, 73, 74, 75, 76, 77, 78, 79, 80, 81, 82, 83, 84, 85, 86, 87, 88, 89, 90]
def low26 : List UInt8 := [97, 98, 99, 100, 101, 102, 103, 104, 105, 106, 107, 108, 109, 110, 111, 112, 113, 114, 115, 116, 117, 118, 119, 120, 121, 122]
def dig15 : List UInt8 := [48, 49, 50, 51, 52, 53, 54, 55, 56, 57, 46, 45, 43, 64, 95]
def keyMore : List UInt8 := big26 ++ (low26 ++ dig15)
def inB (l : List UInt8) (c : UInt8) : Int := Lib.indexByte l c
theorem in_big (c : UInt8) : decide (0 ≤ inB big26 c) = greatB c := by
  have h : ∀ n : Fin 256, decide (0 ≤ inB big26 (UInt8.ofNat n.1)) = greatB (UInt8.ofNat n.1) := by decide +kernel
  have := h ⟨c.toNat, c.toNat_lt⟩
  simpa using this
theorem in_more (c : UInt8) : decide (0 ≤ inB keyMore c) = mayB c := by
  have h : ∀ n : Fin 256, decide (0 ≤ inB keyMore (UInt8.ofNat n.1)) = mayB (UInt8.ofNat n.1) := by decide +kernel
  have := h ⟨c.toNat, c.toNat_lt⟩
  simpa using this
theorem may_great (c : UInt8) (h : greatB c = true) : mayB c = true := by unfold mayB; rw [h]; rfl
theorem inB_any (l : List UInt8) (c : UInt8) (w : World) :
    Calls Tryz.prog 109 #[.string (S l), .int .u8 (c.toNat : Int)] w fun e w' => e = .returned (.int .i64 (inB l c)) ∧ w = w' := by
  refine (Tryz.strings_IndexByte (S l) _ w).mono ?_
  rintro e w' ⟨rfl, hw⟩
  refine ⟨?_, hw.symm⟩
  simp [inB, S]
theorem low_any (w : World) : Calls Tryz.prog 111 #[.string (S big26)] w fun e w' => e = .returned (.string (S low26)) ∧ Below w.heap.size w w' := by
  have h := Tryz.strings_ToLower_ascii (S big26) w (by rw [S_size]; decide) (fun j b hb => by
    have h1 : b ∈ big26 := List.mem_of_getElem? (by simpa [S] using hb)
    have h2 : big26.all (fun c => decide (c.toNat < 128)) = true := by decide
    simpa using List.all_eq_true.1 h2 b h1)
  have e : (ByteArray.mk (Lib.toLowerA (S big26).data.toList).toArray) = S low26 := by kernel_rfl
  rw [e] at h
  exact h
theorem bytes_fresh (w : World) (l : List UInt8) :
    ∃ cap W, (convert 9 152 (.string (S l))).run Tryz.prog w = .ok (.slice (some ⟨w.heap.size, 0, none⟩) l.length cap) W ∧
      (∀ j (hj : j < l.length), W.cell? ⟨w.heap.size, j, none⟩ = some (.int .u8 (l[j].toNat : Int))) ∧ Below w.heap.size w W ∧ w.heap.size < W.heap.size := by
  obtain ⟨cap, hc1, hc2, hrun⟩ := run_bytes_S (P := Tryz.prog) 9 152 5 Tryz.underlying9 Tryz.underlying152 Tryz.underlying5 w l
  refine ⟨cap, _, hrun, fun j hj => ?_, ((Below.refl _ _).alloc (Nat.le_refl _) _).drew, by simp⟩
  show (w.alloc (.cells (cells8 (l ++ List.replicate (cap - l.length) 0)) 5 (cap, cap + 1))).cell? ⟨w.heap.size, j, none⟩ = _
  rw [World.cell?_alloc_mark, cells8_get _ j (by simp; omega)]
  rw [List.getElem_append_left hj]
theorem isKey_good {s : List UInt8} (h : 1 ≤ s.length) (h2 : s.length ≤ 63) (hg : greatB (s.getD 0 0) = true) (ha : s.all mayB = true) : isKey s = true := by
  unfold isKey
  rw [decide_eq_true (⟨h, h2⟩ : 1 ≤ s.length ∧ s.length ≤ 63), hg, ha]
  rfl
theorem isKey_not_all {s : List UInt8} (ha : s.all mayB = false) : isKey s = false := by
  unfold isKey
  rw [ha]
  simp
theorem getD_zero {s : List UInt8} (h : 0 < s.length) : s.getD 0 0 = s[0] := by rw [List.getD_eq_getElem?_getD, List.getElem?_eq_getElem h]; rfl
set_option maxRecDepth 100000 in
theorem refKey_any (s : List UInt8) (w : World) (hl : s.length ≤ 140737488355328) : Calls Tryz.prog 91 #[.string (S s)] w fun e w' => e = .returned (.bool (isKey s)) ∧ Below w.heap.size w w' := by
  obtain ⟨cap, W, hrun, hcell, hbel, hlt0⟩ := bytes_fresh w s
  have Hcell := Lib.hid hcell
  have Hbel := Lib.hid hbel
  have Hlt0 := Lib.hid hlt0
  have L := fun w => Lib.hid (low_any w)
  have I1 := fun c w => Lib.hid (inB_any big26 c w)
  have I2 := fun c w => Lib.hid (inB_any keyMore c w)
  have Ht := fun n w h1 h2 => Lib.hid (within_true n 1 63 w h1 h2)
  have Hf := fun n w h => Lib.hid (within_false n 1 63 w h)
  clear hcell hbel hlt0
  go_enter Tryz.func91, Tryz.ntmps91
  go_wp2_with fail
  clear hrun
  go_loopw [9] (fun i wr => ∃ k : Nat, k ≤ s.length ∧ i = .int .i64 k ∧ (0 < k → greatB (s.getD 0 0) = true) ∧ (s.take k).all mayB = true ∧ Below W.heap.size W wr) (fun i _ => s.length - (intOf i).toNat)
  case atStart => exact ⟨0, by omega, rfl, fun h => absurd h (by decide), by simp, Below.refl _ _⟩
  case round =>
    obtain ⟨k, hk, rfl, h0, ha, hb⟩ := hrel
    have Hb := Lib.hid hb
    have H0 := Lib.hid h0
    have Ha := Lib.hid ha
    clear h0 ha hb
    by_cases hlt : k < s.length
    · have hki : (k : Int) < (s.length : Int) := by omega
      have hcell : wr.cell? ⟨w.heap.size, k, none⟩ = some (.int .u8 (s[k].toNat : Int)) := by rw [(bcell Hb.out).1 _ k Hlt0.out]; exact Hcell.out k hlt
      obtain ⟨c, hc⟩ : ∃ c, s[k] = c := ⟨_, rfl⟩
      rw [hc] at hcell
      have Hc := Lib.hid hc
      clear hc
      by_cases hk0 : k = 0
      · subst hk0
        have I := I1 c wr
        have hg := in_big c
        obtain ⟨d, hd⟩ : ∃ d, inB big26 c = d := ⟨_, rfl⟩
        rw [hd] at I hg
        unfold big26 at I
        clear hd
        by_cases h : 0 ≤ d
        · rw [decide_eq_true h] at hg
          have Hg := Lib.hid hg
          clear hg
          go_wp2_with fail
          refine I.out.mono ?_
          rintro e w' ⟨rfl, rfl⟩
          go_wp2_with fail
          go_roundw
          case rel => exact ⟨1, by omega, by go_num, fun _ => by rw [getD_zero hlt, Hc.out]; exact Hg.out.symm, all_step hlt Ha.out (by rw [Hc.out]; exact may_great c Hg.out.symm), Hb.out⟩
          case measure => simp [intOf]; omega
        · rw [decide_eq_false h] at hg
          have Hg := Lib.hid hg
          have hd2 : d < 0 := by omega
          clear hg
          go_wp2_with fail
          refine I.out.mono ?_
          rintro e w' ⟨rfl, rfl⟩
          go_wp2_with fail
          go_ret
          rw [isKey_head0 (s := s) (by omega) (by rw [Hc.out]; exact Hg.out.symm)]
          exact ⟨rfl, below_then Hbel.out Hb.out⟩
      · have hk0i : (0 : Int) < (k : Int) := by omega
        have I := I2 c
        have hg := in_more c
        obtain ⟨d, hd⟩ : ∃ d, inB keyMore c = d := ⟨_, rfl⟩
        simp only [hd] at I
        rw [hd] at hg
        have LL := L wr
        unfold keyMore dig15 at I
        unfold low26 at I LL
        unfold big26 at I LL
        simp only [List.cons_append, List.nil_append] at I
        have hHk := Lib.hid hk0
        clear hd hk0
        by_cases h : 0 ≤ d
        · rw [decide_eq_true h] at hg
          have Hg := Lib.hid hg
          clear hg
          go_wp2_with fail
          refine LL.out.mono ?_
          rintro e w2 ⟨rfl, hb2⟩
          have Hb2 := Lib.hid (below_then Hb.out hb2)
          clear hb2
          go_wp2_with fail
          refine (I _).out.mono ?_
          rintro e w' ⟨rfl, rfl⟩
          go_wp2_with fail
          go_roundw
          case rel => exact ⟨k + 1, by omega, by go_num, fun _ => H0.out (by omega), all_step hlt Ha.out (by rw [Hc.out]; exact Hg.out.symm), Hb2.out⟩
          case measure => simp [intOf]; omega
        · rw [decide_eq_false h] at hg
          have Hg := Lib.hid hg
          have hd2 : d < 0 := by omega
          clear hg
          go_wp2_with fail
          refine LL.out.mono ?_
          rintro e w2 ⟨rfl, hb2⟩
          have Hb2 := Lib.hid (below_then Hb.out hb2)
          clear hb2
          go_wp2_with fail
          refine (I _).out.mono ?_
          rintro e w' ⟨rfl, rfl⟩
          go_wp2_with fail
          go_ret
          rw [isKey_not_all (all_not hlt (by rw [Hc.out]; exact Hg.out.symm))]
          exact ⟨rfl, below_then Hbel.out Hb2.out⟩
    · obtain rfl : k = s.length := by omega
      have hA := Ha.out
      rw [List.take_length] at hA
      by_cases h1 : 1 ≤ s.length ∧ s.length ≤ 63
      · have E := Lib.hid (isKey_good h1.1 h1.2 (H0.out (by omega)) hA)
        have T := Ht (s.length : Int) wr (by omega) (by omega)
        clear hA h1
        go_wp2_with fail
        refine T.out.mono ?_
        rintro e w' ⟨rfl, rfl⟩
        go_wp2_with fail
        go_ret
        rw [E.out]
        exact ⟨rfl, below_then Hbel.out Hb.out⟩
      · have E := Lib.hid (isKey_len (s := s) (by omega))
        have T := Hf (s.length : Int) wr (by omega)
        clear hA h1
        go_wp2_with fail
        refine T.out.mono ?_
        rintro e w' ⟨rfl, rfl⟩
        go_wp2_with fail
        go_ret
        rw [E.out]
        exact ⟨rfl, below_then Hbel.out Hb.out⟩
theorem isVal_good {s : List UInt8} (ha : s.all signB = true) : isVal s = decide (s.length ≤ 255) := by
  unfold isVal
  rw [ha, Bool.and_true]
theorem isVal_not_all {s : List UInt8} (ha : s.all signB = false) : isVal s = false := by
  unfold isVal
  rw [ha, Bool.and_false]
set_option maxRecDepth 100000 in
theorem refVal_any (s : List UInt8) (w : World) (hl : s.length ≤ 140737488355328) : Calls Tryz.prog 92 #[.string (S s)] w fun e w' => e = .returned (.bool (isVal s)) ∧ Below w.heap.size w w' := by
  obtain ⟨cap, W, hrun, hcell, hbel, hlt0⟩ := bytes_fresh w s
  have Hcell := Lib.hid hcell
  have Hbel := Lib.hid hbel
  have Hlt0 := Lib.hid hlt0
  have Ht := fun n w h1 h2 => Lib.hid (within_true n 32 126 w h1 h2)
  have Hf := fun n w h => Lib.hid (within_false n 32 126 w h)
  clear hcell hbel hlt0
  go_enter Tryz.func92, Tryz.ntmps92
  go_wp2_with fail
  clear hrun
  go_loopw [8] (fun i wr => ∃ k : Nat, k ≤ s.length ∧ i = .int .i64 k ∧ (s.take k).all signB = true ∧ Below W.heap.size W wr) (fun i _ => s.length - (intOf i).toNat)
  case atStart => exact ⟨0, by omega, rfl, by simp, Below.refl _ _⟩
  case round =>
    obtain ⟨k, hk, rfl, ha, hb⟩ := hrel
    have Hb := Lib.hid hb
    have Ha := Lib.hid ha
    clear ha hb
    by_cases hlt : k < s.length
    · have hki : (k : Int) < (s.length : Int) := by omega
      have hcell : wr.cell? ⟨w.heap.size, k, none⟩ = some (.int .u8 (s[k].toNat : Int)) := by rw [(bcell Hb.out).1 _ k Hlt0.out]; exact Hcell.out k hlt
      have hcl := s[k].toNat_lt
      obtain ⟨c, hc⟩ : ∃ c, s[k] = c := ⟨_, rfl⟩
      rw [hc] at hcell hcl
      have Hc := Lib.hid hc
      clear hc
      by_cases h : 32 ≤ c.toNat ∧ c.toNat ≤ 126
      · have E := Lib.hid (show signB c = true from decide_eq_true h)
        have T := Ht (c.toNat : Int) wr (by omega) (by omega)
        clear h
        go_wp2_with fail
        refine T.out.mono ?_
        rintro e w' ⟨rfl, rfl⟩
        go_wp2_with fail
        go_roundw
        case rel => exact ⟨k + 1, by omega, by go_num, all_step hlt Ha.out (by rw [Hc.out]; exact E.out), Hb.out⟩
        case measure => simp [intOf]; omega
      · have E := Lib.hid (show signB c = false from decide_eq_false h)
        have T := Hf (c.toNat : Int) wr (by omega)
        clear h
        go_wp2_with fail
        refine T.out.mono ?_
        rintro e w' ⟨rfl, rfl⟩
        go_wp2_with fail
        go_ret
        rw [isVal_not_all (all_not hlt (by rw [Hc.out]; exact E.out))]
        exact ⟨rfl, below_then Hbel.out Hb.out⟩
    · obtain rfl : k = s.length := by omega
      have hA := Ha.out
      rw [List.take_length] at hA
      have E := Lib.hid (isVal_good hA)
      clear hA
      by_cases h1 : s.length ≤ 255
      all_goals
        go_wp2_with fail
        go_ret
        rw [E.out]
        exact ⟨ret_bool (by rw [Bool.eq_iff_iff]; first | (simp; done) | (simp; omega)), below_then Hbel.out Hb.out⟩
end Go.Proofs.YteapbjeapnmloaaGreatDoor
namespace Go.Proofs.YteapbjeapnmloaaGreatDoor
open Go.RowKit
def faultV (e p : Int) : Value := .agg #[.int .i64 e, .int .i64 p]
/-- the bytes and the fault that the reference returns -/
def RetSF (w : World) (r : List UInt8 × Int × Int) (e : Ending) (w' : World) : Prop := e = .returned (.tuple #[.string (S r.1), .agg #[.int .i64 r.2.1, .int .i64 r.2.2]]) ∧ Below w.heap.size w w'
theorem bareF (x : Int) (w : World) : Calls Tryz.prog 90 #[.int .i64 x] w fun e w' => e = .returned (.agg #[.int .i64 x, .int .i64 (-1)]) ∧ Below w.heap.size w w' := by
  go_enter Tryz.func90, Tryz.ntmps90
  go_wp2_with fail
  refine bodyPost_ret (v := .agg #[.int .i64 x, .int .i64 (-1)]) (by simp [results, Tryz.results90, go_sem]) rfl ⟨rfl, (Below.refl _ _).alloc (Nat.le_refl _) _⟩
theorem goodF (w : World) : Calls Tryz.prog 73 #[] w fun e w' => e = .returned (.agg #[.int .i64 0, .int .i64 (-1)]) ∧ Below w.heap.size w w' := by
  go_enter Tryz.func73, Tryz.ntmps73
  go_wp2_with fail
  refine bodyPost_ret (v := .agg #[.int .i64 0, .int .i64 (-1)]) (by simp [results, Tryz.results73, go_sem]) rfl ⟨rfl, (Below.refl _ _).alloc (Nat.le_refl _) _⟩
/-- in world W block b holds these two, in a row of the fault's own type -/
def Cell2 (W : World) (b : Nat) (x y : Int) : Prop := W.heap[b]? = some (.cells #[.int .i64 x, .int .i64 y] 78 (0, 0))
theorem Cell2.cells {W : World} {b : Nat} {x y : Int} (h : Cell2 W b x y) : W.cell? ⟨b, 0, none⟩ = some (.int .i64 x) ∧ W.cell? ⟨b, 1, none⟩ = some (.int .i64 y) := by
  refine ⟨?_, ?_⟩ <;> (rw [cell_of_row W b _ _ _ _ h]; rfl)
theorem Cell2.frozen {W : World} {b : Nat} {x y : Int} (h : Cell2 W b x y) : ∀ j, W.frozen? ⟨b, j, none⟩ = false := fun j => by
  unfold World.frozen?
  rw [h]
  simp
theorem Cell2.later {W W' : World} {b : Nat} {x y : Int} (h : Cell2 W b x y) (hb : Below W.heap.size W W') : Cell2 W' b x y := by
  have hlt : b < W.heap.size := block_lt_of_cell h.cells.1
  unfold Cell2 at *
  rw [hb.block b hlt]; exact h
theorem cell2_new (w : World) : Cell2 (w.alloc (.cells #[.int .i64 0, .int .i64 0] 78)) w.heap.size 0 0 := heap_alloc_new w _
end Go.Proofs.YteapbjeapnmloaaGreatDoor
namespace Go.Proofs.YteapbjeapnmloaaGreatDoor
open Go.RowKit
set_option linter.unusedVariables false
/-- two stores to the fault's block -/
theorem fault_set {w W : World} {x y : Int} (a b : Int) (h : Cell2 W w.heap.size x y) (hb : Below w.heap.size w W) :
    Cell2 ((W.setCell ⟨w.heap.size, 0, none⟩ (.int .i64 a)).setCell ⟨w.heap.size, 1, none⟩ (.int .i64 b)) w.heap.size a b ∧ Below w.heap.size w ((W.setCell ⟨w.heap.size, 0, none⟩ (.int .i64 a)).setCell ⟨w.heap.size, 1, none⟩ (.int .i64 b)) :=
  ⟨(Blk.set (Blk.set (show Blk W w.heap.size #[.int .i64 x, .int .i64 y] 78 from h) 0 (.int .i64 a)) 1 (.int .i64 b)), (hb.setCell (p := ⟨w.heap.size, 0, none⟩) (Nat.le_refl _) _).setCell (p := ⟨w.heap.size, 1, none⟩) (Nat.le_refl _) _⟩
end Go.Proofs.YteapbjeapnmloaaGreatDoor
namespace Go.Proofs.YteapbjeapnmloaaGreatDoor
open Go.RowKit
theorem isF_good (p : Int) (w : World) : Calls Tryz.prog 48 #[.agg #[.int .i64 0, .int .i64 p]] w fun e w' => e = .returned (.bool true) ∧ Below w.heap.size w w' := by
  go_enter Tryz.func48, Tryz.ntmps48
  go_wp2_with fail
  go_ret
  exact ⟨rfl, (Below.refl _ _).alloc (Nat.le_refl _) _⟩
theorem isF_bad (n p : Int) (w : World) (hn : n ≠ 0) : Calls Tryz.prog 48 #[.agg #[.int .i64 n, .int .i64 p]] w fun e w' => e = .returned (.bool false) ∧ Below w.heap.size w w' := by
  have hb : (n == 0) = false := by simpa using hn
  go_enter Tryz.func48, Tryz.ntmps48
  go_wp2_with fail
  go_ret
  exact ⟨rfl, (Below.refl _ _).alloc (Nat.le_refl _) _⟩
end Go.Proofs.YteapbjeapnmloaaGreatDoor
namespace Go.Proofs.YteapbjeapnmloaaGreatDoor
open Go.RowKit
set_option linter.unusedVariables false
/-- a fault is returned -/
def RetFl (w : World) (r : Int × Int) (e : Ending) (w' : World) : Prop := e = .returned (.agg #[.int .i64 r.1, .int .i64 r.2]) ∧ Below w.heap.size w w'
set_option maxRecDepth 100000 in
theorem refPRight_any (l : List Pr) (v : Value) (w : World) (hv : PrsV w v l) (hf : fitPs l) :
    Calls Tryz.prog 71 #[v] w (RetFl w (prRight l)) := by
  obtain ⟨p, c, rfl, _, hc⟩ := hv
  have Hc := Lib.hid hc
  have Hf := Lib.hid hf
  have hl47 := hf.1
  have HF0 := Lib.hid (cell2_new w)
  have Hb0 := Lib.hid ((Below.refl w.heap.size w).alloc (Nat.le_refl _) (.cells #[.int .i64 0, .int .i64 0] 78))
  clear hc hf
  by_cases h60 : 60 < l.length
  · have E := Lib.hid (show prRight l = (4, -1) by unfold prRight; rw [if_pos h60])
    have B := fun w => Lib.hid (bareF 4 w)
    go_enter Tryz.func71, Tryz.ntmps71
    go_wp2_with fail
    refine (B _).out.mono ?_
    rintro e w2 ⟨rfl, hb2⟩
    have HF2 := Lib.hid (HF0.out.later hb2)
    have Hb2 := Lib.hid (below_then Hb0.out hb2)
    obtain ⟨x0, x1⟩ := HF2.out.cells
    have f0 := HF2.out.frozen 0
    have f1 := HF2.out.frozen 1
    clear hb2
    go_wp2_with fail
    obtain ⟨g1, g2⟩ := fault_set 4 (-1) HF2.out Hb2.out
    refine bodyPost_ret (v := .agg #[.int .i64 4, .int .i64 (-1)]) (by simp [results, Tryz.results71, go_sem, x0, x1]) rfl ?_
    rw [E.out]
    exact ⟨rfl, g2⟩
  have E := Lib.hid (show prRight l = prRightF 0 l by unfold prRight; rw [if_neg h60])
  have GF := fun w => Lib.hid (goodF w)
  go_enter Tryz.func71, Tryz.ntmps71
  go_wp2_with fail
  go_loopw [10] (fun i wr => ∃ j : Nat, j ≤ l.length ∧ i = .int .i64 j ∧ prRightF j (l.drop j) = prRight l ∧ Cell2 wr w.heap.size 0 0 ∧ Below w.heap.size w wr) (fun i _ => l.length - (intOf i).toNat)
  case atStart => exact ⟨0, by omega, rfl, by rw [E.out]; rfl, HF0.out, Hb0.out⟩
  case round =>
    obtain ⟨j, hj, rfl, hr, hF, hb⟩ := hrel
    have Hb := Lib.hid hb
    have HF := Lib.hid hF
    clear hF
    by_cases hlt : j < l.length
    · obtain ⟨b, o, rfl, hcl⟩ := Hc.out (by omega)
      obtain ⟨h1, h2⟩ := hcl j hlt
      have H2 := Lib.hid h2
      rw [← (bcell hb).1 b (o + j * 2) (block_lt_of_cell (w := w) (a := ⟨b, o + j * 2, none⟩) h1)] at h1
      obtain ⟨a, ha⟩ : ∃ a, l[j] = a := ⟨_, rfl⟩
      have hda := Hf.out.2 l[j] (List.getElem_mem hlt)
      rw [List.drop_eq_getElem_cons hlt, prRightF_cons] at hr
      rw [ha] at h1 h2 H2 hr hda
      have K := fun W => Lib.hid (refKey_any a.k W hda.1)
      have V := fun W => Lib.hid (refVal_any a.v W hda.2)
      have hw : wrongP a = if isKey a.k = true then if isVal a.v = true then 0 else 3 else 5 := rfl
      rw [hw] at hr
      obtain ⟨k, d⟩ := a
      simp only at h1 h2 K V hr H2
      clear hcl hb ha hda hw h2
      cases hk : isKey k with
      | false =>
        simp only [hk] at K hr
        have hr2 : ((5 : Int), (j : Int)) = prRight l := by simpa using hr
        have Hr := Lib.hid hr2
        clear hr hr2 hk
        go_wp2_with fail
        refine (K _).out.mono ?_
        rintro e w2 ⟨rfl, hb2⟩
        have HF2 := Lib.hid (HF.out.later hb2)
        have Hb2 := Lib.hid (below_then Hb.out hb2)
        obtain ⟨x0, x1⟩ := HF2.out.cells
        have f0 := HF2.out.frozen 0
        have f1 := HF2.out.frozen 1
        clear hb2
        go_wp2_with fail
        obtain ⟨g1, g2⟩ := fault_set 5 (j : Int) HF2.out Hb2.out
        refine bodyPost_ret (v := .agg #[.int .i64 5, .int .i64 (j : Int)]) (by simp [results, Tryz.results71, go_sem, x0, x1]) rfl ?_
        rw [← Hr.out]
        exact ⟨rfl, g2⟩
      | true =>
        simp only [hk] at K hr
        cases hd : isVal d with
        | false =>
          simp only [hd] at V hr
          have hr2 : ((3 : Int), (j : Int)) = prRight l := by simpa using hr
          have Hr := Lib.hid hr2
          clear hr hr2 hk hd
          go_wp2_with fail
          refine (K _).out.mono ?_
          rintro e w2 ⟨rfl, hb2⟩
          have HF2 := Lib.hid (HF.out.later hb2)
          have Hb2 := Lib.hid (below_then Hb.out hb2)
          have h2 := H2.out
          rw [← (bcell Hb2.out).1 b (o + j * 2 + 1) (block_lt_of_cell (w := w) (a := ⟨b, o + j * 2 + 1, none⟩) h2)] at h2
          clear hb2 h1
          go_wp2_with fail
          refine (V _).out.mono ?_
          rintro e w3 ⟨rfl, hb3⟩
          have HF3 := Lib.hid (HF2.out.later hb3)
          have Hb3 := Lib.hid (below_then Hb2.out hb3)
          obtain ⟨x0, x1⟩ := HF3.out.cells
          have f0 := HF3.out.frozen 0
          have f1 := HF3.out.frozen 1
          clear hb3 h2
          go_wp2_with fail
          obtain ⟨g1, g2⟩ := fault_set 3 (j : Int) HF3.out Hb3.out
          refine bodyPost_ret (v := .agg #[.int .i64 3, .int .i64 (j : Int)]) (by simp [results, Tryz.results71, go_sem, x0, x1]) rfl ?_
          rw [← Hr.out]
          exact ⟨rfl, g2⟩
        | true =>
          simp only [hd] at V hr
          have hr2 : prRightF (j + 1) (l.drop (j + 1)) = prRight l := by simpa using hr
          have Hr := Lib.hid hr2
          clear hr hr2 hk hd
          go_wp2_with fail
          refine (K _).out.mono ?_
          rintro e w2 ⟨rfl, hb2⟩
          have HF2 := Lib.hid (HF.out.later hb2)
          have Hb2 := Lib.hid (below_then Hb.out hb2)
          have h2 := H2.out
          rw [← (bcell Hb2.out).1 b (o + j * 2 + 1) (block_lt_of_cell (w := w) (a := ⟨b, o + j * 2 + 1, none⟩) h2)] at h2
          clear hb2 h1
          go_wp2_with fail
          refine (V _).out.mono ?_
          rintro e w3 ⟨rfl, hb3⟩
          have HF3 := Lib.hid (HF2.out.later hb3)
          have Hb3 := Lib.hid (below_then Hb2.out hb3)
          clear hb3 h2
          go_wp2_with fail
          go_roundw
          case rel => exact ⟨j + 1, by omega, by go_num, Hr.out, HF3.out, Hb3.out⟩
          case measure => simp [intOf]; omega
    · obtain rfl : j = l.length := by omega
      rw [List.drop_length] at hr
      have Hr := Lib.hid hr
      clear hr hb
      go_wp2_with fail
      refine (GF _).out.mono ?_
      rintro e w2 ⟨rfl, hb2⟩
      have HF2 := Lib.hid (HF.out.later hb2)
      have Hb2 := Lib.hid (below_then Hb.out hb2)
      obtain ⟨x0, x1⟩ := HF2.out.cells
      have f0 := HF2.out.frozen 0
      have f1 := HF2.out.frozen 1
      clear hb2
      go_wp2_with fail
      obtain ⟨g1, g2⟩ := fault_set 0 (-1) HF2.out Hb2.out
      refine bodyPost_ret (v := .agg #[.int .i64 0, .int .i64 (-1)]) (by simp [results, Tryz.results71, go_sem, x0, x1]) rfl ?_
      rw [← Hr.out]
      exact ⟨rfl, g2⟩
set_option maxRecDepth 100000 in
theorem refFind_any (l : List Pr) (key : List UInt8) (v : Value) (w : World) (hv : PrsV w v l) (hl : l.length ≤ 140737488355328) :
    Calls Tryz.prog 99 #[v, .string (S key)] w fun e w' => e = .returned (findR (prFind l key)) ∧ w = w' := by
  obtain ⟨p, c, rfl, _, hc⟩ := hv
  have Hc := Lib.hid hc
  clear hc
  go_enter Tryz.func99, Tryz.ntmps99
  go_wp2_with fail
  go_loopw [9] (fun i wr => ∃ j : Nat, j ≤ l.length ∧ i = .int .i64 j ∧ prFind (l.drop j) key = prFind l key ∧ w = wr) (fun i _ => l.length - (intOf i).toNat)
  case atStart => exact ⟨0, by omega, rfl, rfl, rfl⟩
  case round =>
    obtain ⟨j, hj, rfl, hr, rfl⟩ := hrel
    by_cases hlt : j < l.length
    · obtain ⟨b, o, rfl, hcl⟩ := Hc.out (by omega)
      obtain ⟨h1, h2⟩ := hcl j hlt
      obtain ⟨a, ha⟩ : ∃ a, l[j] = a := ⟨_, rfl⟩
      rw [List.drop_eq_getElem_cons hlt] at hr
      rw [ha] at h1 h2 hr
      obtain ⟨k, d⟩ := a
      simp only at h1 h2
      have e0 : prFind (⟨k, d⟩ :: l.drop (j + 1)) key = if k = key then some d else prFind (l.drop (j + 1)) key := rfl
      rw [e0] at hr
      have Hr := Lib.hid hr
      clear hr hcl ha e0
      by_cases hk : k = key
      · rw [if_pos hk] at Hr
        subst hk
        go_wp2_with fail
        go_ret2
        rw [← Hr.out]
        exact ⟨rfl, rfl⟩
      · rw [if_neg hk] at Hr
        have hS : (k == key) = false := by
          rw [beq_eq_false_iff_ne]
          exact hk
        go_wp2_with fail
        go_roundw
        case rel => exact ⟨j + 1, by omega, by go_num, Hr.out, by trivial⟩
        case measure => simp [intOf]; omega
    · obtain rfl : j = l.length := by omega
      have Hr := Lib.hid hr
      clear hr
      go_wp2_with fail
      go_ret2
      rw [← Hr.out, List.drop_length]
      exact ⟨rfl, rfl⟩
end Go.Proofs.YteapbjeapnmloaaGreatDoor
namespace Go.Proofs.YteapbjeapnmloaaGreatDoor
open Go.RowKit
theorem flatK_get : ∀ (ks : List Ke) (j : Nat) (hj : j < ks.length) (i : Nat), i < 7 → (ks.flatMap keC).toArray[j * 7 + i]? = (keC ks[j])[i]?
  | [], j, hj, _, _ => by simp at hj
  | k :: ks, j, hj, i, hi => by
    simp only [List.flatMap_cons, List.getElem?_toArray]
    cases j with
    | zero => rw [List.getElem?_append_left (by simp [keC]; omega)]; simp
    | succ j =>
      rw [List.getElem?_append_right (by simp [keC]; omega)]
      have h := flatK_get ks j (by simpa using hj) i hi
      simp only [List.getElem?_toArray] at h
      rw [show (j + 1) * 7 + i - (keC k).length = j * 7 + i from by simp [keC]; omega, h]
      simp
theorem keRows_len : keRows.length = 18 := by kernel_rfl
/-- a block that holds the rows -/
structure KeB (w : World) (b : Nat) (W : World) : Prop where
  blk : Blk W b keRowsC 48
  low : Below w.heap.size w W
theorem KeB.later {w W W' : World} {b : Nat} (h : KeB w b W) (hb : Below W.heap.size W W') : KeB w b W' := ⟨h.blk.later hb, below_then h.low hb⟩
theorem KeB.get {w W : World} {b : Nat} (h : KeB w b W) (j : Nat) (hj : j < keRows.length) :
    W.cell? ⟨b, j * 7, none⟩ = some (.string (S keRows[j].nm)) ∧ W.cell? ⟨b, j * 7 + 1, none⟩ = some (.int .i64 (keRows[j].kd : Int)) ∧ W.cell? ⟨b, j * 7 + 2, none⟩ = some (.int .i64 (keRows[j].lo : Int)) ∧
    W.cell? ⟨b, j * 7 + 3, none⟩ = some (.int .i64 (keRows[j].hi : Int)) ∧ W.cell? ⟨b, j * 7 + 4, none⟩ = some (.string (S keRows[j].df)) ∧ W.cell? ⟨b, j * 7 + 5, none⟩ = some (.bool keRows[j].no) ∧ W.cell? ⟨b, j * 7 + 6, none⟩ = some (.bool keRows[j].lg) := by
  have g := fun i hi => (h.blk.cell (j * 7 + i)).trans (flatK_get keRows j hj i hi)
  exact ⟨g 0 (by decide), g 1 (by decide), g 2 (by decide), g 3 (by decide), g 4 (by decide), g 5 (by decide), g 6 (by decide)⟩
theorem rowOf_at {s : List UInt8} {j : Nat} (hj : j < keRows.length) (hq : ∀ i (hi : i < j), keRows[i].nm ≠ s) (hk : keRows[j].nm = s) : rowOf s = some keRows[j] := by
  refine rowOf_prefix (q := keRows.take j) (k := keRows[j]) ?_ ?_ hk
  · rw [← List.take_succ_eq_append_getElem hj]; exact List.take_prefix _ _
  · intro k hm
    obtain ⟨i, hi, rfl⟩ := List.mem_iff_getElem.1 hm
    rw [List.getElem_take]
    exact hq i (by simp at hi; omega)
theorem rowOf_no {s : List UInt8} (hq : ∀ i (hi : i < keRows.length), keRows[i].nm ≠ s) : rowOf s = none :=
  rowOf_none (fun k hm => by
    obtain ⟨i, hi, rfl⟩ := List.mem_iff_getElem.1 hm
    exact hq i hi)
/-- what ref.KeyOf returns -/
def keyT (s : List UInt8) : Value := match rowOf s with
  | some k => .tuple #[.agg (keC k).toArray, .int .i64 0]
  | none => .tuple #[.agg #[.string (S []), .int .i64 0, .int .i64 0, .int .i64 0, .string (S []), .bool false, .bool false], .int .i64 5]
end Go.Proofs.YteapbjeapnmloaaGreatDoor
namespace Go.Proofs.YteapbjeapnmloaaGreatDoor
open Go Go.RowKit
theorem wpList_buildAs {P : Program} {ops : Array Oper} {rest : List Oper} {o : Oper} {a : Act} {w : World} {Q : Exit → Act → World → Prop} (hg : o.guard = none) (t : TypeId) (parts : Array (Nat × Operand)) (ho : o.op = .build t parts)
    (d : Option Tmp) (hd : o.dst = d) (cells : Array Value) (hf : P.built t (parts.map fun (i, x) => (i, a.eval x)).toList = some cells)
    (h : wpList P ops Q rest (a.put d (.agg cells)) w) : wpList P ops Q (o :: rest) a w := by
  subst hd
  exact wpList_build hg t parts ho (by rw [hf]; rfl) (by rw [hf]; exact h)
theorem wpList_moveTo {P : Program} {ops : Array Oper} {rest : List Oper} {o : Oper} {a : Act} {w : World} {Q : Exit → Act → World → Prop} (hg : o.guard = none) (x : Operand) (ho : o.op = .move x)
    (d : Option Tmp) (hd : o.dst = d) (h : wpList P ops Q rest (a.put d (a.eval x)) w) : wpList P ops Q (o :: rest) a w := by
  subst hd
  exact wpList_plain hg fun K hK => BigFrame.wp_move x ho (hK _ _ h)
theorem wpList_buildSliceTo {P : Program} {ops : Array Oper} {rest : List Oper} {o : Oper} {a : Act} {w : World} {Q : Exit → Act → World → Prop} (hg : o.guard = none) (t e : TypeId) (len : Nat) (parts : Array (Nat × Operand)) (ho : o.op = .buildSlice t len parts)
    (d : Option Tmp) (hd : o.dst = d) (cells : Array Value) (hu : P.underlying t = some (.slice e))
    (hf : ((P.info? e).bind fun ie => ie.zero.bind fun z => if 0 < len * ie.size ∧ len * ie.size ≤ 2 ^ 24 then Instr.fill (fun i => some (i * ie.size, ie.size)) ((Array.range (len * ie.size)).map (z.cells[· % z.cells.size]!)) (parts.map fun (i, x) => (i, a.eval x)).toList else none) = some cells)
    (h : wpList P ops Q rest (a.put d (.slice (some ⟨w.heap.size, 0, none⟩) len len)) (w.alloc (.cells cells e))) : wpList P ops Q (o :: rest) a w := by
  subst hd
  cases hie : P.info? e with
  | none => rw [hie] at hf; cases hf
  | some ie =>
    rw [hie, Option.bind_some] at hf
    cases hz : ie.zero with
    | none => rw [hz] at hf; cases hf
    | some z =>
      rw [hz, Option.bind_some] at hf
      split at hf
      · rename_i hc
        exact wpList_buildSlice hg t e len parts ho cells ie z hu hie hz (by omega) (by omega) hf h
      · cases hf
/-- the rows are returned in a block of their own -/
def RetKnown (w : World) (e : Ending) (w' : World) : Prop := ∃ b, e = .returned (.slice (some ⟨b, 0, none⟩) 18 18) ∧ KeB w b w'
set_option maxRecDepth 100000 in
theorem known_any (w : World) : Calls Tryz.prog 95 #[] w (RetKnown w) := by
  have HR := Lib.hid (show RetKnown w (.returned (.slice (some ⟨w.heap.size, 0, none⟩) 18 18)) (w.alloc (.cells keRowsC 48)) from ⟨w.heap.size, rfl, Blk.new w _ _, (Below.refl _ _).alloc (Nat.le_refl _) _⟩)
  go_enter Tryz.func95, Tryz.ntmps95
  go_upto_region 2 with (fail)
  repeat (first | apply wp_block | (apply wp_seq_k; intro _ _) | apply wp_region_lit)
  refine wpList_buildAs rfl 48 _ rfl (some 2) rfl (keC ke0).toArray (by as_aux_lemma => kernel_rfl) ?_
  refine wpList_buildAs rfl 48 _ rfl (some 3) rfl (keC ke1).toArray (by as_aux_lemma => kernel_rfl) ?_
  refine wpList_buildAs rfl 48 _ rfl (some 4) rfl (keC ke2).toArray (by as_aux_lemma => kernel_rfl) ?_
  refine wpList_buildAs rfl 48 _ rfl (some 5) rfl (keC ke3).toArray (by as_aux_lemma => kernel_rfl) ?_
  refine wpList_buildAs rfl 48 _ rfl (some 6) rfl (keC ke4).toArray (by as_aux_lemma => kernel_rfl) ?_
  refine wpList_buildAs rfl 48 _ rfl (some 7) rfl (keC ke5).toArray (by as_aux_lemma => kernel_rfl) ?_
  refine wpList_moveTo rfl _ rfl (some 8) rfl ?_
  refine wpList_buildAs rfl 48 _ rfl (some 9) rfl (keC ke6).toArray (by as_aux_lemma => kernel_rfl) ?_
  refine wpList_moveTo rfl _ rfl (some 10) rfl ?_
  refine wpList_buildAs rfl 48 _ rfl (some 11) rfl (keC ke7).toArray (by as_aux_lemma => kernel_rfl) ?_
  refine wpList_moveTo rfl _ rfl (some 12) rfl ?_
  refine wpList_buildAs rfl 48 _ rfl (some 13) rfl (keC ke8).toArray (by as_aux_lemma => kernel_rfl) ?_
  refine wpList_buildAs rfl 48 _ rfl (some 14) rfl (keC ke9).toArray (by as_aux_lemma => kernel_rfl) ?_
  refine wpList_buildAs rfl 48 _ rfl (some 15) rfl (keC ke10).toArray (by as_aux_lemma => kernel_rfl) ?_
  refine wpList_buildAs rfl 48 _ rfl (some 16) rfl (keC ke11).toArray (by as_aux_lemma => kernel_rfl) ?_
  refine wpList_buildAs rfl 48 _ rfl (some 17) rfl (keC ke12).toArray (by as_aux_lemma => kernel_rfl) ?_
  refine wpList_buildAs rfl 48 _ rfl (some 18) rfl (keC ke13).toArray (by as_aux_lemma => kernel_rfl) ?_
  refine wpList_buildAs rfl 48 _ rfl (some 19) rfl (keC ke14).toArray (by as_aux_lemma => kernel_rfl) ?_
  refine wpList_buildAs rfl 48 _ rfl (some 20) rfl (keC ke15).toArray (by as_aux_lemma => kernel_rfl) ?_
  refine wpList_buildAs rfl 48 _ rfl (some 21) rfl (keC ke16).toArray (by as_aux_lemma => kernel_rfl) ?_
  refine wpList_buildAs rfl 48 _ rfl (some 22) rfl (keC ke17).toArray (by as_aux_lemma => kernel_rfl) ?_
  refine wpList_buildSliceTo rfl 165 48 18 _ rfl (some 23) rfl keRowsC rfl (by as_aux_lemma => kernel_rfl) ?_
  go_wp2_with fail
  go_ret
  exact HR.out
end Go.Proofs.YteapbjeapnmloaaGreatDoor
namespace Go.Proofs.YteapbjeapnmloaaGreatDoor
open Go.RowKit
set_option linter.unusedVariables false
def RetKeyT (w : World) (s : List UInt8) (e : Ending) (w' : World) : Prop := e = .returned (keyT s) ∧ Below w.heap.size w w'
theorem seven_put {W : World} {b : Nat} {o0 o1 o2 o3 o4 o5 o6 : Value} {t : TypeId} (x0 x1 x2 x3 x4 x5 x6 : Value) (hR : Blk W b #[o0, o1, o2, o3, o4, o5, o6] t) :
    Blk (((((((W.setCell ⟨b, 0, none⟩ x0).setCell ⟨b, 1, none⟩ x1).setCell ⟨b, 2, none⟩ x2).setCell ⟨b, 3, none⟩ x3).setCell ⟨b, 4, none⟩ x4).setCell ⟨b, 5, none⟩ x5).setCell ⟨b, 6, none⟩ x6) b #[x0, x1, x2, x3, x4, x5, x6] t := by
  have r0 : Blk (W.setCell ⟨b, 0, none⟩ x0) b #[x0, o1, o2, o3, o4, o5, o6] t := hR.set 0 x0
  have r1 : Blk ((W.setCell ⟨b, 0, none⟩ x0).setCell ⟨b, 1, none⟩ x1) b #[x0, x1, o2, o3, o4, o5, o6] t := r0.set 1 x1
  have r2 : Blk (((W.setCell ⟨b, 0, none⟩ x0).setCell ⟨b, 1, none⟩ x1).setCell ⟨b, 2, none⟩ x2) b #[x0, x1, x2, o3, o4, o5, o6] t := r1.set 2 x2
  have r3 : Blk ((((W.setCell ⟨b, 0, none⟩ x0).setCell ⟨b, 1, none⟩ x1).setCell ⟨b, 2, none⟩ x2).setCell ⟨b, 3, none⟩ x3) b #[x0, x1, x2, x3, o4, o5, o6] t := r2.set 3 x3
  have r4 : Blk (((((W.setCell ⟨b, 0, none⟩ x0).setCell ⟨b, 1, none⟩ x1).setCell ⟨b, 2, none⟩ x2).setCell ⟨b, 3, none⟩ x3).setCell ⟨b, 4, none⟩ x4) b #[x0, x1, x2, x3, x4, o5, o6] t := r3.set 4 x4
  have r5 : Blk ((((((W.setCell ⟨b, 0, none⟩ x0).setCell ⟨b, 1, none⟩ x1).setCell ⟨b, 2, none⟩ x2).setCell ⟨b, 3, none⟩ x3).setCell ⟨b, 4, none⟩ x4).setCell ⟨b, 5, none⟩ x5) b #[x0, x1, x2, x3, x4, x5, o6] t := r4.set 5 x5
  have r6 : Blk (((((((W.setCell ⟨b, 0, none⟩ x0).setCell ⟨b, 1, none⟩ x1).setCell ⟨b, 2, none⟩ x2).setCell ⟨b, 3, none⟩ x3).setCell ⟨b, 4, none⟩ x4).setCell ⟨b, 5, none⟩ x5).setCell ⟨b, 6, none⟩ x6) b #[x0, x1, x2, x3, x4, x5, x6] t := r5.set 6 x6
  exact r6
theorem seven_low {N : Nat} {w W : World} {b : Nat} (x0 x1 x2 x3 x4 x5 x6 : Value) (h : Below N w W) (hb : N ≤ b) :
    Below N w (((((((W.setCell ⟨b, 0, none⟩ x0).setCell ⟨b, 1, none⟩ x1).setCell ⟨b, 2, none⟩ x2).setCell ⟨b, 3, none⟩ x3).setCell ⟨b, 4, none⟩ x4).setCell ⟨b, 5, none⟩ x5).setCell ⟨b, 6, none⟩ x6) :=
  ((((((h.setCell (p := ⟨b, 0, none⟩) hb x0).setCell (p := ⟨b, 1, none⟩) hb x1).setCell (p := ⟨b, 2, none⟩) hb x2).setCell (p := ⟨b, 3, none⟩) hb x3).setCell (p := ⟨b, 4, none⟩) hb x4).setCell (p := ⟨b, 5, none⟩) hb x5).setCell (p := ⟨b, 6, none⟩) hb x6
set_option maxRecDepth 100000 in
set_option maxHeartbeats 1000000 in
theorem refKeyOf_any (s : List UInt8) (w : World) : Calls Tryz.prog 74 #[.string (S s)] w (RetKeyT w s) := by
  obtain ⟨W0, hW0⟩ : ∃ W0, w.alloc (.cells #[.string (S []), .int .i64 0, .int .i64 0, .int .i64 0, .string (S []), .bool false, .bool false] 48) = W0 := ⟨_, rfl⟩
  have hR0 : Blk W0 w.heap.size #[.string (S []), .int .i64 0, .int .i64 0, .int .i64 0, .string (S []), .bool false, .bool false] 48 := by rw [← hW0]; exact Blk.new w _ _
  have hb0 : Below w.heap.size w W0 := by rw [← hW0]; exact (Below.refl _ _).alloc (Nat.le_refl _) _
  have HR0 := Lib.hid hR0
  have Hb0 := Lib.hid hb0
  have KA := Lib.hid (known_any W0)
  clear hR0 hb0
  go_enter Tryz.func74, Tryz.ntmps74
  go_wp2_with fail
  refine KA.out.mono ?_
  rintro e w1 ⟨b, rfl, hk⟩
  have HK := Lib.hid hk
  have HR1 := Lib.hid (HR0.out.later hk.low)
  clear hk
  go_wp2_with fail
  go_loopw [8] (fun i wr => ∃ j : Nat, j ≤ 18 ∧ i = .int .i64 j ∧ (∀ i (hi : i < j) (hk : i < keRows.length), keRows[i].nm ≠ s) ∧ KeB W0 b wr ∧ Blk wr w.heap.size #[.string (S []), .int .i64 0, .int .i64 0, .int .i64 0, .string (S []), .bool false, .bool false] 48) (fun i _ => 18 - (intOf i).toNat)
  case atStart => exact ⟨0, by omega, rfl, fun i hi => absurd hi (Nat.not_lt_zero _), HK.out, HR1.out⟩
  case round =>
    obtain ⟨j, hj, rfl, hpre, hkb, hr⟩ := hrel
    have HKB := Lib.hid hkb
    have Hpre := Lib.hid hpre
    have HR := Lib.hid hr
    clear hkb hpre hr
    by_cases hlt : j < 18
    · have hjk : j < keRows.length := by rw [keRows_len]; exact hlt
      have hji : (j : Int) < 18 := by omega
      obtain ⟨q0, q1, q2, q3, q4, q5, q6⟩ := HKB.out.get j hjk
      have hke := fun h => rowOf_at (s := s) hjk (fun i hi => Hpre.out i hi (by rw [keRows_len]; omega)) h
      have hkn := fun (h : keRows[j].nm ≠ s) i (hi : i < j + 1) (hk : i < keRows.length) => (show keRows[i].nm ≠ s from by
        by_cases e : i = j
        · subst e; exact h
        · exact Hpre.out i (by omega) hk)
      obtain ⟨k, hk⟩ : ∃ k, keRows[j] = k := ⟨_, rfl⟩
      rw [hk] at q0 q1 q2 q3 q4 q5 q6 hke hkn
      obtain ⟨w2, hw2⟩ : ∃ w2, wr.alloc (.cells #[.string (S k.nm), .int .i64 (k.kd : Int), .int .i64 (k.lo : Int), .int .i64 (k.hi : Int), .string (S k.df), .bool k.no, .bool k.lg] 48) = w2 := ⟨_, rfl⟩
      have hbn : Below wr.heap.size wr w2 := by rw [← hw2]; exact (Below.refl wr.heap.size wr).alloc (Nat.le_refl _) _
      have hnb : Blk w2 wr.heap.size #[.string (S k.nm), .int .i64 (k.kd : Int), .int .i64 (k.lo : Int), .int .i64 (k.hi : Int), .string (S k.df), .bool k.no, .bool k.lg] 48 := by rw [← hw2]; exact Blk.new wr _ _
      have HKB2 := Lib.hid (HKB.out.later hbn)
      have HR2 := Lib.hid (HR.out.later hbn)
      have Hke := Lib.hid hke
      have Hkn := Lib.hid hkn
      obtain ⟨x0, x1, x2, x3, x4, x5, x6⟩ := hnb.seven
      clear hbn hke hkn hk hjk
      by_cases ho : k.nm = s
      · have hb : (k.nm == s) = true := by simpa using ho
        have hr2 := HR2.out
        obtain ⟨c0, c1, c2, c3, c4, c5, c6⟩ := hr2.seven
        have f0 := hr2.frozen 0
        have f1 := hr2.frozen 1
        have f2 := hr2.frozen 2
        have f3 := hr2.frozen 3
        have f4 := hr2.frozen 4
        have f5 := hr2.frozen 5
        have f6 := hr2.frozen 6
        have HZ := Lib.hid (seven_put (.string (S k.nm)) (.int .i64 (k.kd : Int)) (.int .i64 (k.lo : Int)) (.int .i64 (k.hi : Int)) (.string (S k.df)) (.bool k.no) (.bool k.lg) hr2)
        have HL := Lib.hid (seven_low (.string (S k.nm)) (.int .i64 (k.kd : Int)) (.int .i64 (k.lo : Int)) (.int .i64 (k.hi : Int)) (.string (S k.df)) (.bool k.no) (.bool k.lg) (below_then Hb0.out HKB2.out.low) (Nat.le_refl _))
        have HT := Lib.hid (show keyT s = .tuple #[.agg #[.string (S k.nm), .int .i64 (k.kd : Int), .int .i64 (k.lo : Int), .int .i64 (k.hi : Int), .string (S k.df), .bool k.no, .bool k.lg], .int .i64 0] from by unfold keyT; rw [Hke.out ho]; rfl)
        clear hr2 ho
        go_wp2_with fail
        obtain ⟨z0, z1, z2, z3, z4, z5, z6⟩ := HZ.out.seven
        clear c0 c1 c2 c3 c4 c5 c6 f0 f1 f2 f3 f4 f5 f6 x0 x1 x2 x3 x4 x5 x6 q0 q1 q2 q3 q4 q5 q6 hnb hw2
        refine bodyPost_ret (v := .tuple #[.agg #[.string (S k.nm), .int .i64 (k.kd : Int), .int .i64 (k.lo : Int), .int .i64 (k.hi : Int), .string (S k.df), .bool k.no, .bool k.lg], .int .i64 0]) (by simp [results, Tryz.results74, go_sem, z0, z1, z2, z3, z4, z5, z6]) rfl ?_
        exact ⟨by rw [HT.out], HL.out⟩
      · have hb : (k.nm == s) = false := by simpa using ho
        have Ho := Lib.hid ho
        clear ho
        go_wp2_with fail
        go_roundw
        case rel => exact ⟨j + 1, by omega, by go_num, Hkn.out Ho.out, HKB2.out, HR2.out⟩
        case measure => simp [intOf]; omega
    · have hj18 : j = 18 := by omega
      subst hj18
      have hno := rowOf_no (s := s) (fun i hi => Hpre.out i (by rw [keRows_len] at hi; exact hi) hi)
      have HT := Lib.hid (show keyT s = .tuple #[.agg #[.string (S []), .int .i64 0, .int .i64 0, .int .i64 0, .string (S []), .bool false, .bool false], .int .i64 5] from by unfold keyT; rw [hno])
      have hr2 := HR.out
      obtain ⟨c0, c1, c2, c3, c4, c5, c6⟩ := hr2.seven
      have f0 := hr2.frozen 0
      have f1 := hr2.frozen 1
      have f2 := hr2.frozen 2
      have f3 := hr2.frozen 3
      have f4 := hr2.frozen 4
      have f5 := hr2.frozen 5
      have f6 := hr2.frozen 6
      have HZ := Lib.hid (seven_put (.string (S [])) (.int .i64 0) (.int .i64 0) (.int .i64 0) (.string (S [])) (.bool false) (.bool false) hr2)
      have HL := Lib.hid (seven_low (.string (S [])) (.int .i64 0) (.int .i64 0) (.int .i64 0) (.string (S [])) (.bool false) (.bool false) (below_then Hb0.out HKB.out.low) (Nat.le_refl _))
      clear hr2 hno hlt
      go_wp2_with fail
      obtain ⟨z0, z1, z2, z3, z4, z5, z6⟩ := HZ.out.seven
      clear c0 c1 c2 c3 c4 c5 c6 f0 f1 f2 f3 f4 f5 f6
      refine bodyPost_ret (v := .tuple #[.agg #[.string (S []), .int .i64 0, .int .i64 0, .int .i64 0, .string (S []), .bool false, .bool false], .int .i64 5]) (by simp [results, Tryz.results74, go_sem, z0, z1, z2, z3, z4, z5, z6]) rfl ?_
      exact ⟨by rw [HT.out], HL.out⟩
end Go.Proofs.YteapbjeapnmloaaGreatDoor
