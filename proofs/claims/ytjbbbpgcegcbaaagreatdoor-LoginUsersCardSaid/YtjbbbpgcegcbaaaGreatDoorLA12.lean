/- LA12: several texts in one. -/
import Derived.BigRegion
import Derived.Deep.RegionHeld3
import Derived.Deep.WholeRow
import Derived.Laws.CopyOwn
import Derived.Laws.Rows
import Derived.Test.YtjbbbpgcegcbaaaGreatDoorRows
import Derived.Test.YtjbbbpgcegcbaaaGreatDoorLA01
import Derived.Test.YtjbbbpgcegcbaaaGreatDoorLA02
import Derived.Test.YtjbbbpgcegcbaaaGreatDoorLA03
import Derived.Test.YtjbbbpgcegcbaaaGreatDoorLA06
import Derived.Test.YtjbbbpgcegcbaaaGreatDoorLA07
import Derived.Test.YtjbbbpgcegcbaaaGreatDoorLA08
import Derived.Test.YtjbbbpgcegcbaaaGreatDoorLA09
import Derived.Test.YtjbbbpgcegcbaaaGreatDoorLA10
import Derived.Test.YtjbbbpgcegcbaaaGreatDoorLA11
namespace Go.Proofs.YtjbbbpgcegcbaaaGreatDoor
open Go.RowKit
theorem wrap_i64_zero (n : Nat) (hn : n < 2 ^ 64) : IntKind.i64.wrap (n : Int) = 0 ↔ n = 0 := by
 have e : (2 : Int) ^ IntKind.i64.bits = 18446744073709551616 := by decide
 have s : IntKind.i64.signed = true := rfl
 have h2 : (2 : Nat) ^ 64 = 18446744073709551616 := by decide
 rw [h2] at hn
 have e2 : (2 : Int) ^ (IntKind.i64.bits - 1) = 9223372036854775808 := by decide
 unfold IntKind.wrap
 simp only [e, e2, s, Bool.true_and]
 split <;> simp only [decide_eq_true_eq] at * <;> omega
theorem ofInt_small (m : Nat) (hm : m < 256) : (BitVec.ofInt 64 (m : Int)).toNat = m := by
 rw [BitVec.ofInt_natCast, BitVec.toNat_ofNat]; exact Nat.mod_eq_of_lt (by omega)
theorem ofInt_pos (fl : Int) (h0 : 0 ≤ fl) (h1 : fl ≤ 9223372036854775807) : (BitVec.ofInt 64 fl).toNat = fl.toNat := by
 obtain ⟨a, rfl⟩ := Int.eq_ofNat_of_zero_le h0
 have h2 : (2 : Nat) ^ 64 = 18446744073709551616 := by decide
 show (BitVec.ofInt 64 ((a : Nat) : Int)).toNat = a
 rw [BitVec.ofInt_natCast, BitVec.toNat_ofNat]; exact Nat.mod_eq_of_lt (by omega)
theorem ofInt_neg (fl : Int) (h0 : fl < 0) (h1 : -9223372036854775808 ≤ fl) : 256 ≤ (BitVec.ofInt 64 fl).toNat := by
 rw [BitVec.toNat_ofInt]
 omega
theorem bv_and_le (x y : BitVec 64) : (x &&& ~~~y) = 0 ↔ x &&& y = x := by
 constructor
 ·intro h
  ext i hi
  have := congrArg (fun z : BitVec 64 => z[i]) h
  simp only [BitVec.getElem_and, BitVec.getElem_not] at this
  simp only [BitVec.getElem_and]
  cases hx : x[i] <;> cases hy : y[i] <;> simp_all
 ·intro h
  ext i hi
  have := congrArg (fun z : BitVec 64 => z[i]) h
  simp only [BitVec.getElem_and] at this
  simp only [BitVec.getElem_and, BitVec.getElem_not]
  cases hx : x[i] <;> cases hy : y[i] <;> simp_all
theorem flOk_bv (fl : Int) (m : Nat) (hm : m < 256) (h0 : -9223372036854775808 ≤ fl) (h1 : fl ≤ 9223372036854775807) :
  flOk fl m = true ↔ BitVec.ofInt 64 fl &&& BitVec.ofInt 64 (m : Int) = BitVec.ofInt 64 fl := by
 have hb : (BitVec.ofInt 64 fl &&& BitVec.ofInt 64 (m : Int) = BitVec.ofInt 64 fl) ↔ (BitVec.ofInt 64 fl).toNat &&& m = (BitVec.ofInt 64 fl).toNat := by
  rw [← BitVec.toNat_inj, BitVec.toNat_and, ofInt_small m hm]
 rw [hb]
 unfold flOk
 simp only [Bool.and_eq_true, decide_eq_true_eq, beq_iff_eq]
 by_cases hn : 0 ≤ fl
 ·rw [ofInt_pos fl hn h1]
  exact ⟨fun h => h.2, fun h => ⟨hn, h⟩⟩
 ·have := ofInt_neg fl (by omega) h0
  constructor
  ·intro h; exact absurd h.1 hn
  ·intro h
   have hle : (BitVec.ofInt 64 fl).toNat &&& m ≤ m := Nat.and_le_right
   omega
theorem andNot_fl (fl : Int) (m : Nat) (hm : m < 256) (h0 : -9223372036854775808 ≤ fl) (h1 : fl ≤ 9223372036854775807) :
  bits .andNot .i64 fl (m : Int) = 0 ↔ flOk fl m = true := by
 rw [flOk_bv fl m hm h0 h1, ← bv_and_le]
 show IntKind.i64.wrap ((BitVec.ofInt 64 fl &&& ~~~BitVec.ofInt 64 (m : Int)).toNat : Int) = 0 ↔ _
 rw [wrap_i64_zero _ (BitVec.isLt _)]
 constructor
 ·intro h; apply BitVec.eq_of_toNat_eq; simpa using h
 ·intro h; rw [h]; rfl
theorem andNot_no (fl : Int) (m : Nat) (hm : m < 256) (h0 : -9223372036854775808 ≤ fl) (h1 : fl ≤ 9223372036854775807) (h : flOk fl m = false) : (bits .andNot .i64 fl (m : Int) != 0) = true := by
 have := andNot_fl fl m hm h0 h1
 rw [h] at this
 simp only [bne_iff_ne, ne_eq]
 intro e; exact absurd (this.1 e) (by simp)
theorem andNot_yes (fl : Int) (m : Nat) (hm : m < 256) (h0 : -9223372036854775808 ≤ fl) (h1 : fl ≤ 9223372036854775807) (h : flOk fl m = true) : bits .andNot .i64 fl (m : Int) = 0 := (andNot_fl fl m hm h0 h1).2 h
def Vals (W : World) (v : Value) (l : List Nat) : Prop := ∃ p c, v = .slice p l.length c ∧ (∀ x ∈ l, x < 2 ^ 64) ∧ (0 < l.length → ∃ b o, p = some ⟨b, o, none⟩ ∧ ∀ j (hj : j < l.length), W.cell? ⟨b, o + j, none⟩ = some (.int .u64 (l[j] : Int)))
theorem Vals.later {W W' : World} {v : Value} {l : List Nat} (h : Vals W v l) (hb : Below W.heap.size W W') : Vals W' v l := by
 obtain ⟨p, c, hv, hx, hc⟩ := h
 refine ⟨p, c, hv, hx, fun hl => ?_⟩
 obtain ⟨b, o, hp, hcell⟩ := hc hl
 refine ⟨b, o, hp, fun j hj => ?_⟩
 rw [(bcell hb).1 b (o + j) (block_lt_of_cell (w := W) (a := ⟨b, o + j, none⟩) (hcell j hj))]
 exact hcell j hj
def headV (h : Hd) (v : Value) : Value := .agg #[.int .i64 h.op, .bool h.now, .int .i64 h.fl, v]
theorem right_none (h : Hd) (v : Value) (w : World) (hk : kindOf h.op = none) : Calls Tryz.prog 88 #[headV h v] w (RetE w (1, -1)) := by
 unfold headV
 have hb0 := (Below.refl w.heap.size w).alloc (Nat.le_refl _) (.cells #[.int .i64 h.op, .bool h.now, .int .i64 h.fl, v] 38)
 have C := Lib.hid (find_none hk (w.alloc (.cells #[.int .i64 h.op, .bool h.now, .int .i64 h.fl, v] 38)))
 have Hb0 := Lib.hid hb0
 clear hk hb0
 go_enter Tryz.func88, Tryz.ntmps88
 go_wp2_with fail
 refine C.out.mono ?_
 rintro e w' ⟨rfl, hb⟩
 have Hb := Lib.hid (below_then Hb0.out hb)
 clear hb
 go_wp2_with fail
 go_ret
 exact ⟨_, rfl, .bare 1 (by decide), Hb.out.alloc Hb.out.size _⟩
theorem right_form (h : Hd) (v : Value) (k : Kd) (w : World) (hk : kindOf h.op = some k) (hfl : I64 h.fl)
  (hbad : (h.now && decide (32 ≤ h.op)) = true ∨ flOk h.fl k.fl = false) : Calls Tryz.prog 88 #[headV h v] w (RetE w (3, -1)) := by
 obtain ⟨op, now, fl, vs⟩ := h
 unfold headV
 simp only at *
 have F := kindFacts hk
 have hb0 := (Below.refl w.heap.size w).alloc (Nat.le_refl _) (.cells #[.int .i64 op, .bool now, .int .i64 fl, v] 38)
 have C := Lib.hid (find_some hk (w.alloc (.cells #[.int .i64 op, .bool now, .int .i64 fl, v] 38)))
 have Hb0 := Lib.hid hb0
 have hno : ¬ (now = true ∧ 32 ≤ op) → (bits .andNot .i64 fl (k.fl : Int) != 0) = true := fun hn => andNot_no fl k.fl F.fl hfl.1 hfl.2 (hbad.resolve_left (by simpa using hn))
 clear hk hb0 hbad hfl F
 cases now with
 | true =>
  by_cases h32 : 32 ≤ op
  ·clear hno
   go_enter Tryz.func88, Tryz.ntmps88
   go_wp2_with fail
   refine C.out.mono ?_
   rintro e w' ⟨rfl, hb⟩
   obtain ⟨q0, q1, q2, q3⟩ := ((Blk.new w #[.int .i64 op, .bool _, .int .i64 fl, v] 38).later hb).four
   have hz : w.heap.size < w'.heap.size := by have := hb.size; simp at this; omega
   have Hb := Lib.hid (below_then Hb0.out hb)
   clear hb
   go_wp2_with fail
   go_ret
   exact ⟨_, rfl, .bare 3 (by decide), Hb.out.alloc Hb.out.size _⟩
  ·have hA := hno (fun h => h32 h.2)
   clear hno
   go_enter Tryz.func88, Tryz.ntmps88
   go_wp2_with fail
   refine C.out.mono ?_
   rintro e w' ⟨rfl, hb⟩
   obtain ⟨q0, q1, q2, q3⟩ := ((Blk.new w #[.int .i64 op, .bool _, .int .i64 fl, v] 38).later hb).four
   have hz : w.heap.size < w'.heap.size := by have := hb.size; simp at this; omega
   have Hb := Lib.hid (below_then Hb0.out hb)
   clear hb
   go_wp2_with fail
   go_ret
   exact ⟨_, rfl, .bare 3 (by decide), Hb.out.alloc Hb.out.size _⟩
 | false =>
  have hA := hno (fun h => by cases h.1)
  clear hno
  go_enter Tryz.func88, Tryz.ntmps88
  go_wp2_with fail
  refine C.out.mono ?_
  rintro e w' ⟨rfl, hb⟩
  obtain ⟨q0, q1, q2, q3⟩ := ((Blk.new w #[.int .i64 op, .bool _, .int .i64 fl, v] 38).later hb).four
  have hz : w.heap.size < w'.heap.size := by have := hb.size; simp at this; omega
  have Hb := Lib.hid (below_then Hb0.out hb)
  clear hb
  go_wp2_with fail
  go_ret
  exact ⟨_, rfl, .bare 3 (by decide), Hb.out.alloc Hb.out.size _⟩
theorem right_len (h : Hd) (v : Value) (k : Kd) (w : World) (hk : kindOf h.op = some k) (hfl : I64 h.fl) (hm : MaxCell w) (hv : Vals w v h.vs) (hll : h.vs.length ≤ 9223372036854775807)
  (hnow : h.now = true → h.op < 32) (hok : flOk h.fl k.fl = true) (hlen : h.vs.length ≠ k.fs.length) : Calls Tryz.prog 88 #[headV h v] w (RetE w (7, -1)) := by
 obtain ⟨op, now, fl, vs⟩ := h
 unfold headV
 simp only at *
 obtain ⟨p, c, rfl, _, _⟩ := hv
 have F := kindFacts hk
 have hb0 := (Below.refl w.heap.size w).alloc (Nat.le_refl _) (.cells #[.int .i64 op, .bool now, .int .i64 fl, .slice p vs.length c] 38)
 have C := Lib.hid (find_some hk (w.alloc (.cells #[.int .i64 op, .bool now, .int .i64 fl, .slice p vs.length c] 38)))
 have L := fun w hm => Lib.hid (kind_list hk w hm)
 have Hb0 := Lib.hid hb0
 have Hm := Lib.hid (hm.later hb0)
 have hA := andNot_yes fl k.fl F.fl hfl.1 hfl.2 hok
 have hl10 := F.len
 have Hlen := Lib.hid hlen
 have hcase : (now = true ∧ op < 32) ∨ now = false := by cases now with
  | true => exact .inl ⟨rfl, hnow rfl⟩
  | false => exact .inr rfl
 clear hk hb0 hok hfl F hnow hm
 have hne : ((vs.length : Int) != (k.fs.length : Int)) = true := by rw [bne_iff_ne]; omega
 rcases hcase with ⟨rfl, h32⟩ | rfl
 all_goals
  go_enter Tryz.func88, Tryz.ntmps88
  go_wp2_with fail
  refine C.out.mono ?_
  rintro e w1 ⟨rfl, hb⟩
  obtain ⟨q0, q1, q2, q3⟩ := ((Blk.new w #[.int .i64 op, .bool _, .int .i64 fl, .slice p vs.length c] 38).later hb).four
  have hz : w.heap.size < w1.heap.size := by have := hb.size; simp at this; omega
  have hb1 := hb.alloc hb.size (.cells #[.int .i64 (k.op : Int), .string (S k.nm), .int .i64 (k.fl : Int), .string (S k.tx)] 192)
  have L2 := Lib.hid (L _ (Hm.out.later hb1)).out
  have Hb1 := Lib.hid (below_then Hb0.out hb1)
  clear hb hb1 L
  go_wp2_with fail
  refine L2.out.mono ?_
  rintro e w2 ⟨b, rfl, hlb, hF, hb2⟩
  have hc3 := (bcell hb2).1 w.heap.size 3 (by simp; omega)
  rw [World.cell?_alloc_lt _ _ ⟨w.heap.size, 3, none⟩ hz] at hc3
  rw [q3] at hc3
  have Hb2 := Lib.hid (below_then Hb1.out hb2)
  clear hb2 hF q0 q1 q2 q3
  go_wp2_with fail
  go_ret
  exact ⟨_, rfl, .bare 7 (by decide), Hb2.out⟩
theorem pad_any (n : Int) (w : World) : Calls Tryz.prog 163 #[.int .i64 n] w fun e w' => e = .returned (.int .i64 (padI n)) ∧ w = w' := by
 by_cases h : n < 0
 ·go_enter Tryz.func163, Tryz.ntmps163
  go_wp2
  go_ret
  exact ⟨ret_int (by unfold padI; rw [if_pos ‹n < 0›]), rfl⟩
 ·have h0 : 0 ≤ n := by omega
  go_enter Tryz.func163, Tryz.ntmps163
  go_wp2
  go_ret
  exact ⟨ret_int (by unfold padI; rw [if_neg (by omega)]; omega), rfl⟩
def AhsV (W : World) (v : Value) (l : List Ah) : Prop := ∃ p c, v = .slice p l.length c ∧ l.length ≤ c ∧ (0 < l.length → ∃ b o, p = some ⟨b, o, none⟩ ∧ ∀ j (hj : j < l.length), W.cell? ⟨b, o + j * 2, none⟩ = some (.int .i64 l[j].k) ∧ W.cell? ⟨b, o + j * 2 + 1, none⟩ = some (.string (S l[j].d)))
theorem AhsV.later {W W' : World} {v : Value} {l : List Ah} (h : AhsV W v l) (hb : Below W.heap.size W W') : AhsV W' v l := by
 obtain ⟨p, c, hv, hlc, hc⟩ := h
 refine ⟨p, c, hv, hlc, fun hl => ?_⟩
 obtain ⟨b, o, hp, hcell⟩ := hc hl
 refine ⟨b, o, hp, fun j hj => ?_⟩
 obtain ⟨h1, h2⟩ := hcell j hj
 rw [(bcell hb).1 b (o + j * 2) (block_lt_of_cell (w := W) (a := ⟨b, o + j * 2, none⟩) h1), (bcell hb).1 b (o + j * 2 + 1) (block_lt_of_cell (w := W) (a := ⟨b, o + j * 2 + 1, none⟩) h2)]
 exact ⟨h1, h2⟩
theorem AhsV.nil (W : World) : AhsV W (.slice none 0 0) [] := ⟨none, 0, rfl, Nat.le_refl _, fun h => absurd h (by decide)⟩
theorem AhsV.form {W : World} {v : Value} {l : List Ah} (h : AhsV W v l) : ∃ p c, v = .slice p l.length c := by obtain ⟨p, c, h, _⟩ := h; exact ⟨p, c, h⟩
def fitA (l : List Ah) : Prop := l.length ≤ 140737488355328 ∧ ∀ a ∈ l, a.d.length ≤ 140737488355328
theorem size_any (a : Ah) (w : World) (hd : a.d.length ≤ 140737488355328) :
  Calls Tryz.prog 124 #[.agg #[.int .i64 a.k, .string (S a.d)]] w fun e w' => e = .returned (.int .i64 (sizeA a : Nat)) ∧ Below w.heap.size w w' := by
 obtain ⟨k, d⟩ := a
 simp only at hd ⊢
 have P := fun w => Lib.hid (pad_any ((3 : Int) + (d.length : Int)) w)
 have hs : ((sizeA ⟨k, d⟩ : Nat) : Int) = 3 + (d.length : Int) + padI (3 + (d.length : Int)) := by
  unfold sizeA
  simp only
  rw [show (3 : Int) + (d.length : Int) = ((3 + d.length : Nat) : Int) by omega, padI_pad]
  omega
 have hp := padI_bd (3 + (d.length : Int))
 have Hs := Lib.hid hs
 clear hs
 go_enter Tryz.func124, Tryz.ntmps124
 go_wp2_with fail
 refine (P _).out.mono ?_
 rintro e w' ⟨rfl, rfl⟩
 go_wp2_with fail
 go_ret
 exact ⟨ret_int (by rw [Hs.out]), (Below.refl _ _).alloc (Nat.le_refl _) _⟩
set_option maxRecDepth 100000 in
theorem right_ahs (l : List Ah) (v : Value) (w : World) (hv : AhsV w v l) (hf : fitA l) :
  Calls Tryz.prog 89 #[v] w (RetE w (rightA l)) := by
 obtain ⟨p, c, rfl, _, hc⟩ := hv
 have Hc := Lib.hid hc
 have Hf := Lib.hid hf
 have hl47 := hf.1
 clear hc hf
 go_enter Tryz.func89, Tryz.ntmps89
 go_wp2_with fail
 go_loopw [3, 8] (fun x i wr => ∃ j all : Nat, j ≤ l.length ∧ all ≤ 1020 ∧ i = .int .i64 j ∧ x = .int .i64 all ∧ rightF all j (l.drop j) = rightA l ∧ Below w.heap.size w wr) (fun _ i _ => l.length - (intOf i).toNat)
 case atStart => exact ⟨0, 0, by omega, by omega, rfl, rfl, rfl, Below.refl _ _⟩
 case round =>
  obtain ⟨j, all, hj, hall, rfl, rfl, hr, hb⟩ := hrel
  have Hb := Lib.hid hb
  by_cases hlt : j < l.length
  ·obtain ⟨b, o, rfl, hcl⟩ := Hc.out (by omega)
   obtain ⟨h1, h2⟩ := hcl j hlt
   rw [← (bcell hb).1 b (o + j * 2) (block_lt_of_cell (w := w) (a := ⟨b, o + j * 2, none⟩) h1)] at h1
   rw [← (bcell hb).1 b (o + j * 2 + 1) (block_lt_of_cell (w := w) (a := ⟨b, o + j * 2 + 1, none⟩) h2)] at h2
   obtain ⟨a, ha⟩ : ∃ a, l[j] = a := ⟨_, rfl⟩
   have hda := Hf.out.2 l[j] (List.getElem_mem hlt)
   rw [List.drop_eq_getElem_cons hlt, rightF_cons] at hr
   rw [ha] at h1 h2 hr hda
   obtain ⟨k, d⟩ := a
   simp only at h1 h2 hr hda
   have Hr := Lib.hid hr
   have hb1 := hb.alloc hb.size (.cells #[.int .i64 k, .string (S d)] 218)
   have Hb1 := Lib.hid hb1
   have ZZ := fun W => Lib.hid (size_any ⟨k, d⟩ W hda)
   have hsz : sizeA ⟨k, d⟩ ≤ 140737488355340 := by unfold sizeA; have := pad_le (3 + d.length); simp only; omega
   obtain ⟨z, hz⟩ : ∃ z, sizeA ⟨k, d⟩ = z := ⟨_, rfl⟩
   rw [hz] at Hr hsz
   simp only [hz] at ZZ
   clear hr hcl hb ha hb1 hda hz
   by_cases hk0 : k < 0
   ·have hd0 : decide (k < 0) = true := decide_eq_true hk0
    go_wp2_with fail
    go_ret
    rw [← Hr.out, if_pos (.inl hk0)]
    exact ⟨_, rfl, .placed _ 2 j (by decide) (by simp) (by simp), Hb1.out.alloc Hb1.out.size _⟩
   ·have hd0 : decide (k < 0) = false := decide_eq_false hk0
    by_cases hk1 : 255 < k
    ·go_wp2_with fail
     go_ret
     rw [← Hr.out, if_pos (.inr hk1)]
     exact ⟨_, rfl, .placed _ 2 j (by decide) (by simp) (by simp), Hb1.out.alloc Hb1.out.size _⟩
    ·go_wp2_with fail
     refine (ZZ _).out.mono ?_
     rintro e w2 ⟨rfl, hb2⟩
     have Hb2 := Lib.hid (below_then Hb1.out hb2)
     clear hb2
     by_cases hm : 1020 < all + z
     ·go_wp2_with fail
      go_ret
      rw [← Hr.out, if_neg (by omega), if_pos hm]
      exact ⟨_, rfl, .placed _ 4 j (by decide) (by simp) (by simp), Hb2.out.alloc Hb2.out.size _⟩
     ·go_wp2_with fail
      go_roundw
      case rel => exact ⟨j + 1, all + z, by omega, by omega, by go_num, by go_num, by rw [← Hr.out, if_neg (by omega), if_neg hm], Hb2.out⟩
      case measure => simp [intOf]; omega
  ·obtain rfl : j = l.length := by omega
   have Hr := Lib.hid hr
   clear hr hb
   go_wp2_with fail
   go_ret
   rw [← Hr.out, List.drop_length]
   exact ⟨_, rfl, .good, Hb.out⟩
def pduV (p : Pd) (vv va : Value) : Value := .agg #[.int .i64 p.h.op, .bool p.h.now, .int .i64 p.h.fl, vv, va, .string (S p.d)]
structure PduAt (W : World) (p : Pd) (vv va : Value) : Prop where
 v : Vals W vv p.h.vs
 a : AhsV W va p.a
theorem PduAt.later {W W' : World} {p : Pd} {vv va : Value} (h : PduAt W p vv va) (hb : Below W.heap.size W W') : PduAt W' p vv va := ⟨h.v.later hb, h.a.later hb⟩
theorem pdu0_at (W : World) : PduAt W pd0 (.slice none 0 0) (.slice none 0 0) := ⟨⟨none, 0, rfl, ⟨fun _ h => absurd h (List.not_mem_nil), fun h => absurd h (by decide)⟩⟩, AhsV.nil W⟩
structure FitP (p : Pd) : Prop where
 fl : I64 p.h.fl
 vs : p.h.vs.length ≤ 9223372036854775807
 a : fitA p.a
 d : p.d.length ≤ 140737488351232
def cells6 (p : Pd) (vv va : Value) : Array Value := #[.int .i64 p.h.op, .bool p.h.now, .int .i64 p.h.fl, vv, va, .string (S p.d)]
theorem Blk.six {W : World} {b : Nat} {x y z u v s : Value} {t : TypeId} (h : Blk W b #[x, y, z, u, v, s] t) : W.cell? ⟨b, 0, none⟩ = some x ∧ W.cell? ⟨b, 1, none⟩ = some y ∧ W.cell? ⟨b, 2, none⟩ = some z ∧ W.cell? ⟨b, 3, none⟩ = some u ∧ W.cell? ⟨b, 4, none⟩ = some v ∧ W.cell? ⟨b, 5, none⟩ = some s := ⟨h.cell 0, h.cell 1, h.cell 2, h.cell 3, h.cell 4, h.cell 5⟩
theorem six_stored {w W : World} {N b : Nat} {o0 o1 o2 o3 o4 o5 : Value} {t : TypeId} (x0 x1 x2 x3 x4 x5 : Value) (hR : Blk W b #[o0, o1, o2, o3, o4, o5] t) (hb : N ≤ b) (hB : Below N w W) :
  Blk ((((((W.setCell ⟨b, 0, none⟩ x0).setCell ⟨b, 1, none⟩ x1).setCell ⟨b, 2, none⟩ x2).setCell ⟨b, 3, none⟩ x3).setCell ⟨b, 4, none⟩ x4).setCell ⟨b, 5, none⟩ x5) b #[x0, x1, x2, x3, x4, x5] t ∧
  Below N w ((((((W.setCell ⟨b, 0, none⟩ x0).setCell ⟨b, 1, none⟩ x1).setCell ⟨b, 2, none⟩ x2).setCell ⟨b, 3, none⟩ x3).setCell ⟨b, 4, none⟩ x4).setCell ⟨b, 5, none⟩ x5) :=
 ⟨(((((hR.set 0 x0).set 1 x1).set 2 x2).set 3 x3).set 4 x4).set 5 x5,
  (((((hB.setCell (p := ⟨b, 0, none⟩) hb x0).setCell (p := ⟨b, 1, none⟩) hb x1).setCell (p := ⟨b, 2, none⟩) hb x2).setCell (p := ⟨b, 3, none⟩) hb x3).setCell (p := ⟨b, 4, none⟩) hb x4).setCell (p := ⟨b, 5, none⟩) hb x5⟩
theorem six_apartV {W : World} {b : Nat} {o0 o2 : Int} {o1 : Bool} {o5 : ByteArray} {p3 p4 : Option Addr} {n3 n4 c3 c4 : Nat} {t : TypeId} (hk : Blk W b #[.int .i64 o0, .bool o1, .int .i64 o2, .slice p3 n3 c3, .slice p4 n4 c4, .string o5] t) {b' o : Nat} {x : Int} (h : W.cell? ⟨b', o, none⟩ = some (.int .u64 x)) : b' ≠ b := by
 rintro rfl
 rw [hk.cell o] at h
 obtain rfl | rfl | rfl | rfl | rfl | rfl | ho : o = 0 ∨ o = 1 ∨ o = 2 ∨ o = 3 ∨ o = 4 ∨ o = 5 ∨ 6 ≤ o := by omega
 all_goals first | (simp at h; done) | skip
 rw [Array.getElem?_eq_none (by simpa using ho)] at h
 cases h
theorem six_apartA {W : World} {b : Nat} {o0 o2 : Int} {o1 : Bool} {o5 : ByteArray} {p3 p4 : Option Addr} {n3 n4 c3 c4 : Nat} {t : TypeId} (hk : Blk W b #[.int .i64 o0, .bool o1, .int .i64 o2, .slice p3 n3 c3, .slice p4 n4 c4, .string o5] t) {b' o : Nat} {x : Int} {s : ByteArray} (h : W.cell? ⟨b', o, none⟩ = some (.int .i64 x)) (h1 : W.cell? ⟨b', o + 1, none⟩ = some (.string s)) : b' ≠ b := by
 rintro rfl
 rw [hk.cell o] at h
 rw [hk.cell (o + 1)] at h1
 obtain rfl | rfl | rfl | rfl | rfl | rfl | ho : o = 0 ∨ o = 1 ∨ o = 2 ∨ o = 3 ∨ o = 4 ∨ o = 5 ∨ 6 ≤ o := by omega
 all_goals first | (simp at h; done) | (simp at h1; done) | skip
 rw [Array.getElem?_eq_none (by simpa using ho)] at h
 cases h
end Go.Proofs.YtjbbbpgcegcbaaaGreatDoor
namespace Go.Proofs.YtjbbbpgcegcbaaaGreatDoor
open Go.RowKit
set_option linter.unusedVariables false
theorem Vals.off {H : Nat → Prop} {W : World} {v : Value} {l : List Nat} (h : Vals (offW H W) v l) : Vals W v l := by
 obtain ⟨p, c, hv, hx, hc⟩ := h
 exact ⟨p, c, hv, hx, fun hl => by obtain ⟨b, o, hp, hcell⟩ := hc hl; exact ⟨b, o, hp, fun j hj => off_cell (hcell j hj)⟩⟩
theorem AhsV.off {H : Nat → Prop} {W : World} {v : Value} {l : List Ah} (h : AhsV (offW H W) v l) : AhsV W v l := by
 obtain ⟨p, c, hv, hlc, hc⟩ := h
 exact ⟨p, c, hv, hlc, fun hl => by obtain ⟨b, o, hp, hcell⟩ := hc hl; exact ⟨b, o, hp, fun j hj => ⟨off_cell (hcell j hj).1, off_cell (hcell j hj).2⟩⟩⟩
theorem PduAt.off {H : Nat → Prop} {W : World} {p : Pd} {vv va : Value} (h : PduAt (offW H W) p vv va) : PduAt W p vv va := ⟨h.v.off, h.a.off⟩
theorem off_sub {H K : Nat → Prop} (W : World) (hs : ∀ k, H k → K k) : offW K W = offW K (offW H W) := by
 rw [off_two]
 congr 1
 funext k
 exact propext ⟨fun h => .inl h, fun h => h.elim (fun h => h) (hs k)⟩
theorem StrV.off {H : Nat → Prop} {W : World} {v : Value} {l : List (List UInt8)} (h : StrV (offW H W) v l) : StrV W v l := by
 obtain ⟨p, c, hv, hc⟩ := h
 exact ⟨p, c, hv, fun hl => by obtain ⟨b, o, hp, hcell⟩ := hc hl; exact ⟨b, o, hp, fun j hj => off_cell (hcell j hj)⟩⟩
theorem UsV.off {H : Nat → Prop} {W : World} {v : Value} {l : List Us} (h : UsV (offW H W) v l) : UsV W v l := by
 obtain ⟨p, c, hv, hlc, hc⟩ := h
 exact ⟨p, c, hv, hlc, fun hl => by obtain ⟨b, o, hp, hcell⟩ := hc hl; exact ⟨b, o, hp, fun j hj => ⟨off_cell (hcell j hj).1, off_cell (hcell j hj).2⟩⟩⟩
theorem Keeps.putC {N : Nat} {w W : World} {H K : Nat → Prop} (h : Keeps N w W H K) {b : Nat} (hb : K b) (i : Nat) (v : Value) : Keeps N w (W.setCell ⟨b, i, none⟩ v) H K := h.trans (Keeps.put1 (N := N) (H := K) hb i v) (Nat.le_refl _)
theorem Keeps.widen {w w' : World} {K K' H H' : Nat → Prop} (h : Keeps w.heap.size w w' K K') (h1 : ∀ k, K k → H k) (h2 : ∀ k, H' k ↔ (H k ∨ K' k)) : Keeps w.heap.size w w' H H' :=
 ⟨h.os, h.tape, h.output, h.size, fun k hk hn => h.block k hk (fun hh => hn (h1 k hh)), fun k hk => (h2 k).2 (.inl hk), fun k hk => by
  rcases (h2 k).1 hk with hk | hk
  ·exact .inl hk
  ·exact (h.old k hk).imp (h1 k) (fun h => h)⟩
end Go.Proofs.YtjbbbpgcegcbaaaGreatDoor
namespace Go.Proofs.YtjbbbpgcegcbaaaGreatDoor
open Go.RowKit
theorem xor_max (b : Nat) (hb : b < 4294967296) : bits .xor .u32 IntKind.u32.max (b : Int) = ((4294967295 - b : Nat) : Int) := by
 rw [show IntKind.u32.max = ((4294967295 : Nat) : Int) from rfl, u32_xor_nat _ _ (by decide) hb]
 congr 1
 have h := Nat.xor_comm 4294967295 b
 rw [h]
 have : b ^^^ (2 ^ 32 - 1) = 2 ^ 32 - 1 - b := by
  apply Nat.eq_of_testBit_eq
  intro i
  rw [Nat.testBit_xor, Nat.testBit_two_pow_sub_one, show 2 ^ 32 - 1 - b = 2 ^ 32 - (b + 1) from by omega, Nat.testBit_two_pow_sub_succ hb]
  by_cases hi : i < 32
  ·simp [hi]
  ·have : b.testBit i = false := Nat.testBit_lt_two_pow (Nat.lt_of_lt_of_le hb (Nat.pow_le_pow_right (n := 2) (by decide) (show 32 ≤ i by omega)))
   simp [hi, this]
 exact this
theorem and_lt (a b : Nat) (h : b < 4294967296) : a &&& b < 4294967296 := Nat.and_lt_two_pow (n := 32) _ h
theorem or_lt (a b : Nat) (ha : a < 4294967296) (hb : b < 4294967296) : a ||| b < 4294967296 := Nat.or_lt_two_pow (n := 32) ha hb
theorem mixed_any (i b c d : Nat) (w : World) (hi : i < 64) (hb : b < 4294967296) (hc : c < 4294967296) (hd : d < 4294967296) :
  Calls Tryz.prog 157 #[.int .i64 i, .int .u32 b, .int .u32 c, .int .u32 d] w fun e w' => e = .returned (.tuple #[.int .u32 ((mF i b c d : Nat) : Int), .int .i64 ((mG i : Nat) : Int)]) ∧ w = w' := by
 have hs32 : IntKind.u32.signed = false := rfl
 have hq : i / 16 = 0 ∨ i / 16 = 1 ∨ i / 16 = 2 ∨ i / 16 = 3 := by omega
 have xb := xor_max b hb
 have xd := xor_max d hd
 obtain ⟨nb, hnb⟩ : ∃ n, 4294967295 - b = n := ⟨_, rfl⟩
 obtain ⟨nd, hnd⟩ : ∃ n, 4294967295 - d = n := ⟨_, rfl⟩
 have lb : nb < 4294967296 := by omega
 have ld : nd < 4294967296 := by omega
 unfold mF mG
 rw [hnb, hnd]
 rw [hnb] at xb
 rw [hnd] at xd
 rcases hq with h | h | h | h
 ·have hi2 : (i : Int) / 16 = 0 := by omega
  have b1 := u32_and_nat b c hb hc
  have b2 := u32_and_nat nb d lb hd
  have b3 := u32_or_nat (b &&& c) (nb &&& d) (and_lt _ _ hc) (and_lt _ _ hd)
  rw [if_pos h, if_pos h]
  clear h hnb hnd
  go_enter Tryz.func157, Tryz.ntmps157
  go_wp2_with fail
  go_ret2
  exact ⟨rfl, rfl⟩
 ·have hi2 : (i : Int) / 16 = 1 := by omega
  have b1 := u32_and_nat b d hb hd
  have b2 := u32_andNot_nat c d hc hd
  rw [hnd] at b2
  have b3 := u32_or_nat (b &&& d) (c &&& nd) (and_lt _ _ hd) (and_lt _ _ ld)
  rw [if_neg (by omega), if_pos h, if_neg (by omega), if_pos h]
  clear h hnb hnd
  go_enter Tryz.func157, Tryz.ntmps157
  go_wp2_with fail
  go_ret2
  exact ⟨rfl, rfl⟩
 ·have hi2 : (i : Int) / 16 = 2 := by omega
  have b1 := u32_xor_nat b c hb hc
  have b2 := u32_xor_nat (b ^^^ c) d (Nat.xor_lt_two_pow (n := 32) hb hc) hd
  rw [if_neg (by omega), if_neg (by omega), if_pos h, if_neg (by omega), if_neg (by omega), if_pos h]
  clear h hnb hnd
  go_enter Tryz.func157, Tryz.ntmps157
  go_wp2_with fail
  go_ret2
  exact ⟨rfl, rfl⟩
 ·have hi2 : (i : Int) / 16 = 3 := by omega
  have b1 := u32_or_nat b nd hb ld
  have b2 := u32_xor_nat c (b ||| nd) hc (or_lt _ _ hb ld)
  rw [if_neg (by omega), if_neg (by omega), if_neg (by omega), if_neg (by omega), if_neg (by omega), if_neg (by omega)]
  clear h hnb hnd
  go_enter Tryz.func157, Tryz.ntmps157
  go_wp2_with fail
  go_ret2
  exact ⟨rfl, rfl⟩
theorem and31 (k : Nat) (hk : k < 32) : bits .and .u64 (k : Int) 31 = (k : Int) := by
 rw [show (31 : Int) = ((31 : Nat) : Int) from rfl, u64_and_nat k 31 (by omega) (by decide), show (31 : Nat) = 2 ^ 5 - 1 from rfl, Nat.and_two_pow_sub_one_eq_mod, Nat.mod_eq_of_lt hk]
theorem rot_bits (x k : Nat) (hx : x < 4294967296) : bits .or .u32 ((x : Int) * 2 ^ k % 4294967296) ((x : Int) / 2 ^ (32 - k)) = ((rot x k : Nat) : Int) := by
 have e1 : (x : Int) * 2 ^ k % 4294967296 = ((x * 2 ^ k % 4294967296 : Nat) : Int) := by
  rw [Int.natCast_emod, Int.natCast_mul, Int.natCast_pow]; rfl
 have e2 : (x : Int) / 2 ^ (32 - k) = ((x / 2 ^ (32 - k) : Nat) : Int) := by
  rw [Int.natCast_ediv, Int.natCast_pow]; rfl
 rw [e1, e2, u32_or_nat _ _ (Nat.mod_lt _ (by decide)) (Nat.lt_of_le_of_lt (Nat.div_le_self _ _) hx)]
 rfl
theorem rot_any (x k : Nat) (w : World) (hx : x < 4294967296) (hk : k < 32) (hk0 : 0 < k) :
  Calls Tryz.prog 158 #[.int .u32 x, .int .i64 k] w fun e w' => e = .returned (.int .u32 ((rot x k : Nat) : Int)) ∧ w = w' := by
 have hm := and31 k hk
 have hki : (k : Int) < 32 := by omega
 have hk0i : (0 : Int) < k := by omega
 have hr := rot_bits x k hx
 go_enter Tryz.func158, Tryz.ntmps158
 go_wp2_with fail
 go_ret
 exact ⟨rfl, rfl⟩
def mwords (l : List Nat) : Array Value := (l.map fun n : Nat => Value.int .u32 (n : Int)).toArray
theorem mwords_size (l : List Nat) : (mwords l).size = l.length := by simp [mwords]
theorem mwords_set (l : List Nat) (i n : Nat) : (mwords l).setIfInBounds i (.int .u32 (n : Int)) = mwords (l.set i n) := by simp [mwords, List.map_set]
theorem mwords_get (l : List Nat) (i : Nat) (h : i < l.length) : (mwords l)[i]? = some (.int .u32 (l[i] : Int)) := by simp [mwords, List.getElem?_eq_getElem h]
theorem mwords_one (l : List Nat) : (mwords l).all (·.oneCell') = true := by
 rw [Array.all_eq_true_iff_forall_mem]
 intro x hx
 simp [mwords] at hx
 obtain ⟨n, _, rfl⟩ := hx
 rfl
theorem shl_word (b s : Nat) : (b : Int) * 2 ^ (8 * s) % 4294967296 = ((b * 2 ^ (8 * s) % 4294967296 : Nat) : Int) := by
 rw [Int.natCast_emod, Int.natCast_mul, Int.natCast_pow]; rfl
def z16 : List Nat := List.replicate 16 0
theorem zero16 (w : World) : (zeroValue 212).run Tryz.prog w = .ok (.agg (mwords z16)) w := by kernel_rfl
set_option maxRecDepth 100000 in
theorem wordsOf_any (l : List UInt8) (w : World) (hl : l.length = 64) :
  Calls Tryz.prog 121 #[.string (S l)] w fun e w' => e = .returned (.agg (mwords (wordsL l))) ∧ Below w.heap.size w w' := by
 go_enter Tryz.func121, Tryz.ntmps121
 have hz := zero16
 go_wp2_with fail
 go_loopg [5] 65 (fun g c wr => ∃ k n : Nat, k ≤ 64 ∧ g + k = 65 ∧ c = .int .i64 k ∧ wr = ((w.alloc (.cells (mwords z16) 212)).alloc (.cells (mwords (wRow l k)) 212)).drewN n)
 case atStart => exact ⟨0, 0, by omega, by omega, rfl, by rw [wRow_0]; rfl⟩
 case round =>
  obtain ⟨k, n, hk, hg, rfl, rfl⟩ := hrel
  have Hg := Lib.hid hg
  clear hg
  by_cases hlt : k < 64
  ·have hki : (k : Int) < 64 := by omega
   have hk4 : (k : Int) / 4 < 16 := by omega
   have hk40 : 0 ≤ (k : Int) / 4 := by omega
   have hkl : (k : Int) < (l.length : Int) := by omega
   have hkm0 : 0 ≤ (k : Int) % 4 * 8 := by omega
   have hkm1 : (k : Int) % 4 * 8 < 32 := by omega
   have hk2 : k < l.length := by omega
   have hb8 : (l[k].toNat : Int) < 256 := by have := l[k].toNat_lt; omega
   have hc := mwords_get (wRow l k) (k / 4) (by rw [wRow_len]; omega)
   have hst := wRow_step l k
   have hwl := wAt_lt l k (k / 4)
   have hxe : (wRow l k)[k / 4]'(by rw [wRow_len]; omega) = wAt l k (k / 4) := by simp [wRow]
   rw [hxe] at hc
   rw [List.getD_eq_getElem?_getD, List.getElem?_eq_getElem hk2, Option.getD_some] at hst
   have hsl : l[k].toNat * 2 ^ (8 * (k % 4)) < 4294967296 := by
    have h4 : k % 4 < 4 := Nat.mod_lt _ (by decide)
    have hb := l[k].toNat_lt
    generalize k % 4 = r at h4
    generalize l[k].toNat = b at hb
    match r, h4 with
    | 0, _ => omega
    | 1, _ => omega
    | 2, _ => omega
    | 3, _ => omega
   have hor : bits .or .u32 ((wAt l k (k / 4) : Nat) : Int) ((l[k].toNat : Int) * 2 ^ (k % 4 * 8) % 4294967296) = ((wAt l k (k / 4) ||| l[k].toNat * 2 ^ (8 * (k % 4)) : Nat) : Int) := by
    rw [Nat.mul_comm (k % 4) 8, shl_word, Nat.mod_eq_of_lt hsl, u32_or_nat _ _ hwl hsl]
   obtain ⟨v, hv⟩ : ∃ v, wAt l k (k / 4) ||| l[k].toNat * 2 ^ (8 * (k % 4)) = v := ⟨_, rfl⟩
   obtain ⟨x, hx⟩ : ∃ x, wAt l k (k / 4) = x := ⟨_, rfl⟩
   rw [hv] at hst hor
   rw [hx] at hor hc
   have Hst := Lib.hid hst
   clear hv hx hst hsl hwl hxe
   go_wp2_with fail
   go_region
   go_wp2_with fail
   go_roundg (gk - 1)
   case measure => have := Hg.out; omega
   case rel => exact ⟨k + 1, n + 1, by omega, by have := Hg.out; omega, by go_num, by
    rw [← Hst.out, ← mwords_set]
    have h := setCell_mark (w.alloc (.cells (mwords z16) 212)) (mwords (wRow l k)) 212 (0, 0) (k / 4) (.int .u32 v)
    rw [show (w.alloc (.cells (mwords z16) 212)).heap.size = w.heap.size + 1 from by simp] at h
    exact congrArg (fun W : World => W.drewN (n + 1)) h⟩
  ·have hk6 : k = 64 := by omega
   subst hk6
   have hone := mwords_one (wRow l 64)
   have hb1 : (((w.alloc (.cells (mwords z16) 212)).alloc (.cells (mwords (wRow l 64)) 212)).drewN n).heap[w.heap.size + 1]? = some (.cells (mwords (wRow l 64)) 212) := heap_alloc2_new w _ _
   have hb0 : (((w.alloc (.cells (mwords z16) 212)).alloc (.cells (mwords (wRow l 64)) 212)).drewN n).heap[w.heap.size]? = some (.cells (mwords z16) 212) := heap_alloc2_old w _ _
   have hi : (Tryz.prog.info? 212).map (·.size) = some 16 := by kernel_rfl
   rw [← wRow_len l 64, ← mwords_size] at hi
   have hs0 : (mwords z16).size = (mwords (wRow l 64)).size := by rw [mwords_size, mwords_size, wRow_len]; rfl
   have hlow : Below w.heap.size w ((((w.alloc (.cells (mwords z16) 212)).alloc (.cells (mwords (wRow l 64)) 212)).drewN n).setRow w.heap.size (mwords (wRow l 64))) :=
    below_setRow (below_drewN (((Below.refl _ _).alloc (Nat.le_refl _) _).alloc (by simp) _) n) (Nat.le_refl _) _
   have hb2 := setRow_heap _ w.heap.size (mwords z16) (mwords (wRow l 64)) 212 (0, 0) hb0
   go_wp2_with (first | (refine wpList_load_row rfl _ _ rfl (w.heap.size + 1) rfl 212 (mwords (wRow l 64)) (0, 0) _ hb1 Tryz.underlying212 rfl hi ?_) | (refine wpList_store_row rfl _ _ _ rfl w.heap.size (mwords (wRow l 64)) rfl rfl 212 (mwords z16) hb0 hi hs0 hone ?_))
   exact bodyPost_ret (v := .agg (mwords (wRow l 64))) (results_cell_row Tryz.results121 _ _ w.heap.size 212 _ (0, 0) _ rfl hb2 Tryz.underlying212 rfl hi) rfl ⟨rfl, hlow⟩
def MdTabs (w : World) : Prop := (∀ i, i < 64 → w.cell? ⟨1, i, none⟩ = some (.int .u32 ((mK.getD i 0 : Nat) : Int))) ∧ (∀ j, j < 16 → w.cell? ⟨2, j, none⟩ = some (.int .i64 ((mSl.getD j 0 : Nat) : Int)))
theorem MdTabs.later {w w' : World} (h : MdTabs w) (hb : Below w.heap.size w w') : MdTabs w' := by
 have l1 := block_lt_of_cell (h.1 0 (by decide))
 have l2 := block_lt_of_cell (h.2 0 (by decide))
 exact ⟨fun i hi => by rw [(bcell hb).1 _ i l1]; exact h.1 i hi, fun j hj => by rw [(bcell hb).1 _ j l2]; exact h.2 j hj⟩
theorem MdTabs.drawn {w : World} (h : MdTabs w) (n : Nat) : MdTabs (w.drewN n) := h
def st4 (s : St) : Array Value := #[.int .u32 (s.1 : Int), .int .u32 (s.2.1 : Int), .int .u32 (s.2.2.1 : Int), .int .u32 (s.2.2.2 : Int)]
theorem mS_bd (i : Nat) (h : i < 64) : 0 < mS i ∧ mS i < 32 := by
 have : ∀ i : Fin 64, 0 < mS i.1 ∧ mS i.1 < 32 := by decide
 exact this ⟨i, h⟩
theorem mG_lt (i : Nat) (h : i < 64) : mG i < 16 := by unfold mG; split <;> (try split) <;> (try split) <;> omega
theorem sum4 (a f k x : Nat) : ((a : Int) + (f : Int) + (k : Int) + (x : Int)) % 4294967296 = (((a + f + k + x) % 4294967296 : Nat) : Int) := by omega
set_option maxRecDepth 100000 in
set_option maxHeartbeats 1000000 in
theorem stir_any (a b c d : Nat) (ws : List Nat) (w : World) (hs : Lt32 (a, b, c, d)) (hw : ws.length = 16) (hwl : ∀ x ∈ ws, x < 4294967296) (ht : MdTabs w) :
  Calls Tryz.prog 120 #[.agg #[.int .u32 a, .int .u32 b, .int .u32 c, .int .u32 d], .agg (mwords ws)] w fun e w' => e = .returned (.agg (st4 (mStir (a, b, c, d) ws))) ∧ Below w.heap.size w w' := by
 obtain ⟨ha, hb, hc, hd⟩ := hs
 simp only at ha hb hc hd
 have Ht := Lib.hid ht
 have Hwl := Lib.hid hwl
 clear ht hwl
 go_enter Tryz.func120, Tryz.ntmps120
 go_wp2_with fail
 go_quiet (fail)
 go_wp2_with fail
 have hlow : Below w.heap.size w (((w.alloc (.cells #[.int .u32 a, .int .u32 b, .int .u32 c, .int .u32 d] 154)).alloc (.cells (mwords ws) 212)).alloc (.cells #[.int .u32 0, .int .u32 0, .int .u32 0, .int .u32 0] 154)) := (((Below.refl _ _).alloc (Nat.le_refl _) _).alloc (by simp) _).alloc (by first | (simp; done) | (simp; omega)) _
 have Ht3 := Lib.hid (Ht.out.later hlow)
 have Hlow := Lib.hid hlow
 clear hlow
 go_loopg [5, 6, 7, 8, 21] 65 (fun g va vb vc vd vi wr => ∃ (k n : Nat) (s : St), k ≤ 64 ∧ g + k = 65 ∧ vi = .int .i64 k ∧ mRun ws (a, b, c, d) k = s ∧ va = .int .u32 (s.1 : Nat) ∧ vb = .int .u32 (s.2.1 : Nat) ∧ vc = .int .u32 (s.2.2.1 : Nat) ∧ vd = .int .u32 (s.2.2.2 : Nat) ∧ wr = (((w.alloc (.cells #[.int .u32 a, .int .u32 b, .int .u32 c, .int .u32 d] 154)).alloc (.cells (mwords ws) 212)).alloc (.cells #[.int .u32 0, .int .u32 0, .int .u32 0, .int .u32 0] 154)).drewN n)
 case atStart => exact ⟨0, nq, (a, b, c, d), by omega, by omega, rfl, rfl, rfl, rfl, rfl, rfl, rfl⟩
 case round =>
  obtain ⟨k, n, s, hk, hg, rfl, hrun, rfl, rfl, rfl, rfl, rfl⟩ := hrel
  have Hg := Lib.hid hg
  clear hg
  have hlt4 := mRun_lt ws (a, b, c, d) ⟨ha, hb, hc, hd⟩ k
  rw [hrun] at hlt4
  by_cases hlt : k < 64
  ·have hki : (k : Int) < 64 := by omega
   have hnew : mRun ws (a, b, c, d) (k + 1) = mStep ws k s := by show mStep ws k (mRun ws (a, b, c, d) k) = _; rw [hrun]
   have Hnew := Lib.hid hnew
   clear hnew hrun
   obtain ⟨sa, sb, sc, sd⟩ := s
   obtain ⟨la, lb, lc, ld⟩ := hlt4
   simp only at la lb lc ld
   have hgl := mG_lt k hlt
   have hsb := mS_bd k hlt
   have hn1 := Ht3.out.1 k hlt
   have hn2 := Ht3.out.2 (k / 16 * 4 + k % 4) (by omega)
   have hn3 := mwords_get ws (mG k) (by omega)
   have hxl := Hwl.out _ (List.getElem_mem (show mG k < ws.length by omega))
   obtain ⟨x, hx⟩ : ∃ x, ws[mG k]'(by omega) = x := ⟨_, rfl⟩
   have hxd : ws.getD (mG k) 0 = x := by rw [List.getD_eq_getElem?_getD, List.getElem?_eq_getElem (by omega), Option.getD_some, hx]
   obtain ⟨kk, hkk⟩ : ∃ x, mK.getD k 0 = x := ⟨_, rfl⟩
   obtain ⟨f, hf⟩ : ∃ x, mF k sb sc sd = x := ⟨_, rfl⟩
   obtain ⟨r, hr⟩ : ∃ x, mS k = x := ⟨_, rfl⟩
   have hr2 : mSl.getD (k / 16 * 4 + k % 4) 0 = r := hr
   have hsum := sum4 sa f kk x
   have hms : mSum ws k (sa, sb, sc, sd) = (sa + f + kk + x) % 4294967296 := by unfold mSum; simp only [hf, hkk, hxd]
   obtain ⟨m, hm⟩ : ∃ m, (sa + f + kk + x) % 4294967296 = m := ⟨_, rfl⟩
   have hm32 : m < 4294967296 := by rw [← hm]; exact Nat.mod_lt _ (by decide)
   have hstep : mStep ws k (sa, sb, sc, sd) = (sd, (sb + rot m r) % 4294967296, sb, sc) := by unfold mStep; rw [hms, hm, hr]
   rw [hkk] at hn1
   rw [hr2] at hn2
   rw [hx] at hn3 hxl
   rw [hm] at hsum
   rw [hr] at hsb
   obtain ⟨hr0, hr32⟩ := hsb
   have hgi : ((mG k : Nat) : Int) < 16 := by omega
   have hq1 : (k : Int) / 16 < 4 := by omega
   have hq2 : 0 ≤ (k : Int) / 16 := by omega
   have hq3 : (k : Int) % 4 < 4 := by omega
   have hq4 : 0 ≤ (k : Int) % 4 := by omega
   have Hstep := Lib.hid hstep
   clear hx hxd hkk hr hr2 hm hms hstep hgl
   go_wp2_with fail
   refine (mixed_any k sb sc sd _ hlt lb lc ld).mono ?_
   rintro e w' ⟨rfl, rfl⟩
   rw [hf]
   clear hf
   go_wp2_with fail
   go_quiet ((go_at_call 158; exact quiet_add_left (rot_any m r _ hm32 hr32 hr0)))
   go_wp2_with fail
   go_roundg (gk - 1)
   case measure => have := Hg.out; omega
   case rel => exact ⟨k + 1, n + nq, (sd, (sb + rot m r) % 4294967296, sb, sc), by omega, by have := Hg.out; omega, by go_num, by rw [Hnew.out, Hstep.out], rfl, congrArg (Value.int .u32) (by show _ = (((sb + rot m r) % 4294967296 : Nat) : Int); omega), rfl, rfl, rfl⟩
  ·have hk6 : k = 64 := by omega
   subst hk6
   obtain ⟨sa, sb, sc, sd⟩ := s
   obtain ⟨la, lb, lc, ld⟩ := hlt4
   simp only at la lb lc ld
   have hres : st4 (mStir (a, b, c, d) ws) = #[.int .u32 (((a + sa) % 4294967296 : Nat) : Int), .int .u32 (((b + sb) % 4294967296 : Nat) : Int), .int .u32 (((c + sc) % 4294967296 : Nat) : Int), .int .u32 (((d + sd) % 4294967296 : Nat) : Int)] := by
    unfold mStir; rw [hrun]; rfl
   have Hres := Lib.hid hres
   clear hres hrun
   go_wp2_with fail
   refine bodyPost_ret (v := .agg (st4 (mStir (a, b, c, d) ws))) (by rw [Hres.out]; simp [results, Tryz.results120, go_sem]) rfl ⟨rfl, ?_⟩
   have h2 : w.heap.size ≤ w.heap.size + 1 + 1 := by omega
   exact ((((below_drewN Hlow.out n).setCell h2 _).setCell h2 _).setCell h2 _).setCell h2 _
end Go.Proofs.YtjbbbpgcegcbaaaGreatDoor
