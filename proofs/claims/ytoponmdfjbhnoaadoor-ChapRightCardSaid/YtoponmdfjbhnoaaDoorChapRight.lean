/- ChapRight: who has the secret is let in, in either way of writing; with any bits turned nobody is. -/
import Derived.Test.YtoponmdfjbhnoaaDoorChapProved
import Derived.Test.YtoponmdfjbhnoaaDoorTurned
import Derived.Test.YtoponmdfjbhnoaaDoorPick
import Derived.Test.YtoponmdfjbhnoaaDoorOpenDraw
namespace Go.Proofs.YtoponmdfjbhnoaaDoor
open Go Go.RowKit
set_option linter.unusedVariables false
theorem keepD {Wb W W1 : World} {b : Nat} {v0 v1 : Value} (h : Below Wb.heap.size Wb W ∧ W.cell? ⟨b, 0, none⟩ = some v0 ∧ W.cell? ⟨b, 1, none⟩ = some v1) (hb : Below W.heap.size W W1) :
    Below Wb.heap.size Wb W1 ∧ W1.cell? ⟨b, 0, none⟩ = some v0 ∧ W1.cell? ⟨b, 1, none⟩ = some v1 :=
  ⟨below_then h.1 hb, keepcell hb h.2.1, keepcell hb h.2.2⟩
/-- in front of the response: the two facts, and how much there is -/
theorem chapRight_wide (n s c : List UInt8) (id bt fi : Int) (w : World) (hn : n.length ≤ 140737488351232) (hs : s.length ≤ 140737488351232) (hc : c.length ≤ 140737488351232) (ht : MdTabs w) (hg : ErrCell w) (h : (300 : Int) < (n.length : Int) + (s.length : Int) + (c.length : Int)) :
    Calls Tryd.prog 3 #[.string (S n), .string (S s), .agg #[.int .i64 id, .string (S c)], .int .u32 bt, .int .i64 fi] w fun e w' => e = .returned (.bool true) ∧ Below w.heap.size w w' := by
  have hA := (Below.refl w.heap.size w).alloc (Nat.le_refl _) (.cells #[.int .i64 id, .string (S c)] 23)
  have HK := Lib.hid (Blk.new w #[.int .i64 id, .string (S c)] 23)
  have F := Lib.hid (proved_fact _ (ht.later hA) (hg.later hA))
  have V := Lib.hid (fun W (hb : Below w.heap.size w W) => valued_fact W (hg.later hb))
  have HA := Lib.hid hA
  clear hA ht hg
  go_enter Tryd.func3, Tryd.ntmps3
  go_wp2_with fail
  refine F.out.mono ?_
  rintro e w1 ⟨rfl, hb1⟩
  have Hb1 := Lib.hid (below_then HA.out hb1)
  have HK1 := Lib.hid (HK.out.later hb1)
  clear hb1 HK F
  go_wp2_with fail
  refine (V.out _ Hb1.out).mono ?_
  rintro e w2 ⟨rfl, hb2⟩
  have Hb2 := Lib.hid (below_then Hb1.out hb2)
  obtain ⟨d0, d1⟩ := (HK1.out.later hb2).two
  clear hb2 V
  go_wp2_with fail
  go_ret
  exact ⟨rfl, Hb2.out⟩
set_option maxRecDepth 100000 in
set_option maxHeartbeats 4000000 in
theorem chapRight_bad (n s c : List UInt8) (id bt fi : Int) (q : Int) (w : World) (hn : n.length ≤ 140737488351232) (hs : s.length ≤ 140737488351232) (hc : c.length ≤ 140737488351232) (ht : MdTabs w) (hg : ErrCell w) (h : ¬ (300 : Int) < (n.length : Int) + (s.length : Int) + (c.length : Int)) (e : respL id s c = ([], q)) (hq : q ≠ 0) :
    Calls Tryd.prog 3 #[.string (S n), .string (S s), .agg #[.int .i64 id, .string (S c)], .int .u32 bt, .int .i64 fi] w fun e w' => e = .returned (.bool true) ∧ Below w.heap.size w w' := by
  have hA := (Below.refl w.heap.size w).alloc (Nat.le_refl _) (.cells #[.int .i64 id, .string (S c)] 23)
  have HK := Lib.hid (Blk.new w #[.int .i64 id, .string (S c)] 23)
  have F := Lib.hid (proved_fact _ (ht.later hA) (hg.later hA))
  have V := Lib.hid (fun W (hb : Below w.heap.size w W) => valued_fact W (hg.later hb))
  have R := fun W (hb : Below w.heap.size w W) => response_any id s c W (ht.later hb)
  rw [e] at R
  rw [show errV ((([] : List UInt8), q).2) = .iface 40 (.int .i64 q) from errV_pos q hq] at R
  have R := Lib.hid R
  have HA := Lib.hid hA
  have c1 : ¬ 9223372036854775807 < n.length + 1 := by omega
  have c2 : ¬ 9223372036854775807 < s.length + 1 := by omega
  clear hA ht hg e
  go_enter Tryd.func3, Tryd.ntmps3
  go_wp2_with fail
  refine F.out.mono ?_
  rintro e w1 ⟨rfl, hb1⟩
  have Hb1 := Lib.hid (below_then HA.out hb1)
  have HK1 := Lib.hid (HK.out.later hb1)
  clear hb1 HK F
  go_wp2_with fail
  refine (V.out _ Hb1.out).mono ?_
  rintro e w2 ⟨rfl, hb2⟩
  have Hb2 := Lib.hid (below_then Hb1.out hb2)
  have HK2 := Lib.hid (HK1.out.later hb2)
  obtain ⟨d0, d1⟩ := HK2.out.two
  have hbU := Hb2.out.alloc Hb2.out.size (.cells #[.string (S (n ++ [120])), .string (S (s ++ [120])), .string (S n), .string (S s)] 27)
  obtain ⟨x0, x1⟩ := (HK2.out.alloc (.cells #[.string (S (n ++ [120])), .string (S (s ++ [120])), .string (S n), .string (S s)] 27)).two
  have HbU := Lib.hid hbU
  clear hb2 V hbU
  go_wp2_with fail
  refine (R.out _ HbU.out).mono ?_
  rintro e w3 ⟨rfl, hb3⟩
  have Hb3 := Lib.hid (below_then HbU.out hb3)
  clear hb3 R
  go_wp2_with fail
  go_ret
  exact ⟨rfl, Hb3.out⟩
set_option maxRecDepth 100000 in
set_option maxHeartbeats 4000000 in
theorem chapRight_good (n s c r t x y z : List UInt8) (id fi : Int) (bt k : Nat) (tb : Bool) (vt : Value) (w : World) (ht : MdTabs w) (hg : ErrCell w) (h : ¬ (300 : Int) < (n.length : Int) + (s.length : Int) + (c.length : Int)) (e : respL id s c = (r, 0)) (hr : (r.length : Int) = 16)
    (hk : pickI fi 100 = k) (hbt : bt < 2 ^ 32) (hkl : k < 100) (htn : tn r k bt 32 = t) (hx : hexL r = x) (hy : b64L r = y) (hz : hexL t = z) (hxl : x.length ≤ 100) (hyl : y.length ≤ 100) (hzl : z.length ≤ 100)
    (htb : (t == r) = tb) (hvt : (tb = true ∧ vt = .nilIface) ∨ (tb = false ∧ vt = .iface 40 (.int .i64 13)))
    (k1 : chkL [⟨n ++ [120], s ++ [120]⟩, ⟨n, s⟩] n x id c = 0) (k2 : chkL [⟨n ++ [120], s ++ [120]⟩, ⟨n, s⟩] n y id c = 0) (k3 : errV (chkL [⟨n ++ [120], s ++ [120]⟩, ⟨n, s⟩] n z id c) = vt) (htl : t.length = 16) :
    Calls Tryd.prog 3 #[.string (S n), .string (S s), .agg #[.int .i64 id, .string (S c)], .int .u32 (bt : Int), .int .i64 fi] w fun e w' => e = .returned (.bool true) ∧ Below w.heap.size w w' := by
  have hA := (Below.refl w.heap.size w).alloc (Nat.le_refl _) (.cells #[.int .i64 id, .string (S c)] 23)
  have HK := Lib.hid (Blk.new w #[.int .i64 id, .string (S c)] 23)
  have F := Lib.hid (proved_fact _ (ht.later hA) (hg.later hA))
  have V := Lib.hid (fun W (hb : Below w.heap.size w W) => valued_fact W (hg.later hb))
  have R := fun W (hb : Below w.heap.size w W) => response_any id s c W (ht.later hb)
  rw [e] at R
  rw [show errV ((r, (0 : Int)).2) = .nilIface from rfl] at R
  have R := Lib.hid R
  have P := Lib.hid (fun W => pick_any fi 100 W (by decide) (by decide))
  rw [hk] at P
  have hrl : r.length = 16 := by omega
  have TU := Lib.hid (fun W => turned_any r k bt W (by omega) (by omega) hbt)
  rw [htn] at TU
  have X1 := Lib.hid (fun W => hex_any r W (by omega))
  have X2 := Lib.hid (fun W => base64_any r W (by omega))
  have X3 := Lib.hid (fun W => hex_any t W (by omega))
  rw [hx] at X1
  rw [hy] at X2
  rw [hz] at X3
  have C := Lib.hid (fun (v : Value) (a : List UInt8) (W : World) (ha : a.length ≤ 100) (hv : UsV W v [⟨n ++ [120], s ++ [120]⟩, ⟨n, s⟩]) (hb : Below w.heap.size w W) => check_any [⟨n ++ [120], s ++ [120]⟩, ⟨n, s⟩] v n a c id W hv (by simp) (by omega) (ht.later hb) (hg.later hb))
  have HA := Lib.hid hA
  have c1 : ¬ 9223372036854775807 < n.length + 1 := by omega
  have c2 : ¬ 9223372036854775807 < s.length + 1 := by omega
  have K1 := Lib.hid k1
  have K2 := Lib.hid k2
  have K3 := Lib.hid k3
  clear hA ht hg e hk hbt htn hx hy hz k1 k2 k3 hrl
  go_enter Tryd.func3, Tryd.ntmps3
  go_wp2_with fail
  refine F.out.mono ?_
  rintro e w1 ⟨rfl, hb1⟩
  have Hb1 := Lib.hid (below_then HA.out hb1)
  have HK1 := Lib.hid (HK.out.later hb1)
  clear hb1 HK F
  go_wp2_with fail
  refine (V.out _ Hb1.out).mono ?_
  rintro e w2 ⟨rfl, hb2⟩
  have Hb2 := Lib.hid (below_then Hb1.out hb2)
  have HK2 := Lib.hid (HK1.out.later hb2)
  obtain ⟨d0, d1⟩ := HK2.out.two
  have hU := us_new w2 [⟨n ++ [120], s ++ [120]⟩, ⟨n, s⟩] 27
  rw [show (usVs [⟨n ++ [120], s ++ [120]⟩, ⟨n, s⟩]).toArray = #[.string (S (n ++ [120])), .string (S (s ++ [120])), .string (S n), .string (S s)] from rfl] at hU
  have hU2 : UsV (w2.alloc (.cells #[.string (S (n ++ [120])), .string (S (s ++ [120])), .string (S n), .string (S s)] 27)) (.slice (some ⟨w2.heap.size, 0, none⟩) 2 2) [⟨n ++ [120], s ++ [120]⟩, ⟨n, s⟩] := hU
  have hbU := Hb2.out.alloc Hb2.out.size (.cells #[.string (S (n ++ [120])), .string (S (s ++ [120])), .string (S n), .string (S s)] 27)
  have hKU := HK2.out.alloc (.cells #[.string (S (n ++ [120])), .string (S (s ++ [120])), .string (S n), .string (S s)] 27)
  obtain ⟨x0, x1⟩ := hKU.two
  have HbU := Lib.hid hbU
  have HU := Lib.hid hU2
  have HKU := Lib.hid hKU
  clear hb2 V hbU hU hU2 hKU HK1 HK2
  go_wp2_with fail
  refine (R.out _ HbU.out).mono ?_
  rintro e w3 ⟨rfl, hb3⟩
  have Hb3 := Lib.hid (below_then HbU.out hb3)
  have HU3 := Lib.hid (HU.out.later hb3)
  have HK3 := Lib.hid (HKU.out.later hb3)
  clear hb3 R x0 x1 d0 d1
  go_wp2_with fail
  refine (P.out _).mono ?_
  rintro e w' ⟨rfl, rfl⟩
  go_wp2_with fail
  refine (TU.out _).mono ?_
  rintro e w4 ⟨rfl, hb4⟩
  have Hb4 := Lib.hid (below_then Hb3.out hb4)
  have HU4 := Lib.hid (HU3.out.later hb4)
  obtain ⟨d0, d1⟩ := (HK3.out.later hb4).two
  clear hb4 P TU HbU HU HKU HK3
  have C1 := fun W (hb : Below w4.heap.size w4 W) => C.out _ x W hxl (HU4.out.later hb) (below_then Hb4.out hb)
  have C2 := fun W (hb : Below w4.heap.size w4 W) => C.out _ y W hyl (HU4.out.later hb) (below_then Hb4.out hb)
  have C3 := fun W (hb : Below w4.heap.size w4 W) => C.out _ z W hzl (HU4.out.later hb) (below_then Hb4.out hb)
  rw [K1.out, errV_0] at C1
  rw [K2.out, errV_0] at C2
  rw [K3.out] at C3
  have C1 := Lib.hid C1
  have C2 := Lib.hid C2
  have C3 := Lib.hid C3
  clear K1 K2 K3 C hxl hyl hzl htl hr
  rcases hvt with ⟨rfl, rfl⟩ | ⟨rfl, rfl⟩
  all_goals
    go_wp2_with fail
    go_region_held3 (fun w' => Below w4.heap.size w4 w' ∧ w'.cell? ⟨w.heap.size, 0, none⟩ = some (.int .i64 id) ∧ w'.cell? ⟨w.heap.size, 1, none⟩ = some (.string (S c))) (first | assumption | exact ⟨Below.refl _ _, d0, d1⟩ | exact ⟨(Below.refl _ _).drew, d0, d1⟩ | exact keepD (by assumption) hb') (first | ((with_reducible refine (X1.out _).mono ?_); rintro e w' ⟨rfl, hb'⟩) | ((with_reducible refine (X2.out _).mono ?_); rintro e w' ⟨rfl, hb'⟩) | ((with_reducible refine (X3.out _).mono ?_); rintro e w' ⟨rfl, hb'⟩) | ((with_reducible refine (C1.out _ (by first | assumption | exact (‹Below w4.heap.size w4 _ ∧ _›).1)).mono ?_); rintro e w' ⟨rfl, hb'⟩) | ((with_reducible refine (C2.out _ (by first | assumption | exact (‹Below w4.heap.size w4 _ ∧ _›).1)).mono ?_); rintro e w' ⟨rfl, hb'⟩) | ((with_reducible refine (C3.out _ (by first | assumption | exact (‹Below w4.heap.size w4 _ ∧ _›).1)).mono ?_); rintro e w' ⟨rfl, hb'⟩))
    all_goals
      go_wp2_with fail
      go_ret
      exact ⟨rfl, below_then Hb4.out (by first | assumption | exact (‹Below w4.heap.size w4 _ ∧ _›).1)⟩
theorem chapRight_any (n s : List UInt8) (d : Dw) (bt fi : Int) (w : World) (hn : n.length ≤ 140737488351232) (hs : s.length ≤ 140737488351232) (hd : (Lit.int .i64 d.id).wf = true ∧ d.ch.length ≤ 140737488351232) (hbt : (Lit.int .u32 bt).wf = true) (hfi : (Lit.int .i64 fi).wf = true) (ht : MdTabs w) (hg : ErrCell w) :
    Calls Tryd.prog 3 #[.string (S n), .string (S s), .agg #[.int .i64 d.id, .string (S d.ch)], .int .u32 bt, .int .i64 fi] w fun e w' => e = .returned (.bool true) ∧ Below w.heap.size w w' := by
  obtain ⟨bt, rfl, hbl⟩ := wf_u32 hbt
  obtain ⟨id, c⟩ := d
  simp only at hd ⊢
  by_cases h : (300 : Int) < (n.length : Int) + (s.length : Int) + (c.length : Int)
  · exact chapRight_wide n s c id bt fi w hn hs hd.2 ht hg h
  · rcases respL_ways id s c with ⟨e, _⟩ | ⟨e, _⟩ | ⟨r, e, hr, _⟩
    · exact chapRight_bad n s c id bt fi 2 w hn hs hd.2 ht hg h e (by decide)
    · exact chapRight_bad n s c id bt fi 4 w hn hs hd.2 ht hg h e (by decide)
    · have hf := find_two n s 120 120
      obtain ⟨t, htn⟩ : ∃ t, tn r (pickI fi 100) bt 32 = t := ⟨_, rfl⟩
      have htl : t.length = 16 := by rw [← htn, tn_len, hr]
      have hx := hexL_len r
      have hy := b64L_len r
      have hz := hexL_len t
      have k1 : chkL [⟨n ++ [120], s ++ [120]⟩, ⟨n, s⟩] n (hexL r) id c = 0 := by
        rw [chkL_of _ _ _ r id c _ 0 (-1) hf (readV_hexL r)]
        show chkR (r, 0) (respL id s c) = 0
        rw [e]; exact chkR_same r
      have k2 : chkL [⟨n ++ [120], s ++ [120]⟩, ⟨n, s⟩] n (b64L r) id c = 0 := by
        rw [chkL_of _ _ _ r id c _ 0 (-1) hf (readV_b64L r)]
        show chkR (r, 0) (respL id s c) = 0
        rw [e]; exact chkR_same r
      have k3 : chkL [⟨n ++ [120], s ++ [120]⟩, ⟨n, s⟩] n (hexL t) id c = chkR (t, 0) (r, 0) := by
        rw [chkL_of _ _ _ t id c _ 0 (-1) hf (readV_hexL t)]
        show chkR (t, 0) (respL id s c) = _
        rw [e]
      refine chapRight_good n s c r t _ _ _ id fi bt _ _ _ w ht hg h e (by omega) rfl hbl (pickI_lt fi 100 (by decide)) htn rfl rfl rfl (by omega) (by omega) (by omega) rfl ?_ k1 k2 rfl htl
      rw [k3]
      by_cases ht : t = r
      · exact .inl ⟨by rw [ht]; simp, by rw [ht, chkR_same]; rfl⟩
      · exact .inr ⟨beq_eq_false_iff_ne.2 ht, by rw [chkR_other t r ht]; rfl⟩
end Go.Proofs.YtoponmdfjbhnoaaDoor
