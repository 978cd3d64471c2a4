/- pdu.read. -/
import Derived.Test.YtlkikkfbennmnaaGreatDoorPduEnds
import Derived.Test.YtlkikkfbennmnaaGreatDoorPduV
import Derived.Test.YtlkikkfbennmnaaGreatDoorPduBare
import Derived.Test.YtlkikkfbennmnaaGreatDoorGD
import Derived.Test.YtlkikkfbennmnaaGreatDoorGE
namespace Go.Proofs.YtlkikkfbennmnaaGreatDoor
open Go.RowKit
set_option linter.unusedVariables false
def RetPE (w : World) (r : Pd × Int) (e : Ending) (w' : World) : Prop := ∃ vv va ev, e = .returned (.tuple #[pduV r.1 vv va, ev]) ∧ PduAt w' r.1 vv va ∧ Bare1 ev r.2 ∧ Below w.heap.size w w'
theorem unpE_3 {l : List UInt8} {n : Int} (h0 : 0 ≤ n) (hl : n.toNat + pad n.toNat ≤ l.length) (h : unpE l n ≠ 0) : unpE l n = 3 := by
  unfold unpE at h ⊢
  rw [if_neg (by omega), if_neg (by omega)] at h ⊢
  split
  · rename_i hz; rw [if_pos hz] at h; exact absurd rfl h
  · rfl
theorem keep1c {W w w' : World} {a : Addr} {x : Value} (h : Below W.heap.size W w ∧ w.cell? a = some x) (hb : Below w.heap.size w w') : Below W.heap.size W w' ∧ w'.cell? a = some x :=
  ⟨below_then h.1 hb, (hb.cell (p := a) (block_lt_of_cell h.2)).trans h.2⟩
theorem keep2c {W w w' : World} {a b : Addr} {x y : Value} (h : Below W.heap.size W w ∧ w.cell? a = some x ∧ w.cell? b = some y) (hb : Below w.heap.size w w') :
    Below W.heap.size W w' ∧ w'.cell? a = some x ∧ w'.cell? b = some y := by
  obtain ⟨h0, h1, h2⟩ := h
  have k : ∀ {a : Addr} {x : Value}, w.cell? a = some x → w'.cell? a = some x := fun {a x} hx => (hb.cell (p := a) (block_lt_of_cell hx)).trans hx
  exact ⟨below_then h0 hb, k h1, k h2⟩
set_option maxRecDepth 100000 in
set_option maxHeartbeats 1000000 in
theorem readB_any (s : List UInt8) (m : Nat) (w : World) (hm : m ≤ 3) (h48 : 48 ≤ s.length) (hs : s.length = ea s m) (hc : MaxCell w) (hg : ErrCell w) :
    Calls Tryz.prog 69 #[.string (S s), .int .i64 (m : Int)] w (RetPE w (readB s m)) := by
  have hlen := ea_le s m
  obtain ⟨L1, L2, L3, L4, L5, L6⟩ := ends_le s m
  have hyd := readD_lt s
  have E := fun w => Lib.hid (endsOf_any s m w hm h48)
  have C1 : ∀ W, Calls Tryz.prog 50 #[.string (S (s.take (eh s))), .int .i64 (m : Int), .int .i64 1] W fun e w' => e = .returned (.string (S (dig m 1 (s.take (eh s))))) ∧ Below W.heap.size W w' := fun W => digest_dig _ m 1 W (by rw [List.length_take]; omega) hm (.inl rfl)
  have C2 := fun W hc => read_any (s.take 48) W (by rw [List.length_take]; omega) hc
  have C3 := fun W hg => read_ahs ((s.drop 48).take (eh s - 48)) W hg (by rw [List.length_take, List.length_drop]; omega)
  have C6 : ∀ W, Calls Tryz.prog 50 #[.string (S ((s.drop (eg s m)).take (ed s m - eg s m))), .int .i64 (m : Int), .int .i64 2] W fun e w' => e = .returned (.string (S (dig m 2 ((s.drop (eg s m)).take (ed s m - eg s m))))) ∧ Below W.heap.size W w' := fun W => digest_dig _ m 2 W (by rw [List.length_take, List.length_drop]; omega) hm (.inr rfl)
  have hDl : ((s.drop (eg s m)).take (ed s m - eg s m)).length = readD s + pad (readD s) := by
    rw [List.length_take, List.length_drop]
    have : ed s m = eg s m + readD s + pad (readD s) := rfl
    omega
  have C5 := fun W => unpad_all ((s.drop (eg s m)).take (ed s m - eg s m)) (readD s : Nat) W (by rw [hDl]; have := pad_le (readD s); omega)
  have hu3 : unpE ((s.drop (eg s m)).take (ed s m - eg s m)) (readD s : Nat) ≠ 0 → unpE ((s.drop (eg s m)).take (ed s m - eg s m)) (readD s : Nat) = 3 := unpE_3 (by omega) (by rw [hDl]; simp)
  have huS : unpE ((s.drop (eg s m)).take (ed s m - eg s m)) (readD s : Nat) = 0 → unpS ((s.drop (eg s m)).take (ed s m - eg s m)) (readD s : Nat) = ((s.drop (eg s m)).take (ed s m - eg s m)).take (readD s) := fun h => by unfold unpS; rw [if_pos h]; rfl
  have hR48 : (readR (s.take 48)).2.2.2 = 0 → readR (s.take 48) = ((readR (s.take 48)).1, readW s, readD s, 0) := fun h => by
    obtain ⟨_, hh, e, _⟩ := readR_is0 h
    rw [readW_take (by decide), readD_take (by decide)] at e
    rw [e]
  obtain ⟨R, hR⟩ : ∃ R, readB s m = R := ⟨_, rfl⟩
  rw [hR]
  unfold readB cutB at hR
  have k1 : s.length ≤ 16778300 := by omega
  generalize hTk : ((s.drop (eg s m)).take (ed s m - eg s m)).take (readD s) = Tk at *
  have hTkl : Tk.length = readD s := by rw [← hTk, List.length_take, hDl]; omega
  generalize unpE ((s.drop (eg s m)).take (ed s m - eg s m)) (readD s : Nat) = u at *
  generalize unpS ((s.drop (eg s m)).take (ed s m - eg s m)) (readD s : Nat) = uS at *
  generalize unpK ((s.drop (eg s m)).take (ed s m - eg s m)) (readD s : Nat) = uK at *
  generalize dig m 1 (s.take (eh s)) = dg1 at *
  generalize dig m 2 ((s.drop (eg s m)).take (ed s m - eg s m)) = dg2 at *
  generalize readR (s.take 48) = r48 at *
  generalize readA ((s.drop 48).take (eh s - 48)) = rA at *
  have hx1 : (s.drop (eh s)).take (eg s m - eh s) = (s.drop (eh s)).take (eg s m - eh s) := rfl
  generalize hX1 : (s.drop (eh s)).take (eg s m - eh s) = X1 at hR
  generalize hX2 : (s.drop (eg s m)).take (ed s m - eg s m) = D at C5 C6
  generalize hX3 : s.drop (ed s m) = TL at hR
  generalize readD s = y at *
  generalize readW s = x at *
  rw [← hs] at L5 E
  generalize ed s m = e3 at *
  generalize eg s m = e2 at *
  generalize eh s = e1 at *
  obtain ⟨⟨op, now, fl, vs⟩, x0, y0, n1⟩ := r48
  obtain ⟨al, n2, p2⟩ := rA
  simp only at *
  have E' := E
  clear E hs hx1 hTk hDl
  have hX3' : List.take (s.length - e3) TL = TL := by rw [← hX3]; exact List.take_of_length_le (by simp)
  have HX1 := Lib.hid hX1
  have i12 : (e1 : Int) ≤ (e2 : Int) := by omega
  have i23 : (e2 : Int) ≤ (e3 : Int) := by omega
  have i3s : (e3 : Int) ≤ (s.length : Int) := by omega
  have i2s : (e2 : Int) ≤ (s.length : Int) := by omega
  have i1s : (e1 : Int) ≤ (s.length : Int) := by omega
  have i48 : (48 : Int) ≤ (e1 : Int) := by omega
  have i48s : (48 : Int) ≤ (s.length : Int) := by omega
  have HR := Lib.hid hR
  have HC1 := Lib.hid C1
  have HC2 := Lib.hid C2
  have HC3 := Lib.hid C3
  have HC5 := Lib.hid C5
  have HC6 := Lib.hid C6
  have Hu3 := Lib.hid hu3
  have HuS := Lib.hid huS
  have HR48 := Lib.hid hR48
  have Hc := Lib.hid hc
  have Hg := Lib.hid hg
  have Hm := Lib.hid hm
  clear hR C1 C2 C3 C5 C6 hu3 huS hR48 hc hg hm
  go_enter Tryz.func69, Tryz.ntmps69
  go_wp2_with fail
  refine (E' _).out.mono ?_
  rintro e w1 ⟨rfl, hb1⟩
  have hb0 := (Below.refl w.heap.size w).alloc (Nat.le_refl _) (.cells #[.int .i64 0, .bool false, .int .i64 0, .slice none 0 0, .slice none 0 0, .string (S [])] 45)
  have hk1 := (Blk.new w #[.int .i64 0, .bool false, .int .i64 0, .slice none 0 0, .slice none 0 0, .string (S [])] 45).later hb1
  have hb1' := below_then hb0 hb1
  have hb2 := hb1'.alloc hb1'.size (.cells #[.int .i64 (e1 : Int), .int .i64 (e2 : Int), .int .i64 (e3 : Int), .int .i64 (s.length : Int)] 194)
  have hk2 := hk1.alloc (.cells #[.int .i64 (e1 : Int), .int .i64 (e2 : Int), .int .i64 (e3 : Int), .int .i64 (s.length : Int)] 194)
  have he2 := Blk.new w1 #[.int .i64 (e1 : Int), .int .i64 (e2 : Int), .int .i64 (e3 : Int), .int .i64 (s.length : Int)] 194
  have hlt1 := hk1.lt
  clear hb0 hk1 hb1 hb1'
  go_wp2_with fail
  generalize w1.alloc (.cells #[.int .i64 (e1 : Int), .int .i64 (e2 : Int), .int .i64 (e3 : Int), .int .i64 (s.length : Int)] 194) = W2 at hb2 hk2 he2 ⊢
  obtain ⟨B, hB⟩ : ∃ B, w1.heap.size = B := ⟨_, rfl⟩
  simp only [hB] at he2 hlt1 ⊢
  obtain ⟨q0, q1, q2, q3⟩ := he2.four
  have HKr := Lib.hid hk2
  have HKe := Lib.hid he2
  have Hlow := Lib.hid hb2
  clear hb2 hk2 he2 hB
  go_region_held3 (fun w' => Below W2.heap.size W2 w' ∧ w'.cell? ⟨B, 0, none⟩ = some (.int .i64 (e1 : Int)) ∧ w'.cell? ⟨B, 1, none⟩ = some (.int .i64 (e2 : Int)))
    (first | assumption | exact ⟨Below.refl _ _, q0, q1⟩ | exact ⟨(Below.refl _ _).drew, q0, q1⟩ | exact keep2c (by assumption) hb')
    (first | ((with_reducible refine (HC1.out _).mono ?_); rintro e w' ⟨rfl, hb'⟩))
  have hlow3 := (‹Below W2.heap.size W2 w' ∧ _›).1
  have HKr3 := Lib.hid (HKr.out.later hlow3)
  have HKe3 := Lib.hid (HKe.out.later hlow3)
  have Hlow3 := Lib.hid (below_then Hlow.out hlow3)
  clear q0 q1 q2 q3 HKr HKe Hlow hlow3 HC1 E'
  rename_i hHeld
  clear hHeld hb'
  by_cases c1 : dg1 = X1
  · have c1b : (!dg1 == X1) = false := by simp [c1]
    have hRR := HR.out
    rw [if_neg (by simp [c1])] at hRR
    have HR1 := Lib.hid hRR
    have H2 := Lib.hid (HC2.out w' (Hc.out.later Hlow3.out))
    clear c1 hRR HR HC2
    rw [c1b]
    go_wp2_with fail
    refine H2.out.mono ?_
    rintro e w4 ⟨vv, ev1, rfl, hvv, hE1, hb4⟩
    obtain ⟨pv, cv, rfl⟩ : ∃ p c, vv = .slice p vs.length c := by obtain ⟨p, c, h, _⟩ := hvv; exact ⟨p, c, h⟩
    have hbn := (Below.refl w4.heap.size w4).alloc (Nat.le_refl _) (.cells #[.int .i64 op, .bool now, .int .i64 fl, .slice pv vs.length cv] 42)
    have hb5 := below_then hb4 hbn
    have HKr5 := Lib.hid (HKr3.out.later hb5)
    have HKe5 := Lib.hid (HKe3.out.later hb5)
    have Hlow5 := Lib.hid (below_then Hlow3.out hb5)
    have HV5 := Lib.hid (hvv.later hbn)
    have HH5 := Lib.hid (Blk.new w4 #[.int .i64 op, .bool now, .int .i64 fl, .slice pv vs.length cv] 42)
    have HE5 := Lib.hid (hE1.later hbn)
    have H3 := Lib.hid (HC3.out _ (Hg.out.later Hlow5.out))
    have hz4 : B < w4.heap.size := by have := HKe3.out.lt; have := hb4.size; omega
    obtain ⟨q0, q1, q2, q3⟩ := HKe5.out.four
    clear hvv hE1 hb4 hbn hb5 H2 HKr3 HKe3 Hlow3 HC3
    unfold headV
    simp only
    go_wp2_with fail
    refine H3.out.mono ?_
    rintro e w6 ⟨va, ev2, rfl, hva, hE2, hb6⟩
    obtain ⟨pa, ca, rfl⟩ := hva.form
    have HKr6 := Lib.hid (HKr5.out.later hb6)
    have HKe6 := Lib.hid (HKe5.out.later hb6)
    have Hlow6 := Lib.hid (below_then Hlow5.out hb6)
    have HV6 := Lib.hid (HV5.out.later hb6)
    have HH6 := Lib.hid (HH5.out.later hb6)
    have HE1 := Lib.hid (HE5.out.later hb6)
    have HE2 := Lib.hid hE2
    have HA6 := Lib.hid hva
    have H4 := Lib.hid (bare2_any w6 HE1.out hE2 (Hg.out.later Hlow6.out))
    clear hva hE2 hb6 H3 HKr5 HKe5 Hlow5 HV5 HH5 HE5 q0 q1 q2 q3
    by_cases z3 : fstE n1 n2 = 0
    · have z1 : n1 = 0 := by
        unfold fstE at z3
        by_cases h : n1 = 0
        · exact h
        · rw [if_pos h] at z3; exact z3
      have z2 : n2 = 0 := by
        unfold fstE at z3
        rw [if_neg (by simp [z1])] at z3; exact z3
      subst z1 z2
      obtain rfl := HE1.out.zero
      obtain rfl := HE2.out.zero
      have hr48 := HR48.out rfl
      simp only [Prod.mk.injEq, true_and] at hr48
      obtain ⟨rfl, rfl, _⟩ := hr48
      go_wp2_with fail
      refine H4.out.mono ?_
      rintro e w7 ⟨ev3, rfl, hE3, hb7⟩
      have HKr7 := Lib.hid (HKr6.out.later hb7)
      have HKe7 := Lib.hid (HKe6.out.later hb7)
      have Hlow7 := Lib.hid (below_then Hlow6.out hb7)
      have HV7 := Lib.hid (HV6.out.later hb7)
      have HH7 := Lib.hid (HH6.out.later hb7)
      have HA7 := Lib.hid (HA6.out.later hb7)
      have HE3 := Lib.hid hE3
      clear hE3 hb7 H4 HKr6 HKe6 Hlow6 HV6 HH6 HA6
      have hE3' := HE3.out
      rw [z3] at hE3'
      obtain rfl := hE3'.zero
      have hRR := HR1.out
      rw [if_neg (by decide), if_neg (by decide)] at hRR
      obtain ⟨q0, q1, q2, q3⟩ := HKe7.out.four
      have HR2 := Lib.hid hRR
      clear hRR HR1 hE3' HE3 HE1 HE2 z3 HR48
      go_wp2_with fail
      refine (HC5.out _).mono ?_
      rintro e w8 ⟨rfl, hb8⟩
      have HKr8 := Lib.hid (HKr7.out.later hb8)
      have HKe8 := Lib.hid (HKe7.out.later hb8)
      have Hlow8 := Lib.hid (below_then Hlow7.out hb8)
      have HV8 := Lib.hid (HV7.out.later hb8)
      have HH8 := Lib.hid (HH7.out.later hb8)
      have HA8 := Lib.hid (HA7.out.later hb8)
      clear hb8 HKr7 HKe7 Hlow7 HV7 HH7 HA7 q0 q1 q2 q3 HC5
      by_cases c4 : u = 0
      · have hS := HuS.out c4
        subst c4
        have hRR := HR2.out
        rw [if_neg (by decide)] at hRR
        subst hS
        obtain ⟨q0, q1, q2, q3⟩ := HKe8.out.four
        have HR3 := Lib.hid hRR
        rw [errV_0]
        clear hRR HR2 Hu3 HuS
        go_wp2_with fail
        go_region_held3 (fun w' => Below w8.heap.size w8 w' ∧ w'.cell? ⟨B, 2, none⟩ = some (.int .i64 (e3 : Int)))
          (first | assumption | exact ⟨Below.refl _ _, q2⟩ | exact ⟨(Below.refl _ _).drew, q2⟩ | exact keep1c (by assumption) hb')
          (first | ((with_reducible refine (HC6.out _).mono ?_); rintro e w' ⟨rfl, hb'⟩))
        rename_i hHeld
        have hlow9 := hHeld.1
        have HKr9 := Lib.hid (HKr8.out.later hlow9)
        have Hlow9 := Lib.hid (below_then Hlow8.out hlow9)
        have HV9 := Lib.hid (HV8.out.later hlow9)
        have HH9 := Lib.hid (HH8.out.later hlow9)
        have HA9 := Lib.hid (HA8.out.later hlow9)
        clear q0 q1 q2 q3 hHeld hb' hlow9 HKr8 Hlow8 HV8 HH8 HA8 HKe8 HC6
        by_cases c5 : dg2 = TL
        · have c5b : (!dg2 == TL) = false := by simp [c5]
          have hRR := HR3.out
          rw [if_neg (by simp [c5])] at hRR
          rw [c5b]
          by_cases c6 : 100000 < y0
          · rw [if_pos c6] at hRR
            have c6I : (100000 : Int) < (y0 : Int) := by omega
            clear HR3 c5 c6
            subst hRR
            obtain ⟨p0, p1, p2', p3, p4, p5⟩ := HKr9.out.six
            have f0 := HKr9.out.frozen 0
            have f1 := HKr9.out.frozen 1
            have f2 := HKr9.out.frozen 2
            have f3 := HKr9.out.frozen 3
            have f4 := HKr9.out.frozen 4
            have f5 := HKr9.out.frozen 5
            go_wp2_with fail
            refine bodyPost_ret (v := .tuple #[pduV pd0 (.slice none 0 0) (.slice none 0 0), .iface 51 (.int .i64 4)]) (by simp [results, Tryz.results69, go_sem, pduV, pd0, hd0, p0, p1, p2', p3, p4, p5]) rfl ⟨_, _, _, rfl, pdu0_at _, .inr ⟨by decide, rfl⟩, ?_⟩
            exact (six_stored _ _ _ _ _ _ HKr9.out (Nat.le_refl _) Hlow9.out).2
          · rw [if_neg c6] at hRR
            have c6I : (y0 : Int) ≤ 100000 := by omega
            clear HR3 c5 c6
            subst hRR
            obtain ⟨q0, q1, q2, q3⟩ := HH9.out.four
            obtain ⟨p0, p1, p2', p3, p4, p5⟩ := HKr9.out.six
            have f0 := HKr9.out.frozen 0
            have f1 := HKr9.out.frozen 1
            have f2 := HKr9.out.frozen 2
            have f3 := HKr9.out.frozen 3
            have f4 := HKr9.out.frozen 4
            have f5 := HKr9.out.frozen 5
            go_wp2_with fail
            have hst := six_stored (.int .i64 op) (.bool now) (.int .i64 fl) (.slice pv vs.length cv) (.slice pa al.length ca) (.string (S uS)) HKr9.out (Nat.le_refl _) Hlow9.out
            refine bodyPost_ret (v := .tuple #[pduV ⟨⟨op, now, fl, vs⟩, al, uS⟩ (.slice pv vs.length cv) (.slice pa al.length ca), .nilIface]) (by simp [results, Tryz.results69, go_sem, pduV, p0, p1, p2', p3, p4, p5]) rfl ⟨_, _, _, rfl, ?_, .inl ⟨rfl, rfl⟩, hst.2⟩
            exact PduAt.set6 ⟨HV9.out, HA9.out⟩ HKr9.out _ _ _ _ _ _
        · have c5b : (!dg2 == TL) = true := by simp [c5]
          have hRR := HR3.out
          rw [if_pos c5] at hRR
          rw [c5b]
          clear HR3 c5
          subst hRR
          obtain ⟨p0, p1, p2', p3, p4, p5⟩ := HKr9.out.six
          have f0 := HKr9.out.frozen 0
          have f1 := HKr9.out.frozen 1
          have f2 := HKr9.out.frozen 2
          have f3 := HKr9.out.frozen 3
          have f4 := HKr9.out.frozen 4
          have f5 := HKr9.out.frozen 5
          go_wp2_with fail
          refine bodyPost_ret (v := .tuple #[pduV pd0 (.slice none 0 0) (.slice none 0 0), .iface 51 (.int .i64 13)]) (by simp [results, Tryz.results69, go_sem, pduV, pd0, hd0, p0, p1, p2', p3, p4, p5]) rfl ⟨_, _, _, rfl, pdu0_at _, .inr ⟨by decide, rfl⟩, ?_⟩
          exact (six_stored _ _ _ _ _ _ HKr9.out (Nat.le_refl _) Hlow9.out).2
      · have h3 := Hu3.out c4
        subst h3
        have hRR := HR2.out
        rw [if_pos (by decide)] at hRR
        rw [errV_pos 3 (by decide)]
        clear HR2
        subst hRR
        obtain ⟨p0, p1, p2', p3, p4, p5⟩ := HKr8.out.six
        have f0 := HKr8.out.frozen 0
        have f1 := HKr8.out.frozen 1
        have f2 := HKr8.out.frozen 2
        have f3 := HKr8.out.frozen 3
        have f4 := HKr8.out.frozen 4
        have f5 := HKr8.out.frozen 5
        go_wp2_with fail
        refine bodyPost_ret (v := .tuple #[pduV pd0 (.slice none 0 0) (.slice none 0 0), .iface 51 (.int .i64 3)]) (by simp [results, Tryz.results69, go_sem, pduV, pd0, hd0, p0, p1, p2', p3, p4, p5]) rfl ⟨_, _, _, rfl, pdu0_at _, .inr ⟨by decide, rfl⟩, ?_⟩
        exact (six_stored _ _ _ _ _ _ HKr8.out (Nat.le_refl _) Hlow8.out).2
    · have hRR := HR1.out
      have hRR' : R = (pd0, fstE n1 n2) := by
        rw [← hRR]
        exact fst_first n1 n2 (fun n => (pd0, n)) _ z3
      subst hRR'
      obtain ⟨p0, p1, p2', p3, p4, p5⟩ := HKr6.out.six
      have Z3 := Lib.hid z3
      clear p0 p1 p2' p3 p4 p5 hRR HR1 z3
      have hsh : (ev1 = .nilIface ∨ ∃ t x, ev1 = .iface t x) ∧ (ev2 = .nilIface ∨ ∃ t x, ev2 = .iface t x) := ⟨HE1.out.shape, HE2.out.shape⟩
      obtain ⟨rfl | ⟨t1, x1, rfl⟩, rfl | ⟨t2, x2, rfl⟩⟩ := hsh
      all_goals
        go_wp2_with fail
        refine H4.out.mono ?_
        rintro e w7 ⟨ev3, rfl, hE3, hb7⟩
        have HKr7 := Lib.hid (HKr6.out.later hb7)
        have HKe7 := Lib.hid (HKe6.out.later hb7)
        have Hlow7 := Lib.hid (below_then Hlow6.out hb7)
        have HV7 := Lib.hid (HV6.out.later hb7)
        have HH7 := Lib.hid (HH6.out.later hb7)
        have HA7 := Lib.hid (HA6.out.later hb7)
        have HE3 := Lib.hid hE3
        clear hE3 hb7 H4 HKr6 HKe6 Hlow6 HV6 HH6 HA6
        obtain rfl := HE3.out.iface Z3.out
        obtain ⟨p0, p1, p2', p3, p4, p5⟩ := HKr7.out.six
        have f0 := HKr7.out.frozen 0
        have f1 := HKr7.out.frozen 1
        have f2 := HKr7.out.frozen 2
        have f3 := HKr7.out.frozen 3
        have f4 := HKr7.out.frozen 4
        have f5 := HKr7.out.frozen 5
        go_wp2_with fail
        have hst := six_stored (.int .i64 0) (.bool false) (.int .i64 0) (.slice none 0 0) (.slice none 0 0) (.string (S [])) HKr7.out (Nat.le_refl _) Hlow7.out
        refine bodyPost_ret (v := .tuple #[pduV pd0 (.slice none 0 0) (.slice none 0 0), .iface 51 (.int .i64 (fstE n1 n2))]) (by simp [results, Tryz.results69, go_sem, pduV, pd0, hd0, p0, p1, p2', p3, p4, p5]) rfl ⟨_, _, _, rfl, pdu0_at _, ?_, hst.2⟩
        exact HE3.out
  · have c1b : (!dg1 == X1) = true := by simp [c1]
    have hRR := HR.out
    rw [if_pos c1] at hRR
    rw [c1b]
    subst hRR
    obtain ⟨p0, p1, p2', p3, p4, p5⟩ := HKr3.out.six
    have f0 := HKr3.out.frozen 0
    have f1 := HKr3.out.frozen 1
    have f2 := HKr3.out.frozen 2
    have f3 := HKr3.out.frozen 3
    have f4 := HKr3.out.frozen 4
    have f5 := HKr3.out.frozen 5
    go_wp2_with fail
    refine bodyPost_ret (v := .tuple #[pduV pd0 (.slice none 0 0) (.slice none 0 0), .iface 51 (.int .i64 15)]) (by simp [results, Tryz.results69, go_sem, pduV, pd0, hd0, p0, p1, p2', p3, p4, p5]) rfl ⟨_, _, _, rfl, pdu0_at _, .inr ⟨by decide, rfl⟩, ?_⟩
    exact (six_stored _ _ _ _ _ _ HKr3.out (Nat.le_refl _) Hlow3.out).2
end Go.Proofs.YtlkikkfbennmnaaGreatDoor
