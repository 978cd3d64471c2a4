/- FeedLimit: a PDU with as much data as may come comes; with a byte more it is the end. -/
import Derived.Test.YtlkikkfbennmnaaGreatDoorFeedTwo
import Derived.Test.YtlkikkfbennmnaaGreatDoorShRep
namespace Go.Proofs.YtlkikkfbennmnaaGreatDoor
open Go.RowKit
set_option linter.unusedVariables false
theorem repeatL_d (c : Nat) : Lib.repeatL [100] c = List.replicate c 100 := by
  induction c with
  | zero => rfl
  | succ c ih => show [100] ++ Lib.repeatL [100] c = _; rw [ih]; rfl
theorem repeat_d (c : Nat) (w : World) (h : c ≤ 4294967280) : Calls Tryz.prog 31 #[.string (S [100]), .int .i64 (c : Int)] w fun e w' => e = .returned (.string (S (List.replicate c 100))) ∧ Below w.heap.size w w' := by
  refine (Tryz.strings_Repeat (S [100]) c w (by omega) (by rw [S_size]; simp; omega)).mono ?_
  rintro e w' ⟨rfl, hb⟩
  rw [show (S [100]).data.toList = [100] from rfl, repeatL_d]
  exact ⟨rfl, hb⟩
def pdL (n : Nat) : Pd := ⟨nopH, [], List.replicate n 100⟩
theorem pdL_right (n : Nat) (h : n ≤ 100000) : RightP (pdL n) := ⟨nop_right, fun a h => absurd h List.not_mem_nil, Nat.zero_le _, rfl, by show (List.replicate n (100 : UInt8)).length ≤ 100000; rw [List.length_replicate]; exact h⟩
theorem limit_next (lim n : Nat) (hn : n ≤ 100000) (hl : lim ≤ 100000) : nextF ⟨lim, 0, bytesP (pdL n) 0, false⟩ = if lim < n then ((pc0, false, 4), ⟨lim, 0, [], true⟩) else ((pcOf (pdL n), true, 0), ⟨lim, 0, [], false⟩) := by
  have R := pdL_right n hn
  have E := endsP0 R 0
  have hg := bytesP_ge R 0
  have hd : (pdL n).d.length = n := List.length_replicate
  by_cases h : lim < n
  · rw [if_pos h]
    exact next_limit (F := ⟨lim, 0, bytesP (pdL n) 0, false⟩) (by simp only; omega) (by simp only; rw [E.d, hd]; exact h)
  · rw [if_neg h]
    exact next_bytes (F := ⟨lim, 0, bytesP (pdL n) 0, false⟩) ⟨hl, Nat.zero_le 3⟩ (rightP_mk R) (by rw [hd]; simp only; omega) (t := []) (by simp)
set_option maxRecDepth 100000 in
set_option maxHeartbeats 2000000 in
theorem feedLimit_any (a : Int) (over : Bool) (w : World) (_ha : (Lit.int .i64 a).wf = true) (hg : ErrCell w) (hm : MaxCell w) :
    Calls Tryz.prog 8 #[.int .i64 a, .bool over] w fun e w' => e = .returned (.bool true) ∧ Below w.heap.size w w' := by
  have M := Lib.hid (fed_any w hm hg)
  have Wd := Lib.hid (fun W (h : Below w.heap.size w W) => wrapped_any W (hm.later h) (hg.later h))
  have K : ∀ W, Hid (Calls Tryz.prog 11 #[.int .i64 a, .int .i64 600] W fun e w' => e = .returned (.int .i64 (pickI a 600 : Nat)) ∧ W = w') := fun W => Lib.hid (pick_any a 600 W (by decide) (by decide))
  have hlt := pickI_lt a 600 (by decide)
  generalize pickI a 600 = lim at K hlt
  have N := fun W => Lib.hid (new_ok lim W (by omega))
  obtain ⟨n, hn, hov⟩ : ∃ n : Nat, n ≤ 600 ∧ (n : Int) = if over = true then (lim : Int) + 1 else lim := by
    cases over with
    | true => exact ⟨lim + 1, by omega, by simp⟩
    | false => exact ⟨lim, by omega, by simp⟩
  have Rp := fun W => Lib.hid (repeat_d n W (by omega))
  have RP := pdL_right n (by omega)
  have hW : writeP (pdL n) 0 = (bytesP (pdL n) 0, 0) := by unfold writeP; rw [if_neg (by decide), if_neg (by simp [rightP_mk RP])]; rfl
  have Wr := fun vv va W (h : PduAt W (pdL n) vv va) hc hg => Lib.hid (writeP_any (pdL n) vv va 0 W (by unfold I64; decide) h RP.fit hc hg)
  rw [hW] at Wr
  have hln := bytesP_ge RP 0
  have hdl : (pdL n).d.length = n := List.length_replicate
  have hnx := limit_next lim n (by omega) (by omega)
  rw [hdl] at hln
  generalize hs : bytesP (pdL n) 0 = s at *
  have Hln := Lib.hid (show s.length ≤ 2000 by omega)
  have hiff : (over = true ∧ lim < n) ∨ (over = false ∧ ¬ lim < n) := by
    cases over with
    | true => simp at hov; exact .inl ⟨rfl, by omega⟩
    | false => simp at hov; exact .inr ⟨rfl, by omega⟩
  have hnI : (n : Int) ≤ 600 := by omega
  have hlI : (lim : Int) ≤ 600 := by omega
  have HN := Lib.hid hnx
  have Hm := Lib.hid hm
  have Hg := Lib.hid hg
  unfold pduV at Wr
  clear hm hg hlt hn RP hW hln hs hnx
  rcases hiff with ⟨rfl, ho⟩ | ⟨rfl, ho⟩
  · rw [if_pos rfl] at hov
    rw [hov] at Rp
    have HN' := Lib.hid (HN.out.trans (if_pos ho))
    have Hdl := Lib.hid hdl
    clear ho HN hov hdl
    go_enter Tryz.func8, Tryz.ntmps8
    go_wp2_with fail
    refine M.out.mono ?_
    rintro e w1 ⟨rfl, hb1⟩
    have Hb1 := Lib.hid hb1
    clear hb1 M
    go_wp2_with fail
    refine (Wd.out _ Hb1.out).mono ?_
    rintro e w2 ⟨rfl, hb⟩
    have Hb2 := Lib.hid (below_then Hb1.out hb)
    clear hb Hb1 Wd
    go_wp2_with fail
    refine (K _).out.mono ?_
    rintro e w3 ⟨rfl, rfl⟩
    go_wp2_with fail
    refine (nop_any _).mono ?_
    rintro e w3 ⟨v1, rfl, hv1, hb⟩
    obtain ⟨p1, c1, rfl⟩ := hv1.form
    have Hb3 := Lib.hid (below_then Hb2.out hb)
    have Hv3 := Lib.hid hv1
    clear hb hv1 Hb2 K
    unfold headV
    unfold nopH at Hv3 ⊢
    simp only [List.length_cons, List.length_nil, Nat.zero_add, Nat.reduceAdd] at Hv3 ⊢
    go_wp2_with fail
    refine (Rp _).out.mono ?_
    rintro e w4 ⟨rfl, hb⟩
    have Hb4 := Lib.hid (below_then Hb3.out hb)
    have W4 := Wr _ _ _ ⟨Hv3.out.later hb, AhsV.nil _⟩ (Hm.out.later Hb4.out) (Hg.out.later Hb4.out)
    unfold pdL nopH at W4
    simp only at W4
    clear hb Hb3 Hv3 Rp Wr
    go_wp2_with fail
    refine W4.out.mono ?_
    rintro e w5 ⟨ev, rfl, he, hb⟩
    obtain rfl := he.zero
    have Hb5 := Lib.hid (below_then Hb4.out hb)
    clear he hb W4 Hb4
    go_wp2_with fail
    refine (N _).out.mono ?_
    rintro e w6 ⟨fb, H, rfl, hF, hb⟩
    have HF6 := Lib.hid (hF.mono Hb5.out.size)
    have Hb6 := Lib.hid (below_then Hb5.out hb)
    have P6 := Lib.hid (put_good s s rfl (by have := Hln.out; omega) HF6.out)
    clear hF hb Hb5 N
    go_wp2_with fail
    refine P6.out.mono ?_
    rintro e w7 ⟨ev, H7, rfl, hE, hF, hK⟩
    obtain rfl := hE.zero
    have hb7 := below_op Hb6.out HF6.out hK
    have X7 := fnext_any (by have := Hln.out; simp only; omega) (hF.gl hb7 Hm.out Hg.out).c.off (hF.gl hb7 Hm.out Hg.out).g.off hF
    rw [HN'.out] at X7
    have X7 := Lib.hid X7
    have HF7 := Lib.hid hF
    have Hb7 := Lib.hid hb7
    clear hE hF hK hb7 P6 HF6 Hb6
    go_wp2_with fail
    refine X7.out.mono ?_
    rintro e w8 ⟨vv, va, ev, H8, rfl, hP, hE, hF, hK⟩
    obtain rfl := Bare1.iface (n := 4) hE (by decide)
    obtain ⟨⟨pv, nv, cv, rfl⟩, ⟨pa, na, ca, rfl⟩⟩ := hP.sl
    have hb8 := below_op Hb7.out HF7.out hK
    have hbn := (Below.refl w8.heap.size w8).alloc (Nat.le_refl _) (.cells #[.int .i64 pc0.p.h.op, .bool pc0.p.h.now, .int .i64 pc0.p.h.fl, .slice pv nv cv, .slice pa na ca, .string (S pc0.p.d), .string (S pc0.sp)] 47)
    have Hb8 := Lib.hid (below_then hb8 hbn)
    have HF8 := Lib.hid (hF.later hbn)
    have T8 := Lib.hid (tell_is (ErrIs.bare (W := w8.alloc (.cells #[.int .i64 pc0.p.h.op, .bool pc0.p.h.now, .int .i64 pc0.p.h.fl, .slice pv nv cv, .slice pa na ca, .string (S pc0.p.d), .string (S pc0.sp)] 47)) 4 (by decide)) (HF8.out.gl Hb8.out Hm.out Hg.out).g.off)
    clear hP hE hF hK hb8 hbn X7 HF7 Hb7
    unfold pcV
    simp only
    go_wp2_with fail
    refine T8.out.mono ?_
    rintro e w9 ⟨rfl, hb⟩
    have Q9 := Lib.hid (kept_any (HF8.out.later hb))
    have Hb9 := Lib.hid (below_then Hb8.out hb)
    clear hb T8 HF8 Hb8
    rw [show ((([] : List UInt8).length : Nat) : Int) = 0 from rfl] at Q9
    go_wp2_with fail
    refine Q9.out.mono ?_
    rintro e w10 ⟨rfl, rfl⟩
    go_wp2_with fail
    go_ret
    exact ⟨rfl, Hb9.out⟩
  · rw [if_neg (by simp)] at hov
    have HN' := Lib.hid (HN.out.trans (if_neg ho))
    obtain rfl : n = lim := by omega
    have Hdl := Lib.hid hdl
    clear ho HN hov hdl
    go_enter Tryz.func8, Tryz.ntmps8
    go_wp2_with fail
    refine M.out.mono ?_
    rintro e w1 ⟨rfl, hb1⟩
    have Hb1 := Lib.hid hb1
    clear hb1 M
    go_wp2_with fail
    refine (Wd.out _ Hb1.out).mono ?_
    rintro e w2 ⟨rfl, hb⟩
    have Hb2 := Lib.hid (below_then Hb1.out hb)
    clear hb Hb1 Wd
    go_wp2_with fail
    refine (K _).out.mono ?_
    rintro e w3 ⟨rfl, rfl⟩
    go_wp2_with fail
    refine (nop_any _).mono ?_
    rintro e w3 ⟨v1, rfl, hv1, hb⟩
    obtain ⟨p1, c1, rfl⟩ := hv1.form
    have Hb3 := Lib.hid (below_then Hb2.out hb)
    have Hv3 := Lib.hid hv1
    clear hb hv1 Hb2 K
    unfold headV
    unfold nopH at Hv3 ⊢
    simp only [List.length_cons, List.length_nil, Nat.zero_add, Nat.reduceAdd] at Hv3 ⊢
    go_wp2_with fail
    refine (Rp _).out.mono ?_
    rintro e w4 ⟨rfl, hb⟩
    have Hb4 := Lib.hid (below_then Hb3.out hb)
    have W4 := Wr _ _ _ ⟨Hv3.out.later hb, AhsV.nil _⟩ (Hm.out.later Hb4.out) (Hg.out.later Hb4.out)
    unfold pdL nopH at W4
    simp only at W4
    clear hb Hb3 Hv3 Rp Wr
    go_wp2_with fail
    refine W4.out.mono ?_
    rintro e w5 ⟨ev, rfl, he, hb⟩
    obtain rfl := he.zero
    have Hb5 := Lib.hid (below_then Hb4.out hb)
    clear he hb W4 Hb4
    go_wp2_with fail
    refine (N _).out.mono ?_
    rintro e w6 ⟨fb, H, rfl, hF, hb⟩
    have HF6 := Lib.hid (hF.mono Hb5.out.size)
    have Hb6 := Lib.hid (below_then Hb5.out hb)
    have P6 := Lib.hid (put_good s s rfl (by have := Hln.out; omega) HF6.out)
    clear hF hb Hb5 N
    go_wp2_with fail
    refine P6.out.mono ?_
    rintro e w7 ⟨ev, H7, rfl, hE, hF, hK⟩
    obtain rfl := hE.zero
    have hb7 := below_op Hb6.out HF6.out hK
    have X7 := fnext_any (by have := Hln.out; simp only; omega) (hF.gl hb7 Hm.out Hg.out).c.off (hF.gl hb7 Hm.out Hg.out).g.off hF
    rw [HN'.out] at X7
    have X7 := Lib.hid X7
    have HF7 := Lib.hid hF
    have Hb7 := Lib.hid hb7
    clear hE hF hK hb7 P6 HF6 Hb6
    go_wp2_with fail
    refine X7.out.mono ?_
    rintro e w8 ⟨vv, va, ev, H8, rfl, hP, hE, hF, hK⟩
    obtain rfl := hE.zero
    obtain ⟨⟨pv, nv, cv, rfl⟩, ⟨pa, na, ca, rfl⟩⟩ := hP.sl
    have hb8 := below_op Hb7.out HF7.out hK
    have hdl := Hdl.out
    obtain ⟨Q, hQ⟩ : ∃ Q, pcOf (pdL n) = Q := ⟨_, rfl⟩
    have hQd : Q.p.d.length = n := by rw [← hQ]; exact hdl
    have hQdI : (Q.p.d.length : Int) = (n : Int) := by omega
    simp only [hQ] at *
    have hbn := (Below.refl w8.heap.size w8).alloc (Nat.le_refl _) (.cells #[.int .i64 Q.p.h.op, .bool Q.p.h.now, .int .i64 Q.p.h.fl, .slice pv nv cv, .slice pa na ca, .string (S Q.p.d), .string (S Q.sp)] 47)
    have Hb8 := Lib.hid (below_then hb8 hbn)
    have Q9 := Lib.hid (kept_any (hF.later hbn))
    obtain ⟨r0, r1, r2, r3, r4, r5, r6⟩ := (Blk.new w8 #[.int .i64 Q.p.h.op, .bool Q.p.h.now, .int .i64 Q.p.h.fl, .slice pv nv cv, .slice pa na ca, .string (S Q.p.d), .string (S Q.sp)] 47).seven
    clear hP hE hF hK hb8 hbn X7 HF7 Hb7 hdl hQ hQd
    unfold pcV
    rw [show ((([] : List UInt8).length : Nat) : Int) = 0 from rfl] at Q9
    go_wp2_with fail
    refine Q9.out.mono ?_
    rintro e w10 ⟨rfl, rfl⟩
    go_wp2_with fail
    go_ret
    exact ⟨rfl, Hb8.out⟩
end Go.Proofs.YtlkikkfbennmnaaGreatDoor
