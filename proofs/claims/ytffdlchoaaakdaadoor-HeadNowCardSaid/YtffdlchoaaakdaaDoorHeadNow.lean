/- HeadNow: now is one bit. -/
import Derived.Test.YtffdlchoaaakdaaDoorHeadBack
import Derived.RegionTactic
import Derived.Test.YtffdlchoaaakdaaDoorHBase
namespace Go.Proofs.YtffdlchoaaakdaaDoor
open Go.RowKit
theorem splice_cons (x : UInt8) (l r : List UInt8) (o : Nat) : splice (x :: l) (o + 1) r = x :: splice l o r := by
  unfold splice
  rw [show o + 1 + r.length = (o + r.length) + 1 by omega]
  simp
theorem putAll_cons : ∀ (fs : List Fd) (vs : List Nat) (l : List UInt8), (∀ f ∈ fs, 1 ≤ f.pos) → ∃ m, ∀ x, putAll fs vs (x :: l) = x :: m
  | [], vs, l, _ => ⟨l, fun x => by cases vs <;> rfl⟩
  | _ :: _, [], l, _ => ⟨l, fun _ => rfl⟩
  | f :: fs, v :: vs, l, h => by
    obtain ⟨o, ho⟩ : ∃ o, f.pos = o + 1 := ⟨f.pos - 1, by have := h f List.mem_cons_self; omega⟩
    obtain ⟨m, hm⟩ := putAll_cons fs vs (splice l o (be v f.sz)) fun g hg => h g (List.mem_cons_of_mem _ hg)
    refine ⟨m, fun x => ?_⟩
    show putAll fs vs (splice (x :: l) f.pos (be v f.sz)) = _
    rw [ho, splice_cons]
    exact hm x
theorem now_bytes {op fl : Int} {vs : List Nat} {k : Kd} (hk : kindOf op = some k) (w d : Nat) :
    ∃ m, headB ⟨op, false, fl, vs⟩ w d = UInt8.ofNat op.toNat :: m ∧ headB ⟨op, true, fl, vs⟩ w d = UInt8.ofNat (op.toNat + 64) :: m ∧ m.length = 47 := by
  have F := kindFacts hk
  obtain ⟨m, hm⟩ := putAll_cons k.fs vs ([UInt8.ofNat fl.toNat, 0, 0] ++ be w 1 ++ be d 3 ++ List.replicate 40 0) fun f hf => by have := (F.fok f hf).1; omega
  have e1 : headB ⟨op, false, fl, vs⟩ w d = UInt8.ofNat op.toNat :: m := by
    rw [headB_eq (h := ⟨op, false, fl, vs⟩) hk]; exact hm (UInt8.ofNat op.toNat)
  have e2 : headB ⟨op, true, fl, vs⟩ w d = UInt8.ofNat (op.toNat + 64) :: m := by
    rw [headB_eq (h := ⟨op, true, fl, vs⟩) hk]; exact hm (UInt8.ofNat (op.toNat + 64))
  refine ⟨m, e1, e2, ?_⟩
  have h48 := headB_len (h := ⟨op, false, fl, vs⟩) hk w d
  rw [e1] at h48
  simpa using h48
theorem now_right {op fl : Int} {vs : List Nat} : rightR ⟨op, true, fl, vs⟩ = (0, -1) ↔ op < 32 ∧ rightR ⟨op, false, fl, vs⟩ = (0, -1) := by
  constructor
  · intro h
    obtain ⟨k, hk, a, b, c, d⟩ := rightR_good h
    exact ⟨a rfl, rightR_mk hk (fun e => by cases e) b c d⟩
  · rintro ⟨h, hr⟩
    obtain ⟨k, hk, a, b, c, d⟩ := rightR_good hr
    exact rightR_mk hk (fun _ => h) b c d
theorem writeR_ok {h : Hd} {words data : Nat} (hr : rightR h = (0, -1)) (hw : words ≤ 255) (hd : data ≤ 16777215) : writeR h words data = (headB h words data, 0, -1) := (readR_write hr hw hd).1
theorem writeR_err {h : Hd} {words data : Int} (hr : rightR h ≠ (0, -1)) : (writeR h words data).2.1 ≠ 0 := by
  have h1 : (rightR h).1 ≠ 0 := fun e => hr (rightR_0 e)
  rw [writeR_bad h1]
  exact h1
theorem two_below (w1 : World) (X Y : Array Value) : Below w1.heap.size w1 ((w1.alloc (.cells X 24)).alloc (.cells Y 24)).drew :=
  (((Below.refl _ w1).alloc (Nat.le_refl _) _).alloc (by simp) _).drew
theorem two_fst (w1 : World) (X Y : Array Value) : Blk ((w1.alloc (.cells X 24)).alloc (.cells Y 24)).drew w1.heap.size X 24 := ((Blk.new w1 X _).alloc _).drew
theorem two_snd (w1 : World) (X Y : Array Value) : Blk ((w1.alloc (.cells X 24)).alloc (.cells Y 24)).drew (w1.heap.size + 1) Y 24 := by
  have h := Blk.new (w1.alloc (.cells X 24)) Y 24
  rw [World.size_alloc] at h
  exact h.drew
set_option maxRecDepth 100000 in
set_option maxHeartbeats 4000000 in
theorem headNow_any (h : Hd) (v : Value) (words data : Int) (w : World) (hfl : I64 h.fl) (hv : Vals w v h.vs) (hl : h.vs.length ≤ 9223372036854775807) (_hw : (Lit.int .i64 words).wf = true) (_hd : (Lit.int .i64 data).wf = true) (hm : MaxCell w) :
    Calls Tryd.prog 10 #[headV h v, .int .i64 words, .int .i64 data] w fun e w' => e = .returned (.bool true) ∧ Below w.heap.size w w' := by
  obtain ⟨op, now, fl, vs⟩ := h
  simp only at *
  obtain ⟨p, c, hve⟩ := hv.form
  subst hve
  have hb0 := (Below.refl w.heap.size w).alloc (Nat.le_refl _) (.cells #[.int .i64 op, .bool now, .int .i64 fl, .slice p vs.length c] 24)
  have H := Lib.hid (headed_any _ (hm.later hb0))
  have Hv := Lib.hid hv
  have Hm := Lib.hid hm
  have Hb0 := Lib.hid hb0
  clear hv hm hb0
  by_cases h50 : 50 < vs.length
  · clear hfl
    unfold headV
    go_enter Tryd.func10, Tryd.ntmps10
    go_wp2_with fail
    refine H.out.mono ?_
    rintro e w1 ⟨rfl, hb1⟩
    obtain ⟨q0, q1, q2, q3⟩ := ((Blk.new w #[.int .i64 op, .bool now, .int .i64 fl, .slice p vs.length c] 24).later hb1).four
    have Hb1 := Lib.hid (below_then Hb0.out hb1)
    clear hb1
    go_wp2_with fail
    go_ret
    exact ⟨rfl, Hb1.out⟩
  · have P1 := fun w => Lib.hid (pick_any words 256 w (by decide) (by decide))
    have P2 := fun w => Lib.hid (pick_any data 16777216 w (by decide) (by decide))
    have hp1 := pickI_lt words 256 (by decide)
    have hp2 := pickI_lt data 16777216 (by decide)
    obtain ⟨x, hx⟩ : ∃ x, pickI words 256 = x := ⟨_, rfl⟩
    obtain ⟨y, hy⟩ : ∃ y, pickI data 16777216 = y := ⟨_, rfl⟩
    rw [hx] at P1 hp1
    rw [hy] at P2 hp2
    clear hx hy
    have WA := fun w1 hm hv => write_any ⟨op, false, fl, vs⟩ (.slice p vs.length c) (x : Int) (y : Int) w1 hfl hm hv (by simp only; omega)
    have WB := fun w1 hm hv => write_any ⟨op, true, fl, vs⟩ (.slice p vs.length c) (x : Int) (y : Int) w1 hfl hm hv (by simp only; omega)
    obtain ⟨RA, hRA⟩ : ∃ R, writeR ⟨op, false, fl, vs⟩ x y = R := ⟨_, rfl⟩
    obtain ⟨RB, hRB⟩ : ∃ R, writeR ⟨op, true, fl, vs⟩ x y = R := ⟨_, rfl⟩
    rw [hRA] at WA
    rw [hRB] at WB
    unfold headV at WA WB
    simp only at WA WB
    have WAA := fun w1 hm hv => Lib.hid (WA w1 hm hv)
    have WBB := fun w1 hm hv => Lib.hid (WB w1 hm hv)
    clear WA WB hfl
    have hfin : (op < 32 ∧ ∃ m, RA = (UInt8.ofNat op.toNat :: m, 0, -1) ∧ RB = (UInt8.ofNat (op.toNat + 64) :: m, 0, -1) ∧ m.length = 47 ∧ 0 ≤ op) ∨ (RB.2.1 ≠ 0 ∧ (32 ≤ op ∨ RA.2.1 ≠ 0)) := by
      by_cases hr : rightR ⟨op, true, fl, vs⟩ = (0, -1)
      · obtain ⟨h32, hra⟩ := now_right.1 hr
        obtain ⟨k, hk, _⟩ := rightR_good hra
        obtain ⟨m, e1, e2, hm⟩ := now_bytes (fl := fl) (vs := vs) hk x y
        exact .inl ⟨h32, m, by rw [← hRA, writeR_ok hra (by omega) (by omega), e1], by rw [← hRB, writeR_ok hr (by omega) (by omega), e2], hm, (kindOf_range hk).1⟩
      · refine .inr ⟨by rw [← hRB]; exact writeR_err hr, ?_⟩
        by_cases h32 : 32 ≤ op
        · exact .inl h32
        · exact .inr (by rw [← hRA]; exact writeR_err fun e => hr (now_right.2 ⟨by omega, e⟩))
    clear hRA hRB
    unfold headV
    rcases hfin with ⟨h32, m, rfl, rfl, hm47, hop0⟩ | ⟨hB, hOr⟩
    · have hx1 : bits .or .u8 ((UInt8.ofNat op.toNat).toNat : Int) 64 = ((UInt8.ofNat (op.toNat + 64)).toNat : Int) := by
        have e1 : ((UInt8.ofNat op.toNat).toNat : Int) = op := by rw [UInt8.toNat_ofNat']; omega
        have e2 : ((UInt8.ofNat (op.toNat + 64)).toNat : Int) = op + 64 := by rw [UInt8.toNat_ofNat']; omega
        rw [e1, e2]; exact or64 op hop0 (by omega)
      have hx2 : (((UInt8.ofNat op.toNat).toNat : Int) != ((UInt8.ofNat (op.toNat + 64)).toNat : Int)) = true := by
        rw [bne_iff_ne, UInt8.toNat_ofNat', UInt8.toNat_ofNat']; omega
      obtain ⟨ca, hca⟩ : ∃ b, UInt8.ofNat op.toNat = b := ⟨_, rfl⟩
      obtain ⟨cb, hcb⟩ : ∃ b, UInt8.ofNat (op.toNat + 64) = b := ⟨_, rfl⟩
      rw [hca] at hx1 hx2 WAA
      rw [hcb] at hx1 hx2 WBB
      have hm1 : ((m.length : Int) + 1 == 48) = true := by rw [hm47]; rfl
      have hm2 : (0 : Int) ≤ (m.length : Int) := by omega
      clear hca hcb hm47
      go_enter Tryd.func10, Tryd.ntmps10
      go_wp2_with fail
      refine H.out.mono ?_
      rintro e w1 ⟨rfl, hb1⟩
      have hk1 := (Blk.new w #[.int .i64 op, .bool now, .int .i64 fl, .slice p vs.length c] 24).later hb1
      have Hk1 := Lib.hid hk1
      obtain ⟨q0, q1, q2, q3⟩ := hk1.four
      have Hb1 := Lib.hid (below_then Hb0.out hb1)
      have hz1 : w.heap.size < w1.heap.size := hk1.lt
      clear hb1 hk1
      go_wp2_with fail
      refine (P1 _).out.mono ?_
      rintro e w1' ⟨rfl, rfl⟩
      go_wp2_with fail
      refine (P2 _).out.mono ?_
      rintro e w1' ⟨rfl, rfl⟩
      go_wp2_with fail
      go_region
      all_goals
        go_wp2_with fail
        refine (WAA _ (Hm.out.later (below_then Hb1.out (two_below _ _ _))) (Hv.out.later (below_then Hb1.out (two_below _ _ _)))).out.mono ?_
        rintro e w2 ⟨ev, rfl, he, hb2⟩
        obtain ⟨s0, s1, s2, s3⟩ := ((two_fst w1 _ _).later hb2).four
        obtain ⟨t0, t1, t2, t3⟩ := ((two_snd w1 _ _).later hb2).four
        have hk2 := (Hk1.out.later (two_below w1 _ _)).later hb2
        have Hk2 := Lib.hid hk2
        have Hb2 := Lib.hid (below_then (below_then Hb1.out (two_below _ _ _)) hb2)
        clear q0 q1 q2 q3 hb2 hk2
        obtain rfl := he.zero
        clear he
        go_wp2_with fail
        refine (WBB w2 (Hm.out.later Hb2.out) (Hv.out.later Hb2.out)).out.mono ?_
        rintro e w3 ⟨ev3, rfl, he3, hb3⟩
        obtain ⟨q0, q1, q2, q3⟩ := (Hk2.out.later hb3).four
        have Hb3 := Lib.hid (below_then Hb2.out hb3)
        clear s0 s1 s2 s3 t0 t1 t2 t3 hb3
        obtain rfl := he3.zero
        clear he3
        go_wp2_with fail
        go_quiet (fail)
        go_wp2_with fail
        go_ret
        exact ⟨rfl, below_drewN Hb3.out _⟩
    · by_cases h32 : 32 ≤ op
      · clear hOr
        go_enter Tryd.func10, Tryd.ntmps10
        go_wp2_with fail
        refine H.out.mono ?_
        rintro e w1 ⟨rfl, hb1⟩
        have hk1 := (Blk.new w #[.int .i64 op, .bool now, .int .i64 fl, .slice p vs.length c] 24).later hb1
        have Hk1 := Lib.hid hk1
        obtain ⟨q0, q1, q2, q3⟩ := hk1.four
        have Hb1 := Lib.hid (below_then Hb0.out hb1)
        have hz1 : w.heap.size < w1.heap.size := hk1.lt
        clear hb1 hk1
        go_wp2_with fail
        refine (P1 _).out.mono ?_
        rintro e w1' ⟨rfl, rfl⟩
        go_wp2_with fail
        refine (P2 _).out.mono ?_
        rintro e w1' ⟨rfl, rfl⟩
        go_wp2_with fail
        go_region
        all_goals
          go_wp2_with fail
          refine (WAA _ (Hm.out.later (below_then Hb1.out (two_below _ _ _))) (Hv.out.later (below_then Hb1.out (two_below _ _ _)))).out.mono ?_
          rintro e w2 ⟨ev, rfl, he, hb2⟩
          obtain ⟨s0, s1, s2, s3⟩ := ((two_fst w1 _ _).later hb2).four
          obtain ⟨t0, t1, t2, t3⟩ := ((two_snd w1 _ _).later hb2).four
          have hk2 := (Hk1.out.later (two_below w1 _ _)).later hb2
          have Hk2 := Lib.hid hk2
          have Hb2 := Lib.hid (below_then (below_then Hb1.out (two_below _ _ _)) hb2)
          clear q0 q1 q2 q3 hb2 hk2
          clear he
          go_wp2_with fail
          refine (WBB w2 (Hm.out.later Hb2.out) (Hv.out.later Hb2.out)).out.mono ?_
          rintro e w3 ⟨ev3, rfl, he3, hb3⟩
          obtain ⟨q0, q1, q2, q3⟩ := (Hk2.out.later hb3).four
          have Hb3 := Lib.hid (below_then Hb2.out hb3)
          clear s0 s1 s2 s3 t0 t1 t2 t3 hb3
          obtain ⟨t3, x3, rfl⟩ := he3.iface hB
          clear he3
          go_wp2_with fail
          go_ret
          exact ⟨rfl, Hb3.out⟩
      · have hA := hOr.resolve_left h32
        clear hOr
        go_enter Tryd.func10, Tryd.ntmps10
        go_wp2_with fail
        refine H.out.mono ?_
        rintro e w1 ⟨rfl, hb1⟩
        have hk1 := (Blk.new w #[.int .i64 op, .bool now, .int .i64 fl, .slice p vs.length c] 24).later hb1
        have Hk1 := Lib.hid hk1
        obtain ⟨q0, q1, q2, q3⟩ := hk1.four
        have Hb1 := Lib.hid (below_then Hb0.out hb1)
        have hz1 : w.heap.size < w1.heap.size := hk1.lt
        clear hb1 hk1
        go_wp2_with fail
        refine (P1 _).out.mono ?_
        rintro e w1' ⟨rfl, rfl⟩
        go_wp2_with fail
        refine (P2 _).out.mono ?_
        rintro e w1' ⟨rfl, rfl⟩
        go_wp2_with fail
        go_region
        all_goals
          go_wp2_with fail
          refine (WAA _ (Hm.out.later (below_then Hb1.out (two_below _ _ _))) (Hv.out.later (below_then Hb1.out (two_below _ _ _)))).out.mono ?_
          rintro e w2 ⟨ev, rfl, he, hb2⟩
          obtain ⟨s0, s1, s2, s3⟩ := ((two_fst w1 _ _).later hb2).four
          obtain ⟨t0, t1, t2, t3⟩ := ((two_snd w1 _ _).later hb2).four
          have hk2 := (Hk1.out.later (two_below w1 _ _)).later hb2
          have Hk2 := Lib.hid hk2
          have Hb2 := Lib.hid (below_then (below_then Hb1.out (two_below _ _ _)) hb2)
          clear q0 q1 q2 q3 hb2 hk2
          obtain ⟨tt, xx, rfl⟩ := he.iface hA
          clear he
          go_wp2_with fail
          refine (WBB w2 (Hm.out.later Hb2.out) (Hv.out.later Hb2.out)).out.mono ?_
          rintro e w3 ⟨ev3, rfl, he3, hb3⟩
          obtain ⟨q0, q1, q2, q3⟩ := (Hk2.out.later hb3).four
          have Hb3 := Lib.hid (below_then Hb2.out hb3)
          clear s0 s1 s2 s3 t0 t1 t2 t3 hb3
          obtain ⟨t3, x3, rfl⟩ := he3.iface hB
          clear he3
          go_wp2_with fail
          go_ret
          exact ⟨rfl, Hb3.out⟩
end Go.Proofs.YtffdlchoaaakdaaDoor
