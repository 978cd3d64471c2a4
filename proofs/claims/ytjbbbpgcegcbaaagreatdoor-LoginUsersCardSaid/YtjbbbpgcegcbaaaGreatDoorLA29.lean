/- LA29: several texts in one. -/
import Derived.Test.YtjbbbpgcegcbaaaGreatDoorLA06
import Derived.Test.YtjbbbpgcegcbaaaGreatDoorLA20
import Derived.Test.YtjbbbpgcegcbaaaGreatDoorLA21
import Derived.Test.YtjbbbpgcegcbaaaGreatDoorLA28
namespace Go.Proofs.YtjbbbpgcegcbaaaGreatDoor
open Go Go.RowKit
set_option linter.unusedVariables false
def RetAns (w : World) (B : Nat) (H : Nat → Prop) (nb : Nat) (mv : Value) (mine : List Pr) (r : (List Pr × Int × Int) × List Pr) (e : Ending) (w' : World) : Prop := ∃ v ev H', e = .returned (.tuple #[v, ev]) ∧ PrBuf w.heap.size (offW H' w') v r.1.1 ∧ ErrIs (offW H' w') ev r.1.2.1 r.1.2.2 ∧ NegAt w' B H' nb mv mine r.2 ∧ Keeps w.heap.size w w' H H'
theorem keepA {W0 W1 W2 : World} {b i b2 i2 : Nat} {v v2 : Value} (h : Below W0.heap.size W0 W1 ∧ W1.cell? ⟨b, i, none⟩ = some v ∧ W1.cell? ⟨b2, i2, none⟩ = some v2) (hb : Below W1.heap.size W1 W2) : Below W0.heap.size W0 W2 ∧ W2.cell? ⟨b, i, none⟩ = some v ∧ W2.cell? ⟨b2, i2, none⟩ = some v2 :=
 ⟨below_then h.1 hb, by rw [(bcell hb).1 b i (block_lt_of_cell (w := W1) (a := ⟨b, i, none⟩) h.2.1)]; exact h.2.1, by rw [(bcell hb).1 b2 i2 (block_lt_of_cell (w := W1) (a := ⟨b2, i2, none⟩) h.2.2)]; exact h.2.2⟩
theorem Keeps.grownH {N : Nat} {w w1 w2 : World} {H H' : Nat → Prop} {row : Option Nat} (h : Keeps N w w1 H H') (hg : w1.grownBy w2 row) (hr : ∀ k, row = some k → N ≤ k) (hN : N ≤ w1.heap.size) : Keeps N w w2 H H' :=
 ⟨hg.os.trans h.os, hg.tape.trans h.tape, hg.output.trans h.output, Nat.le_trans h.size hg.size, fun k hk hH => (hg.block k (by omega) (fun e => by have := hr k e.symm; omega)).trans (h.block k hk hH), h.more, h.old⟩
theorem NegAt.said {w W WA W' : World} {B : Nat} {H H' : Nat → Prop} {nb : Nat} {mv sv sv' : Value} {mine recd recj out : List Pr} {x : Pr} (h0 : NegAt w B H nb mv mine recd) (h : NegAt W B H' nb mv mine recj) (hk : Keeps w.heap.size w W H H') (hs : PrBuf w.heap.size (offW H' W) sv out) (hA : Below W.heap.size W WA) (hg : WA.grownBy W' sv.ownBlock) (hs' : PrBuf w.heap.size W' sv' (out ++ [x])) (hb : sv'.ownBlock = sv.ownBlock ∨ (Below WA.heap.size WA W' ∧ ∀ k, sv'.ownBlock = some k → WA.heap.size ≤ k)) :
  PrBuf w.heap.size (offW H' W') sv' (out ++ [x]) ∧ NegAt W' B H' nb mv mine recj ∧ Keeps w.heap.size w W' H H' := by
 have hout := (off_row hs).2
 have hge := hs.ge
 have hsz := hA.size
 have hKA : Keeps w.heap.size w WA H H' := hk.then (Keeps.of hA H')
 have hK := hKA.grownH hg hge hKA.size
 refine ⟨row_off hs' (fun k hk' hH => ?_), ?_, hK⟩
 ·rcases hb with e | ⟨_, hn⟩
  ·rw [e] at hk'; exact hout k hk' hH
  ·have := hn k hk'; have := (h.base k hH).2; omega
 ·refine (h.later hA).kept hg.size (fun k hH => hg.block k (by have := (h.base k hH).2; omega) (fun e => hout k e.symm hH)) ?_
  exact h0.mine.later hK.off'
set_option maxRecDepth 100000 in
set_option maxHeartbeats 8000000 in
theorem answer_any {w : World} {B : Nat} {H : Nat → Prop} {nb : Nat} {mv : Value} {mine recd : List Pr} (l : List Pr) (v : Value) (lg dc : Bool) (h : NegAt w B H nb mv mine recd) (hv : PrsV (offW H w) v l) (hf : fitPs l) (hM : MineOk mine) (hK : RecOk recd) (hE : Env (offW H w)) :
  Calls Tryz.prog 48 #[.pointer (some ⟨nb, 0, none⟩), v, .bool lg, .bool dc] w (RetAns w B H nb mv mine (ansN mine recd l lg dc)) := by
 have HN := Lib.hid h
 have HV := Lib.hid hv
 have HE := Lib.hid hE
 have HM := Lib.hid hM
 have HKr := Lib.hid hK
 have R := right_prs l v w hv.off hf
 obtain ⟨p, c, rfl⟩ := hv.form
 obtain ⟨pm, cm, rfl⟩ := h.mine.form
 have hnb := h.base nb h.own
 have Hnb := Lib.hid hnb
 by_cases h0 : (prRight l).1 = 0
 case neg =>
  rw [ansN_bad h0]
  unfold RetE at R
  have R := Lib.hid R
  have H0 := Lib.hid h0
  clear h hv hE hM hK h0 hnb
  go_enter Tryz.func48, Tryz.ntmps48
  go_wp2_with fail
  refine R.out.mono ?_
  rintro e w1 ⟨ev, rfl, he, hb1⟩
  have Hb1 := Lib.hid hb1
  have HEv := Lib.hid he
  obtain ⟨te, xe, rfl⟩ := he.iface H0.out
  clear hb1 he R
  go_wp2_with fail
  go_ret2
  have hN1 := HN.out.later Hb1.out
  exact ⟨_, _, H, rfl, PrBuf.nil _ _, HEv.out.offN hN1, hN1, Keeps.of Hb1.out H⟩
 obtain ⟨hok, hfew, hr'⟩ := prRight_is h0
 rw [hr'] at R
 have R := Lib.hid R
 have Hok := Lib.hid hok
 have hrec18 := hK.few
 have Bad := Lib.hid (fun i (h : twiceF 0 (if lg = true then keysP recd else []) l = some i) => ansN_twice (mine := mine) (rec := recd) (l := l) (lg := lg) (dc := dc) h0 h)
 have Good := Lib.hid (fun (h : twiceF 0 (if lg = true then keysP recd else []) l = none) => ansN_go (mine := mine) (rec := recd) (l := l) (lg := lg) (dc := dc) h0 h)
 obtain ⟨Q, hQ⟩ : ∃ Q, ansN mine recd l lg dc = Q := ⟨_, rfl⟩
 rw [hQ] at Bad Good ⊢
 obtain ⟨s0, hs0⟩ : ∃ s0, (if lg = true then keysP recd else []) = s0 := ⟨_, rfl⟩
 rw [hs0] at Bad Good
 have Hs0 := Lib.hid hs0
 have hl60 : (l.length : Int) ≤ 60 := by omega
 obtain ⟨rv, hblk, hrec, _⟩ := h.at_
 obtain ⟨pr, cr, rfl⟩ := hrec.form
 have Hblk := Lib.hid hblk
 have Hrec := Lib.hid hrec
 clear h hv hE hM hK h0 hQ hs0 hok hr' hblk hrec hnb
 go_enter Tryz.func48, Tryz.ntmps48
 go_wp2_with fail
 refine R.out.mono ?_
 rintro e w1 ⟨ev, rfl, he, hb1⟩
 obtain rfl := he.zero
 have Hb1 := Lib.hid hb1
 clear hb1 he R
 go_wp2_with fail
 go_loopw [24] (fun i wr => ∃ j : Nat, j ≤ l.length ∧ i = .int .i64 j ∧ Hid (twiceF j (s0 ++ keysP (l.take j)) (l.drop j) = twiceF 0 s0 l) ∧ Below w.heap.size w wr) (fun i _ => l.length - (intOf i).toNat)
 case atStart => exact ⟨0, by omega, rfl, Lib.hid (by unfold keysP; simp), Hb1.out⟩
 case round =>
  obtain ⟨j, hj, rfl, Hr, hb⟩ := hrel
  have Hbq := Lib.hid hb
  by_cases hlt : j < l.length
  ·have hvr := HV.out.off.later hb
   obtain ⟨b, o, rfl, h1, h2⟩ := hvr.cell hlt
   have hst := twiceF_step (s := s0) hlt
   rw [Hr.out] at hst
   have hka := thick_okP (Hok.out l[j] (List.getElem_mem hlt))
   obtain ⟨⟨k, d⟩, ha⟩ : ∃ a, l[j] = a := ⟨_, rfl⟩
   rw [ha] at h1 h2 hst hka
   simp only at h1 h2 hst hka
   obtain ⟨w4, hw4⟩ : ∃ w4, wr.alloc (.cells #[.string (S k), .string (S d)] 60) = w4 := ⟨_, rfl⟩
   have hb4 : Below wr.heap.size wr w4 := by rw [← hw4]; exact (Below.refl _ _).alloc (Nat.le_refl _) _
   have hP4 : Blk w4 wr.heap.size #[.string (S k), .string (S d)] 60 := by rw [← hw4]; exact Blk.new wr _ _
   have hbw4 := below_then hb hb4
   have Hb4 := Lib.hid hbw4
   have hjI : (j : Int) < (l.length : Int) := by omega
   have hc : l.length ≤ c := by
    obtain ⟨p0, c0, hv0, hlc, _⟩ := hvr
    obtain ⟨_, rfl⟩ : _ ∧ c = c0 := by simpa using hv0
    exact hlc
   have hjc : (j : Int) ≤ (c : Int) := by omega
   have x0 : w4.cell? ⟨wr.heap.size, 0, none⟩ = some (.string (S k)) := hP4.two.1
   have q1 : w4.cell? ⟨nb, 1, none⟩ = some (.slice pr recd.length cr) := (Hblk.out.later hbw4).two.2
   obtain ⟨b1, hb1⟩ : ∃ b1, (prFind (l.take j) k).isSome = b1 := ⟨_, rfl⟩
   obtain ⟨b2, hb2⟩ : ∃ b2, (prFind recd k).isSome = b2 := ⟨_, rfl⟩
   have S1 := Lib.hid (fun W (hW : Below w4.heap.size w4 W) => show Calls Tryz.prog 78 #[.slice (some ⟨b, o, none⟩) j c, .string (S k)] W fun e w' => e = .returned (.bool b1) ∧ Below W.heap.size W w' from by
    have := stands_any (l.take j) (.slice (some ⟨b, o, none⟩) j c) k W ((hvr.later (hb4.trans (hW.mono hb4.size))).take (by omega)) (by rw [List.length_take]; omega)
    rwa [hb1] at this)
   have S2 := Lib.hid (fun W (hW : Below w4.heap.size w4 W) => show Calls Tryz.prog 78 #[.slice pr recd.length cr, .string (S k)] W fun e w' => e = .returned (.bool b2) ∧ Below W.heap.size W w' from by
    have := stands_any recd (.slice pr recd.length cr) k W (Hrec.out.prs.later (hbw4.trans (hW.mono hbw4.size))) (by omega)
    rwa [hb2] at this)
   have hin : k ∈ s0 ++ keysP (l.take j) ↔ (b1 = true ∨ (lg = true ∧ b2 = true)) := by
    rw [← hb1, ← hb2, prFind_iff, prFind_iff, List.mem_append, ← Hs0.out]
    by_cases hlg : lg = true
    ·rw [if_pos hlg]; simp [hlg, or_comm]
    ·rw [if_neg hlg]; simp [hlg]
   have hways : (b1 = true ∨ (b1 = false ∧ lg = true ∧ b2 = true)) ∨ (b1 = false ∧ (lg = false ∨ (lg = true ∧ b2 = false))) := by cases b1 <;> cases lg <;> cases b2 <;> simp
   have Hlt4 := Lib.hid (show wr.heap.size < w4.heap.size ∧ nb < w4.heap.size from ⟨hP4.lt, (Hblk.out.later hbw4).lt⟩)
   clear hb hb4 hP4 hbw4 hvr ha hka hb1 hb2
   rcases hways with hbad | ⟨rfl, hgood⟩
   ·rw [if_pos (hin.2 (by rcases hbad with h | ⟨_, h⟩; exact .inl h; exact .inr h))] at hst
    have Hst := Lib.hid (Bad.out j hst)
    clear hst hin Bad Good Hs0
    rcases hbad with rfl | ⟨rfl, rfl, rfl⟩
    ·go_wp2_with fail
     refine wp_region_held (S := (fun w' => Below w4.heap.size w4 w' ∧ w'.cell? ⟨wr.heap.size, 0, none⟩ = some (.string (S k)) ∧ w'.cell? ⟨nb, 1, none⟩ = some (.slice pr recd.length cr))) (by kernel_rfl) ?_
     have e9 : Below w4.heap.size w4 { w4 with drawn := w4.drawn + 1 } := (Below.refl _ _).drew
     generalize ({ w4 with drawn := w4.drawn + 1 } : World) = w7 at e9 ⊢
     have hS := keepA ⟨Below.refl _ _, x0, q1⟩ e9
     refine takeN (.slice (some ⟨b, o, none⟩) l.length c) (some 29) (i := 0) rfl rfl (by kernel_rfl) (by kernel_rfl) (by kernel_rfl) (fun _ _ _ h => h) (Or.inl ⟨by rfl, fun w' hw' => ?_⟩) hS ?_
     ·obtain ⟨_, k0, k1⟩ := hw'
      go_simp
     simp only [Act.put, iA, iB, iC]
     refine takeN (.int .i64 (j : Int)) (some 30) (i := 1) rfl rfl (by kernel_rfl) (by kernel_rfl) (by kernel_rfl) (fun _ _ _ h => h) (Or.inl ⟨by rfl, fun w' hw' => ?_⟩) hS ?_
     ·obtain ⟨_, k0, k1⟩ := hw'
      go_simp
     simp only [Act.put, iA, iB, iC]
     refine takeN (.slice (some ⟨b, o, none⟩) j c) (some 31) (i := 2) rfl rfl (by kernel_rfl) (by kernel_rfl) (by kernel_rfl) (fun _ _ _ h => h) (Or.inl ⟨by rfl, fun w' hw' => ?_⟩) hS ?_
     ·obtain ⟨_, k0, k1⟩ := hw'
      go_simp
     simp only [Act.put, iA, iB, iC]
     refine takeN (.pointer (some ⟨wr.heap.size, 0, none⟩)) (some 32) (i := 3) rfl rfl (by kernel_rfl) (by kernel_rfl) (by kernel_rfl) (fun _ _ _ h => h) (Or.inl ⟨by rfl, fun w' hw' => ?_⟩) hS ?_
     ·obtain ⟨_, k0, k1⟩ := hw'
      go_simp
     simp only [Act.put, iA, iB, iC]
     refine takeN (.string (S k)) (some 33) (i := 4) rfl rfl (by kernel_rfl) (by kernel_rfl) (by kernel_rfl) (fun _ _ _ h => h) (Or.inl ⟨by rfl, fun w' hw' => ?_⟩) hS ?_
     ·obtain ⟨_, k0, k1⟩ := hw'
      go_simp
     simp only [Act.put, iA, iB, iC]
     refine wpAnyH_all (rs := [5]) (by kernel_rfl) (by simp) (fun i hi => ?_)
     obtain rfl : i = 5 := by simpa using hi
     refine wantN (i := 5) rfl (by rfl) (callN (f := 78) (some 34) rfl Tryz.func78 (by kernel_rfl) (by kernel_rfl) rfl rfl ?_)
     simp only [List.map_toArray, List.map_cons, List.map_nil]
     refine (S1.out _ hS.1).mono ?_
     rintro e wn ⟨rfl, hbn⟩
     have hS1 := keepA hS hbn
     clear hbn
     refine ⟨_, rfl, hS1, ?_⟩
     try dsimp only
     simp only [Act.put, iA, iB, iC]
     refine takeN (.bool true) (some 35) (i := 6) rfl rfl (by kernel_rfl) (by kernel_rfl) (by kernel_rfl) (fun _ _ _ h => h) (Or.inl ⟨by rfl, fun w' hw' => ?_⟩) hS1 ?_
     ·obtain ⟨_, k0, k1⟩ := hw'
      go_simp
     simp only [Act.put, iA, iB, iC]
     refine takeN undef (some 36) (i := 7) rfl rfl (by kernel_rfl) (by kernel_rfl) (by kernel_rfl) (fun _ _ _ h => h) (Or.inr ⟨by rfl, rfl⟩) hS1 ?_
     simp only [Act.put, iA, iB, iC]
     refine takeN undef (some 37) (i := 8) rfl rfl (by kernel_rfl) (by kernel_rfl) (by kernel_rfl) (fun _ _ _ h => h) (Or.inr ⟨by rfl, rfl⟩) hS1 ?_
     simp only [Act.put, iA, iB, iC]
     refine takeN undef (some 38) (i := 9) rfl rfl (by kernel_rfl) (by kernel_rfl) (by kernel_rfl) (fun _ _ _ h => h) (Or.inr ⟨by rfl, rfl⟩) hS1 ?_
     simp only [Act.put, iA, iB, iC]
     refine takeN undef (some 39) (i := 10) rfl rfl (by kernel_rfl) (by kernel_rfl) (by kernel_rfl) (fun _ _ _ h => h) (Or.inr ⟨by rfl, rfl⟩) hS1 ?_
     simp only [Act.put, iA, iB, iC]
     refine takeN undef (some 40) (i := 11) rfl rfl (by kernel_rfl) (by kernel_rfl) (by kernel_rfl) (fun _ _ _ h => h) (Or.inr ⟨by rfl, rfl⟩) hS1 ?_
     simp only [Act.put, iA, iB, iC]
     refine takeN undef (some 41) (i := 12) rfl rfl (by kernel_rfl) (by kernel_rfl) (by kernel_rfl) (fun _ _ _ h => h) (Or.inr ⟨by rfl, rfl⟩) hS1 ?_
     simp only [Act.put, iA, iB, iC]
     refine takeN undef (some 42) (i := 13) rfl rfl (by kernel_rfl) (by kernel_rfl) (by kernel_rfl) (fun _ _ _ h => h) (Or.inr ⟨by rfl, rfl⟩) hS1 ?_
     simp only [Act.put, iA, iB, iC]
     refine takeN undef (some 43) (i := 14) rfl rfl (by kernel_rfl) (by kernel_rfl) (by kernel_rfl) (fun _ _ _ h => h) (Or.inr ⟨by rfl, rfl⟩) hS1 ?_
     simp only [Act.put, iA, iB, iC]
     refine takeN undef (some 44) (i := 15) rfl rfl (by kernel_rfl) (by kernel_rfl) (by kernel_rfl) (fun _ _ _ h => h) (Or.inr ⟨by rfl, rfl⟩) hS1 ?_
     simp only [Act.put, iA, iB, iC]
     refine takeN undef (some 45) (i := 16) rfl rfl (by kernel_rfl) (by kernel_rfl) (by kernel_rfl) (fun _ _ _ h => h) (Or.inr ⟨by rfl, rfl⟩) hS1 ?_
     simp only [Act.put, iA, iB, iC]
     refine takeN (.bool true) (some 46) (i := 17) rfl rfl (by kernel_rfl) (by kernel_rfl) (by kernel_rfl) (fun _ _ _ h => h) (Or.inl ⟨by rfl, fun w' hw' => ?_⟩) hS1 ?_
     ·obtain ⟨_, k0, k1⟩ := hw'
      go_simp
     simp only [Act.put, iA, iB, iC]
     refine wpAnyH_done (by kernel_rfl) ?_ _
     have Hw7 := Lib.hid hS1.1
     clear x0 q1
     have Hlow := Lib.hid (below_then Hb4.out Hw7.out)
     go_wp2_with fail
     go_ret2
     rw [Hst.out]
     have hbn := Hlow.out.alloc Hlow.out.size (.cells #[.int .i64 9, .int .i64 (j : Int)] 122)
     have hN1 := HN.out.later hbn
     exact ⟨_, _, H, rfl, PrBuf.nil _ _, ErrIs.offN hN1 (.placed _ 9 j (by decide) (by simp) (by simp)), hN1, Keeps.of hbn H⟩
    ·go_wp2_with fail
     refine wp_region_held (S := (fun w' => Below w4.heap.size w4 w' ∧ w'.cell? ⟨wr.heap.size, 0, none⟩ = some (.string (S k)) ∧ w'.cell? ⟨nb, 1, none⟩ = some (.slice pr recd.length cr))) (by kernel_rfl) ?_
     have e9 : Below w4.heap.size w4 { w4 with drawn := w4.drawn + 1 } := (Below.refl _ _).drew
     generalize ({ w4 with drawn := w4.drawn + 1 } : World) = w7 at e9 ⊢
     have hS := keepA ⟨Below.refl _ _, x0, q1⟩ e9
     refine takeN (.slice (some ⟨b, o, none⟩) l.length c) (some 29) (i := 0) rfl rfl (by kernel_rfl) (by kernel_rfl) (by kernel_rfl) (fun _ _ _ h => h) (Or.inl ⟨by rfl, fun w' hw' => ?_⟩) hS ?_
     ·obtain ⟨_, k0, k1⟩ := hw'
      go_simp
     simp only [Act.put, iA, iB, iC]
     refine takeN (.int .i64 (j : Int)) (some 30) (i := 1) rfl rfl (by kernel_rfl) (by kernel_rfl) (by kernel_rfl) (fun _ _ _ h => h) (Or.inl ⟨by rfl, fun w' hw' => ?_⟩) hS ?_
     ·obtain ⟨_, k0, k1⟩ := hw'
      go_simp
     simp only [Act.put, iA, iB, iC]
     refine takeN (.slice (some ⟨b, o, none⟩) j c) (some 31) (i := 2) rfl rfl (by kernel_rfl) (by kernel_rfl) (by kernel_rfl) (fun _ _ _ h => h) (Or.inl ⟨by rfl, fun w' hw' => ?_⟩) hS ?_
     ·obtain ⟨_, k0, k1⟩ := hw'
      go_simp
     simp only [Act.put, iA, iB, iC]
     refine takeN (.pointer (some ⟨wr.heap.size, 0, none⟩)) (some 32) (i := 3) rfl rfl (by kernel_rfl) (by kernel_rfl) (by kernel_rfl) (fun _ _ _ h => h) (Or.inl ⟨by rfl, fun w' hw' => ?_⟩) hS ?_
     ·obtain ⟨_, k0, k1⟩ := hw'
      go_simp
     simp only [Act.put, iA, iB, iC]
     refine takeN (.string (S k)) (some 33) (i := 4) rfl rfl (by kernel_rfl) (by kernel_rfl) (by kernel_rfl) (fun _ _ _ h => h) (Or.inl ⟨by rfl, fun w' hw' => ?_⟩) hS ?_
     ·obtain ⟨_, k0, k1⟩ := hw'
      go_simp
     simp only [Act.put, iA, iB, iC]
     refine wpAnyH_all (rs := [5]) (by kernel_rfl) (by simp) (fun i hi => ?_)
     obtain rfl : i = 5 := by simpa using hi
     refine wantN (i := 5) rfl (by rfl) (callN (f := 78) (some 34) rfl Tryz.func78 (by kernel_rfl) (by kernel_rfl) rfl rfl ?_)
     simp only [List.map_toArray, List.map_cons, List.map_nil]
     refine (S1.out _ hS.1).mono ?_
     rintro e wn ⟨rfl, hbn⟩
     have hS1 := keepA hS hbn
     clear hbn
     refine ⟨_, rfl, hS1, ?_⟩
     try dsimp only
     simp only [Act.put, iA, iB, iC]
     refine takeN (.bool false) (some 35) (i := 6) rfl rfl (by kernel_rfl) (by kernel_rfl) (by kernel_rfl) (fun _ _ _ h => h) (Or.inl ⟨by rfl, fun w' hw' => ?_⟩) hS1 ?_
     ·obtain ⟨_, k0, k1⟩ := hw'
      go_simp
     simp only [Act.put, iA, iB, iC]
     refine takeN (.bool true) (some 36) (i := 7) rfl rfl (by kernel_rfl) (by kernel_rfl) (by kernel_rfl) (fun _ _ _ h => h) (Or.inl ⟨by rfl, fun w' hw' => ?_⟩) hS1 ?_
     ·obtain ⟨_, k0, k1⟩ := hw'
      go_simp
     simp only [Act.put, iA, iB, iC]
     refine takeN (.bool true) (some 37) (i := 8) rfl rfl (by kernel_rfl) (by kernel_rfl) (by kernel_rfl) (fun _ _ _ h => h) (Or.inl ⟨by rfl, fun w' hw' => ?_⟩) hS1 ?_
     ·obtain ⟨_, k0, k1⟩ := hw'
      go_simp
     simp only [Act.put, iA, iB, iC]
     refine takeN (.pointer (some ⟨nb, 0, none⟩)) (some 38) (i := 9) rfl rfl (by kernel_rfl) (by kernel_rfl) (by kernel_rfl) (fun _ _ _ h => h) (Or.inl ⟨by rfl, fun w' hw' => ?_⟩) hS1 ?_
     ·obtain ⟨_, k0, k1⟩ := hw'
      go_simp
     simp only [Act.put, iA, iB, iC]
     refine takeN (.pointer (some ⟨nb, 0, none⟩)) (some 39) (i := 10) rfl rfl (by kernel_rfl) (by kernel_rfl) (by kernel_rfl) (fun _ _ _ h => h) (Or.inl ⟨by rfl, fun w' hw' => ?_⟩) hS1 ?_
     ·obtain ⟨_, k0, k1⟩ := hw'
      go_simp
     simp only [Act.put, iA, iB, iC]
     refine takeN (.pointer (some ⟨nb, 1, none⟩)) (some 40) (i := 11) rfl rfl (by kernel_rfl) (by kernel_rfl) (by kernel_rfl) (fun _ _ _ h => h) (Or.inl ⟨by rfl, fun w' hw' => ?_⟩) hS1 ?_
     ·obtain ⟨_, k0, k1⟩ := hw'
      go_simp
     simp only [Act.put, iA, iB, iC]
     refine takeN (.slice pr recd.length cr) (some 41) (i := 12) rfl rfl (by kernel_rfl) (by kernel_rfl) (by kernel_rfl) (fun _ _ _ h => h) (Or.inl ⟨by rfl, fun w' hw' => ?_⟩) hS1 ?_
     ·obtain ⟨_, k0, k1⟩ := hw'
      go_simp
     simp only [Act.put, iA, iB, iC]
     refine takeN (.pointer (some ⟨wr.heap.size, 0, none⟩)) (some 42) (i := 13) rfl rfl (by kernel_rfl) (by kernel_rfl) (by kernel_rfl) (fun _ _ _ h => h) (Or.inl ⟨by rfl, fun w' hw' => ?_⟩) hS1 ?_
     ·obtain ⟨_, k0, k1⟩ := hw'
      go_simp
     simp only [Act.put, iA, iB, iC]
     refine takeN (.string (S k)) (some 43) (i := 14) rfl rfl (by kernel_rfl) (by kernel_rfl) (by kernel_rfl) (fun _ _ _ h => h) (Or.inl ⟨by rfl, fun w' hw' => ?_⟩) hS1 ?_
     ·obtain ⟨_, k0, k1⟩ := hw'
      go_simp
     simp only [Act.put, iA, iB, iC]
     refine wpAnyH_all (rs := [15]) (by kernel_rfl) (by simp) (fun i hi => ?_)
     obtain rfl : i = 15 := by simpa using hi
     refine wantN (i := 15) rfl (by rfl) (callN (f := 78) (some 44) rfl Tryz.func78 (by kernel_rfl) (by kernel_rfl) rfl rfl ?_)
     simp only [List.map_toArray, List.map_cons, List.map_nil]
     refine (S2.out _ hS1.1).mono ?_
     rintro e wm ⟨rfl, hbn⟩
     have hS2 := keepA hS1 hbn
     clear hbn
     refine ⟨_, rfl, hS2, ?_⟩
     try dsimp only
     simp only [Act.put, iA, iB, iC]
     refine takeN (.bool true) (some 45) (i := 16) rfl rfl (by kernel_rfl) (by kernel_rfl) (by kernel_rfl) (fun _ _ _ h => h) (Or.inl ⟨by rfl, fun w' hw' => ?_⟩) hS2 ?_
     ·obtain ⟨_, k0, k1⟩ := hw'
      go_simp
     simp only [Act.put, iA, iB, iC]
     refine takeN (.bool true) (some 46) (i := 17) rfl rfl (by kernel_rfl) (by kernel_rfl) (by kernel_rfl) (fun _ _ _ h => h) (Or.inl ⟨by rfl, fun w' hw' => ?_⟩) hS2 ?_
     ·obtain ⟨_, k0, k1⟩ := hw'
      go_simp
     simp only [Act.put, iA, iB, iC]
     refine wpAnyH_done (by kernel_rfl) ?_ _
     have Hw7 := Lib.hid hS2.1
     clear x0 q1
     have Hlow := Lib.hid (below_then Hb4.out Hw7.out)
     go_wp2_with fail
     go_ret2
     rw [Hst.out]
     have hbn := Hlow.out.alloc Hlow.out.size (.cells #[.int .i64 9, .int .i64 (j : Int)] 122)
     have hN1 := HN.out.later hbn
     exact ⟨_, _, H, rfl, PrBuf.nil _ _, ErrIs.offN hN1 (.placed _ 9 j (by decide) (by simp) (by simp)), hN1, Keeps.of hbn H⟩
   ·rw [if_neg (fun hh => by
     rcases hin.1 hh with h | ⟨h1, h2⟩
     ·cases h
     ·rcases hgood with h | ⟨_, h⟩
      ·rw [h] at h1; cases h1
      ·rw [h] at h2; cases h2)] at hst
    have Hst := Lib.hid hst
    clear hst hin
    rcases hgood with rfl | ⟨rfl, rfl⟩
    ·go_wp2_with fail
     refine wp_region_held (S := (fun w' => Below w4.heap.size w4 w' ∧ w'.cell? ⟨wr.heap.size, 0, none⟩ = some (.string (S k)) ∧ w'.cell? ⟨nb, 1, none⟩ = some (.slice pr recd.length cr))) (by kernel_rfl) ?_
     have e9 : Below w4.heap.size w4 { w4 with drawn := w4.drawn + 1 } := (Below.refl _ _).drew
     generalize ({ w4 with drawn := w4.drawn + 1 } : World) = w7 at e9 ⊢
     have hS := keepA ⟨Below.refl _ _, x0, q1⟩ e9
     refine takeN (.slice (some ⟨b, o, none⟩) l.length c) (some 29) (i := 0) rfl rfl (by kernel_rfl) (by kernel_rfl) (by kernel_rfl) (fun _ _ _ h => h) (Or.inl ⟨by rfl, fun w' hw' => ?_⟩) hS ?_
     ·obtain ⟨_, k0, k1⟩ := hw'
      go_simp
     simp only [Act.put, iA, iB, iC]
     refine takeN (.int .i64 (j : Int)) (some 30) (i := 1) rfl rfl (by kernel_rfl) (by kernel_rfl) (by kernel_rfl) (fun _ _ _ h => h) (Or.inl ⟨by rfl, fun w' hw' => ?_⟩) hS ?_
     ·obtain ⟨_, k0, k1⟩ := hw'
      go_simp
     simp only [Act.put, iA, iB, iC]
     refine takeN (.slice (some ⟨b, o, none⟩) j c) (some 31) (i := 2) rfl rfl (by kernel_rfl) (by kernel_rfl) (by kernel_rfl) (fun _ _ _ h => h) (Or.inl ⟨by rfl, fun w' hw' => ?_⟩) hS ?_
     ·obtain ⟨_, k0, k1⟩ := hw'
      go_simp
     simp only [Act.put, iA, iB, iC]
     refine takeN (.pointer (some ⟨wr.heap.size, 0, none⟩)) (some 32) (i := 3) rfl rfl (by kernel_rfl) (by kernel_rfl) (by kernel_rfl) (fun _ _ _ h => h) (Or.inl ⟨by rfl, fun w' hw' => ?_⟩) hS ?_
     ·obtain ⟨_, k0, k1⟩ := hw'
      go_simp
     simp only [Act.put, iA, iB, iC]
     refine takeN (.string (S k)) (some 33) (i := 4) rfl rfl (by kernel_rfl) (by kernel_rfl) (by kernel_rfl) (fun _ _ _ h => h) (Or.inl ⟨by rfl, fun w' hw' => ?_⟩) hS ?_
     ·obtain ⟨_, k0, k1⟩ := hw'
      go_simp
     simp only [Act.put, iA, iB, iC]
     refine wpAnyH_all (rs := [5]) (by kernel_rfl) (by simp) (fun i hi => ?_)
     obtain rfl : i = 5 := by simpa using hi
     refine wantN (i := 5) rfl (by rfl) (callN (f := 78) (some 34) rfl Tryz.func78 (by kernel_rfl) (by kernel_rfl) rfl rfl ?_)
     simp only [List.map_toArray, List.map_cons, List.map_nil]
     refine (S1.out _ hS.1).mono ?_
     rintro e wn ⟨rfl, hbn⟩
     have hS1 := keepA hS hbn
     clear hbn
     refine ⟨_, rfl, hS1, ?_⟩
     try dsimp only
     simp only [Act.put, iA, iB, iC]
     refine takeN (.bool false) (some 35) (i := 6) rfl rfl (by kernel_rfl) (by kernel_rfl) (by kernel_rfl) (fun _ _ _ h => h) (Or.inl ⟨by rfl, fun w' hw' => ?_⟩) hS1 ?_
     ·obtain ⟨_, k0, k1⟩ := hw'
      go_simp
     simp only [Act.put, iA, iB, iC]
     refine takeN (.bool false) (some 36) (i := 7) rfl rfl (by kernel_rfl) (by kernel_rfl) (by kernel_rfl) (fun _ _ _ h => h) (Or.inl ⟨by rfl, fun w' hw' => ?_⟩) hS1 ?_
     ·obtain ⟨_, k0, k1⟩ := hw'
      go_simp
     simp only [Act.put, iA, iB, iC]
     refine takeN (.bool false) (some 37) (i := 8) rfl rfl (by kernel_rfl) (by kernel_rfl) (by kernel_rfl) (fun _ _ _ h => h) (Or.inl ⟨by rfl, fun w' hw' => ?_⟩) hS1 ?_
     ·obtain ⟨_, k0, k1⟩ := hw'
      go_simp
     simp only [Act.put, iA, iB, iC]
     refine takeN undef (some 38) (i := 9) rfl rfl (by kernel_rfl) (by kernel_rfl) (by kernel_rfl) (fun _ _ _ h => h) (Or.inr ⟨by rfl, rfl⟩) hS1 ?_
     simp only [Act.put, iA, iB, iC]
     refine takeN undef (some 39) (i := 10) rfl rfl (by kernel_rfl) (by kernel_rfl) (by kernel_rfl) (fun _ _ _ h => h) (Or.inr ⟨by rfl, rfl⟩) hS1 ?_
     simp only [Act.put, iA, iB, iC]
     refine takeN undef (some 40) (i := 11) rfl rfl (by kernel_rfl) (by kernel_rfl) (by kernel_rfl) (fun _ _ _ h => h) (Or.inr ⟨by rfl, rfl⟩) hS1 ?_
     simp only [Act.put, iA, iB, iC]
     refine takeN undef (some 41) (i := 12) rfl rfl (by kernel_rfl) (by kernel_rfl) (by kernel_rfl) (fun _ _ _ h => h) (Or.inr ⟨by rfl, rfl⟩) hS1 ?_
     simp only [Act.put, iA, iB, iC]
     refine takeN undef (some 42) (i := 13) rfl rfl (by kernel_rfl) (by kernel_rfl) (by kernel_rfl) (fun _ _ _ h => h) (Or.inr ⟨by rfl, rfl⟩) hS1 ?_
     simp only [Act.put, iA, iB, iC]
     refine takeN undef (some 43) (i := 14) rfl rfl (by kernel_rfl) (by kernel_rfl) (by kernel_rfl) (fun _ _ _ h => h) (Or.inr ⟨by rfl, rfl⟩) hS1 ?_
     simp only [Act.put, iA, iB, iC]
     refine takeN undef (some 44) (i := 15) rfl rfl (by kernel_rfl) (by kernel_rfl) (by kernel_rfl) (fun _ _ _ h => h) (Or.inr ⟨by rfl, rfl⟩) hS1 ?_
     simp only [Act.put, iA, iB, iC]
     refine takeN (.bool false) (some 45) (i := 16) rfl rfl (by kernel_rfl) (by kernel_rfl) (by kernel_rfl) (fun _ _ _ h => h) (Or.inl ⟨by rfl, fun w' hw' => ?_⟩) hS1 ?_
     ·obtain ⟨_, k0, k1⟩ := hw'
      go_simp
     simp only [Act.put, iA, iB, iC]
     refine takeN (.bool false) (some 46) (i := 17) rfl rfl (by kernel_rfl) (by kernel_rfl) (by kernel_rfl) (fun _ _ _ h => h) (Or.inl ⟨by rfl, fun w' hw' => ?_⟩) hS1 ?_
     ·obtain ⟨_, k0, k1⟩ := hw'
      go_simp
     simp only [Act.put, iA, iB, iC]
     refine wpAnyH_done (by kernel_rfl) ?_ _
     have Hw7 := Lib.hid hS1.1
     clear x0 q1
     have Hlow := Lib.hid (below_then Hb4.out Hw7.out)
     go_wp2_with fail
     go_roundw
     case rel => exact ⟨j + 1, by omega, by go_num, Lib.hid Hst.out.symm, Hlow.out⟩
     case measure => simp [intOf]; omega
    ·go_wp2_with fail
     refine wp_region_held (S := (fun w' => Below w4.heap.size w4 w' ∧ w'.cell? ⟨wr.heap.size, 0, none⟩ = some (.string (S k)) ∧ w'.cell? ⟨nb, 1, none⟩ = some (.slice pr recd.length cr))) (by kernel_rfl) ?_
     have e9 : Below w4.heap.size w4 { w4 with drawn := w4.drawn + 1 } := (Below.refl _ _).drew
     generalize ({ w4 with drawn := w4.drawn + 1 } : World) = w7 at e9 ⊢
     have hS := keepA ⟨Below.refl _ _, x0, q1⟩ e9
     refine takeN (.slice (some ⟨b, o, none⟩) l.length c) (some 29) (i := 0) rfl rfl (by kernel_rfl) (by kernel_rfl) (by kernel_rfl) (fun _ _ _ h => h) (Or.inl ⟨by rfl, fun w' hw' => ?_⟩) hS ?_
     ·obtain ⟨_, k0, k1⟩ := hw'
      go_simp
     simp only [Act.put, iA, iB, iC]
     refine takeN (.int .i64 (j : Int)) (some 30) (i := 1) rfl rfl (by kernel_rfl) (by kernel_rfl) (by kernel_rfl) (fun _ _ _ h => h) (Or.inl ⟨by rfl, fun w' hw' => ?_⟩) hS ?_
     ·obtain ⟨_, k0, k1⟩ := hw'
      go_simp
     simp only [Act.put, iA, iB, iC]
     refine takeN (.slice (some ⟨b, o, none⟩) j c) (some 31) (i := 2) rfl rfl (by kernel_rfl) (by kernel_rfl) (by kernel_rfl) (fun _ _ _ h => h) (Or.inl ⟨by rfl, fun w' hw' => ?_⟩) hS ?_
     ·obtain ⟨_, k0, k1⟩ := hw'
      go_simp
     simp only [Act.put, iA, iB, iC]
     refine takeN (.pointer (some ⟨wr.heap.size, 0, none⟩)) (some 32) (i := 3) rfl rfl (by kernel_rfl) (by kernel_rfl) (by kernel_rfl) (fun _ _ _ h => h) (Or.inl ⟨by rfl, fun w' hw' => ?_⟩) hS ?_
     ·obtain ⟨_, k0, k1⟩ := hw'
      go_simp
     simp only [Act.put, iA, iB, iC]
     refine takeN (.string (S k)) (some 33) (i := 4) rfl rfl (by kernel_rfl) (by kernel_rfl) (by kernel_rfl) (fun _ _ _ h => h) (Or.inl ⟨by rfl, fun w' hw' => ?_⟩) hS ?_
     ·obtain ⟨_, k0, k1⟩ := hw'
      go_simp
     simp only [Act.put, iA, iB, iC]
     refine wpAnyH_all (rs := [5]) (by kernel_rfl) (by simp) (fun i hi => ?_)
     obtain rfl : i = 5 := by simpa using hi
     refine wantN (i := 5) rfl (by rfl) (callN (f := 78) (some 34) rfl Tryz.func78 (by kernel_rfl) (by kernel_rfl) rfl rfl ?_)
     simp only [List.map_toArray, List.map_cons, List.map_nil]
     refine (S1.out _ hS.1).mono ?_
     rintro e wn ⟨rfl, hbn⟩
     have hS1 := keepA hS hbn
     clear hbn
     refine ⟨_, rfl, hS1, ?_⟩
     try dsimp only
     simp only [Act.put, iA, iB, iC]
     refine takeN (.bool false) (some 35) (i := 6) rfl rfl (by kernel_rfl) (by kernel_rfl) (by kernel_rfl) (fun _ _ _ h => h) (Or.inl ⟨by rfl, fun w' hw' => ?_⟩) hS1 ?_
     ·obtain ⟨_, k0, k1⟩ := hw'
      go_simp
     simp only [Act.put, iA, iB, iC]
     refine takeN (.bool true) (some 36) (i := 7) rfl rfl (by kernel_rfl) (by kernel_rfl) (by kernel_rfl) (fun _ _ _ h => h) (Or.inl ⟨by rfl, fun w' hw' => ?_⟩) hS1 ?_
     ·obtain ⟨_, k0, k1⟩ := hw'
      go_simp
     simp only [Act.put, iA, iB, iC]
     refine takeN (.bool true) (some 37) (i := 8) rfl rfl (by kernel_rfl) (by kernel_rfl) (by kernel_rfl) (fun _ _ _ h => h) (Or.inl ⟨by rfl, fun w' hw' => ?_⟩) hS1 ?_
     ·obtain ⟨_, k0, k1⟩ := hw'
      go_simp
     simp only [Act.put, iA, iB, iC]
     refine takeN (.pointer (some ⟨nb, 0, none⟩)) (some 38) (i := 9) rfl rfl (by kernel_rfl) (by kernel_rfl) (by kernel_rfl) (fun _ _ _ h => h) (Or.inl ⟨by rfl, fun w' hw' => ?_⟩) hS1 ?_
     ·obtain ⟨_, k0, k1⟩ := hw'
      go_simp
     simp only [Act.put, iA, iB, iC]
     refine takeN (.pointer (some ⟨nb, 0, none⟩)) (some 39) (i := 10) rfl rfl (by kernel_rfl) (by kernel_rfl) (by kernel_rfl) (fun _ _ _ h => h) (Or.inl ⟨by rfl, fun w' hw' => ?_⟩) hS1 ?_
     ·obtain ⟨_, k0, k1⟩ := hw'
      go_simp
     simp only [Act.put, iA, iB, iC]
     refine takeN (.pointer (some ⟨nb, 1, none⟩)) (some 40) (i := 11) rfl rfl (by kernel_rfl) (by kernel_rfl) (by kernel_rfl) (fun _ _ _ h => h) (Or.inl ⟨by rfl, fun w' hw' => ?_⟩) hS1 ?_
     ·obtain ⟨_, k0, k1⟩ := hw'
      go_simp
     simp only [Act.put, iA, iB, iC]
     refine takeN (.slice pr recd.length cr) (some 41) (i := 12) rfl rfl (by kernel_rfl) (by kernel_rfl) (by kernel_rfl) (fun _ _ _ h => h) (Or.inl ⟨by rfl, fun w' hw' => ?_⟩) hS1 ?_
     ·obtain ⟨_, k0, k1⟩ := hw'
      go_simp
     simp only [Act.put, iA, iB, iC]
     refine takeN (.pointer (some ⟨wr.heap.size, 0, none⟩)) (some 42) (i := 13) rfl rfl (by kernel_rfl) (by kernel_rfl) (by kernel_rfl) (fun _ _ _ h => h) (Or.inl ⟨by rfl, fun w' hw' => ?_⟩) hS1 ?_
     ·obtain ⟨_, k0, k1⟩ := hw'
      go_simp
     simp only [Act.put, iA, iB, iC]
     refine takeN (.string (S k)) (some 43) (i := 14) rfl rfl (by kernel_rfl) (by kernel_rfl) (by kernel_rfl) (fun _ _ _ h => h) (Or.inl ⟨by rfl, fun w' hw' => ?_⟩) hS1 ?_
     ·obtain ⟨_, k0, k1⟩ := hw'
      go_simp
     simp only [Act.put, iA, iB, iC]
     refine wpAnyH_all (rs := [15]) (by kernel_rfl) (by simp) (fun i hi => ?_)
     obtain rfl : i = 15 := by simpa using hi
     refine wantN (i := 15) rfl (by rfl) (callN (f := 78) (some 44) rfl Tryz.func78 (by kernel_rfl) (by kernel_rfl) rfl rfl ?_)
     simp only [List.map_toArray, List.map_cons, List.map_nil]
     refine (S2.out _ hS1.1).mono ?_
     rintro e wm ⟨rfl, hbn⟩
     have hS2 := keepA hS1 hbn
     clear hbn
     refine ⟨_, rfl, hS2, ?_⟩
     try dsimp only
     simp only [Act.put, iA, iB, iC]
     refine takeN (.bool false) (some 45) (i := 16) rfl rfl (by kernel_rfl) (by kernel_rfl) (by kernel_rfl) (fun _ _ _ h => h) (Or.inl ⟨by rfl, fun w' hw' => ?_⟩) hS2 ?_
     ·obtain ⟨_, k0, k1⟩ := hw'
      go_simp
     simp only [Act.put, iA, iB, iC]
     refine takeN (.bool false) (some 46) (i := 17) rfl rfl (by kernel_rfl) (by kernel_rfl) (by kernel_rfl) (fun _ _ _ h => h) (Or.inl ⟨by rfl, fun w' hw' => ?_⟩) hS2 ?_
     ·obtain ⟨_, k0, k1⟩ := hw'
      go_simp
     simp only [Act.put, iA, iB, iC]
     refine wpAnyH_done (by kernel_rfl) ?_ _
     have Hw7 := Lib.hid hS2.1
     clear x0 q1
     have Hlow := Lib.hid (below_then Hb4.out Hw7.out)
     go_wp2_with fail
     go_roundw
     case rel => exact ⟨j + 1, by omega, by go_num, Lib.hid Hst.out.symm, Hlow.out⟩
     case measure => simp [intOf]; omega
  ·obtain rfl : j = l.length := by omega
   have hr := Hr.out
   rw [List.drop_length] at hr
   have hG := Good.out hr.symm
   have HG := Lib.hid hG
   clear hr Hr hb hlt hj Bad Good Hb1 hG
   have HK0 := Lib.hid (Keeps.of Hbq.out H)
   have HN0 := Lib.hid (HN.out.later Hbq.out)
   go_wp2_with fail
   go_loopw [13, 54] (fun ov i W => ∃ (j : Nat) (out recj : List Pr) (H' : Nat → Prop), j ≤ l.length ∧ i = .int .i64 j ∧ Hid (goN (oneN mine lg dc) l recd = (out ++ (goN (oneN mine lg dc) (l.drop j) recj).1, (goN (oneN mine lg dc) (l.drop j) recj).2)) ∧ out.length ≤ j ∧ Hid (RecOk recj) ∧ Hid (PrBuf w.heap.size (offW H' W) ov out) ∧ Hid (NegAt W B H' nb (.slice pm mine.length cm) mine recj) ∧ Hid (Keeps w.heap.size w W H H')) (fun _ i _ => l.length - (intOf i).toNat)
   case atStart => exact ⟨0, [], recd, H, by omega, rfl, Lib.hid (by simp), by simp, HKr, Lib.hid (PrBuf.nil _ _), HN0, HK0⟩
   case round =>
    obtain ⟨j, out, recj, H', hj, rfl, Hgo, hol, HKj, HBf, HNj, HKp⟩ := hrel
    obtain ⟨po, co, rfl⟩ := HBf.out.form
    by_cases hlt : j < l.length
    ·obtain ⟨b, o, rfl, h1, h2⟩ := (HV.out.later HKp.out.off').off.cell hlt
     have hwp := Hok.out l[j] (List.getElem_mem hlt)
     have hsum := one_some (mine := mine) (lg := lg) (dc := dc) hwp
     have hgo := Hgo.out
     rw [List.drop_eq_getElem_cons hlt, goN_cons] at hgo
     have hrec2 : RecOk (recN recj l[j].k (oneN mine lg dc l[j]).2) := (goN_ok (mine := mine) (lg := lg) (dc := dc) (l := [l[j]]) HKj.out (fun q hq => by rw [List.mem_singleton.1 hq]; exact hwp))
     have hj18 := HKj.out.few
     obtain ⟨⟨k, d⟩, ha⟩ : ∃ a, l[j] = a := ⟨_, rfl⟩
     rw [ha] at h1 h2 hwp hsum hgo hrec2
     simp only at h1 h2 hgo hrec2
     rw [asP_getD hsum.1] at hgo
     obtain ⟨w4, hw4⟩ : ∃ w4, wr.alloc (.cells #[.string (S k), .string (S d)] 60) = w4 := ⟨_, rfl⟩
     have hb4 : Below wr.heap.size wr w4 := by rw [← hw4]; exact (Below.refl _ _).alloc (Nat.le_refl _) _
     have hP4 : Blk w4 wr.heap.size #[.string (S k), .string (S d)] 60 := by rw [← hw4]; exact Blk.new wr _ _
     obtain ⟨xb, hxb⟩ : ∃ xb, wr.heap.size = xb := ⟨_, rfl⟩
     have Hxb := Lib.hid hxb
     rw [hxb] at hP4
     have hN4 := HNj.out.later hb4
     have hK4 := HKp.out.then (Keeps.of hb4 H')
     have TK := take_any k d lg dc hN4 (by omega) HM.out hwp (HE.out.keeps hK4)
     obtain ⟨m2, hm2⟩ : ∃ m2, recN recj k (oneN mine lg dc ⟨k, d⟩).2 = m2 := ⟨_, rfl⟩
     obtain ⟨said, hsaid⟩ : ∃ said, (oneN mine lg dc ⟨k, d⟩).1.getD [] = said := ⟨_, rfl⟩
     rw [hm2] at TK hgo hrec2
     rw [hsaid] at TK hgo
     have TK := Lib.hid TK
     have Hgo2 := Lib.hid hgo
     have Hrec2 := Lib.hid hrec2
     have HK4 := Lib.hid hK4
     have HP4 := Lib.hid hP4
     have HB4 := Lib.hid (show PrBuf w.heap.size (offW H' w4) (.slice po out.length co) out from HBf.out.later (Keeps.of hb4 H').off')
     have Hnx := Lib.hid (show ¬ H' xb from fun hh => by have := (HNj.out.base xb hh).2; omega)
     obtain ⟨x0, x1⟩ := HP4.out.two
     have hjI : (j : Int) < (l.length : Int) := by omega
     clear hwp hsum hgo hrec2 ha hb4 hP4 hN4 hK4 hm2 hsaid
     go_wp2_with fail
     refine TK.out.mono ?_
     rintro e w5 ⟨H5, rfl, hn5, hk5⟩
     have HN5 := Lib.hid hn5
     have HK5 := Lib.hid (HK4.out.then hk5)
     have HB5 := Lib.hid (show PrBuf w.heap.size (offW H5 w5) (.slice po out.length co) out from HB4.out.later hk5.off')
     have hP5 : Blk w5 xb #[.string (S k), .string (S d)] 60 := (hk5.block xb HP4.out.lt Hnx.out).trans HP4.out
     obtain ⟨y0, y1⟩ := hP5.two
     clear hn5 hk5 x0 x1 TK
     by_cases hs : said = []
     ·subst hs
      have Hgo3 := Lib.hid (show goN (oneN mine lg dc) l recd = (out ++ (goN (oneN mine lg dc) (l.drop (j + 1)) m2).1, (goN (oneN mine lg dc) (l.drop (j + 1)) m2).2) by have := Hgo2.out; rwa [if_pos rfl, List.nil_append] at this)
      clear hP5
      go_wp2_with fail
      go_roundw
      case rel => exact ⟨j + 1, out, m2, H5, by omega, by go_num, Hgo3, by omega, Hrec2, HB5, HN5, HK5⟩
      case measure => simp [intOf]; omega
     ·have Hgo3 := Lib.hid (show goN (oneN mine lg dc) l recd = ((out ++ [⟨k, said⟩]) ++ (goN (oneN mine lg dc) (l.drop (j + 1)) m2).1, (goN (oneN mine lg dc) (l.drop (j + 1)) m2).2) by have := Hgo2.out; rwa [if_neg hs, ← List.append_assoc] at this)
      have hsb : (said == []) = false := by simpa using hs
      have hsb2 : (said != []) = true := by simpa using hs
      obtain ⟨WA, hWA⟩ : ∃ WA, w5.alloc (.cells #[.string (S k), .string (S said)] 60) = WA := ⟨_, rfl⟩
      have hbA : Below w5.heap.size w5 WA := by rw [← hWA]; exact (Below.refl _ _).alloc (Nat.le_refl _) _
      have hNA : Blk WA w5.heap.size #[.string (S k), .string (S said)] 60 := by rw [← hWA]; exact Blk.new w5 _ _
      obtain ⟨v6, w6, hrun, hown6, hgrow6, h6⟩ := appP_two (x := ⟨k, said⟩) (a := ⟨w5.heap.size, 0, none⟩) (show PrBuf w.heap.size WA (.slice po out.length co) out from PrBuf.later (show PrBuf w.heap.size w5 (.slice po out.length co) out from (off_row HB5.out).1) hbA) (fun t u hu => by
       have e1 : (⟨w5.heap.size, 0, none⟩ : Addr).add t = ⟨w5.heap.size, t, none⟩ := by simp only [Addr.add]; split <;> simp_all
       rw [e1, hNA.cell t]
       simpa using hu) (by omega) (by have := HK5.out.size; have := hbA.size; omega)
      obtain ⟨hb6, hn6, hk6⟩ := HN.out.said HN5.out HK5.out HB5.out hbA hgrow6 hown6 h6
      have hv6 : (out ++ [(⟨k, said⟩ : Pr)]).length = out.length + 1 := by simp
      obtain ⟨p6, c6, rfl⟩ := hown6.form
      rw [hv6] at hrun
      have HRun := Lib.hid hrun
      have HB6 := Lib.hid hb6
      have HN6 := Lib.hid hn6
      have HK6 := Lib.hid hk6
      rw [hv6] at HB6
      clear hP5 hbA hNA hrun hown6 hgrow6 h6 hb6 hn6 hk6 hs HB5 HN5 HK5
      go_wp2_with (at_builtin; refine wpList_append_ran _ (by rfl) _ _ _ _ rfl _ _ rfl rfl _ _ HRun.out ?_)
      go_roundw
      case rel => exact ⟨j + 1, out ++ [⟨k, said⟩], m2, H5, by omega, by go_num, Hgo3, by simp; omega, Hrec2, HB6, HN6, HK6⟩
      case measure => simp [intOf]; omega
    ·obtain rfl : j = l.length := by omega
     have hgo := Hgo.out
     rw [List.drop_length] at hgo
     have Hgo2 := Lib.hid (show goN (oneN mine lg dc) l recd = (out, recj) by rw [hgo]; simp [goN])
     clear hgo Hgo hlt
     go_wp2_with fail
     go_ret2
     rw [HG.out, Hgo2.out]
     exact ⟨_, _, H', rfl, HBf.out, .good, HNj.out, HKp.out⟩
end Go.Proofs.YtjbbbpgcegcbaaaGreatDoor
