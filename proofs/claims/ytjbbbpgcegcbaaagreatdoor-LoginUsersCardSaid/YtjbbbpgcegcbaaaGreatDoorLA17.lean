/- LA17: several texts in one. -/
import Derived.Test.YtjbbbpgcegcbaaaGreatDoorLA01
import Derived.Test.YtjbbbpgcegcbaaaGreatDoorLA15
import Derived.Test.YtjbbbpgcegcbaaaGreatDoorLA16
namespace Go.Proofs.YtjbbbpgcegcbaaaGreatDoor
open Go.RowKit
set_option linter.unusedVariables false
def tailL (c : Cf) (d : Dw) (h : Hd) (l : List Pr) (s : Lg) : (Int × List Pr × Int) × Lg :=
 match secL c d l s with
 | ((x, e), s2) => if e ≠ -1 then ((0, [], e), s2)
  else match ansN s2.mine s2.recd (restL l) true s2.dsc with
   | ((y, n, _), r) => if n ≠ 0 then ((0, [], 0), s2)
    else if tB h = true ∧ s2.knw = true then ((128 + 4 * csgI h + nsgI h, x ++ y, -1), { s2 with recd := r, stg := nsgI h, don := decide (nsgI h = 3) })
    else ((4 * csgI h, x ++ y, -1), { s2 with recd := r })
def Agree (c : Cf) (h : Hd) (r : (Int × List Pr × Int) × Lq) (t : (Int × List Pr × Int) × Lg) : Prop :=
 (r.1.1 = -1 ∧ t.1.2.2 = -1 ∧ t.1.2.1 = r.1.2.1 ∧ t.1.1 = 4 * csgI h + r.1.2.2 ∧ LiveQ c r.2 t.2) ∨ (r.1.1 ≠ -1 ∧ t.1.2.2 = r.1.1 ∧ SameQ r.2 t.2)
theorem tell_sim {c : Cf} {d : Dw} {q : Lq} {s : Lg} {h : Hd} {l : List Pr} (hc : CfOk c) (hb : q.bgn = true) (L : LiveQ c q s) : Agree c h (tellQ c d h l q) (tailL c d h l s) := by
 unfold tellQ tailL secL
 rw [L.stg]
 by_cases h0 : secBad (decide (s.stg ≠ 0)) [] l = true
 ·rw [if_pos h0, if_pos h0]
  exact .inr ⟨by show (0 : Int) ≠ -1; decide, rfl, L.toSameQ⟩
 rw [if_neg h0, if_neg h0]
 rcases chs_sim (o := prFind l kAM) L with ⟨a, s1, e1, e2, L1, -, b1⟩ | ⟨e1, e2, L1⟩
 case inr =>
  rw [e1]
  obtain ⟨o, q1, hq⟩ : ∃ o q1, chsQ c (prFind l kAM) q = (o, q1) := ⟨_, _, rfl⟩
  rw [hq] at e2 L1 ⊢
  simp only at e2 L1
  subst e2
  exact .inr ⟨by show (1 : Int) ≠ -1; decide, rfl, L1.toSameQ⟩
 rw [e1]
 obtain ⟨o, q1, hq⟩ : ∃ o q1, chsQ c (prFind l kAM) q = (o, q1) := ⟨_, _, rfl⟩
 rw [hq] at e2 L1 b1 ⊢
 simp only at e2 L1 b1 ⊢
 subst e2
 clear hq e1
 simp only
 rcases chl_sim (d := d) (o := prFind l kCA) L1 with ⟨b, s2, e1, e2, L2, b2⟩ | ⟨e1, e2, L2⟩
 case inr =>
  rw [e1]
  obtain ⟨o, q2, hq⟩ : ∃ o q2, chlQ d (prFind l kCA) q1 = (o, q2) := ⟨_, _, rfl⟩
  rw [hq] at e2 L2 ⊢
  simp only at e2 L2
  subst e2
  exact .inr ⟨by show (1 : Int) ≠ -1; decide, rfl, L2.toSameQ⟩
 rw [e1]
 obtain ⟨o, q2, hq⟩ : ∃ o q2, chlQ d (prFind l kCA) q1 = (o, q2) := ⟨_, _, rfl⟩
 rw [hq] at e2 L2 b2 ⊢
 simp only at e2 L2 b2 ⊢
 subst e2
 clear hq e1
 simp only
 obtain ⟨e1, L3⟩ := chk_sim (d := d) (n := prFind l kCN) (r := prFind l kCR) (i := prFind l kCI) (cc := prFind l kCC) hc (by rw [b2, b1, hb]) L2
 obtain ⟨o, q3, hq⟩ : ∃ o q3, chkQ c d (prFind l kCN) (prFind l kCR) (prFind l kCI) (prFind l kCC) q2 = (o, q3) := ⟨_, _, rfl⟩
 obtain ⟨o', s3, hs⟩ : ∃ o s3, secC c d (prFind l kCI) (prFind l kCC) (prFind l kCN) (prFind l kCR) s2 = (o, s3) := ⟨_, _, rfl⟩
 have h5 : (secC c d (prFind l kCI) (prFind l kCC) (prFind l kCN) (prFind l kCR) s2).2 = s3 := by rw [hs]
 rw [hq, hs] at e1 L3
 rw [hq, hs]
 simp only at e1 L3 ⊢
 subst e1
 clear hq hs
 cases o with
 | none => exact .inr ⟨by show (1 : Int) ≠ -1; decide, rfl, L3.toSameQ⟩
 | some x =>
  simp only
  have hA : ansN q3.mine q3.recd (restL l) true (dscQ q3) = ansN s3.mine s3.recd (restL l) true s3.dsc := by rw [L3.mine, L3.recd, L3.dsc]
  rw [hA]
  have hE := @ansN_err s3.mine s3.recd (restL l) true s3.dsc
  obtain ⟨⟨y, n, p⟩, r, hr⟩ : ∃ a r, ansN s3.mine s3.recd (restL l) true s3.dsc = (a, r) := ⟨_, _, rfl⟩
  rw [hr] at hE ⊢
  simp only at hE ⊢
  rw [if_neg (by decide : ¬ (-1 : Int) ≠ -1)]
  by_cases hn : n = 0
  case neg =>
   rw [if_pos hn, if_pos hn]
   refine .inr ⟨by show (0 : Int) ≠ -1; decide, rfl, ?_⟩
   rw [(hE hn).2]
   exact ⟨L3.mine, rfl, L3.usr, L3.tgt, L3.dsc, L3.sta, L3.don, L3.fld⟩
  rw [if_neg (fun h => h hn), if_neg (fun h => h hn)]
  have hbq : q3.bgn = true := by
   have h1 := L3.bgn
   have h2 : s3.fst.isSome = true := by
    have : ∀ i cc n r, (secC c d i cc n r s2).2.fst = s2.fst := by
     intro i cc n r
     unfold secC
     split
     ·rfl
     ·split
      ·rfl
      ·split <;> rfl
    have h3 := L2.bgn
    rw [b2, b1, hb] at h3
    have h4 := this (prFind l kCI) (prFind l kCC) (prFind l kCN) (prFind l kCR)
    rw [h5] at h4
    rw [h4]
    exact h3.symm
   rw [h1, h2]
  have hk := L3.knw hbq
  have hkq : knwQ c { q3 with recd := r } = knwQ c q3 := rfl
  unfold goQ
  rw [hkq, ← hk]
  by_cases ht : tB h = true ∧ s3.knw = true
  ·rw [if_pos ht, if_neg (by rintro (h' | h'); (rw [ht.1] at h'; cases h'); (rw [ht.2] at h'; cases h'))]
   refine .inl ⟨rfl, rfl, rfl, by show 128 + 4 * csgI h + nsgI h = 4 * csgI h + (128 + nsgI h); omega, ?_⟩
   exact ⟨⟨L3.mine, rfl, L3.usr, L3.tgt, L3.dsc, L3.sta, rfl, L3.fld⟩, L3.came, L3.met, L3.mth, L3.chd, L3.bgn, rfl, L3.ids, L3.knw, L3.new, L3.new2⟩
  ·rw [if_neg ht, if_pos (by
    cases h1 : tB h with
    | false => exact .inl rfl
    | true => cases h2 : s3.knw with
     | false => exact .inr rfl
     | true => exact absurd ⟨h1, h2⟩ ht)]
   refine .inl ⟨rfl, rfl, rfl, by show 4 * csgI h = 4 * csgI h + 0; omega, ?_⟩
   exact ⟨⟨L3.mine, rfl, L3.usr, L3.tgt, L3.dsc, L3.sta, L3.don, L3.fld⟩, L3.came, L3.met, L3.mth, L3.chd, L3.bgn, L3.stg, L3.ids, L3.knw, L3.new, L3.new2⟩
def postL (h : Hd) (t : (List Pr × Int) × Lg) : (Int × List Pr × Int) × Lg :=
 if t.1.2 ≠ -1 then ((0, [], t.1.2), t.2)
 else if tB h = true ∧ t.2.knw = true then ((128 + 4 * csgI h + nsgI h, t.1.1, -1), { t.2 with stg := nsgI h, don := decide (nsgI h = 3) })
 else ((4 * csgI h, t.1.1, -1), t.2)
theorem textL_tail {c : Cf} {d : Dw} {h : Hd} {l : List Pr} {s : Lg} :
  postL h (textL c d l s)
  = if s.bgn = false ∧ (beginL c l).1 ≠ -1 then ((0, [], (beginL c l).1), { s with bgn := true })
   else tailL c d h l (if s.bgn = true then s else { s with bgn := true, tgt := (beginL c l).2.1, dsc := (beginL c l).2.2 }) := by
 unfold textL postL
 simp only
 by_cases hb : s.bgn = false ∧ (beginL c l).1 ≠ -1
 ·rw [if_pos hb, if_pos hb]
  simp only
  rw [if_pos hb.2, if_neg (by rw [hb.1]; decide), if_neg hb.2]
 rw [if_neg hb, if_neg hb]
 have e : (if s.bgn = true then s else if (beginL c l).1 = -1 then { s with bgn := true, tgt := (beginL c l).2.1, dsc := (beginL c l).2.2 } else { s with bgn := true }) = (if s.bgn = true then s else { s with bgn := true, tgt := (beginL c l).2.1, dsc := (beginL c l).2.2 }) := by
  by_cases h1 : s.bgn = true
  ·rw [if_pos h1, if_pos h1]
  ·rw [if_neg h1, if_neg h1]
   have h2 : s.bgn = false := by cases h : s.bgn with | false => rfl | true => exact absurd h h1
   rw [if_pos (by by_cases h3 : (beginL c l).1 = -1; exact h3; exact absurd ⟨h2, h3⟩ hb)]
 rw [e]
 generalize (if s.bgn = true then s else { s with bgn := true, tgt := (beginL c l).2.1, dsc := (beginL c l).2.2 } : Lg) = s1
 unfold tailL
 obtain ⟨⟨x, e2⟩, s2, hs⟩ : ∃ a s2, secL c d l s1 = (a, s2) := ⟨_, _, rfl⟩
 rw [hs]
 simp only
 by_cases h1 : e2 ≠ -1
 ·rw [if_pos h1, if_pos h1]
  simp only
  rw [if_pos h1]
 rw [if_neg h1, if_neg h1]
 obtain ⟨⟨y, n, p⟩, r, hr⟩ : ∃ a r, ansN s2.mine s2.recd (restL l) true s2.dsc = (a, r) := ⟨_, _, rfl⟩
 rw [hr]
 simp only
 by_cases hn : n ≠ 0
 ·rw [if_pos hn, if_pos hn]
  simp only
  rw [if_pos (by decide)]
 ·rw [if_neg hn, if_neg hn]
  simp only
  rw [if_neg (by decide)]
theorem hear_sim {c : Cf} {d : Dw} {q : Lq} {s : Lg} {p : Pd} (hc : CfOk c) (L : LiveQ c q s) (h0 : 0 ≤ p.h.fl ∧ p.h.fl < 256) : Agree c p.h (hearQ c d p q) (asksL c d p s) := by
 unfold hearQ asksL admQ
 simp only
 rw [adm_head L h0]
 have LB := beg_live (h := p.h) L
 by_cases h1 : headL (decide (c.us ≠ [])) s p.h ≠ -1
 ·rw [if_pos h1, if_pos h1]
  exact .inr ⟨h1, rfl, adm_same L.toSameQ⟩
 rw [if_neg h1, if_neg h1]
 have hbg : (begQ p.h q).bgn = true := by
  unfold begQ
  split
  ·assumption
  ·rfl
 generalize begQ p.h q = q1 at LB hbg ⊢
 generalize firstL c p.h s = s1 at LB ⊢
 rw [LB.came]
 obtain ⟨⟨l, n, pl⟩, G, hG⟩ : ∃ a G, addG ⟨8192, s1.came⟩ p.d (cB p.h) = (a, G) := ⟨_, _, rfl⟩
 rw [hG]
 simp only
 have L2 : LiveQ c { q1 with came := G.came } { s1 with came := G.came } := ⟨⟨LB.mine, LB.recd, LB.usr, LB.tgt, LB.dsc, LB.sta, LB.don, LB.fld⟩, rfl, LB.met, LB.mth, LB.chd, LB.bgn, LB.stg, LB.ids, LB.knw, LB.new, LB.new2⟩
 by_cases hn : n ≠ 0
 ·rw [if_pos hn, if_pos hn]
  exact .inr ⟨by show (0 : Int) ≠ -1; decide, rfl, L2.toSameQ⟩
 rw [if_neg hn, if_neg hn]
 by_cases hcb : cB p.h = true
 ·rw [if_pos hcb, if_pos hcb]
  exact .inl ⟨rfl, rfl, rfl, by show 4 * csgI p.h = 4 * csgI p.h + 0; omega, L2⟩
 rw [if_neg hcb, if_neg hcb]
 show Agree c p.h _ (postL p.h (textL c d l { s1 with came := G.came }))
 rw [textL_tail]
 have hbg2 : ({ q1 with came := G.came } : Lq).bgn = true := hbg
 generalize ({ q1 with came := G.came } : Lq) = q2 at L2 hbg2 ⊢
 generalize ({ s1 with came := G.came } : Lg) = s2 at L2 ⊢
 clear LB hbg
 unfold metQ
 by_cases hm : q2.met = true
 ·have hsb : s2.bgn = true := by rw [← L2.met]; exact hm
  rw [if_pos hm, if_neg (by simp), if_neg (by rw [hsb]; rintro ⟨h, _⟩; cases h), if_pos hsb]
  exact tell_sim hc hbg2 L2
 ·have hsb : s2.bgn = false := by rw [← L2.met]; cases h : q2.met with | false => rfl | true => exact absurd h hm
  have L3 : LiveQ c { q2 with met := true } { s2 with bgn := true } := ⟨⟨L2.mine, L2.recd, L2.usr, L2.tgt, L2.dsc, L2.sta, L2.don, L2.fld⟩, L2.came, rfl, L2.mth, L2.chd, L2.bgn, L2.stg, L2.ids, L2.knw, L2.new, fun h => by cases h⟩
  have h00 : ({ s2 with bgn := true } : Lg).tgt = [] ∧ ({ s2 with bgn := true } : Lg).dsc = false := by
   obtain ⟨a, b⟩ := L2.new2 (by cases h : q2.met with | false => rfl | true => exact absurd h hm)
   refine ⟨?_, ?_⟩
   ·show s2.tgt = []
    rw [← L2.tgt, a]; rfl
   ·show s2.dsc = false
    rw [← L2.dsc]; unfold dscQ; rw [b]; decide
  obtain ⟨e1, e2⟩ := meet_sim (l := l) L3 rfl h00
  have hb3 : (meetQ c l { q2 with met := true }).2.bgn = true := by
   unfold meetQ
   repeat' split
   all_goals exact hbg2
  rw [if_neg hm, e1]
  by_cases hd : (beginL c l).1 = -1
  ·rw [if_neg (fun h => h hd), if_neg (fun h => h.2 hd), if_neg (by rw [hsb]; decide)]
   rw [if_pos hd] at e2
   exact tell_sim hc hb3 e2
  ·rw [if_pos hd, if_pos ⟨hsb, hd⟩]
   rw [if_neg hd] at e2
   exact .inr ⟨hd, rfl, e2.toSameQ⟩
structure SimQ (c : Cf) (q : Lq) (s : Lg) : Prop where
 same : SameQ q s
 cmd : q.cmd = s.cmd
 live : s.fld = false → LiveQ c q s
theorem simQ_0 (c : Cf) : SimQ c (lq0 c) (lg0 c) := ⟨(liveQ_0 c).toSameQ, rfl, fun _ => liveQ_0 c⟩
theorem beg_cmd (h : Hd) (q : Lq) : (begQ h q).cmd = q.cmd := by unfold begQ; split <;> rfl
theorem meet_cmd (c : Cf) (l : List Pr) (q : Lq) : (meetQ c l q).2.cmd = q.cmd := by
 unfold meetQ
 repeat' split
 all_goals rfl
theorem met_cmd (c : Cf) (l : List Pr) (q : Lq) : (metQ c l q).2.cmd = q.cmd := by
 unfold metQ
 split
 ·rfl
 ·exact meet_cmd c l _
theorem chs_cmd (c : Cf) (o : Option (List UInt8)) (q : Lq) : (chsQ c o q).2.cmd = q.cmd := by
 unfold chsQ
 split
 ·rfl
 ·split <;> rfl
theorem chl_cmd (d : Dw) (o : Option (List UInt8)) (q : Lq) : (chlQ d o q).2.cmd = q.cmd := by
 unfold chlQ
 split
 ·rfl
 ·split <;> rfl
theorem chk_cmd (c : Cf) (d : Dw) (n r i cc : Option (List UInt8)) (q : Lq) : (chkQ c d n r i cc q).2.cmd = q.cmd := by
 unfold chkQ
 repeat' split
 all_goals rfl
theorem go_cmd (c : Cf) (h : Hd) (q : Lq) : (goQ c h q).2.cmd = q.cmd := by unfold goQ; split <;> rfl
theorem tell_cmd (c : Cf) (d : Dw) (h : Hd) (l : List Pr) (q : Lq) : (tellQ c d h l q).2.cmd = q.cmd := by
 unfold tellQ
 split
 ·rfl
 have e1 := chs_cmd c (prFind l kAM) q
 obtain ⟨o, q1, hq⟩ : ∃ o q1, chsQ c (prFind l kAM) q = (o, q1) := ⟨_, _, rfl⟩
 rw [hq] at e1 ⊢
 cases o with
 | none => exact e1
 | some a =>
  simp only
  have e2 := chl_cmd d (prFind l kCA) q1
  obtain ⟨o, q2, hq⟩ : ∃ o q2, chlQ d (prFind l kCA) q1 = (o, q2) := ⟨_, _, rfl⟩
  rw [hq] at e2 ⊢
  cases o with
  | none => exact e2.trans e1
  | some b =>
   simp only
   have e3 := chk_cmd c d (prFind l kCN) (prFind l kCR) (prFind l kCI) (prFind l kCC) q2
   obtain ⟨o, q3, hq⟩ : ∃ o q3, chkQ c d (prFind l kCN) (prFind l kCR) (prFind l kCI) (prFind l kCC) q2 = (o, q3) := ⟨_, _, rfl⟩
   rw [hq] at e3 ⊢
   have e4 : q3.cmd = q.cmd := e3.trans (e2.trans e1)
   cases o with
   | none => exact e4
   | some x =>
    simp only
    obtain ⟨⟨y, n, p⟩, r, hr⟩ : ∃ a r, ansN q3.mine q3.recd (restL l) true (dscQ q3) = (a, r) := ⟨_, _, rfl⟩
    rw [hr]
    simp only
    split
    ·exact e4
    ·exact (go_cmd c h _).trans e4
theorem hear_cmd (c : Cf) (d : Dw) (p : Pd) (q : Lq) : (hearQ c d p q).2.cmd = q.cmd := by
 unfold hearQ admQ
 simp only
 split
 ·exact beg_cmd _ _
 obtain ⟨⟨l, n, pl⟩, G, hG⟩ : ∃ a G, addG ⟨8192, (begQ p.h q).came⟩ p.d (cB p.h) = (a, G) := ⟨_, _, rfl⟩
 rw [hG]
 simp only
 have e := beg_cmd p.h q
 generalize begQ p.h q = q1 at e ⊢
 split
 ·exact e
 split
 ·exact e
 split
 ·exact (met_cmd c l _).trans e
 ·exact (tell_cmd c d p.h l _).trans ((met_cmd c l _).trans e)
theorem fl_range {p : Pd} (h : rightP p = 0) : 0 ≤ p.h.fl ∧ p.h.fl < 256 := by
 have hr := (rightP_is h).h
 obtain ⟨k, hk, -, h2, -, -⟩ := rightR_good hr
 exact flOk_bd (kindFacts hk).fl h2
theorem take_sim {c : Cf} {d : Dw} {q : Lq} {s : Lg} {p : Pd} (hc : CfOk c) (S : SimQ c q s) : (takeQ c d q p).1 = (takeL c d s p).1 ∧ SimQ c (takeQ c d q p).2 (takeL c d s p).2 := by
 unfold takeQ takeL
 have hq : (q.don = true ∨ q.fld = true) ↔ (s.don = true ∨ s.fld = true) := by rw [S.same.don, S.same.fld]
 by_cases h1 : s.don = true ∨ s.fld = true
 ·rw [if_pos h1, if_pos (hq.2 h1)]; exact ⟨rfl, S⟩
 rw [if_neg h1, if_neg (fun h => h1 (hq.1 h))]
 clear hq
 by_cases h2 : p.h.op ≠ 3
 ·rw [if_pos h2, if_pos h2]; exact ⟨rfl, S⟩
 rw [if_neg h2, if_neg h2]
 by_cases h3 : rightP p ≠ 0
 ·rw [if_pos h3, if_pos h3]; exact ⟨rfl, S⟩
 rw [if_neg h3, if_neg h3]
 have h0 := fl_range (Classical.not_not.1 h3)
 have hf : s.fld = false := by cases h : s.fld with | false => rfl | true => exact absurd (Or.inr h) h1
 have L := S.live hf
 have L1 : LiveQ c { q with cmd := u32 (hv p.h nCmd) } s := ⟨⟨L.mine, L.recd, L.usr, L.tgt, L.dsc, L.sta, L.don, L.fld⟩, L.came, L.met, L.mth, L.chd, L.bgn, L.stg, L.ids, L.knw, L.new, L.new2⟩
 have A := hear_sim (d := d) (p := p) hc L1 h0
 have C := hear_cmd c d p { q with cmd := u32 (hv p.h nCmd) }
 simp only
 have C0 : ({ q with cmd := u32 (hv p.h nCmd) } : Lq).cmd = u32 (hv p.h nCmd) := rfl
 rw [C0] at C
 generalize ({ q with cmd := u32 (hv p.h nCmd) } : Lq) = q1 at A C ⊢
 clear C0
 unfold judgeQ replyL
 obtain ⟨⟨e, l, f⟩, q2, hq⟩ : ∃ a q2, hearQ c d p q1 = (a, q2) := ⟨_, _, rfl⟩
 obtain ⟨⟨f', l', e'⟩, s2, hs⟩ : ∃ a s2, asksL c d p s = (a, s2) := ⟨_, _, rfl⟩
 rw [hq, hs] at A
 rw [hq] at C ⊢
 rw [hs]
 unfold Agree at A
 simp only at A C ⊢
 rcases A with ⟨rfl, rfl, rfl, rfl, L2⟩ | ⟨he, rfl, S2⟩
 ·have hb : decide ((-1 : Int) ≠ -1) = false := by decide
  rw [if_neg (by decide), hb]
  unfold writeQ
  simp only [Bool.false_eq_true, if_false, Bool.or_false]
  rw [L2.don, L2.sta, C]
  exact ⟨rfl, ⟨⟨L2.mine, L2.recd, L2.usr, L2.tgt, L2.dsc, rfl, rfl, L2.fld⟩, rfl, fun _ => ⟨⟨L2.mine, L2.recd, L2.usr, L2.tgt, L2.dsc, rfl, rfl, L2.fld⟩, L2.came, L2.met, L2.mth, L2.chd, L2.bgn, L2.stg, L2.ids, L2.knw, L2.new, L2.new2⟩⟩⟩
 ·have hb : decide (e' ≠ -1) = true := decide_eq_true he
  rw [if_pos he, hb]
  unfold writeQ
  simp only [if_true, Bool.or_true]
  rw [S2.don, S2.sta, C]
  refine ⟨?_, ⟨⟨S2.mine, S2.recd, S2.usr, S2.tgt, S2.dsc, rfl, rfl, rfl⟩, rfl, fun h => by cases h⟩⟩
  rw [show 4 * csgI p.h + 0 = 4 * csgI p.h by omega]
  rfl
structure QOk (c : Cf) (q : Lq) : Prop where
 mine : q.mine = c.own
 recd : RecOk q.recd
 came : q.came.length ≤ 8192
 stg : 0 ≤ q.stg ∧ q.stg ≤ 3
 sta : 0 ≤ q.sta ∧ q.sta < 4294967296
 cmd : 0 ≤ q.cmd ∧ q.cmd < 4294967296
 wN : ∀ n, q.wN = some n → n ≠ []
 new : q.met = false → q.wT = none ∧ q.wS = none
 isd : q.isd < 18446744073709551616 ∧ q.cid < 18446744073709551616
theorem qOk_0 (c : Cf) : QOk c (lq0 c) := ⟨rfl, recOk_nil, by simp [lq0], by simp [lq0], by simp [lq0], by simp [lq0], (fun n h => by cases h), (fun _ => ⟨rfl, rfl⟩), by simp [lq0]⟩
theorem csgI_range (h : Hd) : 0 ≤ csgI h ∧ csgI h ≤ 3 := by unfold csgI; omega
theorem nsgI_range (h : Hd) : 0 ≤ nsgI h ∧ nsgI h ≤ 3 := by unfold nsgI; omega
theorem beg_ok {c : Cf} {q : Lq} {h : Hd} (Q : QOk c q) (hx : ∀ x ∈ h.vs, x < 18446744073709551616) : QOk c (begQ h q) := by
 have hhv : ∀ n, hv h n < 18446744073709551616 := fun n => by
  unfold hv valueR
  cases kindOf h.op with
  | none => simp
  | some k =>
   simp only [valueK]
   cases idxName k.fs n with
   | none => simp
   | some i =>
    simp only
    split
    ·rename_i hi
     rw [List.getD_eq_getElem?_getD, List.getElem?_eq_getElem hi]
     exact hx _ (List.getElem_mem hi)
    ·simp
 unfold begQ
 split
 ·exact Q
 ·exact ⟨Q.mine, Q.recd, Q.came, csgI_range h, Q.sta, Q.cmd, Q.wN, Q.new, hhv _, hhv _⟩
theorem meet_ok {c : Cf} {q : Lq} {l : List Pr} (Q : QOk c q) (hm : q.met = true) : QOk c (meetQ c l q).2 := by
 unfold meetQ
 repeat' split
 all_goals first
  | exact Q
  | exact ⟨Q.mine, Q.recd, Q.came, Q.stg, Q.sta, Q.cmd, Q.wN, (fun h => by have h' : q.met = false := h; rw [hm] at h'; cases h'), Q.isd⟩
theorem met_ok {c : Cf} {q : Lq} {l : List Pr} (Q : QOk c q) : QOk c (metQ c l q).2 := by
 unfold metQ
 split
 ·exact Q
 ·exact meet_ok ⟨Q.mine, Q.recd, Q.came, Q.stg, Q.sta, Q.cmd, Q.wN, (fun h => by cases h), Q.isd⟩ rfl
theorem chs_ok {c : Cf} {q : Lq} {o : Option (List UInt8)} (Q : QOk c q) : QOk c (chsQ c o q).2 := by
 unfold chsQ
 repeat' split
 all_goals first
  | exact Q
  | exact ⟨Q.mine, Q.recd, Q.came, Q.stg, Q.sta, Q.cmd, Q.wN, Q.new, Q.isd⟩
theorem chl_ok {c : Cf} {d : Dw} {q : Lq} {o : Option (List UInt8)} (Q : QOk c q) : QOk c (chlQ d o q).2 := by
 unfold chlQ
 repeat' split
 all_goals first
  | exact Q
  | exact ⟨Q.mine, Q.recd, Q.came, Q.stg, Q.sta, Q.cmd, Q.wN, Q.new, Q.isd⟩
theorem chk_ok {c : Cf} {d : Dw} {q : Lq} {n r i cc : Option (List UInt8)} (hc : CfOk c) (Q : QOk c q) : QOk c (chkQ c d n r i cc q).2 := by
 unfold chkQ
 split
 ·exact Q
 split
 ·exact Q
 split
 ·exact Q
 split
 ·exact Q
 ·rename_i h
  have hn := usr_name (d := d) hc (Classical.not_not.1 h)
  have K : QOk c { q with wN := some (n.getD []) } := ⟨Q.mine, Q.recd, Q.came, Q.stg, Q.sta, Q.cmd, (fun x hx => by obtain rfl := Option.some.inj hx; exact hn), Q.new, Q.isd⟩
  split
  ·exact K
  ·exact K
theorem ans_ok {c : Cf} {q : Lq} {l : List Pr} {dc : Bool} (Q : QOk c q) : QOk c { q with recd := (ansN q.mine q.recd l true dc).2 } := ⟨Q.mine, ansN_ok Q.recd, Q.came, Q.stg, Q.sta, Q.cmd, Q.wN, Q.new, Q.isd⟩
theorem go_ok {c : Cf} {h : Hd} {q : Lq} (Q : QOk c q) : QOk c (goQ c h q).2 := by
 unfold goQ
 split
 ·exact Q
 ·exact ⟨Q.mine, Q.recd, Q.came, nsgI_range h, Q.sta, Q.cmd, Q.wN, Q.new, Q.isd⟩
theorem came_ok {c : Cf} {q : Lq} {x : List UInt8} (Q : QOk c q) (h : x.length ≤ 8192) : QOk c { q with came := x } := ⟨Q.mine, Q.recd, h, Q.stg, Q.sta, Q.cmd, Q.wN, Q.new, Q.isd⟩
theorem tell_ok {c : Cf} {d : Dw} {h : Hd} {l : List Pr} {q : Lq} (hc : CfOk c) (Q : QOk c q) : QOk c (tellQ c d h l q).2 := by
 unfold tellQ
 split
 ·exact Q
 have e1 := chs_ok (o := prFind l kAM) Q
 obtain ⟨o, q1, hq⟩ : ∃ o q1, chsQ c (prFind l kAM) q = (o, q1) := ⟨_, _, rfl⟩
 rw [hq] at e1 ⊢
 cases o with
 | none => exact e1
 | some a =>
  simp only
  have e2 := chl_ok (d := d) (o := prFind l kCA) e1
  obtain ⟨o, q2, hq⟩ : ∃ o q2, chlQ d (prFind l kCA) q1 = (o, q2) := ⟨_, _, rfl⟩
  simp only at e2
  rw [hq] at e2 ⊢
  cases o with
  | none => exact e2
  | some b =>
   simp only
   have e3 := chk_ok (d := d) (n := prFind l kCN) (r := prFind l kCR) (i := prFind l kCI) (cc := prFind l kCC) hc e2
   obtain ⟨o, q3, hq⟩ : ∃ o q3, chkQ c d (prFind l kCN) (prFind l kCR) (prFind l kCI) (prFind l kCC) q2 = (o, q3) := ⟨_, _, rfl⟩
   simp only at e3
   rw [hq] at e3 ⊢
   cases o with
   | none => exact e3
   | some x =>
    simp only
    have e4 := ans_ok (l := restL l) (dc := dscQ q3) e3
    simp only at e4
    obtain ⟨⟨y, n, p⟩, r, hr⟩ : ∃ a r, ansN q3.mine q3.recd (restL l) true (dscQ q3) = (a, r) := ⟨_, _, rfl⟩
    rw [hr] at e4 ⊢
    simp only at e4 ⊢
    split
    ·exact e4
    ·exact go_ok e4
theorem hear_ok {c : Cf} {d : Dw} {p : Pd} {q : Lq} (hc : CfOk c) (hx : ∀ x ∈ p.h.vs, x < 18446744073709551616) (Q : QOk c q) : QOk c (hearQ c d p q).2 := by
 unfold hearQ admQ
 simp only
 have e := beg_ok Q hx
 split
 ·exact e
 have hf := addG_fits ⟨8192, (begQ p.h q).came⟩ p.d (cB p.h) e.came
 obtain ⟨⟨l, n, pl⟩, G, hG⟩ : ∃ a G, addG ⟨8192, (begQ p.h q).came⟩ p.d (cB p.h) = (a, G) := ⟨_, _, rfl⟩
 rw [hG] at hf ⊢
 simp only at hf ⊢
 have e2 := came_ok e (x := G.came) (by have := hf.1; rw [hf.2] at this; exact this)
 generalize begQ p.h q = q1 at e2 ⊢
 split
 ·exact e2
 split
 ·exact e2
 split
 ·exact met_ok e2
 ·exact tell_ok hc (met_ok e2)
theorem take_ok {c : Cf} {d : Dw} {p : Pd} {q : Lq} (hc : CfOk c) (hx : ∀ x ∈ p.h.vs, x < 18446744073709551616) (Q : QOk c q) : QOk c (takeQ c d q p).2 := by
 unfold takeQ
 split
 ·exact Q
 split
 ·exact Q
 split
 ·exact Q
 simp only
 have Q1 : QOk c { q with cmd := u32 (hv p.h nCmd) } := ⟨Q.mine, Q.recd, Q.came, Q.stg, Q.sta, by unfold u32; simp only; omega, Q.wN, Q.new, Q.isd⟩
 have Q2 := hear_ok (d := d) hc hx Q1
 generalize ({ q with cmd := u32 (hv p.h nCmd) } : Lq) = q1 at Q2 ⊢
 unfold judgeQ
 obtain ⟨⟨e, l, f⟩, q2, hq⟩ : ∃ a q2, hearQ c d p q1 = (a, q2) := ⟨_, _, rfl⟩
 rw [hq] at Q2 ⊢
 simp only at Q2 ⊢
 unfold writeQ
 split
 ·exact ⟨Q2.mine, Q2.recd, Q2.came, Q2.stg, by simp only; omega, Q2.cmd, Q2.wN, Q2.new, Q2.isd⟩
 ·exact ⟨Q2.mine, Q2.recd, Q2.came, Q2.stg, by simp only; omega, Q2.cmd, Q2.wN, Q2.new, Q2.isd⟩
end Go.Proofs.YtjbbbpgcegcbaaaGreatDoor
namespace Go.Proofs.YtjbbbpgcegcbaaaGreatDoor
theorem findR_eq (o : Option (List UInt8)) : findR o = .tuple #[.string (S (o.getD [])), .bool o.isSome] := by cases o <;> rfl
end Go.Proofs.YtjbbbpgcegcbaaaGreatDoor
namespace Go.Proofs.YtjbbbpgcegcbaaaGreatDoor
open Go.RowKit
set_option linter.unusedVariables false
theorem whoN_le (q : Lq) : whoN q ≤ 3 := by
 unfold whoN
 have h1 := Bool.toNat_le q.wN.isSome
 have h2 := Bool.toNat_le q.wT.isSome
 have h3 := Bool.toNat_le q.wS.isSome
 omega
section
variable {w : World} {B lb : Nat} {m : LgM} {c : Cf} {d : Dw} {q : Lq}
theorem lay_S (h : LogIn w B lb m c d q) (h0 : q.wS = none) (x : List UInt8) (hx : x.length ≤ 140737488355328) : ∃ w', (Instr.mapUpdate 93 (.map (some m.mb)) (.string (S kSes)) (.string (S x))).run Tryz.prog w = .ok () w' ∧ LogIn w' B lb m c d { q with wS := some x } ∧ Keeps w.heap.size w w' (m.H lb) (m.H lb) := by
 obtain ⟨w', hr, hs, hg⟩ := h.who.put Tryz.underlying93 (by have := whoN_le q; omega) kSes x (by decide) hx
 have hs' : SMap w' m.mb (whoN { q with wS := some x }) (whoF { q with wS := some x }) := by
  have e : whoN { q with wS := some x } = whoN q + 1 := by unfold whoN; simp only [h0]; rfl
  rw [e]
  refine hs.as fun k => ?_
  unfold whoF
  simp only
  by_cases h1 : k = kSes
  ·subst h1; rfl
  ·simp only [if_neg h1]
 obtain ⟨a, b⟩ := h.told (q' := { q with wS := some x }) hg hs' rfl rfl rfl rfl
 exact ⟨w', hr, a, b⟩
theorem lay_T (h : LogIn w B lb m c d q) (h0 : q.wT = none) (x : List UInt8) (hx : x.length ≤ 140737488355328) : ∃ w', (Instr.mapUpdate 93 (.map (some m.mb)) (.string (S nmK)) (.string (S x))).run Tryz.prog w = .ok () w' ∧ LogIn w' B lb m c d { q with wT := some x } ∧ Keeps w.heap.size w w' (m.H lb) (m.H lb) := by
 obtain ⟨w', hr, hs, hg⟩ := h.who.put Tryz.underlying93 (by have := whoN_le q; omega) nmK x (by decide) hx
 have hs' : SMap w' m.mb (whoN { q with wT := some x }) (whoF { q with wT := some x }) := by
  have e : whoN { q with wT := some x } = whoN q + 1 := by unfold whoN; simp only [h0, Option.isSome_some, Option.isSome_none, Bool.toNat_true, Bool.toNat_false]; omega
  rw [e]
  refine hs.as fun k => ?_
  unfold whoF
  simp only
  by_cases h1 : k = nmK
  ·subst h1; rfl
  ·simp only [if_neg h1]
 obtain ⟨a, b⟩ := h.told (q' := { q with wT := some x }) hg hs' rfl rfl rfl rfl
 exact ⟨w', hr, a, b⟩
theorem lay_N (h : LogIn w B lb m c d q) (h0 : q.wN = none) (x : List UInt8) (hx : x.length ≤ 140737488355328) : ∃ w', (Instr.mapUpdate 93 (.map (some m.mb)) (.string (S kCN)) (.string (S x))).run Tryz.prog w = .ok () w' ∧ LogIn w' B lb m c d { q with wN := some x } ∧ Keeps w.heap.size w w' (m.H lb) (m.H lb) := by
 obtain ⟨w', hr, hs, hg⟩ := h.who.put Tryz.underlying93 (by have := whoN_le q; omega) kCN x (by decide) hx
 have hs' : SMap w' m.mb (whoN { q with wN := some x }) (whoF { q with wN := some x }) := by
  have e : whoN { q with wN := some x } = whoN q + 1 := by unfold whoN; simp only [h0, Option.isSome_some, Option.isSome_none, Bool.toNat_true, Bool.toNat_false]; omega
  rw [e]
  refine hs.as fun k => ?_
  unfold whoF
  simp only
  by_cases h1 : k = kCN
  ·subst h1; rfl
  ·simp only [if_neg h1]
 obtain ⟨a, b⟩ := h.told (q' := { q with wN := some x }) hg hs' rfl rfl rfl rfl
 exact ⟨w', hr, a, b⟩
end
def RetStep (w : World) (B lb : Nat) (m : LgM) (c : Cf) (d : Dw) (r : Int × Lq) (e : Ending) (w' : World) : Prop :=
 e = (if r.1 = -1 then .returned (.tuple #[]) else thrown r.1) ∧ LogIn w' B lb m c d r.2 ∧ Keeps w.heap.size w w' (m.H lb) (m.H lb)
section
variable {w : World} {B lb : Nat} {m : LgM} {c : Cf} {d : Dw} {q : Lq}
set_option maxRecDepth 100000 in
set_option maxHeartbeats 4000000 in
theorem meet_any (l : List Pr) (v : Value) (h : LogIn w B lb m c d q) (hv : PrsV (offW (m.H lb) w) v l) (hl : l.length ≤ 140737488355328) (hx : ∀ p ∈ l, p.v.length ≤ 255) (hcl : c.ts.length ≤ 140737488355328) (h0 : q.wT = none ∧ q.wS = none) :
  Calls Tryz.prog 128 #[.pointer (some ⟨lb, 0, none⟩), v] w (RetStep w B lb m c d (meetQ c l q)) := by
 have HV := Lib.hid hv
 have HL := Lib.hid h
 have H0 := Lib.hid h0
 have F1 := find_prs l kIni v w hv.off hl
 have hxl : ∀ k, ((prFind l k).getD []).length ≤ 255 := fun k => by
  cases hf : prFind l k with
  | none => simp
  | some y => obtain ⟨j, hj, e⟩ := prFind_some hf; have := hx l[j] (List.getElem_mem hj); rw [e] at this; exact this
 have F2 := find_prs l kSes v
 have F3 := find_prs l nmK v
 rw [findR_eq] at F1
 simp only [findR_eq] at F2 F3
 obtain ⟨Q, hQ⟩ : ∃ Q, meetQ c l q = Q := ⟨_, rfl⟩
 rw [hQ]
 unfold meetQ at hQ
 have X2 := hxl kSes
 have X3 := hxl nmK
 obtain ⟨x1, hx1⟩ : ∃ x, (prFind l kIni).getD [] = x := ⟨_, rfl⟩
 obtain ⟨x2, hx2⟩ : ∃ x, (prFind l kSes).getD [] = x := ⟨_, rfl⟩
 obtain ⟨x3, hx3⟩ : ∃ x, (prFind l nmK).getD [] = x := ⟨_, rfl⟩
 obtain ⟨b2, hb2⟩ : ∃ b, (prFind l kSes).isSome = b := ⟨_, rfl⟩
 generalize (prFind l kIni).isSome = b1 at F1
 generalize (prFind l nmK).isSome = b3 at F3
 rw [hx1] at F1 hQ
 rw [hx2] at F2 hQ X2
 rw [hb2] at F2 hQ
 rw [hx3] at F3 hQ X3
 obtain ⟨hs, hhs⟩ : ∃ b, hasT c.ts x3 = b := ⟨_, rfl⟩
 rw [hhs] at hQ
 have HQ := Lib.hid hQ
 have F1 := Lib.hid F1
 have F2 := Lib.hid (fun W (hb : Below w.heap.size w W) => F2 W (hv.off.later hb) hl)
 have F3 := Lib.hid (fun W (hb : Below w.heap.size w W) => F3 W (hv.off.later hb) hl)
 have Hhs := Lib.hid hhs
 have X2 := Lib.hid X2
 have X3 := Lib.hid X3
 have Hcl := Lib.hid hcl
 obtain ⟨pv, cv, rfl⟩ := hv.form
 clear hQ hhs hx1 hx2 hx3 hb2 h hv h0 hx hxl hcl hl
 go_enter Tryz.func128, Tryz.ntmps128
 go_wp2_with fail
 refine F1.out.mono ?_
 rintro e w1 ⟨rfl, hb1⟩
 have Hb1 := Lib.hid hb1
 clear hb1 F1
 by_cases h1 : x1 = []
 ·have hq := HQ.out
  rw [if_pos h1] at hq
  subst hq h1
  have N := Lib.hid (fun W => needN 7 W)
  go_wp2_with fail
  refine (N.out _).mono ?_
  rintro e w2 ⟨rfl, rfl⟩
  unfold thrown
  go_wp2_with fail
  exact ⟨rfl, rfl, HL.out.later Hb1.out, Keeps.of Hb1.out _⟩
 have e1 : x1.isEmpty = false := by cases x1 with | nil => exact absurd rfl h1 | cons _ _ => rfl
 have HQ1 := HQ.out
 rw [if_neg h1] at HQ1
 have HQ1 := Lib.hid HQ1
 have Y := Lib.hid (fun W => needY 7 W)
 have F2 := Lib.hid (F2.out w1 Hb1.out)
 clear h1 HQ
 go_wp2_with fail
 refine (Y.out _).mono ?_
 rintro e w2 ⟨rfl, rfl⟩
 go_wp2_with fail
 refine F2.out.mono ?_
 rintro e w2 ⟨rfl, hb2⟩
 have Hb2 := Lib.hid (below_then Hb1.out hb2)
 clear hb2 F2 Hb1 e1 Y
 by_cases h2 : x2 = vDis
 ·have hq := HQ1.out
  rw [if_pos h2] at hq
  subst hq
  obtain ⟨w3, hr, hL3, hK3⟩ := lay_S (HL.out.later Hb2.out) H0.out.2 vDis (by decide)
  have HL3 := Lib.hid hL3
  have HK3 := Lib.hid ((Keeps.of Hb2.out _).then hK3)
  have q18 := (pcells (HL.out.later Hb2.out).blk).q18
  have e2 : (x2 == [68, 105, 115, 99, 111, 118, 101, 114, 121]) = true := by rw [h2]; rfl
  subst h2
  unfold vDis kSes at hr
  unfold vDis
  clear hL3 hK3
  go_wp2_with fail
  go_end0
  exact ⟨rfl, HL3.out, HK3.out⟩
 have e2 : (x2 == [68, 105, 115, 99, 111, 118, 101, 114, 121]) = false := beq_eq_false_iff_ne.2 h2
 have HQ2 := HQ1.out
 rw [if_neg h2] at HQ2
 have HQ2 := Lib.hid HQ2
 clear h2 HQ1
 by_cases h3 : b2 = false ∨ x2 = vNor
 case neg =>
  have hq := HQ2.out
  rw [if_pos h3] at hq
  subst hq
  have hb2t : b2 = true := by cases b2 with | true => rfl | false => exact absurd (Or.inl rfl) h3
  subst hb2t
  have e3 : (x2 == [78, 111, 114, 109, 97, 108]) = false := beq_eq_false_iff_ne.2 (fun e => h3 (.inr e))
  have N := Lib.hid (fun W => needN 9 W)
  clear h3
  go_wp2_with fail
  refine (N.out _).mono ?_
  rintro e w3 ⟨rfl, rfl⟩
  unfold thrown
  go_wp2_with fail
  exact ⟨rfl, rfl, HL.out.later Hb2.out, Keeps.of Hb2.out _⟩
 have HQ3 := HQ2.out
 rw [if_neg (fun h => h h3)] at HQ3
 have HQ3 := Lib.hid HQ3
 have hways : b2 = false ∨ (b2 = true ∧ (x2 == [78, 111, 114, 109, 97, 108]) = true) := by
  cases b2 with
  | false => exact .inl rfl
  | true =>
       rcases h3 with h3 | h3
       ·cases h3
       ·exact .inr ⟨rfl, by rw [h3]; rfl⟩
 have Y9 := Lib.hid (fun W => needY 9 W)
 have Y7 := Lib.hid (fun W => needY 7 W)
 have N7 := Lib.hid (fun W => needN 7 W)
 have Y3 := Lib.hid (fun W => needY 3 W)
 have N3 := Lib.hid (fun W => needN 3 W)
 have F3 := Lib.hid (F3.out w2 Hb2.out)
 clear h3 HQ2
 rcases hways with rfl | ⟨rfl, e3⟩
 all_goals
  go_wp2_with fail
  refine (Y9.out _).mono ?_
  rintro e w3 ⟨rfl, rfl⟩
  go_wp2_with fail
  refine F3.out.mono ?_
  rintro e w3 ⟨rfl, hb3⟩
  have Hb3 := Lib.hid (below_then Hb2.out hb3)
  clear hb3 e2
  by_cases h4 : x3 = []
  ·have hq := HQ3.out
   rw [if_pos h4] at hq
   subst hq h4
   go_wp2_with fail
   refine (N7.out _).mono ?_
   rintro e w4 ⟨rfl, rfl⟩
   unfold thrown
   go_wp2_with fail
   exact ⟨rfl, rfl, HL.out.later Hb3.out, Keeps.of Hb3.out _⟩
  have e4 : x3.isEmpty = false := by cases x3 with | nil => exact absurd rfl h4 | cons _ _ => rfl
  have HQ4 := HQ3.out
  rw [if_neg h4] at HQ4
  have HQ4 := Lib.hid HQ4
  have hL3 := HL.out.later Hb3.out
  obtain ⟨-, r1, r2, r3, r4, r5, r6, r7, -, -, -, -, -, -, -, -, -, -, r18, -, -, -, -⟩ := pcells hL3.blk
  have T := thas_any { c with lim := 0 } m.vt (.slice none 0 0) m.vu (.slice none 0 0) x3 w3 hL3.ts.off Hcl.out
  unfold confV at T
  simp only at T
  rw [Hhs.out] at T
  have T := Lib.hid T
  have HL3 := Lib.hid hL3
  clear h4 HQ3 hL3
  go_wp2_with fail
  refine (Y7.out _).mono ?_
  rintro e w4 ⟨rfl, rfl⟩
  go_wp2_with fail
  refine T.out.mono ?_
  rintro e w4 ⟨rfl, hb4⟩
  have Hb4 := Lib.hid (below_then Hb3.out hb4)
  have hL4 := HL3.out.later hb4
  have HL4 := Lib.hid hL4
  clear hb4 T r1 r2 r3 r4 r5 r6 r7 r18 e4
  cases hs with
  | false =>
   have hq := HQ4.out
   rw [if_pos rfl] at hq
   subst hq
   clear hL4
   go_wp2_with fail
   refine (N3.out _).mono ?_
   rintro e w5 ⟨rfl, rfl⟩
   unfold thrown
   go_wp2_with fail
   exact ⟨rfl, rfl, HL4.out, Keeps.of Hb4.out _⟩
  | true =>
   have hq := HQ4.out
   rw [if_neg (by decide)] at hq
   subst hq
   obtain ⟨w5, hr, hL5, hK5⟩ := lay_T hL4 H0.out.1 x3 (by have := X3.out; omega)
   have HL5 := Lib.hid hL5
   have HK5 := Lib.hid ((Keeps.of Hb4.out _).then hK5)
   have q18 := (pcells hL4.blk).q18
   unfold nmK at hr
   clear hL4 hL5 hK5
   go_wp2_with fail
   refine (Y3.out _).mono ?_
   rintro e w6 ⟨rfl, rfl⟩
   go_wp2_with fail
   go_end0
   exact ⟨rfl, HL5.out, HK5.out⟩
end
theorem fl_all : ∀ n : Fin 256, (n.val &&& 12) = n.val / 4 % 4 * 4 ∧ (n.val &&& 128) = n.val / 128 * 128 ∧ (n.val &&& 64) = n.val / 64 % 2 * 64 ∧ (n.val &&& 3) = n.val % 4 := by decide +kernel
theorem fl_and {h : Hd} (h0 : 0 ≤ h.fl ∧ h.fl < 256) : bits .and .i64 h.fl 12 = 4 * csgI h ∧ bits .and .i64 h.fl 3 = nsgI h ∧ bits .and .i64 h.fl 128 = (if tB h = true then 128 else 0) ∧ bits .and .i64 h.fl 64 = (if cB h = true then 64 else 0) := by
 obtain ⟨op, now, fl, vs⟩ := h
 simp only at h0
 obtain ⟨n, rfl⟩ := Int.eq_ofNat_of_zero_le h0.1
 have hn : n < 256 := by omega
 obtain ⟨e1, e2, e3, e4⟩ := fl_all ⟨n, hn⟩
 simp only at e1 e2 e3 e4
 have f : ∀ k : Nat, k < 256 → bits .and .i64 (n : Int) (k : Int) = ((n &&& k : Nat) : Int) := fun k hk => i64_and_nat n k (by omega) (by omega)
 have f1 := f 12 (by decide)
 have f2 := f 128 (by decide)
 have f3 := f 64 (by decide)
 have f4 := f 3 (by decide)
 rw [e1] at f1
 rw [e2] at f2
 rw [e3] at f3
 rw [e4] at f4
 unfold csgI nsgI tB cB
 simp only
 refine ⟨f1.trans (by omega), f4.trans (by omega), f2.trans ?_, f3.trans ?_⟩
 ·by_cases h : (n : Int) / 128 = 1
  ·rw [if_pos (decide_eq_true h)]; omega
  ·rw [if_neg (by simpa using h)]; omega
 ·by_cases h : (n : Int) / 64 % 2 = 1
  ·rw [if_pos (decide_eq_true h)]; omega
  ·rw [if_neg (by simpa using h)]; omega
theorem or_128 (n : Int) (h : 0 ≤ n ∧ n ≤ 3) : bits .or .i64 128 n = 128 + n := by
 obtain ⟨k, rfl⟩ := Int.eq_ofNat_of_zero_le h.1
 have h2 := i64_or_nat 128 k (by decide) (by omega)
 have h3 : k = 0 ∨ k = 1 ∨ k = 2 ∨ k = 3 := by omega
 refine h2.trans ?_
 rcases h3 with rfl | rfl | rfl | rfl <;> rfl
theorem or_fl4 (c n : Int) (hc : 0 ≤ c ∧ c ≤ 3) (h : n = 0 ∨ (128 ≤ n ∧ n ≤ 131)) : bits .or .i64 (4 * c) n = 4 * c + n := by
 obtain ⟨j, rfl⟩ := Int.eq_ofNat_of_zero_le hc.1
 have hn : 0 ≤ n := by omega
 obtain ⟨k, rfl⟩ := Int.eq_ofNat_of_zero_le hn
 have h2 := i64_or_nat (4 * j) k (by omega) (by omega)
 have e : (4 * (j : Int)) = ((4 * j : Nat) : Int) := by omega
 rw [e, h2]
 have hj : j = 0 ∨ j = 1 ∨ j = 2 ∨ j = 3 := by omega
 have hk : k = 0 ∨ k = 128 ∨ k = 129 ∨ k = 130 ∨ k = 131 := by omega
 rcases hj with rfl | rfl | rfl | rfl <;> rcases hk with rfl | rfl | rfl | rfl | rfl <;> rfl
end Go.Proofs.YtjbbbpgcegcbaaaGreatDoor
