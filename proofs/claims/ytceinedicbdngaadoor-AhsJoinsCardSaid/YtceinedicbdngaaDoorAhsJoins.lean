/- AhsJoins: additional headers are written one behind the other, as long as there is room. -/
import Derived.Test.YtceinedicbdngaaDoorMore
import Derived.Test.YtceinedicbdngaaDoorWide
import Derived.Test.YtceinedicbdngaaDoorConcat
namespace Go.Proofs.YtceinedicbdngaaDoor
open Go.RowKit
theorem okK_app {a b : List Ah} : okK (a ++ b) ↔ okK a ∧ okK b := by
  unfold okK
  exact ⟨fun h => ⟨fun x hx => h x (List.mem_append_left _ hx), fun x hx => h x (List.mem_append_right _ hx)⟩, fun h x hx => (List.mem_append.1 hx).elim (h.1 x) (h.2 x)⟩
theorem join_bad {a b : List Ah} (h : (rightA a).1 ≠ 0 ∨ (rightA b).1 ≠ 0) : (rightA (a ++ b)).1 ≠ 0 := by
  intro h0
  obtain ⟨hk, hs, _⟩ := rightA_is _ h0
  rw [wrL_app, List.length_append] at hs
  obtain ⟨h1, h2⟩ := okK_app.1 hk
  rcases h with h | h
  · exact h (by rw [rightA_ok h1 (by omega)])
  · exact h (by rw [rightA_ok h2 (by omega)])
theorem join_much {a b : List Ah} (ha : okK a) (hb : okK b) (hla : (wrL a).length ≤ 1020) (hm : 1020 < (wrL a).length + (wrL b).length) : (rightA (a ++ b)).1 = 4 := by
  unfold rightA
  rw [rightF_app _ _ _ _ ha (by omega)]
  refine rightF_much _ _ _ hb (fun e => ?_) (by omega)
  subst e
  simp [wrL_nil] at hm
  omega
theorem writeA_2 (l : List Ah) : (writeA l).2 = rightA l := by
  unfold writeA
  split
  · rename_i h; exact (rightA_is l h).2.2.symm
  · rfl
def WideA (l : List Ah) : Prop := fitA l ∧ l.length * 24 ≤ 140737488355328
set_option maxRecDepth 100000 in
set_option maxHeartbeats 1000000 in
theorem ahsJoins_any (a : List Ah) (va : Value) (b : List Ah) (vb : Value) (w : World) (hva : AhsV w va a) (hfa : WideA a) (hvb : AhsV w vb b) (hfb : WideA b) (hg : ErrCell w) :
    Calls Tryd.prog 7 #[va, vb] w fun e w' => e = .returned (.bool true) ∧ Below w.heap.size w w' := by
  have M := Lib.hid (more_fact w hg)
  have Da := fun w hv => Lib.hid (wideK_any a va w hv hfa.1)
  have Db := fun w hv => Lib.hid (wideK_any b vb w hv hfb.1)
  have Wa := fun w hv => Lib.hid (write_ahs a va w hv hfa.1)
  have Wb := fun w hv => Lib.hid (write_ahs b vb w hv hfb.1)
  have hfab : fitA (a ++ b) := ⟨by rw [List.length_append]; have := hfa.2; have := hfb.2; omega, fun x hx => (List.mem_append.1 hx).elim (hfa.1.2 x) (hfb.1.2 x)⟩
  have Wc := fun v w hv => Lib.hid (write_ahs (a ++ b) v w hv hfab)
  have Cc := fun bb w hA hB h0 h1 => Lib.hid (concat_any a b va vb bb w hA hB h0 h1 hfa.2 hfb.2)
  have HA := Lib.hid hva
  have HB := Lib.hid hvb
  have Hg := Lib.hid hg
  obtain ⟨pa, ca, rfl⟩ := hva.form
  obtain ⟨pb, cb, rfl⟩ := hvb.form
  have hbad := join_bad (a := a) (b := b)
  have hma := join_much (a := a) (b := b)
  have ec := writeA_2 (a ++ b)
  have ea := writeA_2 a
  have eb := writeA_2 b
  have hok : (rightA a).1 = 0 → (rightA b).1 = 0 → okK a ∧ okK b ∧ (wrL a).length ≤ 1020 ∧ (wrL b).length ≤ 1020 ∧ writeA a = (wrL a, 0, -1) ∧ writeA b = (wrL b, 0, -1) := fun h1 h2 => by
    obtain ⟨k1, s1, _⟩ := rightA_is _ h1
    obtain ⟨k2, s2, _⟩ := rightA_is _ h2
    exact ⟨k1, k2, s1, s2, writeA_ok k1 s1, writeA_ok k2 s2⟩
  have hjoin : okK a → okK b → (wrL a).length + (wrL b).length ≤ 1020 → writeA (a ++ b) = (wrL a ++ wrL b, 0, -1) := fun h1 h2 h3 => by
    rw [writeA_ok (okK_app.2 ⟨h1, h2⟩) (by rw [wrL_app, List.length_append]; exact h3), wrL_app]
  have Hbad := Lib.hid hbad
  have Hma := Lib.hid hma
  have Hok := Lib.hid hok
  have Hjoin := Lib.hid hjoin
  have Hea := Lib.hid ea
  have Heb := Lib.hid eb
  have Hec := Lib.hid ec
  have Tl := fun (w : World) (v : Value) (n q : Int) (h : ErrIs w v n q) hg => Lib.hid (tell_is h hg)
  clear hva hvb hfa hfb hfab hg hbad hma hok hjoin ea eb ec
  go_enter Tryd.func7, Tryd.ntmps7
  go_wp2_with fail
  refine M.out.mono ?_
  rintro e w1 ⟨rfl, hb1⟩
  have D1 := Da _ (HA.out.later hb1)
  have Hb1 := Lib.hid hb1
  clear hb1 M Da
  go_wp2_with fail
  refine D1.out.mono ?_
  rintro e w2 ⟨x1, rfl, hb2⟩
  have Hb2 := Lib.hid (below_then Hb1.out hb2)
  have D2 := Db _ (HB.out.later Hb2.out)
  clear hb2 D1 Db
  cases x1 with
  | true =>
    go_wp2_with fail
    go_ret
    exact ⟨rfl, Hb2.out⟩
  | false =>
    go_wp2_with fail
    refine D2.out.mono ?_
    rintro e w3 ⟨x2, rfl, hb3⟩
    have Hb3 := Lib.hid (below_then Hb2.out hb3)
    have W1 := Wa _ (HA.out.later Hb3.out)
    clear hb3 D2 Wa
    cases x2 with
    | true =>
      go_wp2_with fail
      go_ret
      exact ⟨rfl, Hb3.out⟩
    | false =>
      obtain ⟨⟨sa, na, qa⟩, ha⟩ : ∃ r, writeA a = r := ⟨_, rfl⟩
      obtain ⟨⟨sb, nb, qb⟩, hb⟩ : ∃ r, writeA b = r := ⟨_, rfl⟩
      obtain ⟨⟨sc, nc, qc⟩, hc⟩ : ∃ r, writeA (a ++ b) = r := ⟨_, rfl⟩
      rw [ha] at W1
      rw [hb] at Wb
      rw [hc] at Wc
      have Ha := Lib.hid ha
      have Hb := Lib.hid hb
      have Hc := Lib.hid hc
      clear ha hb hc
      go_wp2_with fail
      refine W1.out.mono ?_
      rintro e w4 ⟨ev1, rfl, he1, hb4⟩
      have Hb4 := Lib.hid (below_then Hb3.out hb4)
      have W2 := Wb _ (HB.out.later Hb4.out)
      have He1 := Lib.hid he1
      clear hb4 W1 Wb he1
      go_wp2_with fail
      refine W2.out.mono ?_
      rintro e w5 ⟨ev2, rfl, he2, hb5⟩
      have Hb5 := Lib.hid (below_then Hb4.out hb5)
      have hB5 := Blk.new w5 #[.slice pa a.length ca, .slice pb b.length cb] 22
      have hba := (Below.refl w5.heap.size w5).alloc (Nat.le_refl _) (.cells #[.slice pa a.length ca, .slice pb b.length cb] 22)
      have C5 := Cc w5.heap.size _ ((HA.out.later Hb5.out).later hba) ((HB.out.later Hb5.out).later hba) hB5.two.1 hB5.two.2
      have He2 := Lib.hid he2
      have Hb5a := Lib.hid (below_then Hb5.out hba)
      clear hb5 W2 he2 hB5 hba Cc
      go_wp2_with fail
      refine C5.out.mono ?_
      rintro e w6 ⟨v6, rfl, hv6, hb6⟩
      have Hb6 := Lib.hid (below_then Hb5a.out hb6)
      have W3 := Wc _ _ hv6
      clear hb6 hv6 C5 Wc
      go_wp2_with fail
      refine W3.out.mono ?_
      rintro e w7 ⟨ev3, rfl, he3, hb7⟩
      have Hb7 := Lib.hid (below_then Hb6.out hb7)
      have Tl3 := Tl _ _ _ _ he3 (Hg.out.later Hb7.out)
      have He3 := Lib.hid he3
      clear hb7 W3 he3 Tl
      by_cases h1 : na = 0
      · by_cases h2 : nb = 0
        · subst h1; subst h2
          obtain rfl := He1.out.zero
          obtain rfl := He2.out.zero
          have r1 : (rightA a).1 = 0 := by rw [← Hea.out, Ha.out]
          have r2 : (rightA b).1 = 0 := by rw [← Heb.out, Hb.out]
          obtain ⟨k1, k2, s1, s2, e1, e2⟩ := Hok.out r1 r2
          have f1 : wrL a = sa := by rw [Ha.out] at e1; exact (Prod.mk.inj e1).1.symm
          have f2 : wrL b = sb := by rw [Hb.out] at e2; exact (Prod.mk.inj e2).1.symm
          have Hma2 := Hma.out k1 k2 s1
          have Hj2 := Hjoin.out k1 k2
          rw [f1] at s1
          rw [f2] at s2
          rw [f1, f2] at Hma2 Hj2
          by_cases hm : 1020 < sa.length + sb.length
          · have hn4 : nc = 4 := by
              have := Hma2 hm
              rw [← Hec.out, Hc.out] at this
              exact this
            subst hn4
            clear Hma2 Hj2 e1 e2 f1 f2 k1 k2 r1 r2 Hok Hma Hjoin
            simp only at Tl3
            go_wp2_with fail
            refine Tl3.out.mono ?_
            rintro e w8 ⟨rfl, hb8⟩
            have Hb8 := Lib.hid (below_then Hb7.out hb8)
            clear hb8 Tl3
            go_wp2_with fail
            go_ret
            exact ⟨rfl, Hb8.out⟩
          · have hj := Hj2 (by omega)
            rw [Hc.out] at hj
            simp only [Prod.mk.injEq] at hj
            obtain ⟨rfl, rfl, rfl⟩ := hj
            obtain rfl := He3.out.zero
            clear Hma2 Hj2 e1 e2 f1 f2 k1 k2 r1 r2 Hok Hma Hjoin Tl3
            go_wp2_with fail
            go_ret
            exact ⟨rfl, Hb7.out⟩
        · have hn3 : nc ≠ 0 := by
            have := Hbad.out (.inr (by rw [← Heb.out, Hb.out]; exact h2))
            rw [← Hec.out, Hc.out] at this
            exact this
          obtain ⟨t2, y2, rfl⟩ := He2.out.iface h2
          obtain ⟨t3, y3, rfl⟩ := He3.out.iface hn3
          subst h1
          obtain rfl := He1.out.zero
          clear Tl3 h2 hn3
          go_wp2_with fail
          go_ret
          exact ⟨rfl, Hb7.out⟩
      · have hn3 : nc ≠ 0 := by
          have := Hbad.out (.inl (by rw [← Hea.out, Ha.out]; exact h1))
          rw [← Hec.out, Hc.out] at this
          exact this
        obtain ⟨t1, y1, rfl⟩ := He1.out.iface h1
        obtain ⟨t3, y3, rfl⟩ := He3.out.iface hn3
        clear Tl3 h1 hn3
        go_wp2_with fail
        go_ret
        exact ⟨rfl, Hb7.out⟩
end Go.Proofs.YtceinedicbdngaaDoor
