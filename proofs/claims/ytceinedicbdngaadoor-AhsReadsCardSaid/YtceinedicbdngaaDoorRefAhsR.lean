/- ref.AhsRead. -/
import Derived.Test.YtceinedicbdngaaDoorAhsRd
import Derived.Test.YtceinedicbdngaaDoorRefAhsW
import Derived.Test.YtceinedicbdngaaDoorShCnt
import Derived.Deep.RegionLaw
import Derived.BigRegion
import Derived.IntWalk
namespace Go.Proofs.YtceinedicbdngaaDoor
open Go.RowKit
theorem step_append_own {P : Program} {ops : Array Oper} {o : Oper} {a : Act} {w : World} {K : Act → World → Prop} {Q : Exit → Act → World → Prop} {E : Prop} (hgd : o.guard = none) (s x : Operand) (t : TypeId)
    (ho : o.op = .call { callee := .builtin .append, args := #[s, x], argTypes := #[t, t] })
    (base : Nat) (e : TypeId) (i : TypeInfo) (z : Value) (size bytes : Nat) (ht : P.underlying t = some (.slice e)) (hi : P.info? e = some i) (hz : i.zero = some z)
    (hsize : i.size = size) (hby : i.bytes = bytes) (hzs : z.cells.size = size) (hsz : 0 < size)
    (v : Value) (n : Nat) (xs : List Value) (hs : a.eval s = v) (hown : w.ownsRow base e size v n xs)
    (ad : Addr) (m c : Nat) (news : List Value) (hx : a.eval x = .slice (some ad) m c) (hl : news.length = m * size) (hnews : ∀ j u, news[j]? = some u → w.cell? (ad.add j) = some u) (h1 : ∀ u ∈ news, u.oneCell' = true)
    (h63 : n + m ≤ maxLen) (hbytes : (n + m) * bytes ≤ 140737488355328) (hbase : base ≤ w.heap.size)
    (h : ∀ v' w', w'.ownsRow base e size v' (n + m) (xs ++ news) → w.grownBy w' v.ownBlock → (v' = .slice none 0 0 ↔ v = .slice none 0 0 ∧ m = 0) → K (a.put o.dst v') w') :
    if Region.wanted o (yielded ops a.tmps) = true then Oper.wp P o a w K Q else E := by
  have hw : Region.wanted o (yielded ops a.tmps) = true := by simp [Region.wanted, hgd]
  rw [if_pos hw]
  exact wp_append_own w s x t ho base e i z size bytes ht hi hz hsize hby hzs hsz v n xs hs hown ad m c news hx hl hnews h1 h63 hbytes hbase h
/-- headers and a fault are returned -/
def RetLF (w : World) (r : List Ah × Int × Int) (e : Ending) (w' : World) : Prop := ∃ v, e = .returned (.tuple #[v, .agg #[.int .i64 r.2.1, .int .i64 r.2.2]]) ∧ AhsV w' v r.1 ∧ Below w.heap.size w w'
theorem count_zs (t : List UInt8) : Lib.countByte t 0 = t.length ↔ t = zs t.length := by
  unfold Lib.countByte zs
  rw [List.count_eq_length, List.eq_replicate_iff]
  exact ⟨fun h => ⟨rfl, fun b hb => (h b hb).symm⟩, fun h b hb => (h.2 b hb).symm⟩
theorem drop_cons2 (s : List UInt8) (p : Nat) (h : p + 3 ≤ s.length) : s.drop p = s[p]'(by omega) :: s[p + 1]'(by omega) :: s[p + 2]'(by omega) :: s.drop (p + 3) := by
  rw [List.drop_eq_getElem_cons (by omega), List.drop_eq_getElem_cons (i := p + 1) (by omega), List.drop_eq_getElem_cons (i := p + 2) (by omega)]
set_option maxRecDepth 100000 in
set_option maxHeartbeats 2000000 in
theorem refRead_ahs (s : List UInt8) (w : World) (hl : s.length ≤ 140737488355328) :
    Calls Tryd.prog 15 #[.string (S s)] w (RetLF w (readA s)) := by
  by_cases h1 : 1020 < s.length
  · have E := Lib.hid (show readA s = ([], 4, -1) by unfold readA; rw [if_pos h1])
    have B := fun w => Lib.hid (bareF 4 w)
    have hF0 := cell2_new w
    have HF0 := Lib.hid hF0
    have Hb0 := Lib.hid ((Below.refl w.heap.size w).alloc (Nat.le_refl _) (.cells #[.int .i64 0, .int .i64 0] 26))
    clear hF0
    go_enter Tryd.func15, Tryd.ntmps15
    go_wp2_with fail
    refine (B _).out.mono ?_
    rintro e w2 ⟨rfl, hb2⟩
    have HF2 := Lib.hid (HF0.out.later hb2)
    have Hb2 := Lib.hid (below_then Hb0.out hb2)
    obtain ⟨x0, x1⟩ := HF2.out.cells
    have hfz := HF2.out.frozen
    have f0 := hfz 0
    have f1 := hfz 1
    clear hb2
    go_wp2_with fail
    obtain ⟨g1, g2⟩ := fault_set 4 (-1) HF2.out Hb2.out
    refine bodyPost_ret (v := .tuple #[.slice none 0 0, .agg #[.int .i64 4, .int .i64 (-1)]]) (by simp [results, Tryd.results15, go_sem, x0, x1]) rfl ?_
    rw [E.out]
    exact ⟨_, rfl, AhsV.nil _, g2⟩
  · have E := Lib.hid (show readA s = readF s.length 0 s [] by unfold readA; rw [if_neg h1])
    obtain ⟨i0, hi, hz0, hz1, hz2⟩ := infoAh
    clear hl
    go_enter Tryd.func15, Tryd.ntmps15
    go_wp2_with fail
    go_loopw [4, 5] (fun x i wr => ∃ (p f : Nat) (acc : List Ah), p ≤ s.length ∧ s.length ≤ f + p ∧ acc.length ≤ p ∧ i = .int .i64 p ∧ readF f p (s.drop p) acc = readA s ∧ ABuf (w.heap.size + 1) wr x acc ∧ Cell2 wr w.heap.size 0 0 ∧ Below w.heap.size w wr) (fun _ i _ => s.length - (intOf i).toNat)
    case atStart => exact ⟨0, s.length, [], by omega, by omega, by simp, rfl, E.out.symm, ABuf.nil _ _, cell2_new w, (Below.refl _ _).alloc (Nat.le_refl _) _⟩
    case round =>
      obtain ⟨p, f, acc, hp, hf, hap, rfl, hr, hbuf, hF, hb⟩ := hrel
      have Hb := Lib.hid hb
      have Hbuf := Lib.hid hbuf
      have HF := Lib.hid hF
      obtain ⟨pv, cv, rfl⟩ := hbuf.form
      by_cases hlt : p < s.length
      · obtain ⟨f1, rfl⟩ : ∃ f1, f = f1 + 1 := ⟨f - 1, by omega⟩
        have hne : s.drop p ≠ [] := fun e => by have := congrArg List.length e; simp at this; omega
        have hdl : (s.drop p).length = s.length - p := by simp
        rw [readF_succ, if_neg hne] at hr
        clear hne hb hbuf hF
        by_cases h3 : s.length < p + 3
        · have hfa := firstA_few (s := s.drop p) (by omega)
          rw [hfa, if_neg (by decide)] at hr
          have Hr := Lib.hid hr
          obtain ⟨x0, x1⟩ := HF.out.cells
          have hfz := HF.out.frozen
          have f0 := hfz 0
          have f1 := hfz 1
          clear hr hdl hfa
          go_wp2_with fail
          obtain ⟨g1, g2⟩ := fault_set 7 (p : Int) HF.out Hb.out
          refine bodyPost_ret (v := .tuple #[.slice none 0 0, .agg #[.int .i64 7, .int .i64 (p : Int)]]) (by simp [results, Tryd.results15, go_sem, x0, x1]) rfl ?_
          rw [← Hr.out]
          exact ⟨_, rfl, AhsV.nil _, g2⟩
        · have h0l : p + 1 < s.length := by omega
          have h2l : p + 2 < s.length := by omega
          have hdc := drop_cons2 s p (by omega)
          obtain ⟨a0, ha0⟩ : ∃ c, s[p]'(by omega) = c := ⟨_, rfl⟩
          obtain ⟨a1, ha1⟩ : ∃ c, s[p + 1]'(by omega) = c := ⟨_, rfl⟩
          obtain ⟨a2, ha2⟩ : ∃ c, s[p + 2]'(by omega) = c := ⟨_, rfl⟩
          rw [ha0, ha1, ha2] at hdc
          have hl0 := a0.toNat_lt
          have hl1 := a1.toNat_lt
          have hv : val ((s.drop p).take 2) = 256 * a0.toNat + a1.toNat := by rw [hdc]; simp [val]; omega
          obtain ⟨n, hn⟩ : ∃ n, 256 * a0.toNat + a1.toNat = n := ⟨_, rfl⟩
          rw [hn] at hv
          have E1 := Lib.hid (firstA_more (s := s.drop p) (by omega))
          have E2 := Lib.hid (firstA_form (s := s.drop p) (by omega))
          have E3 := Lib.hid (firstA_ok (s := s.drop p) (by omega))
          simp only [hv] at E1 E2 E3
          have HL := Lib.hid hdl
          have Hr := Lib.hid hr
          have Hn := Lib.hid hn
          have Hdc := Lib.hid hdc
          have e1 : IntKind.i64.wrap (256 * (a0.toNat : Int)) = 256 * (a0.toNat : Int) := IntWalk.i64_in _ (by omega)
          have e2 : IntKind.i64.wrap (256 * (a0.toNat : Int) + (a1.toNat : Int)) = (n : Int) := by rw [IntWalk.i64_in _ (by omega)]; omega
          have e3 : IntKind.i64.wrap ((p : Int) + 1) = (p : Int) + 1 := IntWalk.i64_in _ (by omega)
          have e4 : ((p : Int) + 1).toNat = p + 1 := by omega
          have e5 : (0 : Int) ≤ (p : Int) + 1 := by omega
          clear hdl hv hr hn hdc
          have P : ∀ w, Calls Tryd.prog 32 #[.int .i64 (3 + (n : Int))] w fun e w' => e = .returned (.int .i64 (pad (3 + n) : Nat)) ∧ w = w' := fun w => by
            have := refPad_nat (3 + n) w
            rwa [show (((3 + n : Nat)) : Int) = 3 + (n : Int) by omega] at this
          have hn65 : n < 65536 := by have := Hn.out; omega
          have hpd := pad_le (3 + n)
          obtain ⟨pd, hpdv⟩ : ∃ pd, pad (3 + n) = pd := ⟨_, rfl⟩
          simp only [hpdv] at P hpd E1 E2 E3
          have HP := Lib.hid P
          have Hpdv := Lib.hid hpdv
          clear P hpdv
          go_wp2_with fail
          go_quiet (fail)
          clear e1 e2 e3 e4 e5
          go_wp2_with fail
          refine (HP.out _).mono ?_
          rintro e w2 ⟨rfl, rfl⟩
          have HF2 := Lib.hid (HF.out.later (below_drawn nq))
          have Hb2 := Lib.hid (below_drewN Hb.out nq)
          by_cases hfew : s.length < p + 3 + n + pd
          · have E := E1.out (by rw [HL.out]; omega)
            rw [E, if_neg (by decide)] at Hr
            obtain ⟨x0, x1⟩ := HF.out.cells
            have hfz := HF.out.frozen
            have f0 := hfz 0
            have f1 := hfz 1
            clear E
            go_wp2_with fail
            obtain ⟨g1, g2⟩ := fault_set 7 (p : Int) HF2.out Hb2.out
            refine bodyPost_ret (v := .tuple #[.slice none 0 0, .agg #[.int .i64 7, .int .i64 (p : Int)]]) (by simp [results, Tryd.results15, go_sem, x0, x1]) rfl ?_
            rw [← Hr.out]
            exact ⟨_, rfl, AhsV.nil _, g2⟩
          · have hdd : List.drop (3 + n) (List.drop p s) = List.drop (p + 3 + n) s := by rw [List.drop_drop]; congr 1; omega
            have hlt' : (List.take pd (List.drop (p + 3 + n) s)).length = pd := by simp; omega
            have hcz := count_zs (List.take pd (List.drop (p + 3 + n) s))
            rw [hlt'] at hcz
            simp only [hdd] at E2 E3
            obtain ⟨t, ht⟩ : ∃ t, List.take pd (List.drop (p + 3 + n) s) = t := ⟨_, rfl⟩
            rw [ht] at hcz E2 E3
            have C := Lib.hid (fun w => Tryd.strings_Count_one (S t) 0 w)
            have e6 : (S t).data.toList = t := by simp [S]
            rw [e6] at C
            obtain ⟨cn, hcn⟩ : ∃ cn, Lib.countByte t 0 = cn := ⟨_, rfl⟩
            rw [hcn] at C hcz
            clear hdd hlt' e6 hcn
            by_cases hz : t = zs pd
            · have hcp : cn = pd := hcz.2 hz
              subst hcp
              have E := E3.out (by rw [HL.out]; omega) (by rw [hz]; exact beq_self_eq_true _)
              rw [E, if_pos rfl] at Hr
              have Ht := Lib.hid ht
              clear hcz hz E E3
              go_wp2_with fail
              refine (C.out _).mono ?_
              rintro e w3 ⟨rfl, rfl⟩
              go_wp2_with fail
              clear ht
              have hg2 : (List.drop p s).getD 2 0 = a2 := by rw [Hdc.out]; rfl
              have hd3 : List.drop 3 (List.drop p s) = List.drop (p + 3) s := by rw [List.drop_drop]
              rw [hg2, hd3] at Hr
              have hsz : sizeA ⟨(a2.toNat : Int), List.take n (List.drop (p + 3) s)⟩ = 3 + n + cn := by
                rw [← hd3, sizeA_of (by rw [Hpdv.out, HL.out]; omega), Hpdv.out]
              rw [hsz, List.drop_drop] at Hr
              have hdl : (List.take n (List.drop (p + 3) s)).length = n := by simp; omega
              obtain ⟨d, hd⟩ : ∃ d, List.take n (List.drop (p + 3) s) = d := ⟨_, rfl⟩
              rw [hd] at Hr hdl
              have Hdl := Lib.hid hdl
              have e3 : IntKind.i64.wrap ((p : Int) + 2) = (p : Int) + 2 := IntWalk.i64_in _ (by omega)
              have e4 : ((p : Int) + 2).toNat = p + 2 := by omega
              have e5 : (0 : Int) ≤ (p : Int) + 2 := by omega
              have e6 : IntKind.i64.wrap ((p : Int) + 3) = (p : Int) + 3 := IntWalk.i64_in _ (by omega)
              have e7 : ((p : Int) + 3).toNat = p + 3 := by omega
              have e8 : (0 : Int) ≤ (p : Int) + 3 := by omega
              have e9 : IntKind.i64.wrap ((p : Int) + 3 + (n : Int)) = (p : Int) + 3 + n := IntWalk.i64_in _ (by omega)
              have e10 : ((p : Int) + 3 + (n : Int)).toNat = p + 3 + n := by omega
              have e11 : (0 : Int) ≤ (p : Int) + 3 + (n : Int) := by omega
              have e12 : (p : Int) + 3 ≤ (p : Int) + 3 + (n : Int) := by omega
              have e13 : (p : Int) + 3 + (n : Int) ≤ (s.length : Int) := by omega
              have e15 : (p : Int) + 2 < (s.length : Int) := by omega
              have e16 : IntKind.i64.wrap (a2.toNat : Int) = (a2.toNat : Int) := IntWalk.i64_in _ (by have := a2.toNat_lt; omega)
              have e14 : p + 3 + n - (p + 3) = n := by omega
              obtain ⟨HA1, HA2, HA3, HA4, HA5⟩ := appA_sides (a2.toNat : Int) d (wr.drewN (nq + 1)) wr.heap.size acc.length (w.heap.size + 1) rfl (by omega) (by have := Hb.out.size; have := (show Blk wr w.heap.size #[.int .i64 0, .int .i64 0] 26 from HF.out).lt; omega)
              have HBa := Lib.hid ((Hbuf.out.drewN (nq + 1)).alloc (.cells #[.int .i64 (a2.toNat : Int), .string (S d)] 41))
              clear hg2 hd3 hsz hdl h3
              go_region_law (refine step_append_own rfl (.tmp 65) (.tmp 80) 22 rfl (w.heap.size + 1) 41 i0 (.agg #[.int .i64 0, .string (S [])]) 2 24 Tryd.underlying22 hi hz0 hz1 hz2 rfl (by decide) (.slice pv acc.length cv) acc.length (ahsVs acc) rfl HBa.out ⟨wr.heap.size, 0, none⟩ 1 1 [.int .i64 (a2.toNat : Int), .string (S d)] rfl rfl HA1.out HA2.out HA3.out HA4.out HA5.out ?_; intro v' wa hown hgrow hnil)
              have hown' : ABuf (w.heap.size + 1) wa v' (acc ++ [⟨(a2.toNat : Int), d⟩]) := by
                unfold ABuf
                rw [ahsVs_app, List.length_append]
                exact hown
              have hF2 : Cell2 wa w.heap.size 0 0 := Blk.grownA (Blk.alloc (show Blk (wr.drewN (nq + 1)) w.heap.size #[.int .i64 0, .int .i64 0] 26 from HF.out) _) hgrow (fun k hk => by have := Hbuf.out.ge k hk; omega)
              have hlow := ((below_drewN Hb.out (nq + 1)).alloc (by have := Hb.out.size; simpa using this) (.cells #[.int .i64 (a2.toNat : Int), .string (S d)] 41)).grown hgrow (by have := Hb.out.size; simp; omega) (fun k hk => by have := Hbuf.out.ge k hk; omega)
              have Hown := Lib.hid hown'
              have HFa := Lib.hid hF2
              have Hlow := Lib.hid hlow
              clear hown hown' hF2 hlow hgrow hnil e3 e4 e5 e6 e7 e8 e9 e10 e11 e12 e13 e14 e15 e16
              go_wp2_with fail
              go_roundw
              case rel => exact ⟨p + 3 + n + cn, f1, acc ++ [⟨(a2.toNat : Int), d⟩], by omega, by omega, by simp; omega, by go_num, by rw [show p + 3 + n + cn = p + (3 + n + cn) by omega]; exact Hr.out, Hown.out, HFa.out, Hlow.out⟩
              case measure => simp [intOf]; omega
            · have hcp : cn ≠ pd := fun h => hz (hcz.1 h)
              have E := E2.out (by rw [HL.out]; omega) (by rw [beq_eq_false_iff_ne]; exact hz)
              rw [E, if_neg (by decide)] at Hr
              have Ht := Lib.hid ht
              clear hcz hz E E2
              obtain ⟨x0, x1⟩ := HF.out.cells
              have hfz := HF.out.frozen
              have f0 := hfz 0
              have f1 := hfz 1
              go_wp2_with fail
              refine (C.out _).mono ?_
              rintro e w3 ⟨rfl, rfl⟩
              go_wp2_with fail
              obtain ⟨g1, g2⟩ := fault_set 3 (p : Int) HF2.out Hb2.out
              refine bodyPost_ret (v := .tuple #[.slice none 0 0, .agg #[.int .i64 3, .int .i64 (p : Int)]]) (by simp [results, Tryd.results15, go_sem, x0, x1]) rfl ?_
              rw [← Hr.out]
              exact ⟨_, rfl, AhsV.nil _, g2⟩
      · obtain rfl : p = s.length := by omega
        rw [List.drop_length, readF_nil] at hr
        have Hr := Lib.hid hr
        have G := fun w => Lib.hid (goodF w)
        clear hb hbuf hr hF
        go_wp2_with fail
        refine (G _).out.mono ?_
        rintro e w2 ⟨rfl, hb2⟩
        have HF2 := Lib.hid (HF.out.later hb2)
        have Hb2 := Lib.hid (below_then Hb.out hb2)
        have HV := (Hbuf.out.later hb2).ahs
        obtain ⟨x0, x1⟩ := HF2.out.cells
        have hfz := HF2.out.frozen
        have f0 := hfz 0
        have f1 := hfz 1
        have hbo := Lib.hid (Hbuf.out.later hb2)
        clear hb2 HV
        go_wp2_with fail
        obtain ⟨g1, g2⟩ := fault_set 0 (-1) HF2.out Hb2.out
        refine bodyPost_ret (v := .tuple #[.slice pv acc.length cv, .agg #[.int .i64 0, .int .i64 (-1)]]) (by simp [results, Tryd.results15, go_sem, x0, x1]) rfl ?_
        rw [← Hr.out]
        have hV2 := ((hbo.out.set (a := ⟨w.heap.size, 0, none⟩) (by show w.heap.size < w.heap.size + 1; omega) (.int .i64 0)).set (a := ⟨w.heap.size, 1, none⟩) (by show w.heap.size < w.heap.size + 1; omega) (.int .i64 (-1))).ahs
        exact ⟨_, rfl, hV2, g2⟩
end Go.Proofs.YtceinedicbdngaaDoor
