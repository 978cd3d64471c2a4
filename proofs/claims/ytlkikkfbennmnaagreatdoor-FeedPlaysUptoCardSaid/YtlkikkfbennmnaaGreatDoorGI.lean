/- Several texts in one: ref.Pad.  | A fault's block, stored to. No function of the program is walked here.  | ref.AhsRead.  | The reference on what is padded.  | The reference on sums and digests.  -/
import Derived.Test.YtlkikkfbennmnaaGreatDoorGA
import Derived.Test.YtlkikkfbennmnaaGreatDoorGE
import Derived.Test.YtlkikkfbennmnaaGreatDoorGG
import Derived.Test.YtlkikkfbennmnaaGreatDoorShCnt
import Derived.Deep.RegionLaw
import Derived.BigRegion
import Derived.IntWalk
import Derived.Test.YtlkikkfbennmnaaGreatDoorCrcC
namespace Go.Proofs.YtlkikkfbennmnaaGreatDoor
open Go.RowKit
set_option linter.unusedVariables false
theorem refPad_any (n : Int) (w : World) : Calls Tryz.prog 86 #[.int .i64 n] w fun e w' => e = .returned (.int .i64 (padI n)) ∧ w = w' := by
  by_cases h : n ≤ 0
  · have hd : decide (n ≤ 0) = true := decide_eq_true h
    have hp : padI n = 0 := by unfold padI; split <;> omega
    have Hp := Lib.hid hp
    clear hp
    go_enter Tryz.func86, Tryz.ntmps86
    go_wp2_with fail
    go_ret
    exact ⟨ret_int Hp.out.symm, rfl⟩
  · have hd : decide (n ≤ 0) = false := decide_eq_false h
    by_cases h4 : n % 4 = 0
    · have hp : padI n = 0 := by unfold padI; split <;> omega
      have Hp := Lib.hid hp
      clear hp
      go_enter Tryz.func86, Tryz.ntmps86
      go_wp2_with fail
      go_ret
      exact ⟨ret_int Hp.out.symm, rfl⟩
    · have hp : padI n = 4 - n % 4 := by unfold padI; split <;> omega
      have hd4 : (n % 4 == 0) = false := by rw [beq_eq_false_iff_ne]; exact h4
      have h0 : 0 ≤ n := by omega
      have Hp := Lib.hid hp
      clear hp h4
      go_enter Tryz.func86, Tryz.ntmps86
      go_wp2_with fail
      go_ret
      exact ⟨ret_int Hp.out.symm, rfl⟩
theorem refPad_nat (k : Nat) (w : World) : Calls Tryz.prog 86 #[.int .i64 k] w fun e w' => e = .returned (.int .i64 (pad k : Nat)) ∧ w = w' := by
  rw [← padI_pad]; exact refPad_any _ _
end Go.Proofs.YtlkikkfbennmnaaGreatDoor
namespace Go.Proofs.YtlkikkfbennmnaaGreatDoor
open Go.RowKit
/-- two stores to the fault's block -/
theorem fault_set {w W : World} {x y : Int} (a b : Int) (h : Cell2 W w.heap.size x y) (hb : Below w.heap.size w W) :
    Cell2 ((W.setCell ⟨w.heap.size, 0, none⟩ (.int .i64 a)).setCell ⟨w.heap.size, 1, none⟩ (.int .i64 b)) w.heap.size a b ∧ Below w.heap.size w ((W.setCell ⟨w.heap.size, 0, none⟩ (.int .i64 a)).setCell ⟨w.heap.size, 1, none⟩ (.int .i64 b)) :=
  ⟨(Blk.set (Blk.set (show Blk W w.heap.size #[.int .i64 x, .int .i64 y] 176 from h) 0 (.int .i64 a)) 1 (.int .i64 b)), (hb.setCell (p := ⟨w.heap.size, 0, none⟩) (Nat.le_refl _) _).setCell (p := ⟨w.heap.size, 1, none⟩) (Nat.le_refl _) _⟩
end Go.Proofs.YtlkikkfbennmnaaGreatDoor
namespace Go.Proofs.YtlkikkfbennmnaaGreatDoor
open Go.RowKit
theorem step_append_own {P : Program} {ops : Array Oper} {o : Oper} {a : Act} {w : World} {K : Act → World → Prop} {Q : Exit → Act → World → Prop} {E : Prop} (hgd : o.guard = none) (s x : Operand) (t : TypeId)
    (ho : o.op = .call { callee := .builtin .append, args := #[s, x], argTypes := #[t, t] })
    (base : Nat) (e : TypeId) (i : TypeInfo) (z : Value) (size bytes : Nat) (ht : P.underlying t = some (.slice e)) (hi : P.info? e = some i) (hz : i.zero = some z)
    (hsize : i.size = size) (hby : i.bytes = bytes) (hzs : z.cells.size = size) (hsz : 0 < size)
    (v : Value) (n : Nat) (xs : List Value) (hs : a.eval s = v) (hown : w.ownsRow base e size v n xs)
    (ad : Addr) (m c : Nat) (news : List Value) (hx : a.eval x = .slice (some ad) m c) (hl : news.length = m * size) (hnews : ∀ j u, news[j]? = some u → w.cell? (ad.add j) = some u) (h1 : ∀ u ∈ news, u.oneCell' = true)
    (h63 : n + m ≤ maxLen) (hbytes : (n + m) * bytes ≤ 140737488355328) (hbase : base ≤ w.heap.size)
    (h : ∀ v' w', w'.ownsRow base e size v' (n + m) (xs ++ news) → w.grownBy w' v.ownBlock → (v' = .slice none 0 0 ↔ v = .slice none 0 0 ∧ m = 0) → K (a.put o.dst v') w') :
    if Region.wanted o (yielded ops a.tmps) = true then Oper.wp P o a w K Q else E := by
  have hw : Region.wanted o (yielded ops a.tmps) = true := by simp [Region.wanted, hgd]
  rw [if_pos hw]
  exact wp_append_own w s x t ho base e i z size bytes ht hi hz hsize hby hzs hsz v n xs hs hown ad m c news hx hl hnews h1 h63 hbytes hbase h
/-- headers and a fault are returned -/
def RetLF (w : World) (r : List Ah × Int × Int) (e : Ending) (w' : World) : Prop := ∃ v, e = .returned (.tuple #[v, .agg #[.int .i64 r.2.1, .int .i64 r.2.2]]) ∧ AhsV w' v r.1 ∧ Below w.heap.size w w'
theorem count_zs (t : List UInt8) : Lib.countByte t 0 = t.length ↔ t = zs t.length := by
  unfold Lib.countByte zs
  rw [List.count_eq_length, List.eq_replicate_iff]
  exact ⟨fun h => ⟨rfl, fun b hb => (h b hb).symm⟩, fun h b hb => (h.2 b hb).symm⟩
theorem drop_cons2 (s : List UInt8) (p : Nat) (h : p + 3 ≤ s.length) : s.drop p = s[p]'(by omega) :: s[p + 1]'(by omega) :: s[p + 2]'(by omega) :: s.drop (p + 3) := by
  rw [List.drop_eq_getElem_cons (by omega), List.drop_eq_getElem_cons (i := p + 1) (by omega), List.drop_eq_getElem_cons (i := p + 2) (by omega)]
set_option maxRecDepth 100000 in
set_option maxHeartbeats 2000000 in
theorem refRead_ahs (s : List UInt8) (w : World) (hl : s.length ≤ 140737488355328) :
    Calls Tryz.prog 89 #[.string (S s)] w (RetLF w (readA s)) := by
  by_cases h1 : 1020 < s.length
  · have E := Lib.hid (show readA s = ([], 4, -1) by unfold readA; rw [if_pos h1])
    have B := fun w => Lib.hid (bareF 4 w)
    have hF0 := cell2_new w
    have HF0 := Lib.hid hF0
    have Hb0 := Lib.hid ((Below.refl w.heap.size w).alloc (Nat.le_refl _) (.cells #[.int .i64 0, .int .i64 0] 176))
    clear hF0
    go_enter Tryz.func89, Tryz.ntmps89
    go_wp2_with fail
    refine (B _).out.mono ?_
    rintro e w2 ⟨rfl, hb2⟩
    have HF2 := Lib.hid (HF0.out.later hb2)
    have Hb2 := Lib.hid (below_then Hb0.out hb2)
    obtain ⟨x0, x1⟩ := HF2.out.cells
    have hfz := HF2.out.frozen
    have f0 := hfz 0
    have f1 := hfz 1
    clear hb2
    go_wp2_with fail
    obtain ⟨g1, g2⟩ := fault_set 4 (-1) HF2.out Hb2.out
    refine bodyPost_ret (v := .tuple #[.slice none 0 0, .agg #[.int .i64 4, .int .i64 (-1)]]) (by simp [results, Tryz.results89, go_sem, x0, x1]) rfl ?_
    rw [E.out]
    exact ⟨_, rfl, AhsV.nil _, g2⟩
  · have E := Lib.hid (show readA s = readF s.length 0 s [] by unfold readA; rw [if_neg h1])
    obtain ⟨i0, hi, hz0, hz1, hz2⟩ := infoAh
    clear hl
    go_enter Tryz.func89, Tryz.ntmps89
    go_wp2_with fail
    go_loopw [4, 5] (fun x i wr => ∃ (p f : Nat) (acc : List Ah), p ≤ s.length ∧ s.length ≤ f + p ∧ acc.length ≤ p ∧ i = .int .i64 p ∧ readF f p (s.drop p) acc = readA s ∧ ABuf (w.heap.size + 1) wr x acc ∧ Cell2 wr w.heap.size 0 0 ∧ Below w.heap.size w wr) (fun _ i _ => s.length - (intOf i).toNat)
    case atStart => exact ⟨0, s.length, [], by omega, by omega, by simp, rfl, E.out.symm, ABuf.nil _ _, cell2_new w, (Below.refl _ _).alloc (Nat.le_refl _) _⟩
    case round =>
      obtain ⟨p, f, acc, hp, hf, hap, rfl, hr, hbuf, hF, hb⟩ := hrel
      have Hb := Lib.hid hb
      have Hbuf := Lib.hid hbuf
      have HF := Lib.hid hF
      obtain ⟨pv, cv, rfl⟩ := hbuf.form
      by_cases hlt : p < s.length
      · obtain ⟨f1, rfl⟩ : ∃ f1, f = f1 + 1 := ⟨f - 1, by omega⟩
        have hne : s.drop p ≠ [] := fun e => by have := congrArg List.length e; simp at this; omega
        have hdl : (s.drop p).length = s.length - p := by simp
        rw [readF_succ, if_neg hne] at hr
        clear hne hb hbuf hF
        by_cases h3 : s.length < p + 3
        · have hfa := firstA_few (s := s.drop p) (by omega)
          rw [hfa, if_neg (by decide)] at hr
          have Hr := Lib.hid hr
          obtain ⟨x0, x1⟩ := HF.out.cells
          have hfz := HF.out.frozen
          have f0 := hfz 0
          have f1 := hfz 1
          clear hr hdl hfa
          go_wp2_with fail
          obtain ⟨g1, g2⟩ := fault_set 7 (p : Int) HF.out Hb.out
          refine bodyPost_ret (v := .tuple #[.slice none 0 0, .agg #[.int .i64 7, .int .i64 (p : Int)]]) (by simp [results, Tryz.results89, go_sem, x0, x1]) rfl ?_
          rw [← Hr.out]
          exact ⟨_, rfl, AhsV.nil _, g2⟩
        · have h0l : p + 1 < s.length := by omega
          have h2l : p + 2 < s.length := by omega
          have hdc := drop_cons2 s p (by omega)
          obtain ⟨a0, ha0⟩ : ∃ c, s[p]'(by omega) = c := ⟨_, rfl⟩
          obtain ⟨a1, ha1⟩ : ∃ c, s[p + 1]'(by omega) = c := ⟨_, rfl⟩
          obtain ⟨a2, ha2⟩ : ∃ c, s[p + 2]'(by omega) = c := ⟨_, rfl⟩
          rw [ha0, ha1, ha2] at hdc
          have hl0 := a0.toNat_lt
          have hl1 := a1.toNat_lt
          have hv : val ((s.drop p).take 2) = 256 * a0.toNat + a1.toNat := by rw [hdc]; simp [val]; omega
          obtain ⟨n, hn⟩ : ∃ n, 256 * a0.toNat + a1.toNat = n := ⟨_, rfl⟩
          rw [hn] at hv
          have E1 := Lib.hid (firstA_more (s := s.drop p) (by omega))
          have E2 := Lib.hid (firstA_form (s := s.drop p) (by omega))
          have E3 := Lib.hid (firstA_ok (s := s.drop p) (by omega))
          simp only [hv] at E1 E2 E3
          have HL := Lib.hid hdl
          have Hr := Lib.hid hr
          have Hn := Lib.hid hn
          have Hdc := Lib.hid hdc
          have e1 : IntKind.i64.wrap (256 * (a0.toNat : Int)) = 256 * (a0.toNat : Int) := IntWalk.i64_in _ (by omega)
          have e2 : IntKind.i64.wrap (256 * (a0.toNat : Int) + (a1.toNat : Int)) = (n : Int) := by rw [IntWalk.i64_in _ (by omega)]; omega
          have e3 : IntKind.i64.wrap ((p : Int) + 1) = (p : Int) + 1 := IntWalk.i64_in _ (by omega)
          have e4 : ((p : Int) + 1).toNat = p + 1 := by omega
          have e5 : (0 : Int) ≤ (p : Int) + 1 := by omega
          clear hdl hv hr hn hdc
          have P : ∀ w, Calls Tryz.prog 86 #[.int .i64 (3 + (n : Int))] w fun e w' => e = .returned (.int .i64 (pad (3 + n) : Nat)) ∧ w = w' := fun w => by
            have := refPad_nat (3 + n) w
            rwa [show (((3 + n : Nat)) : Int) = 3 + (n : Int) by omega] at this
          have hn65 : n < 65536 := by have := Hn.out; omega
          have hpd := pad_le (3 + n)
          obtain ⟨pd, hpdv⟩ : ∃ pd, pad (3 + n) = pd := ⟨_, rfl⟩
          simp only [hpdv] at P hpd E1 E2 E3
          have HP := Lib.hid P
          have Hpdv := Lib.hid hpdv
          clear P hpdv
          go_wp2_with fail
          go_quiet (fail)
          clear e1 e2 e3 e4 e5
          go_wp2_with fail
          refine (HP.out _).mono ?_
          rintro e w2 ⟨rfl, rfl⟩
          have HF2 := Lib.hid (HF.out.later (below_drawn nq))
          have Hb2 := Lib.hid (below_drewN Hb.out nq)
          by_cases hfew : s.length < p + 3 + n + pd
          · have E := E1.out (by rw [HL.out]; omega)
            rw [E, if_neg (by decide)] at Hr
            obtain ⟨x0, x1⟩ := HF.out.cells
            have hfz := HF.out.frozen
            have f0 := hfz 0
            have f1 := hfz 1
            clear E
            go_wp2_with fail
            obtain ⟨g1, g2⟩ := fault_set 7 (p : Int) HF2.out Hb2.out
            refine bodyPost_ret (v := .tuple #[.slice none 0 0, .agg #[.int .i64 7, .int .i64 (p : Int)]]) (by simp [results, Tryz.results89, go_sem, x0, x1]) rfl ?_
            rw [← Hr.out]
            exact ⟨_, rfl, AhsV.nil _, g2⟩
          · have hdd : List.drop (3 + n) (List.drop p s) = List.drop (p + 3 + n) s := by rw [List.drop_drop]; congr 1; omega
            have hlt' : (List.take pd (List.drop (p + 3 + n) s)).length = pd := by simp; omega
            have hcz := count_zs (List.take pd (List.drop (p + 3 + n) s))
            rw [hlt'] at hcz
            simp only [hdd] at E2 E3
            obtain ⟨t, ht⟩ : ∃ t, List.take pd (List.drop (p + 3 + n) s) = t := ⟨_, rfl⟩
            rw [ht] at hcz E2 E3
            have C := Lib.hid (fun w => Tryz.strings_Count_one (S t) 0 w)
            have e6 : (S t).data.toList = t := by simp [S]
            rw [e6] at C
            obtain ⟨cn, hcn⟩ : ∃ cn, Lib.countByte t 0 = cn := ⟨_, rfl⟩
            rw [hcn] at C hcz
            clear hdd hlt' e6 hcn
            by_cases hz : t = zs pd
            · have hcp : cn = pd := hcz.2 hz
              subst hcp
              have E := E3.out (by rw [HL.out]; omega) (by rw [hz]; exact beq_self_eq_true _)
              rw [E, if_pos rfl] at Hr
              have Ht := Lib.hid ht
              clear hcz hz E E3
              go_wp2_with fail
              refine (C.out _).mono ?_
              rintro e w3 ⟨rfl, rfl⟩
              go_wp2_with fail
              clear ht
              have hg2 : (List.drop p s).getD 2 0 = a2 := by rw [Hdc.out]; rfl
              have hd3 : List.drop 3 (List.drop p s) = List.drop (p + 3) s := by rw [List.drop_drop]
              rw [hg2, hd3] at Hr
              have hsz : sizeA ⟨(a2.toNat : Int), List.take n (List.drop (p + 3) s)⟩ = 3 + n + cn := by
                rw [← hd3, sizeA_of (by rw [Hpdv.out, HL.out]; omega), Hpdv.out]
              rw [hsz, List.drop_drop] at Hr
              have hdl : (List.take n (List.drop (p + 3) s)).length = n := by simp; omega
              obtain ⟨d, hd⟩ : ∃ d, List.take n (List.drop (p + 3) s) = d := ⟨_, rfl⟩
              rw [hd] at Hr hdl
              have Hdl := Lib.hid hdl
              have e3 : IntKind.i64.wrap ((p : Int) + 2) = (p : Int) + 2 := IntWalk.i64_in _ (by omega)
              have e4 : ((p : Int) + 2).toNat = p + 2 := by omega
              have e5 : (0 : Int) ≤ (p : Int) + 2 := by omega
              have e6 : IntKind.i64.wrap ((p : Int) + 3) = (p : Int) + 3 := IntWalk.i64_in _ (by omega)
              have e7 : ((p : Int) + 3).toNat = p + 3 := by omega
              have e8 : (0 : Int) ≤ (p : Int) + 3 := by omega
              have e9 : IntKind.i64.wrap ((p : Int) + 3 + (n : Int)) = (p : Int) + 3 + n := IntWalk.i64_in _ (by omega)
              have e10 : ((p : Int) + 3 + (n : Int)).toNat = p + 3 + n := by omega
              have e11 : (0 : Int) ≤ (p : Int) + 3 + (n : Int) := by omega
              have e12 : (p : Int) + 3 ≤ (p : Int) + 3 + (n : Int) := by omega
              have e13 : (p : Int) + 3 + (n : Int) ≤ (s.length : Int) := by omega
              have e15 : (p : Int) + 2 < (s.length : Int) := by omega
              have e16 : IntKind.i64.wrap (a2.toNat : Int) = (a2.toNat : Int) := IntWalk.i64_in _ (by have := a2.toNat_lt; omega)
              have e14 : p + 3 + n - (p + 3) = n := by omega
              obtain ⟨HA1, HA2, HA3, HA4, HA5⟩ := appA_sides (a2.toNat : Int) d (wr.drewN (nq + 1)) wr.heap.size acc.length (w.heap.size + 1) rfl (by omega) (by have := Hb.out.size; have := (show Blk wr w.heap.size #[.int .i64 0, .int .i64 0] 176 from HF.out).lt; omega)
              have HBa := Lib.hid ((Hbuf.out.drewN (nq + 1)).alloc (.cells #[.int .i64 (a2.toNat : Int), .string (S d)] 87))
              clear hg2 hd3 hsz hdl h3
              go_region_law (refine step_append_own rfl (.tmp 65) (.tmp 80) 43 rfl (w.heap.size + 1) 87 i0 (.agg #[.int .i64 0, .string (S [])]) 2 24 Tryz.underlying43 hi hz0 hz1 hz2 rfl (by decide) (.slice pv acc.length cv) acc.length (ahsVs acc) rfl HBa.out ⟨wr.heap.size, 0, none⟩ 1 1 [.int .i64 (a2.toNat : Int), .string (S d)] rfl rfl HA1.out HA2.out HA3.out HA4.out HA5.out ?_; intro v' wa hown hgrow hnil)
              have hown' : ABuf (w.heap.size + 1) wa v' (acc ++ [⟨(a2.toNat : Int), d⟩]) := by
                unfold ABuf
                rw [ahsVs_app, List.length_append]
                exact hown
              have hF2 : Cell2 wa w.heap.size 0 0 := Blk.grownA (Blk.alloc (show Blk (wr.drewN (nq + 1)) w.heap.size #[.int .i64 0, .int .i64 0] 176 from HF.out) _) hgrow (fun k hk => by have := Hbuf.out.ge k hk; omega)
              have hlow := ((below_drewN Hb.out (nq + 1)).alloc (by have := Hb.out.size; simpa using this) (.cells #[.int .i64 (a2.toNat : Int), .string (S d)] 87)).grown hgrow (by have := Hb.out.size; simp; omega) (fun k hk => by have := Hbuf.out.ge k hk; omega)
              have Hown := Lib.hid hown'
              have HFa := Lib.hid hF2
              have Hlow := Lib.hid hlow
              clear hown hown' hF2 hlow hgrow hnil e3 e4 e5 e6 e7 e8 e9 e10 e11 e12 e13 e14 e15 e16
              go_wp2_with fail
              go_roundw
              case rel => exact ⟨p + 3 + n + cn, f1, acc ++ [⟨(a2.toNat : Int), d⟩], by omega, by omega, by simp; omega, by go_num, by rw [show p + 3 + n + cn = p + (3 + n + cn) by omega]; exact Hr.out, Hown.out, HFa.out, Hlow.out⟩
              case measure => simp [intOf]; omega
            · have hcp : cn ≠ pd := fun h => hz (hcz.1 h)
              have E := E2.out (by rw [HL.out]; omega) (by rw [beq_eq_false_iff_ne]; exact hz)
              rw [E, if_neg (by decide)] at Hr
              have Ht := Lib.hid ht
              clear hcz hz E E2
              obtain ⟨x0, x1⟩ := HF.out.cells
              have hfz := HF.out.frozen
              have f0 := hfz 0
              have f1 := hfz 1
              go_wp2_with fail
              refine (C.out _).mono ?_
              rintro e w3 ⟨rfl, rfl⟩
              go_wp2_with fail
              obtain ⟨g1, g2⟩ := fault_set 3 (p : Int) HF2.out Hb2.out
              refine bodyPost_ret (v := .tuple #[.slice none 0 0, .agg #[.int .i64 3, .int .i64 (p : Int)]]) (by simp [results, Tryz.results89, go_sem, x0, x1]) rfl ?_
              rw [← Hr.out]
              exact ⟨_, rfl, AhsV.nil _, g2⟩
      · obtain rfl : p = s.length := by omega
        rw [List.drop_length, readF_nil] at hr
        have Hr := Lib.hid hr
        have G := fun w => Lib.hid (goodF w)
        clear hb hbuf hr hF
        go_wp2_with fail
        refine (G _).out.mono ?_
        rintro e w2 ⟨rfl, hb2⟩
        have HF2 := Lib.hid (HF.out.later hb2)
        have Hb2 := Lib.hid (below_then Hb.out hb2)
        have HV := (Hbuf.out.later hb2).ahs
        obtain ⟨x0, x1⟩ := HF2.out.cells
        have hfz := HF2.out.frozen
        have f0 := hfz 0
        have f1 := hfz 1
        have hbo := Lib.hid (Hbuf.out.later hb2)
        clear hb2 HV
        go_wp2_with fail
        obtain ⟨g1, g2⟩ := fault_set 0 (-1) HF2.out Hb2.out
        refine bodyPost_ret (v := .tuple #[.slice pv acc.length cv, .agg #[.int .i64 0, .int .i64 (-1)]]) (by simp [results, Tryz.results89, go_sem, x0, x1]) rfl ?_
        rw [← Hr.out]
        have hV2 := ((hbo.out.set (a := ⟨w.heap.size, 0, none⟩) (by show w.heap.size < w.heap.size + 1; omega) (.int .i64 0)).set (a := ⟨w.heap.size, 1, none⟩) (by show w.heap.size < w.heap.size + 1; omega) (.int .i64 (-1))).ahs
        exact ⟨_, rfl, hV2, g2⟩
end Go.Proofs.YtlkikkfbennmnaaGreatDoor
namespace Go.Proofs.YtlkikkfbennmnaaGreatDoor
open Go.RowKit
set_option linter.unusedVariables false
/-! strings.Trim of noughts -/
def tL (l : List UInt8) : List UInt8 := l.dropWhile (· == 0)
def tR (l : List UInt8) : List UInt8 := (l.reverse.dropWhile (· == 0)).reverse
theorem tR_le (l : List UInt8) : (tR l).length ≤ l.length := by
  unfold tR; rw [List.length_reverse]
  have := (List.dropWhile_suffix (l := l.reverse) (fun x : UInt8 => x == 0)).length_le
  simpa using this
theorem tR_snoc (l : List UInt8) (b : UInt8) : tR (l ++ [b]) = if b == 0 then tR l else l ++ [b] := by
  unfold tR
  rw [List.reverse_append]
  simp only [List.reverse_cons, List.reverse_nil, List.nil_append, List.singleton_append, List.dropWhile_cons]
  split <;> simp
theorem trimRight_any (l : List UInt8) (w : World) (hl : l.length ≤ 4294967280) :
    Calls Tryz.prog 123 #[.string (S l), .int .u8 0] w fun e w' => e = .returned (.string (S (tR l))) ∧ w = w' := by
  go_enter Tryz.func123, Tryz.ntmps123
  go_wp2_with fail
  go_loopg [0] (l.length + 1) (fun g s wr => ∃ m : List UInt8, m.length < g ∧ m.length ≤ l.length ∧ s = .string (S m) ∧ tR m = tR l ∧ wr = w)
  case atStart => exact ⟨l, by omega, by omega, rfl, rfl, rfl⟩
  case round =>
    obtain ⟨m, hm, hml, rfl, ht, rfl⟩ := hrel
    have Ht := Lib.hid ht
    clear ht
    rcases List.eq_nil_or_concat m with rfl | ⟨m', b, rfl⟩
    · go_wp2_with fail
      go_ret
      exact ⟨by rw [← Ht.out]; rfl, rfl⟩
    · rw [List.concat_eq_append] at *
      have hlen : (m' ++ [b]).length = m'.length + 1 := by simp
      have hget : ∀ h : m'.length < (m' ++ [b]).length, (m' ++ [b])[m'.length]'h = b := by intro h; simp
      by_cases hb : b = 0
      · subst hb
        have htr : tR (m' ++ [0]) = tR m' := by rw [tR_snoc]; rfl
        have Htr := Lib.hid htr
        clear htr
        have htk : (m' ++ [(0 : UInt8)]).take m'.length = m' := by simp
        go_wp2_with fail
        go_roundg (gk - 1)
        case measure => omega
        case rel => exact ⟨m', by omega, by omega, rfl, by rw [← Htr.out, Ht.out], rfl⟩
      · have htr : tR (m' ++ [b]) = m' ++ [b] := by rw [tR_snoc, if_neg (by simpa using hb)]
        have Htr := Lib.hid htr
        clear htr
        have hbi : ((b.toNat : Int) == 0) = false := by
          rw [beq_eq_false_iff_ne]; intro h0; apply hb
          exact UInt8.toNat_inj.1 (by show b.toNat = 0; omega)
        go_wp2_with fail
        go_ret
        exact ⟨by rw [← Ht.out, Htr.out]; rfl, rfl⟩
theorem trimLeft_any (l : List UInt8) (w : World) (hl : l.length ≤ 4294967280) :
    Calls Tryz.prog 122 #[.string (S l), .int .u8 0] w fun e w' => e = .returned (.string (S (tL l))) ∧ w = w' := by
  go_enter Tryz.func122, Tryz.ntmps122
  go_wp2_with fail
  go_loopg [0] (l.length + 1) (fun g s wr => ∃ m : List UInt8, m.length < g ∧ m.length ≤ l.length ∧ s = .string (S m) ∧ tL m = tL l ∧ wr = w)
  case atStart => exact ⟨l, by omega, by omega, rfl, rfl, rfl⟩
  case round =>
    obtain ⟨m, hm, hml, rfl, ht, rfl⟩ := hrel
    have Ht := Lib.hid ht
    clear ht
    cases m with
    | nil =>
      go_wp2_with fail
      go_ret
      exact ⟨by rw [← Ht.out]; rfl, rfl⟩
    | cons b m' =>
      have hlen : (b :: m').length = m'.length + 1 := rfl
      by_cases hb : b = 0
      · subst hb
        have htr : tL (0 :: m') = tL m' := rfl
        have Htr := Lib.hid htr
        clear htr
        have htk : List.take m'.length m' = m' := List.take_length
        go_wp2_with fail
        go_roundg (gk - 1)
        case measure => omega
        case rel => exact ⟨m', by omega, by omega, by simp, by rw [← Htr.out, Ht.out], rfl⟩
      · have htr : tL (b :: m') = b :: m' := by unfold tL; rw [List.dropWhile_cons, if_neg (by simpa using hb)]
        have Htr := Lib.hid htr
        clear htr
        have hbi : ((b.toNat : Int) == 0) = false := by
          rw [beq_eq_false_iff_ne]; intro h0; apply hb
          exact UInt8.toNat_inj.1 (by show b.toNat = 0; omega)
        go_wp2_with fail
        go_ret
        exact ⟨by rw [← Ht.out, Htr.out]; rfl, rfl⟩
theorem trim_any (l : List UInt8) (w : World) (hl : l.length ≤ 4294967280) :
    Calls Tryz.prog 111 #[.string (S l), .string (S [0])] w fun e w' => e = .returned (.string (S (tL (tR l)))) ∧ ∃ n, w' = w.drewN n := by
  have hle := tR_le l
  cases l with
  | nil =>
    go_enter Tryz.func111, Tryz.ntmps111
    go_wp2_with fail
    go_ret
    exact ⟨rfl, 0, rfl⟩
  | cons b m =>
    have h1 : ((b :: m).isEmpty) = false := rfl
    go_enter Tryz.func111, Tryz.ntmps111
    go_wp2_with fail
    go_quiet ((first | (go_at_call 123; exact quiet_left (trimRight_any _ _ (by omega))) | (go_at_call 122; exact quiet_left (trimLeft_any _ _ (by omega)))))
    go_wp2_with fail
    go_ret
    exact ⟨rfl, _, rfl⟩
theorem dropWhile_nil (l : List UInt8) : l.dropWhile (· == 0) = [] ↔ ∀ x ∈ l, x = 0 := by
  induction l with
  | nil => simp
  | cons b l ih =>
    rw [List.dropWhile_cons]
    by_cases hb : b = 0
    · subst hb; simp [ih]
    · rw [if_neg (by simpa using hb)]; simp [hb]
theorem zs_iff (l : List UInt8) : l = zs l.length ↔ ∀ x ∈ l, x = 0 := by
  unfold zs
  rw [List.eq_replicate_iff]
  simp
theorem trim_nil (l : List UInt8) : tL (tR l) = [] ↔ l = zs l.length := by
  rw [zs_iff]
  unfold tL
  rw [dropWhile_nil]
  constructor
  · intro h
    have h2 : tR l = [] := by
      rcases List.eq_nil_or_concat (tR l) with h0 | ⟨m, b, h0⟩
      · exact h0
      · exfalso
        have hb : b = 0 := h b (by rw [h0]; simp)
        have : (l.reverse.dropWhile (· == 0)) = b :: m.reverse := by
          have := congrArg List.reverse h0
          unfold tR at this
          simpa using this
        have hd := List.head?_dropWhile_not (fun x : UInt8 => x == 0) l.reverse
        rw [this] at hd
        simp [hb] at hd
    unfold tR at h2
    have h3 : l.reverse.dropWhile (· == 0) = [] := by simpa using h2
    rw [dropWhile_nil] at h3
    intro x hx
    exact h3 x (by simpa using hx)
  · intro h x hx
    have h3 : l.reverse.dropWhile (· == 0) = [] := by
      rw [dropWhile_nil]; intro y hy; exact h y (by simpa using hy)
    unfold tR at hx
    rw [h3] at hx
    simp at hx
theorem refUnpad_all (l : List UInt8) (n : Int) (w : World) (hl : l.length ≤ 5000) :
    Calls Tryz.prog 91 #[.string (S l), .int .i64 n] w fun e w' => e = .returned (.tuple #[.string (S (unpS l n)), .int .i64 (unpK l n), .int .i64 (unpE l n)]) ∧ Below w.heap.size w w' := by
  by_cases h : n < 0
  · have he : unpE l n = 2 := by unfold unpE; rw [if_pos h]
    have hv : Value.tuple #[.string (S (unpS l n)), .int .i64 (unpK l n), .int .i64 (unpE l n)] = .tuple #[.string (S []), .int .i64 0, .int .i64 2] := by unfold unpS unpK; rw [he]; rfl
    rw [hv]
    clear hv he
    go_enter Tryz.func91, Tryz.ntmps91
    go_wp2_with fail
    go_ret3
    exact ⟨rfl, Below.refl _ _⟩
  · obtain ⟨k, rfl⟩ := Int.eq_ofNat_of_zero_le (show 0 ≤ n by omega)
    have hp3 := pad_le k
    by_cases hf : l.length < k + pad k
    · have he : unpE l k = 7 := by unfold unpE; rw [if_neg h, Int.toNat_natCast, if_pos hf]
      have hv : Value.tuple #[.string (S (unpS l k)), .int .i64 (unpK l k), .int .i64 (unpE l k)] = .tuple #[.string (S []), .int .i64 0, .int .i64 7] := by unfold unpS unpK; rw [he]; rfl
      rw [hv]
      clear hv he
      by_cases hk : l.length < k
      · have hd : decide (l.length < k) = true := decide_eq_true hk
        go_enter Tryz.func91, Tryz.ntmps91
        go_wp2_with fail
        go_ret3
        exact ⟨rfl, Below.refl _ _⟩
      · have hd : decide (l.length < k) = false := decide_eq_false hk
        go_enter Tryz.func91, Tryz.ntmps91
        go_wp2_with fail
        refine (refPad_any _ _).mono ?_
        rintro e w1 ⟨rfl, rfl⟩
        rw [padI_pad]
        go_wp2_with fail
        go_ret3
        exact ⟨rfl, Below.refl _ _⟩
    · have hk : ¬ l.length < k := by omega
      have hd : decide (l.length < k) = false := decide_eq_false hk
      have hsub : k + pad k - k = pad k := by omega
      have htl : ((l.drop k).take (pad k)).length = pad k := by simp; omega
      have hiff := trim_nil ((l.drop k).take (pad k))
      rw [htl] at hiff
      by_cases hz : ((l.drop k).take (pad k) == zs (pad k)) = true
      · have he : unpE l k = 0 := by unfold unpE; rw [if_neg h, Int.toNat_natCast, if_neg hf, if_pos hz]
        have hv : Value.tuple #[.string (S (unpS l k)), .int .i64 (unpK l k), .int .i64 (unpE l k)] = .tuple #[.string (S (l.take k)), .int .i64 ((k : Int) + (pad k : Int)), .int .i64 0] := by
          unfold unpS unpK; rw [he, if_pos rfl, if_pos rfl, Int.toNat_natCast, Int.natCast_add]
        have ht := hiff.2 (by simpa using hz)
        rw [hv]
        have Ht := Lib.hid ht
        clear hv he ht hz hiff
        go_enter Tryz.func91, Tryz.ntmps91
        go_wp2_with fail
        refine (refPad_any _ _).mono ?_
        rintro e w1 ⟨rfl, rfl⟩
        rw [padI_pad]
        go_wp2_with fail
        refine (refPad_any _ _).mono ?_
        rintro e w1 ⟨rfl, rfl⟩
        rw [padI_pad]
        go_wp2_with fail
        refine (trim_any _ _ (by omega)).mono ?_
        rintro e w1 ⟨rfl, n, rfl⟩
        rw [Ht.out]
        go_wp2_with fail
        go_quiet ((go_at_call 86; exact quiet_add_left (refPad_nat _ _)))
        go_wp2_with fail
        go_ret3
        exact ⟨rfl, below_drewN (below_drawn _) _⟩
      · have he : unpE l k = 3 := by unfold unpE; rw [if_neg h, Int.toNat_natCast, if_neg hf, if_neg hz]
        have hv : Value.tuple #[.string (S (unpS l k)), .int .i64 (unpK l k), .int .i64 (unpE l k)] = .tuple #[.string (S []), .int .i64 0, .int .i64 3] := by unfold unpS unpK; rw [he]; rfl
        rw [hv]
        have ht : (tL (tR ((l.drop k).take (pad k)))).isEmpty = false := by
          rw [List.isEmpty_eq_false_iff]; intro h0; exact hz (by simpa using hiff.1 h0)
        have ht2 : tL (tR ((l.drop k).take (pad k))) ≠ [] := fun h0 => hz (by simpa using hiff.1 h0)
        generalize hx : tL (tR ((l.drop k).take (pad k))) = x at ht ht2
        have Hx := Lib.hid hx
        clear hv he hz hiff hx
        go_enter Tryz.func91, Tryz.ntmps91
        go_wp2_with fail
        refine (refPad_any _ _).mono ?_
        rintro e w1 ⟨rfl, rfl⟩
        rw [padI_pad]
        go_wp2_with fail
        refine (refPad_any _ _).mono ?_
        rintro e w1 ⟨rfl, rfl⟩
        rw [padI_pad]
        go_wp2_with fail
        refine (trim_any _ _ (by omega)).mono ?_
        rintro e w1 ⟨rfl, n, rfl⟩
        rw [Hx.out]
        go_wp2_with fail
        go_ret3
        exact ⟨rfl, below_drawn _⟩
end Go.Proofs.YtlkikkfbennmnaaGreatDoor
namespace Go.Proofs.YtlkikkfbennmnaaGreatDoor
open Go.RowKit
set_option linter.unusedVariables false
/-- the number behind i bits of a text, as the document's answer goes -/
def rv (l : List UInt8) (i : Nat) : Nat := rbits (i % 8) (crcRaw (l.take (i / 8))) (l.getD (i / 8) 0).toNat
theorem rv_step (l : List UInt8) (i : Nat) (h : i < 8 * l.length) : rv l (i + 1) = rbit (rv l i) ((l.getD (i / 8) 0).toNat / 2 ^ (i % 8) % 2) := by
  unfold rv
  by_cases h7 : i % 8 = 7
  · have e1 : (i + 1) / 8 = i / 8 + 1 := by omega
    have e2 : (i + 1) % 8 = 0 := by omega
    have hk : i / 8 < l.length := by omega
    rw [e1, e2, h7]
    show crcRaw (l.take (i / 8 + 1)) = rbits 8 _ _
    rw [rbits_byte, ← List.take_append_getElem hk, crcRaw_snoc]
    simp [List.getD_eq_getElem?_getD, List.getElem?_eq_getElem hk]
  · have e1 : (i + 1) / 8 = i / 8 := by omega
    have e2 : (i + 1) % 8 = i % 8 + 1 := by omega
    rw [e1, e2]
    rfl
theorem rv_lt (l : List UInt8) (i : Nat) : rv l i < 2 ^ 32 := rbits_lt _ _ (crcRaw_lt _) _
theorem rv_end (l : List UInt8) : rv l (8 * l.length) = crcRaw l := by
  unfold rv
  rw [show 8 * l.length % 8 = 0 from by omega, show 8 * l.length / 8 = l.length from by omega, List.take_length]
  rfl
theorem low_walk (n b j : Nat) (hn : n < 2 ^ 32) (hb : b < 256) :
    bits .xor .u32 (bits .and .u32 (n : Int) 1) (bits .and .u32 ((b : Int) / 2 ^ j % 4294967296) 1) = ((n % 2 ^^^ b / 2 ^ j % 2 : Nat) : Int) := by
  have hd : b / 2 ^ j < 2 ^ 32 := Nat.lt_of_le_of_lt (Nat.div_le_self _ _) (Nat.lt_of_lt_of_le hb (by decide))
  have e : (b : Int) / 2 ^ j % 4294967296 = ((b / 2 ^ j : Nat) : Int) := by
    rw [show (b : Int) / 2 ^ j = ((b / 2 ^ j : Nat) : Int) from by rw [Int.natCast_ediv, Int.natCast_pow]; rfl]
    generalize b / 2 ^ j = d at hd
    omega
  rw [e, show (1 : Int) = ((1 : Nat) : Int) from rfl, u32_and_nat n 1 hn (by decide), u32_and_nat _ 1 hd (by decide), and_one, and_one]
  rw [u32_xor_nat _ _ (by omega) (by omega)]
theorem half_walk (n : Nat) (hn : n < 2 ^ 32) : (n : Int) / 2 % 4294967296 = ((n / 2 : Nat) : Int) := by omega
theorem rbit_one (n t : Nat) (hn : n < 2 ^ 32) (h : (n % 2 ^^^ t) = 1) : bits .xor .u32 ((n : Int) / 2 % 4294967296) 2197175160 = ((rbit n t : Nat) : Int) := by
  rw [half_walk n hn, show (2197175160 : Int) = ((2197175160 : Nat) : Int) from rfl, u32_xor_nat _ _ (by omega) (by decide)]
  unfold rbit
  rw [if_pos h]; rfl
theorem rbit_zero (n t : Nat) (hn : n < 2 ^ 32) (h : ¬ (n % 2 ^^^ t) = 1) : (n : Int) / 2 % 4294967296 = ((rbit n t : Nat) : Int) := by
  rw [half_walk n hn]
  unfold rbit
  rw [if_neg h, Nat.xor_zero]
theorem refCrc_any (l : List UInt8) (w : World) (hl : l.length ≤ 100000) :
    Calls Tryz.prog 106 #[.string (S l)] w fun e w' => e = .returned (.int .u32 (crcSum l : Nat)) ∧ w = w' := by
  go_enter Tryz.func106, Tryz.ntmps106
  go_wp2_with fail
  go_loopg [3, 9] (8 * l.length + 1) (fun g s c wr => ∃ i : Nat, i ≤ 8 * l.length ∧ g + i = 8 * l.length + 1 ∧ c = .int .i64 i ∧ s = .int .u32 (rv l i : Nat) ∧ wr = w)
  case atStart => exact ⟨0, by omega, by omega, rfl, rfl, rfl⟩
  case round =>
    obtain ⟨i, hk, hg, rfl, rfl, rfl⟩ := hrel
    have Hg := Lib.hid hg
    clear hg
    by_cases hlt : i < 8 * l.length
    · have hi8 : i / 8 < l.length := by omega
      have hrv := rv_lt l i
      have hlow := low_walk (rv l i) l[i / 8].toNat (i % 8) hrv l[i / 8].toNat_lt
      have hst := rv_step l i hlt
      rw [List.getD_eq_getElem?_getD, List.getElem?_eq_getElem hi8, Option.getD_some] at hst
      by_cases hb : (rv l i % 2 ^^^ l[i / 8].toNat / 2 ^ (i % 8) % 2) = 1
      · have hres := rbit_one (rv l i) _ hrv hb
        rw [← hst] at hres
        rw [hb] at hlow
        clear hst hb hrv
        go_wp2_with fail
        go_roundg (gk - 1)
        case measure => have := Hg.out; omega
        case rel => exact ⟨i + 1, by omega, by have := Hg.out; omega, by go_num, rfl, rfl⟩
      · have hres := rbit_zero (rv l i) _ hrv hb
        rw [← hst] at hres
        have hb0 : (rv l i % 2 ^^^ l[i / 8].toNat / 2 ^ (i % 8) % 2) = 0 := by
          have : (rv l i % 2 ^^^ l[i / 8].toNat / 2 ^ (i % 8) % 2) < 2 := Nat.xor_lt_two_pow (n := 1) (Nat.mod_lt _ (by decide)) (Nat.mod_lt _ (by decide))
          omega
        rw [hb0] at hlow
        clear hst hb hrv hb0
        go_wp2_with fail
        go_roundg (gk - 1)
        case measure => have := Hg.out; omega
        case rel => exact ⟨i + 1, by omega, by have := Hg.out; omega, by go_num, congrArg (Value.int IntKind.u32) hres, rfl⟩
    · have hkl : i = 8 * l.length := by omega
      subst hkl
      have hs32 : IntKind.u32.signed = false := rfl
      rw [rv_end]
      have hfin : bits .xor .u32 IntKind.u32.max ((crcRaw l : Nat) : Int) = ((crcSum l : Nat) : Int) := by
        rw [show IntKind.u32.max = ((4294967295 : Nat) : Int) from rfl, u32_xor_nat _ _ (by decide) (crcRaw_lt l)]; rfl
      go_wp2_with fail
      go_ret
      exact ⟨rfl, rfl⟩
theorem refDigest_any (l : List UInt8) (w : World) (hl : l.length ≤ 100000) :
    Calls Tryz.prog 87 #[.string (S l)] w fun e w' => e = .returned (.string (S (digest l))) ∧ Below w.heap.size w w' := by
  go_enter Tryz.func87, Tryz.ntmps87
  go_wp2_with fail
  refine (refCrc_any _ _ hl).mono ?_
  rintro e w1 ⟨rfl, rfl⟩
  go_wp2_with fail
  go_loopg [3, 4, 7] 5 (fun g n s c wr => ∃ k m : Nat, k ≤ 4 ∧ g + k = 5 ∧ c = .int .i64 k ∧ n = .int .u32 m ∧ m = crcSum l / 2 ^ (8 * k) ∧ s = .string (S (le (crcSum l) k)) ∧ Below w.heap.size w wr)
  case atStart => exact ⟨0, _, by omega, by omega, rfl, rfl, by simp, rfl, Below.refl _ _⟩
  case round =>
    obtain ⟨k, m, hk, hg, rfl, rfl, hm, rfl, hb⟩ := hrel
    have Hg := Lib.hid hg
    clear hg
    have hlen := le_len (crcSum l) k
    have hm32 : m < 2 ^ 32 := by rw [hm]; exact Nat.lt_of_le_of_lt (Nat.div_le_self _ _) (crcSum_lt l)
    have Hm := Lib.hid hm
    clear hm
    by_cases hlt : k < 4
    · have hki : (k : Int) < 4 := by omega
      have hle : le (crcSum l) k ++ [UInt8.ofNat (m % 256)] = le (crcSum l) (k + 1) := by rw [Hm.out]; rfl
      have Hle := Lib.hid hle
      clear hle
      have hcv := run_string_new1 (P := Tryz.prog) 63 9 5 Tryz.underlying63 Tryz.underlying5 Tryz.underlying9 wr m 5
      go_wp2_with fail
      go_roundg (gk - 1)
      case measure => have := Hg.out; omega
      case rel => exact ⟨k + 1, m / 256, by omega, by have := Hg.out; omega, by go_num, by go_num, by rw [Hm.out, Nat.div_div_eq_div_mul, show 8 * (k + 1) = 8 * k + 8 from by omega, Nat.pow_add], by rw [Hle.out], hb.alloc hb.size _⟩
    · have hkl : k = 4 := by omega
      subst hkl
      go_wp2_with fail
      go_ret
      exact ⟨rfl, hb⟩
end Go.Proofs.YtlkikkfbennmnaaGreatDoor
