/- slices.Clone, Contains, ContainsFunc of pairs. -/
import Derived.Test.YtildnpnpakhnjaaPrs
import Derived.Laws.StructEq
import Derived.BigRegion
import Derived.Deep.QuietTactic
import Derived.BigQuiet
import Derived.Lib.SliceRun
namespace Go.Proofs.Ytildnpnpakhnjaa
open Go Go.RowKit
set_option linter.unusedVariables false
theorem run_eqPr (w : World) (k k' d d' : List UInt8) : (binOp .eql 34 (.agg #[.string (S k), .string (S d)]) (.agg #[.string (S k'), .string (S d')])).run Try.prog w = .ok (.bool (decide (k = k') && decide (d = d'))) w := by
  have hS : Try.prog.underlying 34 = some (.struct (Try.prog.fieldsOf 34)) := by kernel_rfl
  have hp : Try.prog.stoodInHeld 34 = false := by kernel_rfl
  rw [run_eql_struct, show (10000 : Nat) = 9999 + 1 from rfl, run_equalIn_agg w 9999 34 _ _ hS hp]
  simp only [Program.fieldsOf, Try.underlying34]
  go_simp
  by_cases h1 : k = k' <;> by_cases h2 : d = d' <;> simp [h1, h2]
theorem eqPr_same (w : World) (k d : List UInt8) : (binOp .eql 34 (.agg #[.string (S k), .string (S d)]) (.agg #[.string (S k), .string (S d)])).run Try.prog w = .ok (.bool true) w := by
  rw [run_eqPr]; simp
theorem eqPr_other (w : World) (p q : Pr) (h : p ≠ q) : (binOp .eql 34 (.agg #[.string (S p.k), .string (S p.v)]) (.agg #[.string (S q.k), .string (S q.v)])).run Try.prog w = .ok (.bool false) w := by
  rw [run_eqPr]
  obtain ⟨k, d⟩ := p
  obtain ⟨k', d'⟩ := q
  by_cases h1 : k = k' <;> by_cases h2 : d = d' <;> simp [h1, h2]
  subst h1 h2
  exact absurd rfl h
def RetPB (w : World) (l : List Pr) (e : Ending) (w' : World) : Prop := ∃ v, e = .returned v ∧ PrBuf w.heap.size w' v l ∧ Below w.heap.size w w'
set_option maxRecDepth 100000 in
theorem cloneP_any (l : List Pr) (v : Value) (w : World) (hv : PrsV w v l) (hl : l.length * 32 ≤ 140737488351232) :
    Calls Try.prog 16 #[v] w (RetPB w l) := by
  obtain ⟨i0, hi, hz0, hz1, hz2⟩ := infoPr
  have EN : ∀ (p : Option Addr) (n c : Nat) (W : World), (binOp .eql 22 (.slice p n c) (.slice none 0 0)).run Try.prog W = .ok (.bool p.isNone) W := fun p n c W => by
    exact Lib.run_eql_slice_nil W 22 34 p n c 0 0 Try.underlying22
  obtain ⟨p, c, rfl, hlc, hc⟩ := hv
  cases p with
  | none =>
    have h0 : l = [] := by
      rcases Nat.eq_zero_or_pos l.length with h | h
      · exact List.eq_nil_of_length_eq_zero h
      · obtain ⟨b, o, hp, _⟩ := hc h; cases hp
    subst h0
    clear hc
    go_enter Try.func16, Try.ntmps16
    go_wp2_with fail
    go_ret
    exact ⟨_, rfl, PrBuf.nil _ _, Below.refl _ _⟩
  | some a =>
    have hb0 := (Below.refl w.heap.size w).alloc (Nat.le_refl _) (.cells #[] 34)
    have hbuf : PrBuf w.heap.size (w.alloc (.cells #[] 34)) (.slice (some ⟨w.heap.size, 0, none⟩) 0 0) [] :=
      ⟨rfl, .inr ⟨w.heap.size, 0, #[], rfl, Nat.le_refl _, heap_alloc_new w _, Nat.le_refl _, Nat.zero_le _, rfl, rfl⟩⟩
    have HB := Lib.hid hbuf
    have Hb0 := Lib.hid hb0
    have h1 : ∀ j u, (prsVs l)[j]? = some u → (w.alloc (.cells #[] 34)).cell? (a.add j) = some u := fun j u hu => by
      have hlt : j < (prsVs l).length := by
        rcases Nat.lt_or_ge j (prsVs l).length with h | h
        · exact h
        · rw [List.getElem?_eq_none h] at hu; cases hu
      rw [prsVs_len] at hlt
      obtain ⟨b, o, hp, hcell⟩ := hc (by omega)
      cases hp
      obtain ⟨i, q, rfl, hq⟩ : ∃ i q, j = i * 2 + q ∧ q < 2 := ⟨j / 2, j % 2, by omega, by omega⟩
      obtain ⟨g0, g1⟩ := prsVs_get l i (by omega)
      obtain ⟨c0, c1⟩ := hcell i (by omega)
      have e0 : (⟨b, o, none⟩ : Addr).add (i * 2 + q) = ⟨b, o + i * 2 + q, none⟩ := by rw [Addr.add_lit, Nat.add_assoc]
      rw [e0]
      have hq' : q = 0 ∨ q = 1 := by omega
      rcases hq' with rfl | rfl
      · rw [Nat.add_zero] at hu ⊢
        rw [g0] at hu
        rw [hb0.cell (p := ⟨b, o + i * 2, none⟩) (block_lt_of_cell c0), c0]; exact hu
      · rw [g1] at hu
        rw [hb0.cell (p := ⟨b, o + i * 2 + 1, none⟩) (block_lt_of_cell c1), c1]; exact hu
    have H1 := Lib.hid h1
    have H2 := Lib.hid (prsVs_one l)
    have H3 := Lib.hid (show 0 + l.length ≤ maxLen by unfold maxLen; omega)
    have H4 := Lib.hid (show (0 + l.length) * 32 ≤ 140737488355328 by omega)
    have H5 := Lib.hid (show w.heap.size ≤ (w.alloc (.cells #[] 34)).heap.size by simp)
    have H6 := Lib.hid (prsVs_len l)
    clear hb0 hbuf h1 hc hl
    go_enter Try.func16, Try.ntmps16
    go_wp2_with (at_builtin; refine wpList_append_own _ rfl _ _ 22 rfl w.heap.size 34 i0 (.agg #[.string (S []), .string (S [])]) 2 32 Try.underlying22 hi hz0 hz1 hz2 rfl (by decide) (.slice (some ⟨w.heap.size, 0, none⟩) 0 0) 0 [] rfl HB.out a l.length c (prsVs l) rfl H6.out H1.out H2.out H3.out H4.out H5.out ?_)
    intro v' wa hown hgrow hnil
    have hown' : PrBuf w.heap.size wa v' l := by
      unfold PrBuf
      exact hown
    have Hlow := Lib.hid (Hb0.out.grown hgrow (by simp) (fun k hk => by simp [Value.ownBlock] at hk; omega))
    have Hown := Lib.hid hown'
    clear hown hown' hgrow hnil
    go_wp2_with fail
    go_ret
    exact ⟨_, rfl, Hown.out, Hlow.out⟩
/-- a number is returned -/
def RetAt (w : World) (e : Ending) (w' : World) : Prop := ∃ n : Int, e = .returned (.int .i64 n) ∧ 0 ≤ n ∧ Below w.heap.size w w'
set_option maxRecDepth 100000 in
theorem indexP_found (l : List Pr) (v : Value) (x : Pr) (w : World) (hv : PrsV w v l) (hl : l.length ≤ 140737488355328) (hx : ∃ j, ∃ h : j < l.length, l[j] = x) :
    Calls Try.prog 30 #[v, .agg #[.string (S x.k), .string (S x.v)]] w (RetAt w) := by
  obtain ⟨p, c, rfl, _, hc⟩ := hv
  have Hc := Lib.hid hc
  have Hx := Lib.hid hx
  have hb0 := (Below.refl w.heap.size w).alloc (Nat.le_refl _) (.cells #[.string (S x.k), .string (S x.v)] 34)
  have Hb0 := Lib.hid hb0
  have HK := Lib.hid (Blk.new w #[.string (S x.k), .string (S x.v)] 34)
  clear hc hx hb0
  go_enter Try.func30, Try.ntmps30
  go_wp2_with fail
  go_loopw [8] (fun i wr => ∃ j : Nat, j ≤ l.length ∧ i = .int .i64 j ∧ (∀ n (hn : n < l.length), n < j → l[n] ≠ x) ∧ Blk wr w.heap.size #[.string (S x.k), .string (S x.v)] 34 ∧ Below w.heap.size w wr) (fun i _ => l.length - (intOf i).toNat)
  case atStart => exact ⟨0, by omega, rfl, fun n _ hn => by omega, HK.out, Hb0.out⟩
  case round =>
    obtain ⟨j, hj, rfl, hno, hk, hb⟩ := hrel
    have Hb := Lib.hid hb
    have Hk := Lib.hid hk
    have Hno := Lib.hid hno
    by_cases hlt : j < l.length
    · obtain ⟨b, o, rfl, hcl⟩ := Hc.out (by omega)
      obtain ⟨q0, q1⟩ := hcl j hlt
      rw [← (bcell hb).1 b (o + j * 2) (block_lt_of_cell (w := w) (a := ⟨b, o + j * 2, none⟩) q0)] at q0
      rw [← (bcell hb).1 b (o + j * 2 + 1) (block_lt_of_cell (w := w) (a := ⟨b, o + j * 2 + 1, none⟩) q1)] at q1
      obtain ⟨r0, r1⟩ := hk.two
      obtain ⟨y, hy⟩ : ∃ y, l[j] = y := ⟨_, rfl⟩
      rw [hy] at q0 q1
      have hj0 : (0 : Int) ≤ (j : Int) := by omega
      by_cases he : x = y
      · subst he
        have E2 := fun w => eqPr_same w x.k x.v
        clear hb hcl hno hk hy
        go_wp2_with fail
        go_quiet (fail)
        go_wp2_with fail
        go_ret
        exact ⟨_, rfl, hj0, below_drewN Hb.out _⟩
      · have E2 := fun w => eqPr_other w x y he
        have Hy := Lib.hid hy
        have He := Lib.hid he
        clear hb hcl hno hk hy he
        go_wp2_with fail
        go_quiet (fail)
        go_wp2_with fail
        go_roundw
        case rel => exact ⟨j + 1, by omega, by go_num, fun n hn hlt' => by
          by_cases e : n = j
          · subst e; rw [Hy.out]; exact fun h => He.out h.symm
          · exact Hno.out n hn (by omega), Hk.out.drewN _, below_drewN Hb.out _⟩
        case measure => simp [intOf]; omega
    · obtain ⟨n, hn, hnx⟩ := Hx.out
      exact absurd hnx (hno n hn (by omega))
set_option maxRecDepth 100000 in
theorem containsP_found (l : List Pr) (v : Value) (x : Pr) (w : World) (hv : PrsV w v l) (hl : l.length ≤ 140737488355328) (hx : ∃ j, ∃ h : j < l.length, l[j] = x) :
    Calls Try.prog 17 #[v, .agg #[.string (S x.k), .string (S x.v)]] w fun e w' => e = .returned (.bool true) ∧ Below w.heap.size w w' := by
  have hb0 := (Below.refl w.heap.size w).alloc (Nat.le_refl _) (.cells #[.string (S x.k), .string (S x.v)] 34)
  have I := Lib.hid (indexP_found l v x _ (hv.later hb0) hl hx)
  have Hb0 := Lib.hid hb0
  obtain ⟨p, c, rfl⟩ := hv.form
  clear hv hb0 hx
  go_enter Try.func17, Try.ntmps17
  go_wp2_with fail
  refine I.out.mono ?_
  rintro e w1 ⟨n, rfl, hn, hb1⟩
  have Hb1 := Lib.hid (below_then Hb0.out hb1)
  have hd : decide (0 ≤ n) = true := decide_eq_true hn
  clear hb1 I
  go_wp2_with fail
  go_ret
  exact ⟨by simp, Hb1.out⟩
theorem keyIs_any (q : Pr) (k d : List UInt8) (B : Nat) (w : World) (hB : w.cell? ⟨B, 0, none⟩ = some (.string (S k))) (h : q.k ≠ k) :
    Calls Try.prog 19 #[.agg #[.string (S q.k), .string (S q.v)], .pointer (some ⟨B, 0, none⟩)] w fun e w' => e = .returned (.bool false) ∧ Below w.heap.size w w' := by
  have hb0 := (Below.refl w.heap.size w).alloc (Nat.le_refl _) (.cells #[.string (S q.k), .string (S q.v)] 34)
  have hB0 := (hb0.cell (block_lt_of_cell hB)).trans hB
  have hS : (q.k == k) = false := by rw [beq_eq_false_iff_ne]; exact h
  have Hb0 := Lib.hid hb0
  clear hb0 h
  go_enter Try.func19, Try.ntmps19
  go_wp2_with fail
  go_ret
  exact ⟨rfl, Hb0.out⟩
set_option maxRecDepth 100000 in
theorem indexFuncP_none (l : List Pr) (v : Value) (k : List UInt8) (B : Nat) (w : World) (hv : PrsV w v l) (hl : l.length ≤ 140737488355328) (hB : w.cell? ⟨B, 0, none⟩ = some (.string (S k))) (hno : ∀ p ∈ l, p.k ≠ k) :
    Calls Try.prog 31 #[v, .func (.func 19) #[] #[.pointer (some ⟨B, 0, none⟩)]] w fun e w' => e = .returned (.int .i64 (-1)) ∧ Below w.heap.size w w' := by
  obtain ⟨p, c, rfl, _, hc⟩ := hv
  have Hc := Lib.hid hc
  have HB := Lib.hid hB
  have Hno := Lib.hid hno
  have hltB := block_lt_of_cell (w := w) (a := ⟨B, 0, none⟩) hB
  clear hc hB hno
  go_enter Try.func31, Try.ntmps31
  go_wp2_with fail
  go_loopw [8] (fun i wr => ∃ j : Nat, j ≤ l.length ∧ i = .int .i64 j ∧ Below w.heap.size w wr) (fun i _ => l.length - (intOf i).toNat)
  case atStart => exact ⟨0, by omega, rfl, Below.refl _ _⟩
  case round =>
    obtain ⟨j, hj, rfl, hb⟩ := hrel
    have Hb := Lib.hid hb
    by_cases hlt : j < l.length
    · obtain ⟨b, o, rfl, hcl⟩ := Hc.out (by omega)
      obtain ⟨q0, q1⟩ := hcl j hlt
      rw [← (bcell hb).1 b (o + j * 2) (block_lt_of_cell (w := w) (a := ⟨b, o + j * 2, none⟩) q0)] at q0
      rw [← (bcell hb).1 b (o + j * 2 + 1) (block_lt_of_cell (w := w) (a := ⟨b, o + j * 2 + 1, none⟩) q1)] at q1
      have hne := Hno.out l[j] (List.getElem_mem hlt)
      obtain ⟨y, hy⟩ : ∃ y, l[j] = y := ⟨_, rfl⟩
      rw [hy] at q0 q1 hne
      have C := Lib.hid (keyIs_any y k [] B wr (by rw [(bcell hb).1 _ 0 hltB]; exact HB.out) hne)
      clear hb hcl hy hne
      go_wp2_with fail
      refine C.out.mono ?_
      rintro e w' ⟨rfl, hb'⟩
      have Hb' := Lib.hid (below_then Hb.out hb')
      clear hb'
      go_wp2_with fail
      go_roundw
      case rel => exact ⟨j + 1, by omega, by go_num, Hb'.out⟩
      case measure => simp [intOf]; omega
    · clear hb
      go_wp2_with fail
      go_ret
      exact ⟨rfl, Hb.out⟩
set_option maxRecDepth 100000 in
theorem containsFuncP_none (l : List Pr) (v : Value) (k : List UInt8) (B : Nat) (w : World) (hv : PrsV w v l) (hl : l.length ≤ 140737488355328) (hB : w.cell? ⟨B, 0, none⟩ = some (.string (S k))) (hno : ∀ p ∈ l, p.k ≠ k) :
    Calls Try.prog 18 #[v, .func (.func 19) #[] #[.pointer (some ⟨B, 0, none⟩)]] w fun e w' => e = .returned (.bool false) ∧ Below w.heap.size w w' := by
  have I := Lib.hid (indexFuncP_none l v k B w hv hl hB hno)
  obtain ⟨p, c, rfl⟩ := hv.form
  clear hv hB hno
  go_enter Try.func18, Try.ntmps18
  go_wp2_with fail
  refine I.out.mono ?_
  rintro e w1 ⟨rfl, hb1⟩
  have Hb1 := Lib.hid hb1
  clear hb1 I
  go_wp2_with fail
  go_ret
  exact ⟨rfl, Hb1.out⟩
end Go.Proofs.Ytildnpnpakhnjaa
