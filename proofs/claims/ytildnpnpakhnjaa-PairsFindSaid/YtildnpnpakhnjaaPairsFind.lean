/- PairsFind: what a key has is what its first pair has, whatever stands behind. -/
import Derived.Test.YtildnpnpakhnjaaFindAid
import Derived.Test.YtildnpnpakhnjaaPaired
import Derived.Test.YtildnpnpakhnjaaThick
import Derived.Test.YtildnpnpakhnjaaOpenPrs
import Derived.Test.YtildnpnpakhnjaaOpenPair
import Derived.Test.YtildnpnpakhnjaaStepOwn
import Derived.Test.YtildnpnpakhnjaaStepCall
namespace Go.Proofs.Ytildnpnpakhnjaa
open Go Go.RowKit
set_option linter.unusedVariables false
/-- what an append of one pair asks, however many there are -/
theorem appP_big (k v : List UInt8) (wu WB : World) (n base : Nat) (hWB : wu.alloc (.cells #[.string (S k), .string (S v)] 34) = WB) (hn : n * 32 ≤ 140737488351232) (hb : base ≤ wu.heap.size) :
    Hid (∀ j u, ([.string (S k), .string (S v)] : List Value)[j]? = some u → WB.cell? ((⟨wu.heap.size, 0, none⟩ : Addr).add j) = some u) ∧ Hid (∀ u ∈ ([.string (S k), .string (S v)] : List Value), u.oneCell' = true) ∧ Hid (n + 1 ≤ maxLen) ∧ Hid ((n + 1) * 32 ≤ 140737488355328) ∧ Hid (base ≤ WB.heap.size) := by
  subst hWB
  refine ⟨Lib.hid ?_, Lib.hid ?_, Lib.hid (by unfold maxLen; omega), Lib.hid (by omega), Lib.hid (by simp; omega)⟩
  · intro j u h
    have hb := (Blk.new wu #[.string (S k), .string (S v)] 34).cell j
    have e1 : (⟨wu.heap.size, 0, none⟩ : Addr).add j = ⟨wu.heap.size, j, none⟩ := by simp only [Addr.add]; split <;> simp_all
    rw [e1, hb]
    simpa using h
  · exact prsVs_one [⟨k, v⟩]
theorem below_undrew {w W : World} (h : Below w.drew.heap.size w.drew W) : Below w.heap.size w W := ⟨h.os, h.tape, h.output, h.size, h.block⟩
theorem buf_prs {base : Nat} {W : World} {v : Value} {l : List Pr} {k d : List UInt8} (h : W.ownsRow base 34 2 v (l.length + 1) (prsVs l ++ [.string (S k), .string (S d)])) : PrBuf base W v (l ++ [⟨k, d⟩]) := by
  unfold PrBuf
  rw [prsVs_app, List.length_append]
  exact h
theorem PrBuf.mono {base base' : Nat} {W : World} {v : Value} {l : List Pr} (h : PrBuf base W v l) (hb : base' ≤ base) : PrBuf base' W v l := by
  refine ⟨h.1, ?_⟩
  rcases h.2 with ⟨rfl, h0⟩ | ⟨g, cap, cur, rfl, hbg, rest⟩
  · exact .inl ⟨rfl, h0⟩
  · exact .inr ⟨g, cap, cur, rfl, Nat.le_trans hb hbg, rest⟩
/-- both finds: the first, and that behind one more -/
theorem find_both (l : List Pr) (k d : List UInt8) : (∃ d0, findR (prFind l k) = .tuple #[.string (S d0), .bool true] ∧ findR (prFind (l ++ [⟨k, d⟩]) k) = .tuple #[.string (S d0), .bool true] ∧ ∃ j, ∃ h : j < l.length, l[j] = ⟨k, d0⟩) ∨
    (findR (prFind l k) = .tuple #[.string (S []), .bool false] ∧ findR (prFind (l ++ [⟨k, d⟩]) k) = .tuple #[.string (S d), .bool true] ∧ ∀ p ∈ l, p.k ≠ k) := by
  cases h : prFind l k with
  | some d0 => exact .inl ⟨d0, rfl, by rw [prFind_app, h]; rfl, prFind_some h⟩
  | none => exact .inr ⟨rfl, by rw [prFind_app, h]; simp [findR], prFind_none h⟩
set_option maxRecDepth 100000 in
set_option maxHeartbeats 4000000 in
theorem pairsFind_any (l : List Pr) (v : Value) (x : Pr) (w : World) (hv : PrsV w v l) (hf : WideP l) (hx : x.k.length ≤ 140737488351232 ∧ x.v.length ≤ 140737488351232) (hm : MaxCell w) :
    Calls Try.prog 5 #[v, .agg #[.string (S x.k), .string (S x.v)]] w fun e w' => e = .returned (.bool true) ∧ Below w.heap.size w w' := by
  obtain ⟨i0, hi, hz0, hz1, hz2⟩ := infoPr
  obtain ⟨p, c, rfl⟩ := hv.form
  obtain ⟨k, d⟩ := x
  simp only at hx ⊢
  have hb0 := (Below.refl w.heap.size w).alloc (Nat.le_refl _) (.cells #[.string (S k), .string (S d)] 34)
  have HK0 := Lib.hid (Blk.new w #[.string (S k), .string (S d)] 34)
  have HV := Lib.hid (hv.later hb0)
  have F := Lib.hid (paired_any _ (hm.later hb0))
  have Hb0 := Lib.hid hb0
  have Hf := Lib.hid hf
  have hl32 := hf.2
  clear hb0 hv hm hf hx
  go_enter Try.func5, Try.ntmps5
  go_wp2_with fail
  refine F.out.mono ?_
  rintro e w1 ⟨rfl, hb1⟩
  have Hb1 := Lib.hid (below_then Hb0.out hb1)
  have HV1 := Lib.hid (HV.out.later hb1)
  have HK1 := Lib.hid (HK0.out.later hb1)
  have T := Lib.hid (thickK_any l _ w1 HV1.out Hf.out.1.1)
  clear hb1 F HV HK0
  go_wp2_with fail
  refine T.out.mono ?_
  rintro e w2 ⟨b, rfl, hb2⟩
  have Hb2 := Lib.hid (below_then Hb1.out hb2)
  have HV2 := Lib.hid (HV1.out.later hb2)
  have HK2 := Lib.hid (HK1.out.later hb2)
  clear hb2 T HV1 HK1
  cases b with
  | true =>
    go_wp2_with fail
    go_ret
    exact ⟨rfl, Hb2.out⟩
  | false =>
    obtain ⟨fv, fb, gv, hfd, hgd⟩ : ∃ fv fb gv, findR (prFind l k) = .tuple #[.string (S fv), .bool fb] ∧ findR (prFind (l ++ [⟨k, d⟩]) k) = .tuple #[.string (S gv), .bool true] := by
      rcases find_both l k d with ⟨d0, h1, h2, _⟩ | ⟨h1, h2, _⟩
      · exact ⟨_, _, _, h1, h2⟩
      · exact ⟨_, _, _, h1, h2⟩
    have HB := Lib.hid (find_both l k d)
    have FD := find_prs l k _ w2 HV2.out Hf.out.1.1
    rw [hfd] at FD
    have FD := Lib.hid FD
    have GD := Lib.hid (fun (v : Value) (W : World) (h : PrsV W v (l ++ [⟨k, d⟩])) => find_prs (l ++ [⟨k, d⟩]) k v W h (by rw [List.length_append]; simp; omega))
    rw [hgd] at GD
    have Hfd := Lib.hid hfd
    have Hgd := Lib.hid hgd
    obtain ⟨q0, q1⟩ := HK2.out.two
    clear hfd hgd
    go_wp2_with fail
    refine FD.out.mono ?_
    rintro e w3 ⟨rfl, hb3⟩
    have Hb3 := Lib.hid (below_then Hb2.out hb3)
    have HV3 := Lib.hid (HV2.out.later hb3)
    have HK3 := Lib.hid (HK2.out.later hb3)
    clear hb3 q0 q1 FD
    have CLN := Lib.hid (fun W (h : Below w3.heap.size w3 W) => cloneP_any l _ W (HV3.out.later h) hl32)
    obtain ⟨q0, q1⟩ := HK3.out.two
    obtain ⟨WA, hWA⟩ : ∃ WA, w3.drew.alloc (.cells #[.string (S k), .string (S d)] 34) = WA := ⟨_, rfl⟩
    have hbA : Below w3.heap.size w3 WA := by rw [← hWA]; exact (Below.refl _ _).drew.alloc (Nat.le_refl _) _
    have HbA := Lib.hid hbA
    obtain ⟨a0, a1⟩ := (HK3.out.later hbA).two
    have NA := Lib.hid (appP_big k d w3.drew WA l.length w3.heap.size hWA hl32 (Nat.le_refl _))
    clear hbA
    have n1 : (Try.f16.name == "runtime.NumGoroutine") = false := by kernel_rfl
    have n2 : Try.f16.body.isNone = false := by kernel_rfl
    have n3 : (Try.f15.name == "runtime.NumGoroutine") = false := by kernel_rfl
    have n4 : Try.f15.body.isNone = false := by kernel_rfl
    have n1 := Lib.hid n1
    have n2 := Lib.hid n2
    have n3 := Lib.hid n3
    have n4 := Lib.hid n4
    go_wp2_with fail
    go_region_law (first
      | (refine step_call rfl rfl Try.func16 n1.out n2.out rfl (by simp only [List.map_toArray, List.map_cons, List.map_nil]; rfl) (CLN.out w3.drew (Below.refl _ _).drew) ?_; rintro e w7 ⟨v7, rfl, hcl7, hb7⟩; have Hw7 := Lib.hid (below_undrew hb7); obtain ⟨r0, r1⟩ := (HK3.out.later Hw7.out).two; obtain ⟨WB, hWB⟩ : ∃ WB, w7.alloc (.cells #[.string (S k), .string (S d)] 34) = WB := ⟨_, rfl⟩; have HbB := Lib.hid (show Below w3.heap.size w3 WB by rw [← hWB]; exact Hw7.out.alloc Hw7.out.size _); obtain ⟨s0, s1⟩ := (HK3.out.later HbB.out).two; have NB := Lib.hid (appP_big k d w7 WB l.length w3.heap.size hWB hl32 Hw7.out.size); have HO := Lib.hid (show PrBuf w3.heap.size WB v7 l by rw [← hWB]; exact hcl7.alloc _); obtain ⟨p7, c7, rfl⟩ := hcl7.form; clear hcl7 hb7; refine ⟨_, rfl, ?_⟩)
      | (refine step_call rfl rfl Try.func16 n1.out n2.out rfl (by simp only [List.map_toArray, List.map_cons, List.map_nil]; rfl) (CLN.out WA HbA.out) ?_; rintro e w7 ⟨v7, rfl, hcl7, hb7⟩; have Hw7 := Lib.hid (HbA.out.trans (hb7.mono HbA.out.size)); obtain ⟨r0, r1⟩ := (HK3.out.later Hw7.out).two; have HO := Lib.hid (hcl7.mono HbA.out.size); have NC := Lib.hid (show ∀ j u, ([.string (S k), .string (S d)] : List Value)[j]? = some u → w7.cell? ((⟨w3.heap.size, 0, none⟩ : Addr).add j) = some u from fun j u hu => (hb7.cell (block_lt_of_cell (NA.out.1.out j u hu))).trans (NA.out.1.out j u hu)); obtain ⟨p7, c7, rfl⟩ := hcl7.form; clear hcl7 hb7; refine ⟨_, rfl, ?_⟩)
      | (refine step_append_own rfl (.tmp 22) (.tmp 24) 22 rfl w3.heap.size 34 i0 (.agg #[.string (S []), .string (S [])]) 2 32 Try.underlying22 hi hz0 hz1 hz2 rfl (by decide) (.slice p7 l.length c7) l.length (prsVs l) rfl HO.out ⟨w7.heap.size, 0, none⟩ 1 1 [.string (S k), .string (S d)] rfl rfl NB.out.1.out NB.out.2.1.out NB.out.2.2.1.out NB.out.2.2.2.1.out NB.out.2.2.2.2.out ?_; intro v8 w8 hown8 hgrow8 hnil8; have Hw8 := Lib.hid (HbB.out.grown hgrow8 HbB.out.size HO.out.ge); obtain ⟨t0, t1⟩ := (HK3.out.later Hw8.out).two; have hp8 := buf_prs hown8; have G8 := Lib.hid (GD.out _ _ hp8.prs); obtain ⟨p8, c8, hf8⟩ := hp8.form; rw [List.length_append] at hf8; subst hf8; clear hown8 hgrow8 hnil8 hp8)
      | (refine step_append_own rfl (.tmp 22) (.tmp 24) 22 rfl w3.heap.size 34 i0 (.agg #[.string (S []), .string (S [])]) 2 32 Try.underlying22 hi hz0 hz1 hz2 rfl (by decide) (.slice p7 l.length c7) l.length (prsVs l) rfl HO.out ⟨w3.heap.size, 0, none⟩ 1 1 [.string (S k), .string (S d)] rfl rfl NC.out NA.out.2.1.out NA.out.2.2.1.out NA.out.2.2.2.1.out Hw7.out.size ?_; intro v8 w8 hown8 hgrow8 hnil8; have Hw8 := Lib.hid (Hw7.out.grown hgrow8 Hw7.out.size HO.out.ge); obtain ⟨t0, t1⟩ := (HK3.out.later Hw8.out).two; have hp8 := buf_prs hown8; have G8 := Lib.hid (GD.out _ _ hp8.prs); obtain ⟨p8, c8, hf8⟩ := hp8.form; rw [List.length_append] at hf8; subst hf8; clear hown8 hgrow8 hnil8 hp8)
      | (refine step_call rfl rfl Try.func15 n3.out n4.out rfl (by simp only [List.map_toArray, List.map_cons, List.map_nil]; rfl) G8.out ?_; rintro e w9 ⟨rfl, hb9⟩; have Hw9 := Lib.hid (Hw8.out.trans (hb9.mono Hw8.out.size)); clear hb9; refine ⟨_, rfl, ?_⟩))
    all_goals
      clear n1 n2 n3 n4
      obtain ⟨u0, u1⟩ := (HK3.out.later Hw9.out).two
      rcases HB.out with ⟨d0, h1, h2, h3⟩ | ⟨h1, h2, h3⟩
      · rw [Hfd.out] at h1
        rw [Hgd.out] at h2
        simp only [Value.tuple.injEq, Array.mk.injEq, List.cons.injEq, Value.string.injEq, Value.bool.injEq, and_true] at h1 h2
        obtain ⟨e1, rfl⟩ := h1
        obtain rfl := S_inj e1
        obtain rfl := S_inj h2
        have CF := Lib.hid (containsP_found l _ ⟨k, gv⟩ w9 (HV3.out.later Hw9.out) Hf.out.1.1 h3)
        have e4 : (gv == gv) = true := by simp
        clear h3 e1 h2
        go_wp2_with fail
        refine CF.out.mono ?_
        rintro e w10 ⟨rfl, hb10⟩
        have Hb10 := Lib.hid (below_then (below_then Hb3.out Hw9.out) hb10)
        clear hb10 CF
        go_wp2_with fail
        go_ret
        exact ⟨rfl, Hb10.out⟩
      · rw [Hfd.out] at h1
        rw [Hgd.out] at h2
        simp only [Value.tuple.injEq, Array.mk.injEq, List.cons.injEq, Value.string.injEq, Value.bool.injEq, and_true] at h1 h2
        obtain ⟨e1, rfl⟩ := h1
        obtain rfl := S_inj e1
        obtain rfl := S_inj h2
        have CF := Lib.hid (containsFuncP_none l _ k w.heap.size w9 (HV3.out.later Hw9.out) Hf.out.1.1 u0 h3)
        have e4 : (gv == gv) = true := by simp
        clear h3 e1 h2
        go_wp2_with fail
        refine CF.out.mono ?_
        rintro e w10 ⟨rfl, hb10⟩
        have Hb10 := Lib.hid (below_then (below_then Hb3.out Hw9.out) hb10)
        clear hb10 CF
        go_wp2_with fail
        go_ret
        exact ⟨rfl, Hb10.out⟩
end Go.Proofs.Ytildnpnpakhnjaa
