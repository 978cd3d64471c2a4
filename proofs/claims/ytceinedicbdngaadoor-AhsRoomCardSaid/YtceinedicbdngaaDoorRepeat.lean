/- slices.Repeat of one additional header. -/
import Derived.Test.YtceinedicbdngaaDoorAhsR
import Derived.Test.YtceinedicbdngaaDoorShMul
import Derived.Laws.CopyOwn
import Derived.Laws.MakeOwn
import Derived.Deep.RegionLaw
import Derived.BigRegion
namespace Go.Proofs.YtceinedicbdngaaDoor
open Go Go.RowKit
/-- copy of elements of several cells onto a row that is known whole -/
theorem run_copy_rowN {P : Program} (w : World) (dT sT ty elem : TypeId) (size g o dLen dCap : Nat) (a : Addr) (sLen sCap : Nat) (cur : Array Value) (t : TypeId) (cs : List Value)
    (hu : P.underlying dT = some (.slice elem)) (hs : (P.info? elem).map (·.size) = some size)
    (hg : w.heap[g]? = some (.cells cur t (0, 0))) (hn : cs.length = Nat.min sLen dLen * size)
    (hsrc : ∀ j v, cs[j]? = some v → w.cell? (a.add j) = some v) (hfit : o + cs.length ≤ cur.size) (h1 : ∀ v ∈ cs, v.oneCell' = true) :
    (Builtin.copy_ #[dT, sT] ty #[.slice (some ⟨g, o, none⟩) dLen dCap, .slice (some a) sLen sCap]).run P w =
      .ok (goInt (Nat.min sLen dLen)) (w.setRow g (cur.toList.take o ++ cs ++ cur.toList.drop (o + cs.length)).toArray) := by
  have hl := run_loadCells_list (P := P) w a cs hsrc
  have hst := run_storeCells_at P g o t cs 0 cur w hg (by simpa using hfit) h1
  cases hq : P.info? elem with
  | none => simp [hq] at hs
  | some i =>
    have hi : i.size = size := by simpa [hq] using hs
    simp [Builtin.copy_, run_underlying hu, Builtin.lenOf, Builtin.firstCells, sizeOf, typeInfo, hq, hi, ← hn, hl, hst]
theorem wpList_copyN {P : Program} {w : World} {ops : Array Oper} {rest : List Oper} {o : Oper} {a : Act} {Q : Exit → Act → World → Prop} (hgd : o.guard = none) (d s : Operand) (dT sT : TypeId)
    (ho : o.op = .call { callee := .builtin .copy, args := #[d, s], argTypes := #[dT, sT] }) (v u : Value) (hd : a.eval d = v) (hs : a.eval s = u) {v' : Value} {w' : World}
    (hr : (Builtin.copy_ #[dT, sT] o.type #[v, u]).run P w = .ok v' w') (h : wpList P ops Q rest (a.put o.dst v') w') : wpList P ops Q (o :: rest) a w := by
  refine wpList_plain hgd fun K hK => ?_
  unfold Oper.wp
  simp [execOp, ho, resolve, invoke, builtin, hd, hs, hr, Result.andThen]
  exact hK _ _ h
theorem step_copyN {P : Program} {ops : Array Oper} {o : Oper} {a : Act} {w : World} {K : Act → World → Prop} {Q : Exit → Act → World → Prop} {E : Prop} (hgd : o.guard = none) (d s : Operand) (dT sT : TypeId)
    (ho : o.op = .call { callee := .builtin .copy, args := #[d, s], argTypes := #[dT, sT] }) (v u : Value) (hd : a.eval d = v) (hs : a.eval s = u) {v' : Value} {w' : World}
    (hr : (Builtin.copy_ #[dT, sT] o.type #[v, u]).run P w = .ok v' w') (h : K (a.put o.dst v') w') : if Region.wanted o (yielded ops a.tmps) = true then Oper.wp P o a w K Q else E := by
  have hw : Region.wanted o (yielded ops a.tmps) = true := by simp [Region.wanted, hgd]
  rw [if_pos hw]
  unfold Oper.wp
  simp [execOp, ho, resolve, invoke, builtin, hd, hs, hr, Result.andThen]
  exact h
def ah0 : Ah := ⟨0, []⟩
theorem madeCells_A (n : Nat) : madeCells #[Value.int .i64 0, .string (S [])] (n * 2) = (ahsVs (List.replicate n ah0)).toArray := by
  apply Array.ext_getElem?
  intro i
  have h1 : (madeCells #[Value.int .i64 0, .string (S [])] (n * 2)).size = n * 2 := size_madeCells _ _
  have h2 := ahsVs_len (List.replicate n ah0)
  rw [List.length_replicate] at h2
  by_cases hi : i < n * 2
  · obtain ⟨a, b, rfl, hb⟩ : ∃ a b, i = a * 2 + b ∧ b < 2 := ⟨i / 2, i % 2, by omega, by omega⟩
    obtain ⟨g0, g1⟩ := ahsVs_get (List.replicate n ah0) a (by rw [List.length_replicate]; omega)
    rw [List.getElem_replicate] at g0 g1
    rw [Array.getElem?_eq_getElem (by omega)]
    unfold madeCells
    simp only [Array.getElem_map, Array.getElem_range]
    have e : (a * 2 + b) % (#[Value.int .i64 0, .string (S [])] : Array Value).size = b := by
      show (a * 2 + b) % 2 = b
      omega
    rw [e, List.getElem?_toArray]
    have hb' : b = 0 ∨ b = 1 := by omega
    rcases hb' with rfl | rfl
    · rw [Nat.add_zero, g0]; rfl
    · rw [g1]; rfl
  · rw [Array.getElem?_eq_none (by omega), Array.getElem?_eq_none (by rw [List.size_toArray]; omega)]
theorem run_make_A (w : World) (n : Nat) (hn : n ≤ 1000) : (Instr.makeSlice 22 (.int .i64 (n : Int)) (.int .i64 (n : Int))).run Tryd.prog w = .ok (.slice (some ⟨w.heap.size, 0, none⟩) n n) (w.alloc (.cells (ahsVs (List.replicate n ah0)).toArray 41)) := by
  obtain ⟨i, hi, hz, hs, hb⟩ := infoAh
  have h := run_make (P := Tryd.prog) w 22 41 i _ Tryd.underlying22 hi hz .i64 .i64 n n (by omega) (Int.le_refl _) (by rw [hb]; omega) (by omega)
  simp only [Int.toNat_natCast, hs] at h
  rw [show (Value.agg #[Value.int IntKind.i64 0, Value.string (S [])]).cells = #[Value.int IntKind.i64 0, Value.string (S [])] from rfl, madeCells_A] at h
  exact h
/-- so many are laid, the others are nothing yet -/
def repRow (a : Ah) (cnt m : Nat) : List Ah := List.replicate m a ++ List.replicate (cnt - m) ah0
theorem repRow_len (a : Ah) (cnt m : Nat) (h : m ≤ cnt) : (repRow a cnt m).length = cnt := by simp [repRow]; omega
theorem repRow_copy (a : Ah) (cnt m k : Nat) (h : m + k ≤ cnt) :
    ((ahsVs (repRow a cnt m)).take (m * 2) ++ ahsVs (List.replicate k a) ++ (ahsVs (repRow a cnt m)).drop (m * 2 + (ahsVs (List.replicate k a)).length)) = ahsVs (repRow a cnt (m + k)) := by
  have e1 : ahsVs (repRow a cnt m) = ahsVs (List.replicate m a) ++ (ahsVs (List.replicate k ah0) ++ ahsVs (List.replicate (cnt - (m + k)) ah0)) := by
    unfold repRow
    rw [show cnt - m = k + (cnt - (m + k)) by omega, ← List.replicate_append_replicate, ahsVs_app, ahsVs_app]
  have l1 : (ahsVs (List.replicate m a)).length = m * 2 := by rw [ahsVs_len, List.length_replicate]
  have l2 : (ahsVs (List.replicate k a)).length = k * 2 := by rw [ahsVs_len, List.length_replicate]
  have l3 : (ahsVs (List.replicate k ah0)).length = k * 2 := by rw [ahsVs_len, List.length_replicate]
  rw [l2, e1, List.take_left' l1, ← List.append_assoc (ahsVs (List.replicate m a)), List.drop_left' (by rw [List.length_append, l1, l3])]
  unfold repRow
  rw [← List.replicate_append_replicate, ahsVs_app, ahsVs_app]
theorem goInt_nat (n : Nat) : goInt n = .int .i64 (n : Int) := rfl
theorem rep_src {W : World} {g : Nat} {a : Ah} {cnt m k : Nat} (h : Blk W g (ahsVs (repRow a cnt m)).toArray 41) (hk : k ≤ m) : ∀ j v, (ahsVs (List.replicate k a))[j]? = some v → W.cell? ((⟨g, 0, none⟩ : Addr).add j) = some v := by
  intro j v hj
  have hlt : j < (ahsVs (List.replicate k a)).length := by
    rcases Nat.lt_or_ge j (ahsVs (List.replicate k a)).length with h | h
    · exact h
    · rw [List.getElem?_eq_none h] at hj; cases hj
  have e1 : (⟨g, 0, none⟩ : Addr).add j = ⟨g, j, none⟩ := by simp only [Addr.add]; split <;> simp_all
  rw [e1, h.cell j, List.getElem?_toArray]
  have e2 : ahsVs (repRow a cnt m) = ahsVs (List.replicate k a) ++ (ahsVs (List.replicate (m - k) a) ++ ahsVs (List.replicate (cnt - m) ah0)) := by
    unfold repRow
    rw [show m = k + (m - k) by omega, ← List.replicate_append_replicate, show k + (m - k) - k = m - k by omega, ahsVs_app, ahsVs_app, List.append_assoc]
  rw [e2, List.getElem?_append_left hlt]
  exact hj
theorem rep_ahs {W : World} {g cnt : Nat} {a : Ah} (h : Blk W g (ahsVs (repRow a cnt cnt)).toArray 41) : AhsV W (.slice (some ⟨g, 0, none⟩) cnt cnt) (List.replicate cnt a) := by
  have e : repRow a cnt cnt = List.replicate cnt a := by simp [repRow]
  rw [e] at h
  refine ⟨_, _, by rw [List.length_replicate], by rw [List.length_replicate]; exact Nat.le_refl _, fun _ => ⟨g, 0, rfl, fun j hj => ?_⟩⟩
  obtain ⟨g0, g1⟩ := ahsVs_get (List.replicate cnt a) j hj
  rw [Nat.zero_add, h.cell, h.cell, List.getElem?_toArray, List.getElem?_toArray]
  exact ⟨g0, g1⟩
set_option maxRecDepth 100000 in
set_option maxHeartbeats 1000000 in
theorem repeat_any (a : Ah) (b c cnt : Nat) (w : World) (h1 : 1 ≤ cnt) (h2 : cnt ≤ 1000) (hx0 : w.cell? ⟨b, 0, none⟩ = some (.int .i64 a.k)) (hx1 : w.cell? ⟨b, 1, none⟩ = some (.string (S a.d))) :
    Calls Tryd.prog 24 #[.slice (some ⟨b, 0, none⟩) 1 c, .int .i64 (cnt : Int)] w fun e w' => ∃ v, e = .returned v ∧ AhsV w' v (List.replicate cnt a) ∧ Below w.heap.size w w' := by
  have M := fun w => Lib.hid (Tryd.bits_Mul 1 cnt (by decide) (by omega) w)
  rw [show (1 * cnt / 18446744073709551616) = 0 from Nat.div_eq_of_lt (by omega), show (1 * cnt % 18446744073709551616) = cnt by rw [Nat.one_mul]; exact Nat.mod_eq_of_lt (by omega)] at M
  have hmk := fun w => run_make_A w cnt h2
  have hb0 : b < w.heap.size := block_lt_of_cell hx0
  have hne : b ≠ w.heap.size := Nat.ne_of_lt hb0
  obtain ⟨k, d⟩ := a
  simp only at hx0 hx1
  have hK0 : Blk (w.alloc (.cells (ahsVs (List.replicate cnt ah0)).toArray 41)) w.heap.size (ahsVs (repRow ⟨k, d⟩ cnt 0)).toArray 41 := by
    have := Blk.new w (ahsVs (List.replicate cnt ah0)).toArray 41
    simpa [repRow] using this
  have hsrc0 : ∀ j v, (ahsVs (List.replicate 1 (⟨k, d⟩ : Ah)))[j]? = some v → (w.alloc (.cells (ahsVs (List.replicate cnt ah0)).toArray 41)).cell? ((⟨b, 0, none⟩ : Addr).add j) = some v := by
    intro j v hj
    have e1 : (⟨b, 0, none⟩ : Addr).add j = ⟨b, j, none⟩ := by simp only [Addr.add]; split <;> simp_all
    rw [e1, World.cell?_alloc_lt _ _ ⟨b, j, none⟩ hb0]
    match j, hj with
    | 0, hj => cases hj; exact hx0
    | 1, hj => cases hj; exact hx1
  have hmin : Nat.min 1 cnt = 1 := Nat.min_eq_left h1
  have hr0 := run_copy_rowN (P := Tryd.prog) (w.alloc (.cells (ahsVs (List.replicate cnt ah0)).toArray 41)) 22 22 3 41 2 w.heap.size 0 cnt cnt ⟨b, 0, none⟩ 1 c _ 41 (ahsVs (List.replicate 1 (⟨k, d⟩ : Ah))) Tryd.underlying22 (by kernel_rfl) hK0 (by rw [hmin, ahsVs_len]; rfl) hsrc0 (by rw [ahsVs_len, List.size_toArray, ahsVs_len, repRow_len _ _ _ (by omega)]; simp; omega) (ahsVs_one _)
  have hrow := repRow_copy ⟨k, d⟩ cnt 0 1 (by omega)
  rw [Nat.zero_mul] at hrow
  rw [hmin, List.toList_toArray, hrow, goInt_nat, show repRow ⟨k, d⟩ cnt (0 + 1) = repRow ⟨k, d⟩ cnt 1 from rfl] at hr0
  have hK1 : Blk ((w.alloc (.cells (ahsVs (List.replicate cnt ah0)).toArray 41)).setRow w.heap.size (ahsVs (repRow ⟨k, d⟩ cnt 1)).toArray) w.heap.size (ahsVs (repRow ⟨k, d⟩ cnt 1)).toArray 41 := setRow_heap _ _ _ _ _ _ hK0
  have hlow : Below w.heap.size w ((w.alloc (.cells (ahsVs (List.replicate cnt ah0)).toArray 41)).setRow w.heap.size (ahsVs (repRow ⟨k, d⟩ cnt 1)).toArray) := below_setRow ((Below.refl _ _).alloc (Nat.le_refl _) _) (Nat.le_refl _) _
  have Hr0 := Lib.hid hr0
  have HK1 := Lib.hid hK1
  have Hlow := Lib.hid hlow
  have hcb : ((cnt : Int) ≤ 1000) := by omega
  clear hr0 hK1 hlow hrow hmin hsrc0 hK0 hx0 hx1 hne
  go_enter Tryd.func24, Tryd.ntmps24
  go_wp2_with fail
  refine (M _).out.mono ?_
  rintro e w1 ⟨rfl, rfl⟩
  go_wp2_with (refine wpList_copyN rfl (.tmp 31) (.tmp 32) 22 22 rfl _ _ rfl rfl Hr0.out ?_)
  clear Hr0 M hmk
  generalize (w1.alloc (.cells (ahsVs (List.replicate cnt ah0)).toArray 41)).setRow w1.heap.size (ahsVs (repRow ⟨k, d⟩ cnt 1)).toArray = w2 at HK1 Hlow ⊢
  go_loopw [8] (fun n wr => ∃ m : Nat, 1 ≤ m ∧ m ≤ cnt ∧ n = .int .i64 m ∧ Blk wr w1.heap.size (ahsVs (repRow ⟨k, d⟩ cnt m)).toArray 41 ∧ Below w1.heap.size w1 wr) (fun n _ => cnt - (intOf n).toNat)
  case atStart => exact ⟨1, Nat.le_refl _, h1, rfl, HK1.out, Hlow.out⟩
  case round =>
    obtain ⟨m, hm1, hm2, rfl, hK, hb⟩ := hrel
    have HK := Lib.hid hK
    have Hb := Lib.hid hb
    clear hK hb
    by_cases hlt : m < cnt
    · obtain ⟨q, hq⟩ : ∃ q, Nat.min m (cnt - m) = q := ⟨_, rfl⟩
      have hq1 : q ≤ m := by rw [← hq]; exact Nat.min_le_left _ _
      have hq2 : q ≤ cnt - m := by rw [← hq]; exact Nat.min_le_right _ _
      have hq0 : 0 < q := by rw [← hq]; exact Nat.lt_min.2 ⟨by omega, by omega⟩
      have hrow := repRow_copy ⟨k, d⟩ cnt m q (by omega)
      have hR : ∀ W, Blk W w1.heap.size (ahsVs (repRow ⟨k, d⟩ cnt m)).toArray 41 → (Builtin.copy_ #[22, 22] 3 #[.slice (some ⟨w1.heap.size, m * 2, none⟩) (cnt - m) (cnt - m), .slice (some ⟨w1.heap.size, 0, none⟩) m cnt]).run Tryd.prog W = .ok (.int .i64 (q : Int)) (W.setRow w1.heap.size (ahsVs (repRow ⟨k, d⟩ cnt (m + q))).toArray) := fun W hW => by
        have h := run_copy_rowN (P := Tryd.prog) W 22 22 3 41 2 w1.heap.size (m * 2) (cnt - m) (cnt - m) ⟨w1.heap.size, 0, none⟩ m cnt _ 41 (ahsVs (List.replicate q (⟨k, d⟩ : Ah))) Tryd.underlying22 (by kernel_rfl) hW (by rw [hq, ahsVs_len, List.length_replicate]) (rep_src hW hq1) (by rw [ahsVs_len, List.length_replicate, List.size_toArray, ahsVs_len, repRow_len _ _ _ (by omega)]; omega) (ahsVs_one _)
        rw [hq, List.toList_toArray, hrow, goInt_nat] at h
        exact h
      have HR := hR wr.drew HK.out.drew
      have HKn := Lib.hid (show Blk (wr.drew.setRow w1.heap.size (ahsVs (repRow ⟨k, d⟩ cnt (m + q))).toArray) w1.heap.size (ahsVs (repRow ⟨k, d⟩ cnt (m + q))).toArray 41 from setRow_heap _ _ _ _ _ _ HK.out)
      have Hbn := Lib.hid (below_setRow (Hb.out.drew) (Nat.le_refl w1.heap.size) (ahsVs (repRow ⟨k, d⟩ cnt (m + q))).toArray)
      have hne : ¬ cnt = m := by omega
      have e1 : IntKind.i64.wrap ((m : Int) + (q : Int)) = (m : Int) + (q : Int) := IntWalk.i64_in _ (by omega)
      have e2 : (m : Int) ≤ (cnt : Int) := by omega
      clear hq hrow hR
      go_wp2_with fail
      go_region
      clear HR e1 e2 hne
      go_wp2_with fail
      go_roundw
      case rel => exact ⟨m + q, by omega, by omega, by go_num, HKn.out, Hbn.out⟩
      case measure => simp [intOf]; omega
    · obtain rfl : m = cnt := by omega
      go_wp2_with fail
      go_ret
      exact ⟨_, rfl, rep_ahs HK.out, Hb.out⟩
end Go.Proofs.YtceinedicbdngaaDoor
