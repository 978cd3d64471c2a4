/- HeadCount's region 9, operation by operation. -/
import Derived.Test.YtffdlchoaaakdaaDoorClone
import Derived.Test.YtffdlchoaaakdaaDoorNBuf
import Derived.Test.YtffdlchoaaakdaaDoorMakeC
import Derived.Test.YtffdlchoaaakdaaDoorKindsOps
import Derived.OrdersHeld
import Derived.Great.FillDense
namespace Go.Proofs.YtffdlchoaaakdaaDoor
open Go Go.RowKit
variable {ops : Array Oper} {S : World → Prop} {o : Oper} {a : Act}
theorem wpOp_of {P : Program} {Q : Exit → Act → World → Prop} {i : Nat} {K : Act → World → Prop} {w : World} (hi : ops[i]? = some o) (hg : o.guard = none) (h : Oper.wp P o a w K Q) : wpOp P ops Q i K a w := by
  unfold wpOp
  simp only [hi]
  rw [if_pos (by simp [Region.wanted, hg])]
  exact .inl h
theorem run_fieldAt3 (b : Nat) (w : World) : (Instr.fieldAt 24 (.pointer (some ⟨b, 0, none⟩)) 3).run Tryd.prog w = .ok (.pointer (some ⟨b, 3, none⟩)) w := by
  have u := Tryd.underlying24
  go_simp
theorem y_fieldAddr3 {x : Operand} {b : Nat} (ho : o.op = .fieldAddr 24 x 3) (hg : o.guard = none) (hx : a.eval x = .pointer (some ⟨b, 0, none⟩)) : YieldsIf Tryd.prog ops S o (.pointer (some ⟨b, 3, none⟩)) a :=
  .inl ⟨by simp [Region.wanted, hg], fun w _ => by
    unfold execOp
    rw [ho]
    simp only [Sem.run_bind, hx, run_fieldAt3]
    rfl⟩
theorem y_move {x : Operand} {v : Value} (ho : o.op = .move x) (hg : o.guard = none) (hx : a.eval x = v) : YieldsIf Tryd.prog ops S o v a :=
  .inl ⟨by simp [Region.wanted, hg], fun w _ => by
    unfold execOp
    rw [ho]
    subst hx
    rfl⟩
theorem y_loadS {x : Operand} {b n c : Nat} {p : Option Addr} (ho : o.op = .load 22 x) (hg : o.guard = none) (hx : a.eval x = .pointer (some ⟨b, 3, none⟩)) : YieldsIf Tryd.prog ops (fun w => w.cell? ⟨b, 3, none⟩ = some (.slice p n c)) o (.slice p n c) a :=
  .inl ⟨by simp [Region.wanted, hg], fun w hS => by
    have h : (Instr.loadAt 22 (.pointer (some ⟨b, 3, none⟩))).run Tryd.prog w = .ok (.slice p n c) w := by go_simp
    unfold execOp
    rw [ho]
    simp only [Sem.run_bind, hx, h]
    rfl⟩
theorem y_len {x : Operand} {n c : Nat} {p : Option Addr} (ho : o.op = .call { callee := .builtin .len, args := #[x], argTypes := #[22] }) (hg : o.guard = none) (hx : a.eval x = .slice p n c) : YieldsIf Tryd.prog ops S o (.int .i64 (n : Int)) a :=
  .inl ⟨by simp [Region.wanted, hg], fun w _ => by
    unfold execOp
    rw [ho]
    generalize a.eval = r at hx ⊢
    simp
    go_simp⟩
theorem y_sub {x : Operand} {m : Nat} (ho : o.op = .binOp .sub 3 x (.const (.int .i64 1)) 3) (hg : o.guard = none) (hx : a.eval x = .int .i64 (m : Int)) (h1 : 1 ≤ m) (h2 : m ≤ 100) : YieldsIf Tryd.prog ops S o (.int .i64 ((m - 1 : Nat) : Int)) a :=
  .inl ⟨by simp [Region.wanted, hg], fun w _ => by
    have e : IntKind.i64.wrap ((m : Int) - 1) = ((m - 1 : Nat) : Int) := by
      have : (m : Int) - 1 = ((m - 1 : Nat) : Int) := by omega
      rw [this]
      exact IntWalk.i64_in _ (by omega)
    have h : (binOp .sub 3 (.int .i64 (m : Int)) (.int .i64 1)).run Tryd.prog w = .ok (.int .i64 ((m - 1 : Nat) : Int)) w := by
      rw [← e]
      go_simp
    have hc : a.eval (.const (.int .i64 1)) = .int .i64 1 := rfl
    unfold execOp
    rw [ho]
    generalize a.eval = r at hx hc ⊢
    simp [hx, hc, h, eqGuard]⟩
theorem y_slice {x y : Operand} {n k c : Nat} {p : Option Addr} (ho : o.op = .slice 22 x none (some y) none) (hg : o.guard = none) (hx : a.eval x = .slice p n c) (hy : a.eval y = .int .i64 (k : Int)) (hk : k ≤ c) : YieldsIf Tryd.prog ops S o (.slice p k c) a :=
  .inl ⟨by simp [Region.wanted, hg], fun w _ => by
    have u := Tryd.underlying22
    unfold execOp
    rw [ho]
    simp [hx, hy]
    go_simp⟩
theorem opw_row1 {x : Operand} {n : Nat} {w : World} {K : Act → World → Prop} {Q : Exit → Act → World → Prop} (ho : o.op = .buildSlice 22 1 #[(0, x)]) (hx : a.eval x = .int .u64 (n : Int)) (hK : K (a.put o.dst (.slice (some ⟨w.heap.size, 0, none⟩) 1 1)) (w.alloc (.cells #[.int .u64 (n : Int)] 52))) : Oper.wp Tryd.prog o a w K Q := by
  obtain ⟨i, hi, hz, hs, _⟩ := info_parts (show (Tryd.prog.info? 52).map (fun i => (i.zero, i.size, i.bytes)) = some (some (.int .u64 0), 1, 8) by kernel_rfl)
  refine opw_value ?_ hK
  have h := run_buildSlice (P := Tryd.prog) w 22 52 1 #[(0, .int .u64 (n : Int))] #[.int .u64 (n : Int)] i _ Tryd.underlying22 hi hz (by rw [hs]; omega) (by rw [hs]; omega) (by
    rw [hs]
    exact Great.fill_whole (s := 1) (by decide) [.int .u64 (n : Int)] _ (fun v hv => by rw [List.mem_singleton.1 hv]; rfl) (by simp))
  unfold execOp
  rw [ho]
  have e : ((#[(0, x)] : Array (Nat × Operand)).map fun (i, x) => (i, a.eval x)) = #[(0, .int .u64 (n : Int))] := by
    simp only [List.map_toArray, List.map_cons, List.map_nil, hx]
  simp only [Sem.run_bind, e, h]
  rfl
theorem opw_storeS {x y : Operand} {b n c : Nat} {p : Option Addr} {u : Value} {w : World} {K : Act → World → Prop} {Q : Exit → Act → World → Prop} (ho : o.op = .store 22 x y) (hd : o.dst = none) (hx : a.eval x = .pointer (some ⟨b, 3, none⟩)) (hy : a.eval y = .slice p n c) (hc : w.cell? ⟨b, 3, none⟩ = some u) (hf : w.frozen? ⟨b, 3, none⟩ = false)
    (hK : K a (w.setCell ⟨b, 3, none⟩ (.slice p n c))) : Oper.wp Tryd.prog o a w K Q := by
  unfold Oper.wp execOp
  rw [ho]
  simp only [hx, hy]
  go_simp
  exact hK
theorem take_at {P : Program} {Q : Exit → Act → World → Prop} {md : Region.Mode} {i : Nat} {oi : Oper} {v : Value} {fuel : Nat} {listed : Array Bool} {w : World} (d : Option Tmp) (hi : ops[i]? = some oi) (hd : oi.dst = d)
    (hs : Region.noSelect ops = true) (hf : Region.free md ops listed i = true) (hr : (Region.ready md ops listed).contains i = true)
    (hQ : ∀ c a w, Q (.panic c) (a.put d v) w → Q (.panic c) a w) (hy : YieldsIf P ops S oi v a) (hS : S w)
    (h : wpAnyH P md ops Q S fuel (listed.setIfInBounds i true) (a.put d v) w) : wpAnyH P md ops Q S (fuel + 1) listed a w := by
  subst hd
  exact wpAnyH_take hi hs hf hr hQ hy hS h
theorem own_le {W : World} {base base' : Nat} {e : TypeId} {size : Nat} {v : Value} {n : Nat} {xs : List Value} (h : W.ownsRow base e size v n xs) (hb : base' ≤ base) : W.ownsRow base' e size v n xs := by
  refine ⟨h.1, h.2.imp id ?_⟩
  rintro ⟨g, cap, cur, hv, hbg, r⟩
  exact ⟨g, cap, cur, hv, Nat.le_trans hb hbg, r⟩
theorem clone_zeros (m bv ov c : Nat) (h1 : 1 ≤ m) (h2 : m ≤ 100) (W : World) (hc : ∀ j (_ : j < m), W.cell? ⟨bv, ov + j, none⟩ = some (.int .u64 0)) :
    Calls Tryd.prog 30 #[.slice (some ⟨bv, ov, none⟩) m c] W fun e w' =>
      ∃ g cap, e = .returned (.slice (some ⟨g, 0, none⟩) m cap) ∧ w'.ownsRow W.heap.size 52 1 (.slice (some ⟨g, 0, none⟩) m cap) m (numsV (List.replicate m 0)) ∧ Below W.heap.size W w' := by
  have h := clone_any (List.replicate m 0) bv ov c W (by simp; omega) (by simp; omega) (fun j hj => by have := hc j (by simpa using hj); simpa using this)
  simp only [List.length_replicate] at h
  exact h
theorem opw_callD {P : Program} {w : World} {f : FuncId} {fn : Func} {x : Operand} {args : Array Operand} {ts : Array TypeId} {K : Act → World → Prop} {Q : Exit → Act → World → Prop} (d : Option Tmp) (hd : o.dst = d) (hf : P.funcs[f]? = some fn) (hname : (fn.name == "runtime.NumGoroutine") = false) (hb : fn.body.isNone = false)
    (ho : o.op = .call { callee := .value x, args := args, argTypes := ts }) (hx : a.eval x = .func (.func f) #[] #[])
    (hC : Calls P f (args.map a.eval) w fun e w' => ∃ v, e = .returned v ∧ K (a.put d v) w') : Oper.wp P o a w K Q := by
  subst hd
  exact opw_call hf hname hb ho hx hC
theorem opw_row1D {x : Operand} {n : Nat} {w : World} {K : Act → World → Prop} {Q : Exit → Act → World → Prop} (d : Option Tmp) (hd : o.dst = d) (ho : o.op = .buildSlice 22 1 #[(0, x)]) (hx : a.eval x = .int .u64 (n : Int)) (hK : K (a.put d (.slice (some ⟨w.heap.size, 0, none⟩) 1 1)) (w.alloc (.cells #[.int .u64 (n : Int)] 52))) : Oper.wp Tryd.prog o a w K Q := by
  subst hd
  exact opw_row1 ho hx hK
/-- the append of one number, in a block of its own, to a slice of the call's own -/
theorem opw_app1 {s x : Operand} {w : World} {base m bN n : Nat} {v : Value} {L : List Nat} {K : Act → World → Prop} {Q : Exit → Act → World → Prop} (d : Option Tmp) (hd : o.dst = d) (ho : o.op = .call { callee := .builtin .append, args := #[s, x], argTypes := #[22, 22] })
    (hs : a.eval s = v) (hx : a.eval x = .slice (some ⟨bN, 0, none⟩) 1 1) (hown : w.ownsRow base 52 1 v m (numsV L)) (hL : L.length = m) (hm : m ≤ 100) (hN : Blk w bN #[.int .u64 (n : Int)] 52) (hb : base ≤ w.heap.size)
    (h : ∀ p c w', NBuf base w' (.slice p (m + 1) c) (L ++ [n]) → w.grownBy w' v.ownBlock → K (a.put d (.slice p (m + 1) c)) w') : Oper.wp Tryd.prog o a w K Q := by
  subst hd
  obtain ⟨i0, hi, hz0, hz1, hz2⟩ := info_parts (show (Tryd.prog.info? 52).map (fun i => (i.zero, i.size, i.bytes)) = some (some (.int .u64 0), 1, 8) by kernel_rfl)
  refine wp_append_own w s x 22 ho base 52 i0 (.int .u64 0) 1 8 Tryd.underlying22 hi hz0 hz1 hz2 rfl (by decide) v m (numsV L) hs hown ⟨bN, 0, none⟩ 1 1 [.int .u64 (n : Int)] hx rfl ?_ ?_ (by unfold maxLen; omega) (by omega) hb ?_
  · intro j u hj
    cases j with
    | zero =>
      cases hj
      have := hN.one
      simpa [Addr.add] using this
    | succ j => simp at hj
  · intro u hu
    rw [List.mem_singleton.1 hu]
    rfl
  · intro v' w' ho' hg _
    have e2 : numsV (L ++ [n]) = numsV L ++ [.int .u64 (n : Int)] := by simp [numsV]
    have hN' : NBuf base w' v' (L ++ [n]) := by
      unfold NBuf
      rw [e2, List.length_append, hL]
      exact ho'
    obtain ⟨p, c, rfl⟩ := hN'.form
    rw [List.length_append, hL] at hN' ⊢
    exact h p c w' hN' hg
end Go.Proofs.YtffdlchoaaakdaaDoor
