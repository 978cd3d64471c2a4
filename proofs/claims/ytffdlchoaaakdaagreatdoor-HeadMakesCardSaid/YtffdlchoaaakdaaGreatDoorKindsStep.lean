/- ref.kinds' great region: one step, whichever operation it is. -/
import Derived.Test.YtffdlchoaaakdaaGreatDoorKindsForm
namespace Go.Proofs.YtffdlchoaaakdaaGreatDoor
open Go Go.RowKit
theorem at_any (nm : List UInt8) (p s : Int) (w : World) : Calls Tryz.prog 35 #[.string (S nm), .int .i64 p, .int .i64 s] w fun e w' => e = .returned (.agg #[.string (S nm), .int .i64 p, .int .i64 s]) ∧ Below w.heap.size w w' := by
  go_enter Tryz.func35, Tryz.ntmps35
  go_wp2_with fail
  exact bodyPost_ret (v := .agg #[.string (S nm), .int .i64 p, .int .i64 s]) (by simp [results, Tryz.results35, go_sem]) rfl ⟨rfl, (Below.refl _ _).alloc (Nat.le_refl _) _⟩
theorem listOf_any (v : Value) (w : World) : Calls Tryz.prog 36 #[v] w fun e w' => e = .returned v ∧ w = w' := by
  go_enter Tryz.func36, Tryz.ntmps36
  go_wp2_with fail
  go_ret
  exact ⟨rfl, rfl⟩
/-- the region's own variables: ten fields, and the function that hands back its list -/
structure KVars (a0 : Act) (w0 : World) : Prop where
  var : ∀ n f, kVars[n]? = some f → ∃ b, a0.tmps.getD (n + 1) undef = .pointer (some ⟨b, 0, none⟩) ∧ Blk w0 b #[.string (S f.nm), .int .i64 (f.pos : Int), .int .i64 (f.sz : Int)] 45
  clo : a0.tmps.getD 11 undef = .func (.func 36) #[] #[]
def kPv (i : Nat) (v : Value) (w : World) : Prop := ∀ s, kSpecs[i]? = some s → s.holds v w
theorem kPv_later (i : Nat) (v : Value) (W W' : World) (h : kPv i v W) (hb : Below W.heap.size W W') : kPv i v W' := fun s hs => KSpec.later (h s hs) hb
theorem kOps_low {t : Nat} (h0 : 0 < t) (h1 : t < 22) : ∀ (j : Nat) (o : Oper), kOps[j]? = some o → o.dst ≠ some t := fun j o ho e => by
  rw [(kOps_dst j o ho).2] at e
  have := Option.some.inj e
  split at this <;> omega
theorem kVars_len {n : Nat} {f : Fd} (h : kVars[n]? = some f) : n < 10 := (List.getElem?_eq_some_iff.1 h).1
set_option maxRecDepth 100000 in
theorem k_step {a0 : Act} {w0 : World} (hv : KVars a0 w0) {Q : Exit → Act → World → Prop} (i : Nat) (o : Oper) (ho : kOps[i]? = some o) (listed : Array Bool) (a : Act) (w : World) (hI : FlowI kOps kPv a0 w0 listed a w)
    (hall : ∀ e ∈ o.after, Region.binds .any e = true → listed.getD e.on false = true) : Oper.wp Tryz.prog o a w (fun a' w' => ∃ v, a' = a.put o.dst v ∧ kPv i v w' ∧ Below w.heap.size w w') Q := by
  have hi : i < 201 := (kOps_dst i o ho).1
  obtain ⟨F, hF⟩ : ∃ F, kForms[i]? = some F := ⟨kForms[i]'(by rw [kForms_len]; exact hi), List.getElem?_eq_getElem _⟩
  have hol : kOps.toList[i]? = some o := by simpa using ho
  have hop : o.op = F.toOp := by
    have h := congrArg (·[i]?) kForms_ok
    simp only [List.getElem?_map, hol, hF, Option.map_some] at h
    exact Option.some.inj h
  have hsp : ∃ s, F.spec kSpecs = some s ∧ kSpecs[i]? = some s := by
    have h := congrArg (·[i]?) kSpecs_ok
    simp only [List.getElem?_map, hF, Option.map_some] at h
    cases hs : kSpecs[i]? with
    | none => rw [hs] at h; cases h
    | some s => rw [hs] at h; exact ⟨s, Option.some.inj h, rfl⟩
  have huse : ∀ j ∈ F.uses, ∀ s, kSpecs[j]? = some s → s.holds (a.eval (.tmp (22 + j))) w := by
    intro j hj s hs
    have hz : (o, F) ∈ kOps.toList.zip kForms := List.mem_of_getElem? (i := i) (by rw [List.getElem?_zip_eq_some]; exact ⟨hol, hF⟩)
    have h1 := List.all_eq_true.1 (List.all_eq_true.1 kUses_ok _ hz) j hj
    simp only [Bool.and_eq_true, decide_eq_true_eq, List.any_eq_true, beq_iff_eq] at h1
    obtain ⟨hj2, e, he, rfl, hb⟩ := h1
    have hl := hall e (by simpa using he) hb
    obtain ⟨o', ho'⟩ : ∃ o', kOps[e.on]? = some o' := ⟨kOps[e.on]'(by rw [kOps_size]; omega), Array.getElem?_eq_getElem _⟩
    exact hI.vals e.on o' (22 + e.on) ho' (by rw [(kOps_dst e.on o' ho').2, if_pos hj2]) hl s hs
  obtain ⟨s, hs1, hs2⟩ := hsp
  have done : ∀ v w', s.holds v w' → Below w.heap.size w w' → ∃ v', a.put o.dst v = a.put o.dst v' ∧ kPv i v' w' ∧ Below w.heap.size w w' := fun v w' h hb => ⟨v, rfl, fun s' hs' => by cases hs2.symm.trans hs'; exact h, hb⟩
  cases F with
  | mf =>
    cases hs1
    refine opw_move hop (done _ _ ?_ (Below.refl _ _))
    exact (hI.rest 11 (kOps_low (by decide) (by decide))).trans hv.clo
  | ld n =>
    replace hs1 : (kVars[n]?).map KSpec.fd = some s := hs1
    cases hf : kVars[n]? with
    | none => rw [hf] at hs1; cases hs1
    | some f =>
      rw [hf] at hs1
      cases hs1
      obtain ⟨b, hp, hB⟩ := hv.var n f hf
      have hn := kVars_len hf
      obtain ⟨q0, q1, q2⟩ := (hB.later hI.low).three
      exact opw_load hop ((hI.rest (n + 1) (kOps_low (by omega) (by omega))).trans hp) q0 q1 q2 (done _ _ rfl (Below.refl _ _))
  | «at» nm p s' =>
    cases hs1
    refine opw_call (f := 35) Tryz.func35 (by kernel_rfl) (by kernel_rfl) hop rfl ?_
    simp only [List.map_toArray, List.map_cons, List.map_nil]
    exact (at_any nm p s' w).mono fun (e : Ending) w' ⟨he, hb⟩ => ⟨_, he, done _ _ rfl hb⟩
  | row js =>
    replace hs1 : (if 0 < js.length ∧ js.length ≤ 100 then (optAll (js.map fun j => (kSpecs[j]?).bind KSpec.fd?)).map KSpec.row else none) = some s := hs1
    split at hs1
    · rename_i hjl
      cases ha : optAll (js.map fun j => (kSpecs[j]?).bind KSpec.fd?) with
      | none => rw [ha] at hs1; cases hs1
      | some fs =>
        rw [ha] at hs1
        cases hs1
        have hm := optAll_eq ha
        have hval : ∀ j ∈ js, ∀ f, (kSpecs[j]?).bind KSpec.fd? = some f → a.eval (.tmp (22 + j)) = fdV f := by
          intro j hj f hf
          cases hk : kSpecs[j]? with
          | none => rw [hk] at hf; cases hf
          | some sj =>
            rw [hk] at hf
            cases sj with
            | fd g => cases hf; exact huse j hj _ hk
            | _ => cases hf
        have hvs := map_of hm hval
        have hlen : fs.length = js.length := by have := congrArg List.length hm; simpa using this.symm
        refine opw_rows (s := 3) (z := .agg #[.string (S []), .int .i64 0, .int .i64 0]) (b := 32) (e := 45) hop rfl (by kernel_rfl) Tryz.underlying25 (by decide) (by decide) hjl.1 hjl.2 (fun j hj => ?_) ?_
        · have h1 : a.eval (.tmp (22 + j)) ∈ js.map fun j => a.eval (.tmp (22 + j)) := List.mem_map.2 ⟨j, hj, rfl⟩
          rw [hvs] at h1
          obtain ⟨f, _, hf⟩ := List.mem_map.1 h1
          rw [← hf]
          rfl
        · rw [hvs, flat_fd]
          refine done _ _ ⟨w.heap.size, by rw [hlen], Blk.new w _ _⟩ ((Below.refl _ _).alloc (Nat.le_refl _) _)
    · cases hs1
  | call jf j =>
    replace hs1 : (match kSpecs[jf]?, kSpecs[j]? with
      | some .fn, some (.row fs) => some (KSpec.row fs)
      | _, _ => none) = some s := hs1
    split at hs1
    · rename_i fs h1 h2
      cases hs1
      have hf := huse jf (by simp [KForm.uses]) _ h1
      have hr := huse j (by simp [KForm.uses]) _ h2
      refine opw_call (f := 36) Tryz.func36 (by kernel_rfl) (by kernel_rfl) hop hf ?_
      simp only [List.map_toArray, List.map_cons, List.map_nil]
      exact (listOf_any (a.eval (.tmp (22 + j))) w).mono fun (e : Ending) w' ⟨he, hw⟩ => ⟨_, he, done _ _ (hw ▸ hr) (hw ▸ Below.refl _ _)⟩
    · cases hs1
  | kd op nm fl j =>
    replace hs1 : (match kSpecs[j]? with
      | some (.row fs) => some (KSpec.kd ⟨op, nm, fl, fs⟩)
      | _ => none) = some s := hs1
    split at hs1
    · rename_i fs h2
      cases hs1
      obtain ⟨b, hb, hF⟩ := huse j (by simp [KForm.uses]) _ h2
      refine opw_build hop (vals := [(0, .int .i64 (op : Int)), (1, .string (S nm)), (2, .int .i64 (fl : Int)), (3, .slice (some ⟨b, 0, none⟩) fs.length fs.length)]) ?_ (built_kd _ _ nm b _) (done _ _ ⟨b, rfl, hF⟩ (Below.refl _ _))
      rw [← hb]
      simp only [List.map_toArray, List.map_cons, List.map_nil]
      rfl
    · cases hs1
  | all js =>
    replace hs1 : (if 0 < js.length ∧ js.length ≤ 100 then (optAll (js.map fun j => (kSpecs[j]?).bind KSpec.kd?)).map KSpec.all else none) = some s := hs1
    split at hs1
    · rename_i hjl
      cases ha : optAll (js.map fun j => (kSpecs[j]?).bind KSpec.kd?) with
      | none => rw [ha] at hs1; cases hs1
      | some ks =>
        rw [ha] at hs1
        cases hs1
        have hm := optAll_eq ha
        have hval : ∀ j ∈ js, ∀ k, (kSpecs[j]?).bind KSpec.kd? = some k → ∃ b, a.eval (.tmp (22 + j)) = rkV k b ∧ Flds w b k.fs := by
          intro j hj k hf
          cases hk : kSpecs[j]? with
          | none => rw [hk] at hf; cases hf
          | some sj =>
            rw [hk] at hf
            cases sj with
            | kd g => cases hf; exact huse j hj _ hk
            | _ => cases hf
        obtain ⟨bs, hbl, hvs, hfl⟩ := map_some (p := fun (k : Rk) (b : Nat) => Flds w b k.fs) hm hval
        have hlen : ks.length = js.length := by have := congrArg List.length hm; simpa using this.symm
        refine opw_rows (s := 4) (z := .agg #[.int .i64 0, .string (S []), .int .i64 0, .slice none 0 0]) (b := 56) (e := 66) hop rfl (by kernel_rfl) Tryz.underlying63 (by decide) (by decide) hjl.1 hjl.2 (fun j hj => ?_) ?_
        · have h1 : a.eval (.tmp (22 + j)) ∈ js.map fun j => a.eval (.tmp (22 + j)) := List.mem_map.2 ⟨j, hj, rfl⟩
          rw [hvs] at h1
          obtain ⟨f, _, hf⟩ := List.mem_map.1 h1
          rw [← hf]
          rfl
        · rw [hvs, flat_rk]
          have hb := (Below.refl w.heap.size w).alloc (Nat.le_refl _) (.cells (cellsRk ks bs) 66)
          exact done _ _ ⟨w.heap.size, bs, by rw [hlen], hbl, Blk.new w _ _, fun x hx => Blk.later (hfl x hx) hb⟩ hb
    · cases hs1
  | mv j =>
    have hs3 : kSpecs[j]? = some s := hs1
    exact opw_assign hop (done _ _ (huse j (by simp [KForm.uses]) _ hs3) (Below.refl _ _))
end Go.Proofs.YtffdlchoaaakdaaGreatDoor
