/- A map to bool of the call's own: which keys it says yes of. -/
import Derived.Test.YtikcgnalcchlpaaGreatDoorRows
import Derived.Test.YtikcgnalcchlpaaGreatDoorBase
import Derived.Test.YtikcgnalcchlpaaGreatDoorBlk
import Derived.Maps.Own
import Derived.Maps.OwnOps
import Derived.Maps.OwnSet
import Derived.Maps.Views
import Derived.StringKeys
namespace Go.Proofs.YtikcgnalcchlpaaGreatDoor
open Go.RowKit Go.Maps
theorem keyedI : Keyed Tryz.prog 3 := int_keyed Tryz.underlying3
theorem keyedS : Keyed Tryz.prog 9 := string_keyed Tryz.underlying9
theorem zeroB (w : World) : (zeroValue 4).run Tryz.prog w = .ok (.bool false) w := by kernel_rfl
theorem plainElem_bool_inv {P : Program} {e : TypeId} (he : P.underlying e = some .bool) {v : Value} {z : DataW Unit × List MemPlace} (h : plainElem P e v = some z) : ∃ a, v = .bool a ∧ z = (.lit (.bool a), []) := by
  unfold plainElem at h
  rw [he] at h
  cases v <;> simp at h
  subst h
  exact ⟨_, rfl, rfl⟩
def BMap (k : TypeId) (W : World) (b n : Nat) (f : Lit → Prop) : Prop :=
  ∃ D : DataW Unit, W.ownsMap Tryz.prog k (plainElem Tryz.prog 4) b n D ∧ ∀ kl, (f kl → D.atKey kl (.lit (.bool false)) = .lit (.bool true)) ∧ (¬ f kl → D.atKey kl (.lit (.bool false)) = .lit (.bool false))
theorem BMap.made (k : TypeId) (w : World) : BMap k (w.alloc (.map #[] 0)) w.heap.size 0 (fun _ => False) :=
  ⟨.map [], World.ownsMap_made _ _ _ _, fun _ => ⟨fun h => h.elim, fun _ => rfl⟩⟩
theorem BMap.lt {k : TypeId} {W : World} {b n : Nat} {f : Lit → Prop} (h : BMap k W b n f) : b < W.heap.size := by
  obtain ⟨D, ⟨es, clock, h1, _⟩, _⟩ := h
  exact (Array.getElem?_eq_some_iff.1 h1).1
theorem BMap.same {k : TypeId} {W W' : World} {b n : Nat} {f : Lit → Prop} (h : BMap k W b n f) (hb : W'.heap[b]? = W.heap[b]?) : BMap k W' b n f := by
  obtain ⟨D, ⟨es, clock, h1, h2, h3, h4⟩, hf⟩ := h
  exact ⟨D, ⟨es, clock, by rw [hb]; exact h1, h2, h3, h4⟩, hf⟩
theorem BMap.later {k : TypeId} {W W' : World} {b n : Nat} {f : Lit → Prop} (h : BMap k W b n f) (hb : Below W.heap.size W W') : BMap k W' b n f := h.same (hb.block b h.lt)
theorem BMap.alloc {k : TypeId} {W : World} {b n : Nat} {f : Lit → Prop} (h : BMap k W b n f) (o : Obj) : BMap k (W.alloc o) b n f := h.later ((Below.refl _ _).alloc (Nat.le_refl _) _)
theorem BMap.other {k : TypeId} {W W' : World} {b b' n : Nat} {f : Lit → Prop} (h : BMap k W b n f) (hg : W.grownBy W' (some b')) (hne : b ≠ b') : BMap k W' b n f :=
  h.same (hg.block b h.lt (fun e => hne (Option.some.inj e)))
theorem Blk.otherB {W W' : World} {b b' : Nat} {C : Array Value} {t : TypeId} (h : Blk W b C t) (hg : W.grownBy W' (some b')) (hne : b ≠ b') : Blk W' b C t :=
  (hg.block b h.lt (fun e => hne (Option.some.inj e))).trans h
theorem Below.grownB {B : Nat} {w W W' : World} {b : Nat} (h : Below B w W) (hg : W.grownBy W' (some b)) (hb : B ≤ b) (hB : B ≤ W.heap.size) : Below B w W' :=
  h.trans ⟨hg.os, hg.tape, hg.output, hg.size, fun k hk => hg.block k (Nat.lt_of_lt_of_le hk hB) (fun e => by have := Option.some.inj e; omega)⟩
theorem BMap.look {k t : TypeId} {W : World} {b n : Nat} {f : Lit → Prop} (h : BMap k W b n f) (K : Keyed Tryz.prog k) (ht : Tryz.prog.underlying t = some (.map k 4)) {key : Value} {kl : Lit} (hkey : keyOf Tryz.prog k key = some kl) :
    (f kl → (Instr.lookup t (.map (some b)) key false).run Tryz.prog W = .ok (.bool true) W) ∧ (¬ f kl → (Instr.lookup t (.map (some b)) key false).run Tryz.prog W = .ok (.bool false) W) := by
  obtain ⟨D, hown, hf⟩ := h
  obtain ⟨v, ps, hrun, hv⟩ := hown.lookup K ht (zeroB W) (plainElem_bool Tryz.underlying4 false) hkey
  obtain ⟨x, rfl, hz⟩ := plainElem_bool_inv Tryz.underlying4 hv
  have hx : D.atKey kl (.lit (.bool false)) = .lit (.bool x) := by injection hz
  have lb : ∀ {x y : Bool}, (DataW.lit (.bool x) : DataW Unit) = .lit (.bool y) → x = y := fun h => Lit.bool.inj (DataW.lit.inj h)
  exact ⟨fun h => by obtain rfl := lb (hx.symm.trans ((hf kl).1 h)); exact hrun, fun h => by obtain rfl := lb (hx.symm.trans ((hf kl).2 h)); exact hrun⟩
theorem BMap.put {k t : TypeId} {W : World} {b n : Nat} {f : Lit → Prop} (h : BMap k W b n f) (K : Keyed Tryz.prog k) (ht : Tryz.prog.underlying t = some (.map k 4)) (hn : n < 1000000) {key : Value} {kl : Lit} (hkey : keyOf Tryz.prog k key = some kl) (hl : WideAt.IsKeyLit kl) :
    ∃ w', (Instr.mapUpdate t (.map (some b)) key (.bool true)).run Tryz.prog W = .ok () w' ∧ BMap k w' b (n + 1) (fun x => x = kl ∨ f x) ∧ W.grownBy w' (some b) := by
  obtain ⟨D, hown, hf⟩ := h
  have hM := hown.isMap
  obtain ⟨w', hrun, r1, r2⟩ := hown.update K ht (by unfold maxLen; omega) hkey (plainElem_bool Tryz.underlying4 true)
  refine ⟨w', hrun, ⟨_, r1, fun x => ?_⟩, r2⟩
  by_cases e : x = kl
  · subst e
    exact ⟨fun _ => atKey_put_same hM hl _ _, fun h => absurd (.inl rfl) h⟩
  · rw [atKey_put_other e]
    exact ⟨fun h => (hf x).1 (h.resolve_left e), fun h => (hf x).2 (fun h' => h (.inr h'))⟩
theorem BMap.as {k : TypeId} {W : World} {b n : Nat} {f g : Lit → Prop} (h : BMap k W b n f) (e : ∀ x, f x ↔ g x) : BMap k W b n g := by
  obtain ⟨D, hown, hf⟩ := h
  exact ⟨D, hown, fun kl => ⟨fun h => (hf kl).1 ((e kl).2 h), fun h => (hf kl).2 (fun h' => h ((e kl).1 h'))⟩⟩
theorem BMap.mono {k : TypeId} {W : World} {b n n' : Nat} {f : Lit → Prop} (h : BMap k W b n f) (e : n ≤ n') : BMap k W b n' f := by
  obtain ⟨D, hown, hf⟩ := h
  exact ⟨D, hown.mono e, hf⟩
theorem keyI (n : Nat) (h : n < 1000) : keyOf Tryz.prog 3 (.int .i64 (n : Int)) = some (.int .i64 (n : Int)) :=
  keyOf_int_mk Tryz.underlying3 (by simp [Lit.wf, IntKind.min, IntKind.max, IntKind.signed, IntKind.bits]; omega)
theorem keyS (l : List UInt8) (h : l.length < 1000) : keyOf Tryz.prog 9 (.string (S l)) = some (.string l) := by
  have := Go.WideMaps.keyOf_string_mk (P := Tryz.prog) (k := 9) Tryz.underlying9 (s := S l) (by rw [S_size]; unfold maxLen; omega)
  rw [this]; rfl
/-- a map literal's store -/
theorem wpList_insert_b {P : Program} (w : World) {ops : Array Oper} {rest : List Oper} {o : Oper} {a : Act} {Q : Exit → Act → World → Prop}
    (hg : o.guard = none) (m x v : Operand) (t : TypeId) (hop : o.op = Op.insert t m x v) (w' : World)
    (hrun : (Instr.mapUpdate t (a.eval m) (a.eval x) (a.eval v)).run P w = .ok () w') (hK : wpList P ops Q rest (a.put o.dst undef) w') :
    wpList P ops Q (o :: rest) a w := by
  refine wpList_plain hg fun K' hK' => ?_
  unfold Oper.wp
  simp [execOp, hop, hrun, Result.andThen]
  exact hK' _ _ hK
end Go.Proofs.YtikcgnalcchlpaaGreatDoor
