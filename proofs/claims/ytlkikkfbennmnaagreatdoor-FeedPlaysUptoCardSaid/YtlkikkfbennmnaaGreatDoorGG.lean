/- Several texts in one: ref.within.  | ref.Bare, ref.Good, Fault.Is; a fault's two cells.  | ref.Unnumber: the document's own answer to Get.  | Fields that lie apart, of names of their own. No function of the program is walked here.  | A map to bool of the call's own: which keys it says yes of.  | HeadFields: which places and names are seen.  | ref.HeadRead: what is no head, as the reference has it.  | Numbers that a call collects in a slice of its own by append. No function of the program is walked here.  | ref.HeadRead: flags that may not be; the whole of it.  | ref.HeadRead: a head whose flags may be.  -/
import Derived.Test.YtlkikkfbennmnaaGreatDoorRows
import Derived.Test.YtlkikkfbennmnaaGreatDoorGA
import Derived.Laws.Rows
import Derived.Test.YtlkikkfbennmnaaGreatDoorGB
import Derived.Maps.Own
import Derived.Maps.OwnOps
import Derived.Maps.OwnSet
import Derived.Maps.Views
import Derived.StringKeys
import Derived.Test.YtlkikkfbennmnaaGreatDoorGF
import Derived.Test.YtlkikkfbennmnaaGreatDoorGD
import Derived.Laws.AppendOwn
import Derived.Laws.OwnMore
import Derived.IntWalk
import Derived.BigRegion
namespace Go.Proofs.YtlkikkfbennmnaaGreatDoor
open Go.RowKit
set_option linter.unusedVariables false
theorem within_true (n a b : Int) (w : World) (h1 : a ≤ n) (h2 : n ≤ b) : Calls Tryz.prog 85 #[.int .i64 n, .int .i64 a, .int .i64 b] w fun e w' => e = .returned (.bool true) ∧ w = w' := by
  have hd1 : decide (a ≤ n) = true := decide_eq_true h1
  have hd2 : decide (n ≤ b) = true := decide_eq_true h2
  go_enter Tryz.func85, Tryz.ntmps85
  go_wp2_with fail
  go_ret
  exact ⟨rfl, rfl⟩
theorem within_false (n a b : Int) (w : World) (h : n < a ∨ b < n) : Calls Tryz.prog 85 #[.int .i64 n, .int .i64 a, .int .i64 b] w fun e w' => e = .returned (.bool false) ∧ w = w' := by
  by_cases h1 : a ≤ n
  · have h2 : b < n := by omega
    have hd1 : decide (a ≤ n) = true := decide_eq_true h1
    have hd2 : decide (n ≤ b) = false := decide_eq_false (by omega)
    clear h
    go_enter Tryz.func85, Tryz.ntmps85
    go_wp2_with fail
    go_ret
    exact ⟨rfl, rfl⟩
  · have h2 : n < a := by omega
    have hd1 : decide (a ≤ n) = false := decide_eq_false h1
    clear h
    go_enter Tryz.func85, Tryz.ntmps85
    go_wp2_with fail
    go_ret
    exact ⟨rfl, rfl⟩
end Go.Proofs.YtlkikkfbennmnaaGreatDoor
namespace Go.Proofs.YtlkikkfbennmnaaGreatDoor
open Go.RowKit
def faultV (e p : Int) : Value := .agg #[.int .i64 e, .int .i64 p]
/-- the bytes and the fault that the reference returns -/
def RetSF (w : World) (r : List UInt8 × Int × Int) (e : Ending) (w' : World) : Prop := e = .returned (.tuple #[.string (S r.1), .agg #[.int .i64 r.2.1, .int .i64 r.2.2]]) ∧ Below w.heap.size w w'
theorem bareF (x : Int) (w : World) : Calls Tryz.prog 108 #[.int .i64 x] w fun e w' => e = .returned (.agg #[.int .i64 x, .int .i64 (-1)]) ∧ Below w.heap.size w w' := by
  go_enter Tryz.func108, Tryz.ntmps108
  go_wp2_with fail
  refine bodyPost_ret (v := .agg #[.int .i64 x, .int .i64 (-1)]) (by simp [results, Tryz.results108, go_sem]) rfl ⟨rfl, (Below.refl _ _).alloc (Nat.le_refl _) _⟩
theorem goodF (w : World) : Calls Tryz.prog 110 #[] w fun e w' => e = .returned (.agg #[.int .i64 0, .int .i64 (-1)]) ∧ Below w.heap.size w w' := by
  go_enter Tryz.func110, Tryz.ntmps110
  go_wp2_with fail
  refine bodyPost_ret (v := .agg #[.int .i64 0, .int .i64 (-1)]) (by simp [results, Tryz.results110, go_sem]) rfl ⟨rfl, (Below.refl _ _).alloc (Nat.le_refl _) _⟩
/-- in world W block b holds these two, in a row of the fault's own type -/
def Cell2 (W : World) (b : Nat) (x y : Int) : Prop := W.heap[b]? = some (.cells #[.int .i64 x, .int .i64 y] 176 (0, 0))
theorem Cell2.cells {W : World} {b : Nat} {x y : Int} (h : Cell2 W b x y) : W.cell? ⟨b, 0, none⟩ = some (.int .i64 x) ∧ W.cell? ⟨b, 1, none⟩ = some (.int .i64 y) := by
  refine ⟨?_, ?_⟩ <;> (rw [cell_of_row W b _ _ _ _ h]; rfl)
theorem Cell2.frozen {W : World} {b : Nat} {x y : Int} (h : Cell2 W b x y) : ∀ j, W.frozen? ⟨b, j, none⟩ = false := fun j => by
  unfold World.frozen?
  rw [h]
  simp
theorem Cell2.later {W W' : World} {b : Nat} {x y : Int} (h : Cell2 W b x y) (hb : Below W.heap.size W W') : Cell2 W' b x y := by
  have hlt : b < W.heap.size := block_lt_of_cell h.cells.1
  unfold Cell2 at *
  rw [hb.block b hlt]; exact h
theorem cell2_new (w : World) : Cell2 (w.alloc (.cells #[.int .i64 0, .int .i64 0] 176)) w.heap.size 0 0 := heap_alloc_new w _
end Go.Proofs.YtlkikkfbennmnaaGreatDoor
namespace Go.Proofs.YtlkikkfbennmnaaGreatDoor
open Go.RowKit
set_option linter.unusedVariables false
theorem unnumber_limit (l : List UInt8) (w : World) (h : 8 < l.length) :
    Calls Tryz.prog 59 #[.string (S l)] w fun e w' => e = .returned (.tuple #[.int .u64 0, .int .i64 4]) ∧ w = w' := by
  go_enter Tryz.func59, Tryz.ntmps59
  go_wp2_with fail
  go_ret2
  exact ⟨rfl, rfl⟩
theorem mul_add256 (v b : Nat) (hb : b < 256) (hv : v * 256 + b < 18446744073709551616) :
    IntKind.u64.wrap (IntKind.u64.wrap ((v : Int) * 256) + IntKind.u64.wrap (b : Int)) = ((v * 256 + b : Nat) : Int) := by
  have h1 : v * 256 < 18446744073709551616 := Nat.lt_of_le_of_lt (Nat.le_add_right _ _) hv
  have h2 : b < 18446744073709551616 := Nat.lt_of_le_of_lt (Nat.le_add_left _ _) hv
  have e : (v : Int) * 256 = ((v * 256 : Nat) : Int) := by rw [Int.natCast_mul]; rfl
  rw [e, wrap_u64_lt (v * 256) h1, wrap_u64_lt b h2, ← Int.natCast_add]
  exact wrap_u64_lt (v * 256 + b) hv
set_option maxRecDepth 100000 in
theorem unnumber_ok (l : List UInt8) (w : World) (h : l.length ≤ 8) :
    Calls Tryz.prog 59 #[.string (S l)] w fun e w' => e = .returned (.tuple #[.int .u64 (val l : Nat), .int .i64 0]) ∧ Below w.heap.size w w' := by
  obtain ⟨cap, hc1, hc2, hrun⟩ := run_bytes_S (P := Tryz.prog) 9 63 5 Tryz.underlying9 Tryz.underlying63 Tryz.underlying5 w l
  have hB := bytesAt_drew (bytesAt_new w (l ++ List.replicate (cap - l.length) 0) 5 (cap, cap + 1))
  have hbel : Below w.heap.size w (w.alloc (.cells (cells8 (l ++ List.replicate (cap - l.length) 0)) 5 (cap, cap + 1))).drew := ((Below.refl _ _).alloc (Nat.le_refl _) _).drew
  have hc2' := hc2 (by unfold maxLen; omega)
  unfold maxLen at hc2'
  clear hc2
  generalize hW : (w.alloc (.cells (cells8 (l ++ List.replicate (cap - l.length) 0)) 5 (cap, cap + 1))).drew = W at hrun hB hbel
  have HB := Lib.hid hB
  have Hbel := Lib.hid hbel
  clear hB hbel hW
  go_enter Tryz.func59, Tryz.ntmps59
  go_wp2_with fail
  clear hrun
  go_loopg [4, 13] 9 (fun g v c wr => ∃ k : Nat, k ≤ l.length ∧ g + k = 9 ∧ c = .int .i64 k ∧ v = .int .u64 (val (l.take k) : Nat) ∧ wr = W)
  case atStart => exact ⟨0, by omega, by omega, rfl, rfl, rfl⟩
  case round =>
    obtain ⟨k, hk, hg, rfl, rfl, rfl⟩ := hrel
    have Hg := Lib.hid hg
    clear hg
    by_cases hlt : k < l.length
    · have hcell := bytesAt_get HB.out k (by simp; omega)
      rw [List.getElem_append_left hlt] at hcell
      have hv := val_snoc (l.take k) l[k]
      rw [← take_succ_snoc l k hlt] at hv
      have hlen : (l.take (k + 1)).length = k + 1 := by simp; omega
      have hlt2 := val_lt (k + 1) (l.take (k + 1)) hlen
      have hpow : 256 ^ (k + 1) ≤ 256 ^ 8 := Nat.pow_le_pow_right (by decide) (by omega)
      have hor := mul_add256 (val (l.take k)) l[k].toNat l[k].toNat_lt (by rw [← hv]; exact Nat.lt_of_lt_of_le hlt2 hpow)
      rw [← hv] at hor
      clear hv hlen hlt2 hpow
      go_wp2_with fail
      go_roundg (gk - 1)
      case measure => have := Hg.out; omega
      case rel => exact ⟨k + 1, by omega, by have := Hg.out; omega, by go_num, rfl, rfl⟩
    · have hkl : k = l.length := by omega
      subst hkl
      go_wp2_with fail
      go_ret2
      exact ⟨by simp, Hbel.out⟩
def getE (l : List UInt8) : Int := if 8 < l.length then 4 else 0
def getN (l : List UInt8) : Nat := if 8 < l.length then 0 else val l
theorem unnumber_all (l : List UInt8) (w : World) :
    Calls Tryz.prog 59 #[.string (S l)] w fun e w' => e = .returned (.tuple #[.int .u64 (getN l : Nat), .int .i64 (getE l)]) ∧ Below w.heap.size w w' := by
  unfold getN getE
  by_cases h : 8 < l.length
  · rw [if_pos h, if_pos h]
    exact (unnumber_limit l w h).mono fun e w' ⟨he, hw⟩ => ⟨he, hw ▸ Below.refl _ _⟩
  · rw [if_neg h, if_neg h]
    exact unnumber_ok l w (by omega)
end Go.Proofs.YtlkikkfbennmnaaGreatDoor
namespace Go.Proofs.YtlkikkfbennmnaaGreatDoor
open Go.RowKit
theorem apartF_names {fs : List Fd} (ha : apartF fs = true) : ∀ i j (hi : i < fs.length) (hj : j < fs.length), i < j → fs[i].nm ≠ fs[j].nm := by
  induction fs with
  | nil => intro i j hi; simp at hi
  | cons f fs ih =>
    intro i j hi hj hij
    obtain ⟨h1, h2⟩ := apartF_cons ha
    cases j with
    | zero => omega
    | succ j =>
      cases i with
      | zero => exact (h1 _ (List.getElem_mem (by simpa using hj))).2
      | succ i => exact ih h2 i j (by simpa using hi) (by simpa using hj) (by omega)
theorem idxName_own {fs : List Fd} (ha : apartF fs = true) (i : Nat) (hi : i < fs.length) : idxName fs fs[i].nm = some i :=
  idxName_first hi (fun j hj => apartF_names ha j i (by omega) hi hj) rfl
theorem names_ne {fs : List Fd} (ha : apartF fs = true) {i j : Nat} (hi : i < fs.length) (hj : j < fs.length) (h : i ≠ j) : fs[i].nm ≠ fs[j].nm := by
  rcases Nat.lt_or_gt_of_ne h with h | h
  · exact apartF_names ha i j hi hj h
  · exact Ne.symm (apartF_names ha j i hj hi h)
end Go.Proofs.YtlkikkfbennmnaaGreatDoor
namespace Go.Proofs.YtlkikkfbennmnaaGreatDoor
open Go.RowKit Go.Maps
theorem keyedI : Keyed Tryz.prog 3 := int_keyed Tryz.underlying3
theorem keyedS : Keyed Tryz.prog 9 := string_keyed Tryz.underlying9
theorem zeroB (w : World) : (zeroValue 4).run Tryz.prog w = .ok (.bool false) w := by kernel_rfl
theorem plainElem_bool_inv {P : Program} {e : TypeId} (he : P.underlying e = some .bool) {v : Value} {z : DataW Unit × List MemPlace} (h : plainElem P e v = some z) : ∃ a, v = .bool a ∧ z = (.lit (.bool a), []) := by
  unfold plainElem at h
  rw [he] at h
  cases v <;> simp at h
  subst h
  exact ⟨_, rfl, rfl⟩
def BMap (k : TypeId) (W : World) (b n : Nat) (f : Lit → Prop) : Prop :=
  ∃ D : DataW Unit, W.ownsMap Tryz.prog k (plainElem Tryz.prog 4) b n D ∧ ∀ kl, (f kl → D.atKey kl (.lit (.bool false)) = .lit (.bool true)) ∧ (¬ f kl → D.atKey kl (.lit (.bool false)) = .lit (.bool false))
theorem BMap.made (k : TypeId) (w : World) : BMap k (w.alloc (.map #[] 0)) w.heap.size 0 (fun _ => False) :=
  ⟨.map [], World.ownsMap_made _ _ _ _, fun _ => ⟨fun h => h.elim, fun _ => rfl⟩⟩
theorem BMap.lt {k : TypeId} {W : World} {b n : Nat} {f : Lit → Prop} (h : BMap k W b n f) : b < W.heap.size := by
  obtain ⟨D, ⟨es, clock, h1, _⟩, _⟩ := h
  exact (Array.getElem?_eq_some_iff.1 h1).1
theorem BMap.same {k : TypeId} {W W' : World} {b n : Nat} {f : Lit → Prop} (h : BMap k W b n f) (hb : W'.heap[b]? = W.heap[b]?) : BMap k W' b n f := by
  obtain ⟨D, ⟨es, clock, h1, h2, h3, h4⟩, hf⟩ := h
  exact ⟨D, ⟨es, clock, by rw [hb]; exact h1, h2, h3, h4⟩, hf⟩
theorem BMap.later {k : TypeId} {W W' : World} {b n : Nat} {f : Lit → Prop} (h : BMap k W b n f) (hb : Below W.heap.size W W') : BMap k W' b n f := h.same (hb.block b h.lt)
theorem BMap.alloc {k : TypeId} {W : World} {b n : Nat} {f : Lit → Prop} (h : BMap k W b n f) (o : Obj) : BMap k (W.alloc o) b n f := h.later ((Below.refl _ _).alloc (Nat.le_refl _) _)
theorem BMap.other {k : TypeId} {W W' : World} {b b' n : Nat} {f : Lit → Prop} (h : BMap k W b n f) (hg : W.grownBy W' (some b')) (hne : b ≠ b') : BMap k W' b n f :=
  h.same (hg.block b h.lt (fun e => hne (Option.some.inj e)))
theorem Blk.otherB {W W' : World} {b b' : Nat} {C : Array Value} {t : TypeId} (h : Blk W b C t) (hg : W.grownBy W' (some b')) (hne : b ≠ b') : Blk W' b C t :=
  (hg.block b h.lt (fun e => hne (Option.some.inj e))).trans h
theorem Below.grownB {B : Nat} {w W W' : World} {b : Nat} (h : Below B w W) (hg : W.grownBy W' (some b)) (hb : B ≤ b) (hB : B ≤ W.heap.size) : Below B w W' :=
  h.trans ⟨hg.os, hg.tape, hg.output, hg.size, fun k hk => hg.block k (Nat.lt_of_lt_of_le hk hB) (fun e => by have := Option.some.inj e; omega)⟩
theorem BMap.look {k t : TypeId} {W : World} {b n : Nat} {f : Lit → Prop} (h : BMap k W b n f) (K : Keyed Tryz.prog k) (ht : Tryz.prog.underlying t = some (.map k 4)) {key : Value} {kl : Lit} (hkey : keyOf Tryz.prog k key = some kl) :
    (f kl → (Instr.lookup t (.map (some b)) key false).run Tryz.prog W = .ok (.bool true) W) ∧ (¬ f kl → (Instr.lookup t (.map (some b)) key false).run Tryz.prog W = .ok (.bool false) W) := by
  obtain ⟨D, hown, hf⟩ := h
  obtain ⟨v, ps, hrun, hv⟩ := hown.lookup K ht (zeroB W) (plainElem_bool Tryz.underlying4 false) hkey
  obtain ⟨x, rfl, hz⟩ := plainElem_bool_inv Tryz.underlying4 hv
  have hx : D.atKey kl (.lit (.bool false)) = .lit (.bool x) := by injection hz
  have lb : ∀ {x y : Bool}, (DataW.lit (.bool x) : DataW Unit) = .lit (.bool y) → x = y := fun h => Lit.bool.inj (DataW.lit.inj h)
  exact ⟨fun h => by obtain rfl := lb (hx.symm.trans ((hf kl).1 h)); exact hrun, fun h => by obtain rfl := lb (hx.symm.trans ((hf kl).2 h)); exact hrun⟩
theorem BMap.put {k t : TypeId} {W : World} {b n : Nat} {f : Lit → Prop} (h : BMap k W b n f) (K : Keyed Tryz.prog k) (ht : Tryz.prog.underlying t = some (.map k 4)) (hn : n < 1000000) {key : Value} {kl : Lit} (hkey : keyOf Tryz.prog k key = some kl) (hl : WideAt.IsKeyLit kl) :
    ∃ w', (Instr.mapUpdate t (.map (some b)) key (.bool true)).run Tryz.prog W = .ok () w' ∧ BMap k w' b (n + 1) (fun x => x = kl ∨ f x) ∧ W.grownBy w' (some b) := by
  obtain ⟨D, hown, hf⟩ := h
  have hM := hown.isMap
  obtain ⟨w', hrun, r1, r2⟩ := hown.update K ht (by unfold maxLen; omega) hkey (plainElem_bool Tryz.underlying4 true)
  refine ⟨w', hrun, ⟨_, r1, fun x => ?_⟩, r2⟩
  by_cases e : x = kl
  · subst e
    exact ⟨fun _ => atKey_put_same hM hl _ _, fun h => absurd (.inl rfl) h⟩
  · rw [atKey_put_other e]
    exact ⟨fun h => (hf x).1 (h.resolve_left e), fun h => (hf x).2 (fun h' => h (.inr h'))⟩
theorem BMap.as {k : TypeId} {W : World} {b n : Nat} {f g : Lit → Prop} (h : BMap k W b n f) (e : ∀ x, f x ↔ g x) : BMap k W b n g := by
  obtain ⟨D, hown, hf⟩ := h
  exact ⟨D, hown, fun kl => ⟨fun h => (hf kl).1 ((e kl).2 h), fun h => (hf kl).2 (fun h' => h ((e kl).1 h'))⟩⟩
theorem BMap.mono {k : TypeId} {W : World} {b n n' : Nat} {f : Lit → Prop} (h : BMap k W b n f) (e : n ≤ n') : BMap k W b n' f := by
  obtain ⟨D, hown, hf⟩ := h
  exact ⟨D, hown.mono e, hf⟩
theorem keyI (n : Nat) (h : n < 1000) : keyOf Tryz.prog 3 (.int .i64 (n : Int)) = some (.int .i64 (n : Int)) :=
  keyOf_int_mk Tryz.underlying3 (by simp [Lit.wf, IntKind.min, IntKind.max, IntKind.signed, IntKind.bits]; omega)
theorem keyS (l : List UInt8) (h : l.length < 1000) : keyOf Tryz.prog 9 (.string (S l)) = some (.string l) := by
  have := Go.WideMaps.keyOf_string_mk (P := Tryz.prog) (k := 9) Tryz.underlying9 (s := S l) (by rw [S_size]; unfold maxLen; omega)
  rw [this]; rfl
/-- a map literal's store -/
theorem wpList_insert_b {P : Program} (w : World) {ops : Array Oper} {rest : List Oper} {o : Oper} {a : Act} {Q : Exit → Act → World → Prop}
    (hg : o.guard = none) (m x v : Operand) (t : TypeId) (hop : o.op = Op.insert t m x v) (w' : World)
    (hrun : (Instr.mapUpdate t (a.eval m) (a.eval x) (a.eval v)).run P w = .ok () w') (hK : wpList P ops Q rest (a.put o.dst undef) w') :
    wpList P ops Q (o :: rest) a w := by
  refine wpList_plain hg fun K' hK' => ?_
  unfold Oper.wp
  simp [execOp, hop, hrun, Result.andThen]
  exact hK' _ _ hK
end Go.Proofs.YtlkikkfbennmnaaGreatDoor
namespace Go.Proofs.YtlkikkfbennmnaaGreatDoor
open Go.RowKit
theorem apartF_pos {fs : List Fd} (ha : apartF fs = true) : ∀ i j (hi : i < fs.length) (hj : j < fs.length), i < j → fs[i].pos + fs[i].sz ≤ fs[j].pos ∨ fs[j].pos + fs[j].sz ≤ fs[i].pos := by
  induction fs with
  | nil => intro i j hi; simp at hi
  | cons f fs ih =>
    intro i j hi hj hij
    obtain ⟨h1, h2⟩ := apartF_cons ha
    cases j with
    | zero => omega
    | succ j =>
      cases i with
      | zero => exact (h1 _ (List.getElem_mem (by simpa using hj))).1
      | succ i => exact ih h2 i j (by simpa using hi) (by simpa using hj) (by omega)
def LI (n : Nat) : Lit := .int .i64 (n : Int)
theorem LI_inj {a b : Nat} (h : LI a = LI b) : a = b := by
  have := (Lit.int.inj h).2
  omega
def lowP (i : Nat) : Prop := i = 0 ∨ i = 1 ∨ (4 ≤ i ∧ i < 8)
def seenF (fs : List Fd) (j : Nat) (kl : Lit) : Prop := ∃ i : Nat, kl = LI i ∧ (lowP i ∨ ∃ x, ∃ hx : x < fs.length, x < j ∧ inF (fs[x]'hx) i)
def partF (fs : List Fd) (j : Nat) (f : Fd) (y : Nat) (kl : Lit) : Prop := seenF fs j kl ∨ ∃ i : Nat, kl = LI i ∧ f.pos ≤ i ∧ i < y
def nameF (fs : List Fd) (j : Nat) (kl : Lit) : Prop := ∃ x, ∃ hx : x < fs.length, x < j ∧ kl = .string (fs[x]'hx).nm
theorem seen_start (fs : List Fd) (x : Lit) : (x = LI 7 ∨ x = LI 6 ∨ x = LI 5 ∨ x = LI 4 ∨ x = LI 1 ∨ x = LI 0 ∨ False) ↔ seenF fs 0 x := by
  constructor
  · rintro (h | h | h | h | h | h | h)
    · exact ⟨7, h, .inl (.inr (.inr (by omega)))⟩
    · exact ⟨6, h, .inl (.inr (.inr (by omega)))⟩
    · exact ⟨5, h, .inl (.inr (.inr (by omega)))⟩
    · exact ⟨4, h, .inl (.inr (.inr (by omega)))⟩
    · exact ⟨1, h, .inl (.inr (.inl rfl))⟩
    · exact ⟨0, h, .inl (.inl rfl)⟩
    · exact h.elim
  · rintro ⟨i, rfl, (h | h | h) | ⟨_, _, h, _⟩⟩
    · subst h; simp
    · subst h; simp
    · have : i = 4 ∨ i = 5 ∨ i = 6 ∨ i = 7 := by omega
      rcases this with rfl | rfl | rfl | rfl <;> simp
    · omega
theorem part_start (fs : List Fd) (j : Nat) (f : Fd) (x : Lit) : seenF fs j x ↔ partF fs j f f.pos x := by
  constructor
  · exact .inl
  · rintro (h | ⟨i, _, h1, h2⟩)
    · exact h
    · omega
theorem part_step (fs : List Fd) (j : Nat) (f : Fd) (y : Nat) (hy : f.pos ≤ y) (x : Lit) : (x = LI y ∨ partF fs j f y x) ↔ partF fs j f (y + 1) x := by
  constructor
  · rintro (h | h | ⟨i, h, h1, h2⟩)
    · exact .inr ⟨y, h, hy, by omega⟩
    · exact .inl h
    · exact .inr ⟨i, h, h1, by omega⟩
  · rintro (h | ⟨i, h, h1, h2⟩)
    · exact .inr (.inl h)
    · by_cases e : i = y
      · subst e; exact .inl h
      · exact .inr (.inr ⟨i, h, h1, by omega⟩)
theorem part_end (fs : List Fd) (j : Nat) (hj : j < fs.length) (f : Fd) (hf : fs[j] = f) (x : Lit) : partF fs j f (f.pos + f.sz) x ↔ seenF fs (j + 1) x := by
  subst hf
  constructor
  · rintro (⟨i, h, h1 | ⟨z, hz, hzj, hin⟩⟩ | ⟨i, h, h1, h2⟩)
    · exact ⟨i, h, .inl h1⟩
    · exact ⟨i, h, .inr ⟨z, hz, by omega, hin⟩⟩
    · exact ⟨i, h, .inr ⟨j, hj, by omega, h1, h2⟩⟩
  · rintro ⟨i, h, h1 | ⟨z, hz, hzj, hin⟩⟩
    · exact .inl ⟨i, h, .inl h1⟩
    · by_cases e : z = j
      · subst e; exact .inr ⟨i, h, hin.1, hin.2⟩
      · exact .inl ⟨i, h, .inr ⟨z, hz, by omega, hin⟩⟩
theorem part_not {k : Kd} (K : KindFacts k) (j : Nat) (hj : j < k.fs.length) (f : Fd) (hf : k.fs[j] = f) (y : Nat) (h1 : f.pos ≤ y) (h2 : y < f.pos + f.sz) : ¬ partF k.fs j f y (LI y) := by
  subst hf
  have F := K.fok _ (List.getElem_mem hj)
  rintro (⟨i, h, hl | ⟨z, hz, hzj, hin⟩⟩ | ⟨i, h, h3, h4⟩)
  · obtain rfl := LI_inj h
    unfold lowP at hl
    omega
  · obtain rfl := LI_inj h
    have := apartF_pos K.apart z j hz hj hzj
    obtain ⟨h3, h4⟩ := hin
    omega
  · obtain rfl := LI_inj h
    omega
theorem name_step (fs : List Fd) (j : Nat) (hj : j < fs.length) (f : Fd) (hf : fs[j] = f) (x : Lit) : (x = .string f.nm ∨ nameF fs j x) ↔ nameF fs (j + 1) x := by
  subst hf
  constructor
  · rintro (h | ⟨z, hz, hzj, h⟩)
    · exact ⟨j, hj, by omega, h⟩
    · exact ⟨z, hz, by omega, h⟩
  · rintro ⟨z, hz, hzj, h⟩
    by_cases e : z = j
    · subst e; exact .inl h
    · exact .inr ⟨z, hz, by omega, h⟩
theorem name_not {fs : List Fd} (ha : apartF fs = true) (j : Nat) (hj : j < fs.length) (f : Fd) (hf : fs[j] = f) : ¬ nameF fs j (.string f.nm) := by
  subst hf
  rintro ⟨z, hz, hzj, h⟩
  exact apartF_names ha z j hz hj hzj (Lit.string.inj h).symm
theorem name_itt {k : Kd} (K : KindFacts k) : nameF k.fs k.fs.length (.string [73, 84, 84]) := by
  obtain ⟨i, hi⟩ := K.itt
  exact ⟨i, idxName_lt hi, idxName_lt hi, by rw [idxName_at hi]⟩
theorem part_name_lt {k : Kd} (K : KindFacts k) {f : Fd} (hf : f ∈ k.fs) : f.nm.length < 1000 ∧ f.nm ≠ [] := by
  have := K.fok f hf
  exact ⟨by omega, fun h => by rw [h] at this; simp at this⟩
end Go.Proofs.YtlkikkfbennmnaaGreatDoor
namespace Go.Proofs.YtlkikkfbennmnaaGreatDoor
open Go.RowKit
def RetRR (w : World) (r : Hd × Nat × Nat × Int) (e : Ending) (w' : World) : Prop :=
  ∃ v, e = .returned (.tuple #[headV r.1 v, .int .i64 (r.2.1 : Int), .int .i64 (r.2.2.1 : Int), .int .i64 r.2.2.2]) ∧ Vals w' v r.1.vs ∧ Below w.heap.size w w'
theorem refRead_few (s : List UInt8) (w : World) (h : s.length ≠ 48) (_hl : s.length ≤ 140737488351232) : Calls Tryz.prog 88 #[.string (S s)] w (RetRR w (hd0, 0, 0, 7)) := by
  have hne : ((s.length : Int) != 48) = true := by rw [bne_iff_ne]; omega
  clear h
  go_enter Tryz.func88, Tryz.ntmps88
  go_wp2_with fail
  refine bodyPost_ret (v := .tuple #[headV hd0 (.slice none 0 0), .int .i64 0, .int .i64 0, .int .i64 7]) (by simp [results, Tryz.results88, go_sem, headV, hd0]) rfl ⟨_, rfl, vals_nil _, ?_⟩
  exact (Below.refl _ _).alloc (Nat.le_refl _) _
theorem refRead_high (s : List UInt8) (w : World) (hl : s.length = 48) (hl0 : 0 < s.length) (h : 128 ≤ (s[0]'hl0).toNat) : Calls Tryz.prog 88 #[.string (S s)] w (RetRR w (hd0, 0, 0, 3)) := by
  have hne : ((s.length : Int) != 48) = false := by rw [hl]; rfl
  obtain ⟨b0, hb0⟩ : ∃ b, s[0]'hl0 = b := ⟨_, rfl⟩
  rw [hb0] at h
  have hq : ((b0.toNat : Int) / 128 % 256 == 1) = true := by have := b0.toNat_lt; rw [beq_iff_eq]; omega
  clear h hl
  go_enter Tryz.func88, Tryz.ntmps88
  go_wp2_with fail
  refine bodyPost_ret (v := .tuple #[headV hd0 (.slice none 0 0), .int .i64 0, .int .i64 0, .int .i64 3]) (by simp [results, Tryz.results88, go_sem, headV, hd0]) rfl ⟨_, rfl, vals_nil _, ?_⟩
  exact (Below.refl _ _).alloc (Nat.le_refl _) _
theorem refRead_none (s : List UInt8) (w : World) (hl : s.length = 48) (hl0 : 0 < s.length) (h : (s[0]'hl0).toNat < 128) (hk : kindOf (((s[0]'hl0).toNat % 64 : Nat) : Int) = none) : Calls Tryz.prog 88 #[.string (S s)] w (RetRR w (hd0, 0, 0, 1)) := by
  have hne : ((s.length : Int) != 48) = false := by rw [hl]; rfl
  obtain ⟨b0, hb0⟩ : ∃ b, s[0]'hl0 = b := ⟨_, rfl⟩
  rw [hb0] at h hk
  have hq : ((b0.toNat : Int) / 128 % 256 == 1) = false := by rw [beq_eq_false_iff_ne]; omega
  have e64 : ((b0.toNat % 64 : Nat) : Int) = (b0.toNat : Int) % 64 := by omega
  have hr : (b0.toNat : Int) % 64 ≤ 63 := by omega
  have hr0 : 0 ≤ (b0.toNat : Int) % 64 := by omega
  have C := refKind_any ((b0.toNat % 64 : Nat) : Int) (w.alloc (.cells #[.int .i64 0, .bool false, .int .i64 0, .slice none 0 0] 42))
  rw [hk, e64] at C
  have HC := Lib.hid C
  have hk0 := Lib.hid (Blk.new w #[.int .i64 0, .bool false, .int .i64 0, .slice none 0 0] 42)
  have Hb0 := Lib.hid ((Below.refl w.heap.size w).alloc (Nat.le_refl _) (.cells #[.int .i64 0, .bool false, .int .i64 0, .slice none 0 0] 42))
  clear h hl hk C e64
  go_enter Tryz.func88, Tryz.ntmps88
  go_wp2_with fail
  refine HC.out.mono ?_
  rintro e w1 ⟨rfl, hb⟩
  have hkk := hk0.out.later hb
  obtain ⟨q0, q1, q2, q3⟩ := hkk.four
  have f0 := hkk.frozen 0
  have f1 := hkk.frozen 1
  have f2 := hkk.frozen 2
  have f3 := hkk.frozen 3
  have Hb := Lib.hid (below_then Hb0.out hb)
  clear hb hkk
  go_wp2_with fail
  refine bodyPost_ret (v := .tuple #[headV hd0 (.slice none 0 0), .int .i64 0, .int .i64 0, .int .i64 1]) (by simp [results, Tryz.results88, go_sem, headV, hd0, q0, q1, q2, q3]) rfl ⟨_, rfl, vals_nil _, ?_⟩
  exact (((Hb.out.setCell (Nat.le_refl _) _).setCell (Nat.le_refl _) _).setCell (Nat.le_refl _) _).setCell (Nat.le_refl _) _
end Go.Proofs.YtlkikkfbennmnaaGreatDoor
namespace Go.Proofs.YtlkikkfbennmnaaGreatDoor
open Go.RowKit
def numsV (l : List Nat) : List Value := l.map fun (x : Nat) => .int .u64 (x : Int)
def NBuf (base : Nat) (W : World) (v : Value) (l : List Nat) : Prop := W.ownsRow base 105 1 v l.length (numsV l)
theorem NBuf.nil (base : Nat) (W : World) : NBuf base W (.slice none 0 0) [] := World.ownsRow_nil W base 105 1
theorem NBuf.alloc {base : Nat} {W : World} {v : Value} {l : List Nat} (h : NBuf base W v l) (o : Obj) : NBuf base (W.alloc o) v l := World.ownsRow.alloc h o
theorem NBuf.drewN {base : Nat} {W : World} {v : Value} {l : List Nat} (h : NBuf base W v l) (n : Nat) : NBuf base (W.drewN n) v l := h
theorem NBuf.later {base : Nat} {W W' : World} {v : Value} {l : List Nat} (h : NBuf base W v l) (hb : Below W.heap.size W W') : NBuf base W' v l := by
  refine World.ownsRow.kept (row := none) h ⟨hb.os, hb.tape, hb.output, hb.size, fun k hk _ => hb.block k hk⟩ ?_
  cases hv : v.ownBlock with
  | none => exact .inl rfl
  | some k => exact .inr (by simp)
theorem NBuf.other {base b : Nat} {W W' : World} {v : Value} {l : List Nat} (h : NBuf base W v l) (hg : W.grownBy W' (some b)) (hb : b < base) : NBuf base W' v l := by
  refine World.ownsRow.kept h hg ?_
  cases hv : v.ownBlock with
  | none => exact .inl rfl
  | some k => exact .inr (fun e => by have := (World.ownsRow.lt h k hv).1; have := Option.some.inj e; omega)
theorem grownBy_setCell (W : World) (a : Addr) (u : Value) : W.grownBy (W.setCell a u) (some a.block) :=
  ⟨rfl, rfl, rfl, by simp, fun k _ hne => by
    have hk : k ≠ a.block := fun e => hne (by rw [e])
    exact Below.heap_setCell W a u k hk⟩
theorem NBuf.set {base : Nat} {W : World} {v : Value} {l : List Nat} (h : NBuf base W v l) {a : Addr} (hb : a.block < base) (u : Value) : NBuf base (W.setCell a u) v l := h.other (grownBy_setCell W a u) hb
theorem NBuf.form {base : Nat} {W : World} {v : Value} {l : List Nat} (h : NBuf base W v l) : ∃ p cap, v = .slice p l.length cap := by
  rcases h.2 with ⟨rfl, h0⟩ | ⟨g, cap, cur, hv, _⟩
  · exact ⟨none, 0, by rw [h0]⟩
  · exact ⟨_, _, hv⟩
theorem NBuf.vals {base : Nat} {W : World} {v : Value} {l : List Nat} (h : NBuf base W v l) (hx : ∀ x ∈ l, x < 2 ^ 64) : Vals W v l := by
  rcases h.2 with ⟨rfl, h0⟩ | ⟨g, cap, cur, rfl, hbg, hg, hnc, hcm, hcs, htake⟩
  · obtain rfl : l = [] := List.eq_nil_of_length_eq_zero h0
    exact vals_nil W
  · refine ⟨_, _, rfl, hx, fun _ => ⟨g, 0, rfl, fun j hj => ?_⟩⟩
    have h2 := World.ownsRow.cells h (g := g) rfl j (.int .u64 (l[j] : Int)) (by simp [numsV, List.getElem?_eq_getElem hj])
    rw [Nat.zero_add]
    have e1 : (⟨g, 0, none⟩ : Addr).add j = ⟨g, j, none⟩ := by simp [Addr.add]; omega
    rw [e1] at h2
    exact h2
theorem Blk.grown {W W' : World} {b : Nat} {C : Array Value} {t : TypeId} {row : Option Nat} (h : Blk W b C t) (hg : W.grownBy W' row) (hne : ∀ k, row = some k → b ≠ k) : Blk W' b C t :=
  (hg.block b h.lt (fun e => hne b e.symm rfl)).trans h
theorem NBuf.ge {base : Nat} {W : World} {v : Value} {l : List Nat} (h : NBuf base W v l) : ∀ k, v.ownBlock = some k → base ≤ k := fun k hk => (World.ownsRow.lt h k hk).1
theorem own_form {W : World} {base : Nat} {e : TypeId} {size : Nat} {v : Value} {n : Nat} {xs : List Value} (h : W.ownsRow base e size v n xs) : ∃ p c, v = .slice p n c := by
  rcases h.2 with ⟨rfl, h0⟩ | ⟨g, cap, cur, hv, _⟩
  · exact ⟨none, 0, by rw [h0]⟩
  · exact ⟨_, _, hv⟩
theorem infoU : ∃ i, Tryz.prog.info? 105 = some i ∧ i.zero = some (.int .u64 0) ∧ i.size = 1 ∧ i.bytes = 8 := info_parts (show (Tryz.prog.info? 105).map (fun i => (i.zero, i.size, i.bytes)) = some (some (.int .u64 0), 1, 8) by kernel_rfl)
theorem app_sides (x : Nat) (wu : World) (n base : Nat) (hn : n ≤ 10) (hb : base ≤ wu.heap.size) :
    Hid (∀ j u, ([.int .u64 (x : Int)] : List Value)[j]? = some u → (wu.alloc (.cells #[.int .u64 (x : Int)] 105)).cell? ((⟨wu.heap.size, 0, none⟩ : Addr).add j) = some u) ∧ Hid (∀ u ∈ ([.int .u64 (x : Int)] : List Value), u.oneCell' = true) ∧ Hid (n + 1 ≤ maxLen) ∧ Hid ((n + 1) * 8 ≤ 140737488355328) ∧ Hid (base ≤ (wu.alloc (.cells #[.int .u64 (x : Int)] 105)).heap.size) := by
  refine ⟨Lib.hid ?_, Lib.hid ?_, Lib.hid (by unfold maxLen; omega), Lib.hid (by omega), Lib.hid (by simp; omega)⟩
  · intro j u h
    cases j with
    | zero =>
      cases h
      simp [Addr.add]
    | succ j => simp at h
  · intro u hu
    rw [List.mem_singleton.1 hu]
    rfl
theorem rd_kept {base hb : Nat} {W W' : World} {v : Value} {l : List Nat} {C : Array Value} {t : TypeId} (hN : NBuf base W v l) (hK : Blk W hb C t) (hg : W.grownBy W' v.ownBlock) (h : hb < base) : Blk W' hb C t :=
  hK.grown hg (fun k hk => by have := hN.ge k hk; omega)
end Go.Proofs.YtlkikkfbennmnaaGreatDoor
namespace Go.Proofs.YtlkikkfbennmnaaGreatDoor
open Go.RowKit
theorem readR_is {s : List UInt8} {k : Kd} (hl : s.length = 48) {b0 b1 : UInt8} (h0 : s[0]? = some b0) (h1 : s[1]? = some b1) (hlt : b0.toNat < 128) (hk : kindOf ((b0.toNat % 64 : Nat) : Int) = some k) :
    ((64 ≤ b0.toNat → b0.toNat % 64 < 32) ∧ b1.toNat ||| k.fl = k.fl ∧ (∀ i, i < 48 → ¬ freeK k i → s.getD i 0 = 0) → readR s = (⟨(b0.toNat : Int) % 64, decide (64 ≤ b0.toNat), (b1.toNat : Int), readVs k.fs s⟩, readW s, readD s, 0)) ∧
    (¬ ((64 ≤ b0.toNat → b0.toNat % 64 < 32) ∧ b1.toNat ||| k.fl = k.fl ∧ (∀ i, i < 48 → ¬ freeK k i → s.getD i 0 = 0)) → readR s = (hd0, 0, 0, 3)) := by
  have e0 := getD_some h0
  have e1 := getD_some h1
  have hw := write_read hl (by rw [e0]; exact hlt) (by rw [e0]; exact hk)
  rw [e0, e1] at hw
  have eH : readH k s = ⟨(b0.toNat : Int) % 64, decide (64 ≤ b0.toNat), (b1.toNat : Int), readVs k.fs s⟩ := by unfold readH; rw [e0, e1]; rfl
  have e : readR s = if writeR (readH k s) (readW s) (readD s) = (s, 0, -1) then (readH k s, readW s, readD s, 0) else (hd0, 0, 0, 3) := by
    unfold readR
    rw [if_neg (by omega), e0, if_neg (by omega), hk]
  constructor
  · intro h
    rw [e, if_pos (hw.2 h), eH]
  · intro h
    rw [e, if_neg (fun h' => h (hw.1 h'))]
theorem or_int (a m : Nat) (ha : a < 256) (hm : m < 256) : bits .or .i64 (a : Int) (m : Int) = m ↔ a ||| m = m := by
  have h := or_fl (a : Int) m hm (by omega) (by omega)
  rw [h]
  unfold flOk
  simp
  exact (nat_or_eq a m).symm
set_option maxRecDepth 100000 in
theorem refRead_form (s : List UInt8) (k : Kd) (w : World) (hl : s.length = 48) (hl0 : 0 < s.length) (hl1 : 1 < s.length) (h : (s[0]'hl0).toNat < 128) (hk : kindOf (((s[0]'hl0).toNat % 64 : Nat) : Int) = some k)
    (hbad : ¬ ((64 ≤ (s[0]'hl0).toNat → (s[0]'hl0).toNat % 64 < 32) ∧ (s[1]'hl1).toNat ||| k.fl = k.fl)) : Calls Tryz.prog 88 #[.string (S s)] w (RetRR w (hd0, 0, 0, 3)) := by
  have hne : ((s.length : Int) != 48) = false := by rw [hl]; rfl
  obtain ⟨b0, hb0⟩ : ∃ b, s[0]'hl0 = b := ⟨_, rfl⟩
  obtain ⟨b1, hb1⟩ : ∃ b, s[1]'hl1 = b := ⟨_, rfl⟩
  rw [hb0] at h hk hbad
  rw [hb1] at hbad
  have F := kindFacts hk
  have hq : ((b0.toNat : Int) / 128 % 256 == 1) = false := by rw [beq_eq_false_iff_ne]; omega
  have e64 : ((b0.toNat % 64 : Nat) : Int) = (b0.toNat : Int) % 64 := by omega
  have hr : (b0.toNat : Int) % 64 ≤ 63 := by omega
  have hr0 : 0 ≤ (b0.toNat : Int) % 64 := by omega
  have hb1l : (b1.toNat : Int) < 256 := by have := b1.toNat_lt; omega
  have C := refKind_any ((b0.toNat % 64 : Nat) : Int) (w.alloc (.cells #[.int .i64 0, .bool false, .int .i64 0, .slice none 0 0] 42))
  rw [hk, e64] at C
  have HC := Lib.hid C
  have hk0 := Lib.hid (Blk.new w #[.int .i64 0, .bool false, .int .i64 0, .slice none 0 0] 42)
  have Hb0 := Lib.hid ((Below.refl w.heap.size w).alloc (Nat.le_refl _) (.cells #[.int .i64 0, .bool false, .int .i64 0, .slice none 0 0] 42))
  have hcase : (((b0.toNat : Int) / 64 % 256 == 1) = true ∧ (32 : Int) ≤ (b0.toNat : Int) % 64) ∨ (((b0.toNat : Int) / 64 % 256 == 1) = true ∧ (b0.toNat : Int) % 64 < 32 ∧ (bits .or .i64 (b1.toNat : Int) (k.fl : Int) != k.fl) = true) ∨ (((b0.toNat : Int) / 64 % 256 == 1) = false ∧ (bits .or .i64 (b1.toNat : Int) (k.fl : Int) != k.fl) = true) := by
    have hno : (64 ≤ b0.toNat → b0.toNat % 64 < 32) → (bits .or .i64 (b1.toNat : Int) (k.fl : Int) != k.fl) = true := fun hn => by
      rw [bne_iff_ne]
      intro e
      exact hbad ⟨hn, (or_int b1.toNat k.fl (by have := b1.toNat_lt; omega) F.fl).1 e⟩
    by_cases h64 : 64 ≤ b0.toNat
    · have e1 : ((b0.toNat : Int) / 64 % 256 == 1) = true := by rw [beq_iff_eq]; omega
      by_cases h32 : b0.toNat % 64 < 32
      · exact .inr (.inl ⟨e1, by omega, hno (fun _ => h32)⟩)
      · exact .inl ⟨e1, by omega⟩
    · exact .inr (.inr ⟨by rw [beq_eq_false_iff_ne]; omega, hno (fun h => absurd h h64)⟩)
  clear h hl hk C e64 hbad F
  rcases hcase with ⟨g1, g2⟩ | ⟨g1, g2, g3⟩ | ⟨g1, g3⟩
  all_goals
    go_enter Tryz.func88, Tryz.ntmps88
    go_wp2_with fail
    refine HC.out.mono ?_
    rintro e w1 ⟨bf, rfl, hF, hb⟩
    have hkk := hk0.out.later hb
    obtain ⟨q0, q1, q2, q3⟩ := hkk.four
    have f0 := hkk.frozen 0
    have f1 := hkk.frozen 1
    have f2 := hkk.frozen 2
    have f3 := hkk.frozen 3
    have Hb := Lib.hid (below_then Hb0.out hb)
    clear hb hkk hF
    go_wp2_with fail
    refine bodyPost_ret (v := .tuple #[headV hd0 (.slice none 0 0), .int .i64 0, .int .i64 0, .int .i64 3]) (by simp [results, Tryz.results88, go_sem, headV, hd0, q0, q1, q2, q3]) rfl ⟨_, rfl, vals_nil _, ?_⟩
    exact (((Hb.out.setCell (Nat.le_refl _) _).setCell (Nat.le_refl _) _).setCell (Nat.le_refl _) _).setCell (Nat.le_refl _) _
end Go.Proofs.YtlkikkfbennmnaaGreatDoor
namespace Go.Proofs.YtlkikkfbennmnaaGreatDoor
open Go.RowKit
/-- what stays through the reference's loops: the fields, the head with the values so far, what was there -/
structure RdS (w : World) (hb M bf base : Nat) (op fl : Int) (now : Bool) (k : Kd) (s : List UInt8) (j : Nat) (W : World) : Prop where
  fld : Flds W bf k.fs
  own : ∃ v, Blk W hb #[.int .i64 op, .bool now, .int .i64 fl, v] 42 ∧ NBuf base W v ((readVs k.fs s).take j)
  low : Below w.heap.size w W
  big : base ≤ W.heap.size
structure RdB (w : World) (hb M bf base : Nat) : Prop where
  h0 : w.heap.size ≤ hb
  m0 : w.heap.size ≤ M
  hB : hb < base
  mB : M < base
  fB : bf < base
  hM : hb ≠ M
  fM : bf ≠ M
  hf : bf ≠ hb
theorem RdS.later {w : World} {hb M bf base : Nat} {op fl : Int} {now : Bool} {k : Kd} {s : List UInt8} {j : Nat} {W W' : World} (h : RdS w hb M bf base op fl now k s j W) (hbl : Below W.heap.size W W') : RdS w hb M bf base op fl now k s j W' :=
  ⟨Blk.later h.fld hbl, h.own.imp fun _ hv => ⟨hv.1.later hbl, hv.2.later hbl⟩, below_then h.low hbl, Nat.le_trans h.big hbl.size⟩
theorem RdS.alloc {w : World} {hb M bf base : Nat} {op fl : Int} {now : Bool} {k : Kd} {s : List UInt8} {j : Nat} {W : World} (h : RdS w hb M bf base op fl now k s j W) (o : Obj) : RdS w hb M bf base op fl now k s j (W.alloc o) :=
  h.later ((Below.refl _ _).alloc (Nat.le_refl _) o)
theorem RdS.map {w : World} {hb M bf base : Nat} {op fl : Int} {now : Bool} {k : Kd} {s : List UInt8} {j : Nat} {W W' : World} (h : RdS w hb M bf base op fl now k s j W) (hB : RdB w hb M bf base) (hg : W.grownBy W' (some M)) : RdS w hb M bf base op fl now k s j W' :=
  ⟨Blk.otherB h.fld hg hB.fM, h.own.imp fun _ hv => ⟨hv.1.otherB hg hB.hM, hv.2.other hg hB.mB⟩, Below.grownB h.low hg hB.m0 h.low.size, Nat.le_trans h.big hg.size⟩
theorem rd_start {w u : World} {hb M bf : Nat} {k : Kd} (s : List UInt8) {x0 x1 x2 x3 : Value} (op fl : Int) (now : Bool) (hM : BMap 3 u M 6 (seenF k.fs 0)) (hF : Flds u bf k.fs) (hK : Blk u hb #[x0, x1, x2, x3] 42) (hB : Below w.heap.size w u) (B : RdB w hb M bf u.heap.size) :
    BMap 3 ((((u.setCell ⟨hb, 0, none⟩ (.int .i64 op)).setCell ⟨hb, 1, none⟩ (.bool now)).setCell ⟨hb, 2, none⟩ (.int .i64 fl)).setCell ⟨hb, 3, none⟩ (.slice none 0 0)) M 6 (seenF k.fs 0) ∧
    RdS w hb M bf u.heap.size op fl now k s 0 ((((u.setCell ⟨hb, 0, none⟩ (.int .i64 op)).setCell ⟨hb, 1, none⟩ (.bool now)).setCell ⟨hb, 2, none⟩ (.int .i64 fl)).setCell ⟨hb, 3, none⟩ (.slice none 0 0)) := by
  have hh := B.hM
  refine ⟨(((hM.other (grownBy_setCell _ ⟨hb, 0, none⟩ _) hh.symm).other (grownBy_setCell _ ⟨hb, 1, none⟩ _) hh.symm).other (grownBy_setCell _ ⟨hb, 2, none⟩ _) hh.symm).other (grownBy_setCell _ ⟨hb, 3, none⟩ _) hh.symm, ?_, ⟨.slice none 0 0, ?_, NBuf.nil _ _⟩, ?_, by simp⟩
  · exact (((Blk.other hF B.hf _).other B.hf _).other B.hf _).other B.hf _
  · have := (((hK.set 0 (.int .i64 op)).set 1 (.bool now)).set 2 (.int .i64 fl)).set 3 (.slice none 0 0)
    simpa using this
  · exact (((hB.setCell B.h0 _).setCell B.h0 _).setCell B.h0 _).setCell B.h0 _
theorem RdS.drew {w : World} {hb M bf base : Nat} {op fl : Int} {now : Bool} {k : Kd} {s : List UInt8} {j : Nat} {W : World} (h : RdS w hb M bf base op fl now k s j W) (n : Nat) : RdS w hb M bf base op fl now k s j (W.drewN n) :=
  ⟨h.fld, h.own, below_drewN h.low n, h.big⟩
theorem blk_apart {W : World} {b b' : Nat} {C C' : Array Value} {t t' : TypeId} (h : Blk W b C t) (h' : Blk W b' C' t') (hne : t ≠ t') : b ≠ b' := fun e => by
  subst e
  have := Option.some.inj (h.symm.trans h')
  injection this with _ ht _
  exact hne ht
theorem readVs_succ (fs : List Fd) (s : List UInt8) (j : Nat) (hj : j < fs.length) : (readVs fs s).take (j + 1) = (readVs fs s).take j ++ [val (cutB s fs[j].pos fs[j].sz)] := by
  rw [List.take_succ_eq_append_getElem (by rw [readVs_len]; exact hj)]
  simp [readVs]
theorem readVs_lt {k : Kd} (F : KindFacts k) (s : List UInt8) : ∀ x ∈ readVs k.fs s, x < 2 ^ 64 := by
  intro x hx
  obtain ⟨f, hf, rfl⟩ := List.mem_map.1 hx
  obtain ⟨_, _, _, h8, _⟩ := F.fok f hf
  have hl : (cutB s f.pos f.sz).length ≤ f.sz := by simp [cutB]; omega
  have h1 := val_lt _ (cutB s f.pos f.sz) rfl
  refine Nat.lt_of_lt_of_le h1 ?_
  have : 256 ^ (cutB s f.pos f.sz).length ≤ 256 ^ 8 := Nat.pow_le_pow_right (by decide) (by omega)
  exact this
theorem seen_free (k : Kd) (i : Nat) : seenF k.fs k.fs.length (LI i) ↔ freeK k i := by
  unfold seenF freeK lowP
  constructor
  · rintro ⟨i', e, h⟩
    obtain rfl := LI_inj e
    rcases h with h | ⟨x, hx, _, hin⟩
    · omega
    · exact .inr (.inr (.inr ⟨_, List.getElem_mem hx, hin⟩))
  · intro h
    refine ⟨i, rfl, ?_⟩
    rcases h with h | h | h | ⟨f, hf, hin⟩
    · exact .inl (.inl h)
    · exact .inl (.inr (.inl h))
    · exact .inl (.inr (.inr h))
    · obtain ⟨x, hx, rfl⟩ := List.mem_iff_getElem.1 hf
      exact .inr ⟨x, hx, hx, hin⟩
theorem unnumber_cut (s : List UInt8) (o n : Nat) (w : World) (hn : n ≤ 8) : Calls Tryz.prog 59 #[.string (S ((s.drop o).take n))] w fun e w' => e = .returned (.tuple #[.int .u64 (val (cutB s o n) : Nat), .int .i64 0]) ∧ Below w.heap.size w w' :=
  unnumber_ok _ w (by simp; omega)
theorem rd_step {w : World} {hb M bf base : Nat} {op fl : Int} {now : Bool} {k : Kd} {s : List UInt8} {j : Nat} {W W' : World} {v v' : Value} {L : List Nat} {x : Nat} {n' : Nat} {P : Lit → Prop}
    (hN : NBuf base W v L) (hO : W'.ownsRow base 105 1 v' (L.length + 1) (numsV L ++ [.int .u64 (x : Int)])) (hg : W.grownBy W' v.ownBlock) (hK : Blk W hb #[.int .i64 op, .bool now, .int .i64 fl, v] 42)
    (hR : RdS w hb M bf base op fl now k s j W) (hM : BMap 3 W M n' P) (B : RdB w hb M bf base) (hvs : (readVs k.fs s).take (j + 1) = L ++ [x]) :
    BMap 3 (W'.setCell ⟨hb, 3, none⟩ v') M n' P ∧ RdS w hb M bf base op fl now k s (j + 1) (W'.setCell ⟨hb, 3, none⟩ v') := by
  have hge : ∀ k, v.ownBlock = some k → base ≤ k := hN.ge
  have kept : ∀ {b : Nat} {C : Array Value} {t : TypeId}, b < base → Blk W b C t → Blk W' b C t := fun hb h => h.grown hg (fun k hk => by have := hge k hk; omega)
  have hM1 : BMap 3 W' M n' P := hM.same (hg.block M hM.lt (fun e => by have := hge M e.symm; have := B.mB; omega))
  have hN1 : NBuf base W' v' (L ++ [x]) := by
    unfold NBuf
    have e1 : (L ++ [x]).length = L.length + 1 := by simp
    have e2 : numsV (L ++ [x]) = numsV L ++ [.int .u64 (x : Int)] := by simp [numsV]
    rw [e1, e2]
    exact hO
  have hK1 := kept B.hB hK
  refine ⟨hM1.other (grownBy_setCell _ ⟨hb, 3, none⟩ _) B.hM.symm, Blk.other (kept B.fB hR.fld) B.hf _, ⟨v', ?_, ?_⟩, ?_, ?_⟩
  · have := hK1.set 3 v'
    simpa using this
  · rw [hvs]
    exact hN1.set (a := ⟨hb, 3, none⟩) B.hB v'
  · have hlw : w.heap.size ≤ base := by have := B.h0; have := B.hB; omega
    refine ((hR.low.grown hg hR.low.size (fun k hk => by have := hge k hk; omega))).setCell B.h0 _
  · have := hg.size
    have := hR.big
    simp; omega
set_option maxRecDepth 100000 in
set_option maxHeartbeats 4000000 in
theorem refRead_some (s : List UInt8) (k : Kd) (w : World) (hl : s.length = 48) (hl0 : 0 < s.length) (hl1 : 1 < s.length) (h : (s[0]'hl0).toNat < 128) (hk : kindOf (((s[0]'hl0).toNat % 64 : Nat) : Int) = some k)
    (hg1 : 64 ≤ (s[0]'hl0).toNat → (s[0]'hl0).toNat % 64 < 32) (hg2 : (s[1]'hl1).toNat ||| k.fl = k.fl) : Calls Tryz.prog 88 #[.string (S s)] w (RetRR w (readR s)) := by
  have hne : ((s.length : Int) != 48) = false := by rw [hl]; rfl
  obtain ⟨b0, hb0⟩ : ∃ b, s[0]'hl0 = b := ⟨_, rfl⟩
  obtain ⟨b1, hb1⟩ : ∃ b, s[1]'hl1 = b := ⟨_, rfl⟩
  rw [hb0] at h hk hg1
  rw [hb1] at hg2
  have F := kindFacts hk
  have HRR := Lib.hid (readR_is hl (by rw [List.getElem?_eq_getElem hl0, hb0]) (by rw [List.getElem?_eq_getElem hl1, hb1]) h hk)
  have HG := Lib.hid (show _ ∧ _ from ⟨hg1, hg2⟩)
  have hq : ((b0.toNat : Int) / 128 % 256 == 1) = false := by rw [beq_eq_false_iff_ne]; omega
  have e64 : ((b0.toNat % 64 : Nat) : Int) = (b0.toNat : Int) % 64 := by omega
  have hr : (b0.toNat : Int) % 64 ≤ 63 := by omega
  have hr0 : 0 ≤ (b0.toNat : Int) % 64 := by omega
  have hb1l : (b1.toNat : Int) < 256 := by have := b1.toNat_lt; omega
  have C := refKind_any ((b0.toNat % 64 : Nat) : Int) (w.alloc (.cells #[.int .i64 0, .bool false, .int .i64 0, .slice none 0 0] 42))
  rw [hk, e64] at C
  have HC := Lib.hid C
  have hk0 := Lib.hid (Blk.new w #[.int .i64 0, .bool false, .int .i64 0, .slice none 0 0] 42)
  have Hb0 := Lib.hid ((Below.refl w.heap.size w).alloc (Nat.le_refl _) (.cells #[.int .i64 0, .bool false, .int .i64 0, .slice none 0 0] 42))
  have hA := (or_int b1.toNat k.fl (by have := b1.toNat_lt; omega) F.fl).2 hg2
  have hAA : ((k.fl : Int) != (k.fl : Int)) = false := by simp
  have HF0 := Lib.hid F
  have Hl := Lib.hid hl
  have hl10 := F.len
  have hsl : (s.length : Int) = 48 := by omega
  obtain ⟨now, hnow⟩ : ∃ b, decide (64 ≤ b0.toNat) = b := ⟨_, rfl⟩
  have Fok := Lib.hid F.fok
  have hcase : (((b0.toNat : Int) / 64 % 256 == 1) = true ∧ (b0.toNat : Int) % 64 < 32 ∧ now = true) ∨ (((b0.toNat : Int) / 64 % 256 == 1) = false ∧ now = false) := by
    by_cases h64 : 64 ≤ b0.toNat
    · exact .inl ⟨by rw [beq_iff_eq]; omega, by have := hg1 h64; omega, by rw [← hnow]; simpa using h64⟩
    · exact .inr ⟨by rw [beq_eq_false_iff_ne]; omega, by rw [← hnow]; simpa using h64⟩
  rw [hnow] at HRR
  clear h hl hk C e64 F hg1 hg2 hnow
  rcases hcase with ⟨g1, g2, hn⟩ | ⟨g1, hn⟩
  all_goals
    have Hn := Lib.hid hn
    clear hn
    go_enter Tryz.func88, Tryz.ntmps88
    go_wp2_with fail
    refine HC.out.mono ?_
    rintro e w1 ⟨bf, rfl, hF, hb⟩
    have hkk := hk0.out.later hb
    have Hkk := Lib.hid hkk
    have HF1 := Lib.hid hF
    have Hb := Lib.hid (below_then Hb0.out hb)
    have hz : w.heap.size < w1.heap.size := hkk.lt
    have hfz : bf < w1.heap.size := Blk.lt hF
    have hfm : bf ≠ w1.heap.size := by omega
    have hfh : bf ≠ w.heap.size := blk_apart hF hkk (by decide)
    have hws : w.heap.size ≤ w1.heap.size := by omega
    have M0 := BMap.made 3 w1
    obtain ⟨u1, hr1, M1, g1'⟩ := M0.put keyedI Tryz.underlying215 (by omega) (keyI 0 (by omega)) trivial
    obtain ⟨u2, hr2, M2, g2'⟩ := M1.put keyedI Tryz.underlying215 (by omega) (keyI 1 (by omega)) trivial
    obtain ⟨u3, hr3, M3, g3'⟩ := M2.put keyedI Tryz.underlying215 (by omega) (keyI 4 (by omega)) trivial
    obtain ⟨u4, hr4, M4, g4'⟩ := M3.put keyedI Tryz.underlying215 (by omega) (keyI 5 (by omega)) trivial
    obtain ⟨u5, hr5, M5, g5'⟩ := M4.put keyedI Tryz.underlying215 (by omega) (keyI 6 (by omega)) trivial
    obtain ⟨u6, hr6, M6, g6'⟩ := M5.put keyedI Tryz.underlying215 (by omega) (keyI 7 (by omega)) trivial
    have M7 := M6.as (seen_start k.fs)
    have G := (((((g1'.trans g2').trans g3').trans g4').trans g5').trans g6')
    have B0 := Hb.out.alloc hws (.map #[] 0)
    have B6 := Below.grownB B0 G hws (by simp; omega)
    have F6 := Blk.otherB (Blk.alloc hF (.map #[] 0)) G (by omega)
    have K6 := Blk.otherB (hkk.alloc (.map #[] 0)) G (by omega)
    have hlt6 : w1.heap.size < u6.heap.size := M7.lt
    have hmm := @run_makeMap Tryz.prog
    have HB := Lib.hid (show RdB w w.heap.size w1.heap.size bf u6.heap.size from ⟨Nat.le_refl _, by omega, by omega, by omega, by omega, by omega, by omega, hfh⟩)
    obtain ⟨S1, S2⟩ := rd_start s ((b0.toNat : Int) % 64) (b1.toNat : Int) now M7 F6 K6 B6 HB.out
    obtain ⟨q0, q1, q2, q3⟩ := K6.four
    have f0 := K6.frozen 0
    have f1 := K6.frozen 1
    have f2 := K6.frozen 2
    have f3 := K6.frozen 3
    have hlt7 : w.heap.size < u6.heap.size := by omega
    have HS1 := Lib.hid S1
    have HS2 := Lib.hid S2
    clear hb hkk hF S1 S2 M0 M1 M2 M3 M4 M5 M6 M7 g1' g2' g3' g4' g5' g6' G B0 B6 F6 K6
    obtain ⟨p0, p1, p2, p3⟩ := Hkk.out.four
    go_upto_region 11 with (fail)
    go_wp2_with (first | refine wpList_insert_b _ rfl _ _ _ _ rfl u1 hr1 ?_ | refine wpList_insert_b _ rfl _ _ _ _ rfl u2 hr2 ?_ | refine wpList_insert_b _ rfl _ _ _ _ rfl u3 hr3 ?_ | refine wpList_insert_b _ rfl _ _ _ _ rfl u4 hr4 ?_ | refine wpList_insert_b _ rfl _ _ _ _ rfl u5 hr5 ?_ | refine wpList_insert_b _ rfl _ _ _ _ rfl u6 hr6 ?_)
    clear hr1 hr2 hr3 hr4 hr5 hr6 p0 p1 p2 p3
    go_region
    rw [Hn.out] at HS1 HS2
    generalize ((((u6.setCell ⟨w.heap.size, 0, none⟩ (.int .i64 ((b0.toNat : Int) % 64))).setCell ⟨w.heap.size, 1, none⟩ (.bool _)).setCell ⟨w.heap.size, 2, none⟩ (.int .i64 (b1.toNat : Int))).setCell ⟨w.heap.size, 3, none⟩ (.slice none 0 0)) = w3 at HS1 HS2 ⊢
    have HM3 := Lib.hid (show BMap 3 w3.drew w1.heap.size 6 (seenF k.fs 0) from HS1.out)
    have HR3 := Lib.hid (show RdS w w.heap.size w1.heap.size bf u6.heap.size ((b0.toNat : Int) % 64) (b1.toNat : Int) _ k s 0 w3.drew from ⟨HS2.out.fld, HS2.out.own, HS2.out.low.drew, HS2.out.big⟩)
    clear HS1 HS2 q0 q1 q2 q3 f0 f1 f2 f3 Hkk HF1 hmm
    generalize w3.drew = w4 at HM3 HR3 ⊢
    go_wp2_with fail
    go_loopw [74] (fun i wr => ∃ j : Nat, j ≤ k.fs.length ∧ i = .int .i64 j ∧ BMap 3 wr w1.heap.size (6 + 8 * j) (seenF k.fs j) ∧ RdS w w.heap.size w1.heap.size bf u6.heap.size ((b0.toNat : Int) % 64) (b1.toNat : Int) _ k s j wr) (fun i _ => k.fs.length - (intOf i).toNat)
    case atStart => exact ⟨0, by omega, rfl, HM3.out, HR3.out⟩
    case round =>
      obtain ⟨j, hj, rfl, hM, hR⟩ := hrel
      have HMr := Lib.hid hM
      have HRr := Lib.hid hR
      have ltM : w1.heap.size < wr.heap.size := hM.lt
      clear hM hR
      by_cases hlt : j < k.fs.length
      · obtain ⟨q0, q1, q2⟩ := Flds.get HRr.out.fld j hlt
        obtain ⟨f, hf⟩ : ∃ f, k.fs[j] = f := ⟨_, rfl⟩
        rw [hf] at q0 q1 q2
        have hmem : f ∈ k.fs := by rw [← hf]; exact List.getElem_mem hlt
        obtain ⟨o1, o2, o3, o4, o5, o6⟩ := Fok.out f hmem
        have HR1 := Lib.hid (HRr.out.alloc (.cells #[.string (S f.nm), .int .i64 (f.pos : Int), .int .i64 (f.sz : Int)] 149))
        have HX1 := Lib.hid (Blk.new wr #[.string (S f.nm), .int .i64 (f.pos : Int), .int .i64 (f.sz : Int)] 149)
        have HM1 := Lib.hid ((HMr.out.alloc (.cells #[.string (S f.nm), .int .i64 (f.pos : Int), .int .i64 (f.sz : Int)] 149)).as (part_start k.fs j f))
        have Hf := Lib.hid hf
        clear hf hmem o6
        go_wp2_with fail
        clear q0 q1 q2
        go_loopw [80] (fun y wi => ∃ t : Nat, t ≤ f.sz ∧ y = .int .i64 t ∧ BMap 3 wi w1.heap.size (6 + 8 * j + t) (partF k.fs j f (f.pos + t)) ∧ Blk wi wr.heap.size #[.string (S f.nm), .int .i64 (f.pos : Int), .int .i64 (f.sz : Int)] 149 ∧ RdS w w.heap.size w1.heap.size bf u6.heap.size ((b0.toNat : Int) % 64) (b1.toNat : Int) _ k s j wi) (fun y _ => f.sz - (intOf y).toNat)
        case atStart => exact ⟨0, Nat.zero_le _, rfl, HM1.out, HX1.out, HR1.out⟩
        case round =>
          obtain ⟨t, ht, rfl, hM, hX, hR⟩ := hrel
          have HXi := Lib.hid hX
          have HRi := Lib.hid hR
          have ltXi := hX.lt
          obtain ⟨x0, x1, x2⟩ := hX.three
          by_cases hlm : t < f.sz
          · obtain ⟨v2, hr2, M2, G2⟩ := hM.put keyedI Tryz.underlying215 (by omega) (key := .int .i64 ((f.pos : Int) + (t : Int))) (kl := LI (f.pos + t)) (by rw [← Int.natCast_add]; exact keyI (f.pos + t) (by omega)) trivial
            have HM2 := Lib.hid (M2.as (part_step k.fs j f (f.pos + t) (by omega)))
            have HX2 := Lib.hid (Blk.otherB hX G2 (by omega))
            have HR2 := Lib.hid (hR.map HB.out G2)
            clear hM hX hR M2 G2
            go_wp2_with fail
            go_roundw
            case rel => exact ⟨t + 1, by omega, by go_num, HM2.out, HX2.out, HR2.out⟩
            case measure => simp [intOf]; omega
          · obtain rfl : t = f.sz := by omega
            have HM2 := Lib.hid ((hM.as (part_end k.fs j hlt f Hf.out)).mono (n' := 6 + 8 * (j + 1)) (by omega))
            have e1 : IntKind.i64.wrap ((f.pos : Int) + (f.sz : Int)) = (f.pos : Int) + f.sz := IntWalk.i64_in _ (by omega)
            have e2 : ((f.pos : Int) + (f.sz : Int)).toNat = f.pos + f.sz := by omega
            have e3 : (0 : Int) ≤ (f.pos : Int) + (f.sz : Int) := by omega
            have e4 : (f.pos : Int) + (f.sz : Int) ≤ (s.length : Int) := by have := Hl.out; omega
            have e5 : (f.pos : Int) ≤ (f.pos : Int) + (f.sz : Int) := by omega
            have U := Lib.hid (fun W => unnumber_cut s f.pos f.sz W o4)
            have hvs := readVs_succ k.fs s j hlt
            rw [Hf.out] at hvs
            obtain ⟨x, hxv⟩ : ∃ x, val (cutB s f.pos f.sz) = x := ⟨_, rfl⟩
            rw [hxv] at U hvs
            have Hvs := Lib.hid hvs
            clear hM hX hR hvs hxv
            go_wp2_with fail
            refine (U.out _).mono ?_
            rintro e wu ⟨rfl, hbu⟩
            have HMu := Lib.hid (HM2.out.later hbu)
            have HRu := Lib.hid (HRi.out.later hbu)
            clear hbu x0 x1 x2
            obtain ⟨L, hL⟩ : ∃ L, (readVs k.fs s).take j = L := ⟨_, rfl⟩
            have hLl : L.length ≤ 10 := by rw [← hL]; simp; omega
            obtain ⟨vo, hK, hN⟩ := HRu.out.own
            rw [hL] at hN Hvs
            obtain ⟨po, co, rfl⟩ := hN.form
            obtain ⟨c0, c1, c2, c3⟩ := hK.four
            have hbz : w.heap.size < wu.heap.size := hK.lt
            obtain ⟨HA1, HA2, HA3, HA4, HA5⟩ := app_sides x wu L.length u6.heap.size hLl HRu.out.big
            obtain ⟨i0, hi, hz0, hz1, hz2⟩ := infoU
            have HK := Lib.hid (hK.alloc (.cells #[.int .u64 (x : Int)] 105))
            have HN := Lib.hid (hN.alloc (.cells #[.int .u64 (x : Int)] 105))
            have HAl := Lib.hid (HRu.out.alloc (.cells #[.int .u64 (x : Int)] 105))
            have HMa := Lib.hid (HMu.out.alloc (.cells #[.int .u64 (x : Int)] 105))
            have HN' := Lib.hid (show World.ownsRow (wu.alloc (.cells #[.int .u64 (x : Int)] 105)) u6.heap.size 105 1 (.slice po L.length co) L.length (numsV L) from HN.out)
            clear hK hN hL
            go_wp2_with (at_builtin; refine wpList_append_own _ rfl _ _ 40 rfl u6.heap.size 105 i0 (.int .u64 0) 1 8 Tryz.underlying40 hi hz0 hz1 hz2 rfl (by decide) (.slice po L.length co) L.length (numsV L) rfl HN'.out ⟨wu.heap.size, 0, none⟩ 1 1 [.int .u64 (x : Int)] rfl rfl HA1.out HA2.out HA3.out HA4.out HA5.out ?_)
            intro v' wa hown hgrow hnil
            obtain ⟨p', c', rfl⟩ := own_form hown
            have hKa := rd_kept HN.out HK.out hgrow HB.out.hB
            obtain ⟨d0, d1, d2, d3⟩ := hKa.four
            have e3f := hKa.frozen 3
            have hza := hKa.lt
            obtain ⟨hMf, hRf⟩ := rd_step HN.out hown hgrow HK.out HAl.out HMa.out HB.out Hvs.out
            have HMf := Lib.hid hMf
            have HRf := Lib.hid hRf
            clear hKa hown hgrow hnil hMf hRf c0 c1 c2 c3
            go_wp2_with fail
            go_roundw
            case rel => exact ⟨j + 1, by omega, by go_num, HMf.out, HRf.out⟩
            case measure => simp [intOf]; omega
      · obtain rfl : j = k.fs.length := by omega
        have hlook := fun i (hi : i < 1000) => HMr.out.look keyedI Tryz.underlying215 (keyI i hi)
        have HLk := Lib.hid hlook
        clear hlook
        go_wp2_with fail
        go_loopw [111] (fun y wi => ∃ t : Nat, t ≤ 48 ∧ y = .int .i64 t ∧ (∀ x, x < t → ¬ freeK k x → s.getD x 0 = 0) ∧ wi = wr) (fun y _ => 48 - (intOf y).toNat)
        case atStart => exact ⟨0, by omega, rfl, fun x hx => absurd hx (Nat.not_lt_zero _), rfl⟩
        case round =>
          obtain ⟨t, ht, rfl, hz0, hwi⟩ := hrel
          subst hwi
          have Hz0 := Lib.hid hz0
          clear hz0
          by_cases hlm : t < 48
          · have htl : t < s.length := by have := Hl.out; omega
            have hLk := HLk.out t (by omega)
            by_cases hfr : freeK k t
            · have hrun := hLk.1 ((seen_free k t).2 hfr)
              have Hfr := Lib.hid hfr
              clear hLk hfr
              go_wp2_with fail
              go_roundw
              case rel => exact ⟨t + 1, by omega, by go_num, fun x hx hnf => by
                by_cases e : x = t
                · subst e; exact absurd Hfr.out hnf
                · exact Hz0.out x (by omega) hnf, by trivial⟩
              case measure => simp [intOf]; omega
            · have hrun := hLk.2 (fun h => hfr ((seen_free k t).1 h))
              have Hfr := Lib.hid hfr
              obtain ⟨c, hc⟩ : ∃ c, s[t]'htl = c := ⟨_, rfl⟩
              have hgd : s.getD t 0 = c := by rw [List.getD_eq_getElem?_getD, List.getElem?_eq_getElem htl, hc]; rfl
              have Hgd := Lib.hid hgd
              clear hLk hfr hgd
              by_cases hc0 : c = 0
              · have hcb : ((c.toNat : Int) != 0) = false := by subst hc0; rfl
                have Hc0 := Lib.hid hc0
                clear hc0
                go_wp2_with fail
                go_roundw
                case rel => exact ⟨t + 1, by omega, by go_num, fun x hx hnf => by
                  by_cases e : x = t
                  · subst e; rw [Hgd.out]; exact Hc0.out
                  · exact Hz0.out x (by omega) hnf, by trivial⟩
                case measure => simp [intOf]; omega
              · have hcb : ((c.toNat : Int) != 0) = true := by
                  rw [bne_iff_ne]
                  intro e
                  exact hc0 (UInt8.toNat_inj.1 (by simpa using e))
                have Hc0 := Lib.hid hc0
                clear hc0
                obtain ⟨vo, hK, hN⟩ := HRr.out.own
                obtain ⟨c0, c1, c2, c3⟩ := hK.four
                have f0 := hK.frozen 0
                have f1 := hK.frozen 1
                have f2 := hK.frozen 2
                have f3 := hK.frozen 3
                clear hK hN
                go_wp2_with fail
                refine bodyPost_ret (v := .tuple #[headV hd0 (.slice none 0 0), .int .i64 0, .int .i64 0, .int .i64 3]) (by simp [results, Tryz.results88, go_sem, headV, hd0, c0, c1, c2, c3]) rfl ?_
                rw [HRR.out.2 (fun h => Hc0.out (Hgd.out ▸ h.2.2 t hlm Hfr.out))]
                exact ⟨_, rfl, vals_nil _, (((HRr.out.low.setCell (Nat.le_refl _) _).setCell (Nat.le_refl _) _).setCell (Nat.le_refl _) _).setCell (Nat.le_refl _) _⟩
          · obtain rfl : t = 48 := by omega
            have hres := HRR.out.1 ⟨HG.out.1, HG.out.2, fun i hi hnf => Hz0.out i hi hnf⟩
            have Hres := Lib.hid hres
            have U := Lib.hid (fun W => unnumber_cut s 5 3 W (by omega))
            obtain ⟨x, hxv⟩ : ∃ x, readD s = x := ⟨_, rfl⟩
            have hxv' : val (cutB s 5 3) = x := hxv
            have hx3 : x < 16777216 := by
              rw [← hxv']
              have h1 := val_lt _ (cutB s 5 3) rfl
              have h2 : (cutB s 5 3).length ≤ 3 := by simp [cutB]; omega
              have h3 : 256 ^ (cutB s 5 3).length ≤ 256 ^ 3 := Nat.pow_le_pow_right (by decide) h2
              exact Nat.lt_of_lt_of_le h1 h3
            rw [hxv'] at U
            rw [hxv] at Hres
            have htl : 4 < s.length := by have := Hl.out; omega
            obtain ⟨b4, hb4⟩ : ∃ c, s[4]'htl = c := ⟨_, rfl⟩
            have h4 : readW s = b4.toNat := by
              unfold readW cutB
              rw [List.drop_eq_getElem_cons htl, hb4]
              simp [val]
            rw [h4] at Hres
            have hb4l : (b4.toNat : Int) < 256 := by have := b4.toNat_lt; omega
            have e8 : (8 : Int) ≤ (s.length : Int) := by have := Hl.out; omega
            clear hres hxv hxv' h4
            go_wp2_with fail
            refine (U.out _).mono ?_
            rintro e wu ⟨rfl, hbu⟩
            obtain ⟨vo, hK, hN⟩ := (HRr.out.later hbu).own
            obtain ⟨po, co, rfl⟩ := hN.form
            obtain ⟨c0, c1, c2, c3⟩ := hK.four
            have f0 := hK.frozen 0
            have f1 := hK.frozen 1
            have f2 := hK.frozen 2
            have f3 := hK.frozen 3
            have HK := Lib.hid hK
            have HN := Lib.hid hN
            have HRu := Lib.hid (HRr.out.later hbu)
            clear hK hN hbu
            go_wp2_with fail
            go_region
            go_wp2_with fail
            have hall : (readVs k.fs s).take k.fs.length = readVs k.fs s := List.take_of_length_le (by rw [readVs_len]; exact Nat.le_refl _)
            refine bodyPost_ret (v := .tuple #[headV ⟨(b0.toNat : Int) % 64, now, (b1.toNat : Int), readVs k.fs s⟩ (.slice po ((readVs k.fs s).take k.fs.length).length co), .int .i64 (b4.toNat : Int), .int .i64 (x : Int), .int .i64 0]) (by simp [results, Tryz.results88, go_sem, headV, c0, c1, c2, c3, Hn.out]) rfl ?_
            rw [Hres.out]
            refine ⟨_, rfl, ?_, ((((HRu.out.low.drew.setCell (Nat.le_refl _) _).setCell (Nat.le_refl _) _).setCell (Nat.le_refl _) _).setCell (Nat.le_refl _) _)⟩
            have hN4 := (((HN.out.set (a := ⟨w.heap.size, 0, none⟩) HB.out.hB (.int .i64 ((b0.toNat : Int) % 64))).set (a := ⟨w.heap.size, 1, none⟩) HB.out.hB (.bool now)).set (a := ⟨w.heap.size, 2, none⟩) HB.out.hB (.int .i64 (b1.toNat : Int))).set (a := ⟨w.heap.size, 3, none⟩) HB.out.hB (.slice po ((readVs k.fs s).take k.fs.length).length co)
            have hV := hN4.vals (fun x hx => readVs_lt HF0.out s x (List.mem_of_mem_take hx))
            rw [hall, Hn.out] at hV
            have hminv : min k.fs.length (readVs k.fs s).length = (readVs k.fs s).length := by rw [readVs_len]; exact Nat.min_self _
            rw [hminv, hall]
            exact hV
theorem refRead_any (s : List UInt8) (w : World) (hl : s.length ≤ 140737488351232) : Calls Tryz.prog 88 #[.string (S s)] w (RetRR w (readR s)) := by
  by_cases h48 : s.length = 48
  · have hl0 : 0 < s.length := by omega
    have hl1 : 1 < s.length := by omega
    have e0 : s.getD 0 0 = s[0] := by rw [List.getD_eq_getElem?_getD, List.getElem?_eq_getElem hl0]; rfl
    by_cases h : (s[0]'hl0).toNat < 128
    · cases hk : kindOf (((s[0]'hl0).toNat % 64 : Nat) : Int) with
      | none =>
        have e : readR s = (hd0, 0, 0, 1) := by unfold readR; rw [if_neg (by omega), e0, if_neg (by omega), hk]
        rw [e]
        exact refRead_none s w h48 hl0 h hk
      | some k =>
        by_cases hg : (64 ≤ (s[0]'hl0).toNat → (s[0]'hl0).toNat % 64 < 32) ∧ (s[1]'hl1).toNat ||| k.fl = k.fl
        · exact refRead_some s k w h48 hl0 hl1 h hk hg.1 hg.2
        · have e := (readR_is h48 (List.getElem?_eq_getElem hl0) (List.getElem?_eq_getElem hl1) h hk).2 (fun h => hg ⟨h.1, h.2.1⟩)
          rw [e]
          exact refRead_form s k w h48 hl0 hl1 h hk hg
    · have e : readR s = (hd0, 0, 0, 3) := by unfold readR; rw [if_neg (by omega), e0, if_pos (by omega)]
      rw [e]
      exact refRead_high s w h48 hl0 (by omega)
  · have e : readR s = (hd0, 0, 0, 7) := by unfold readR; rw [if_pos h48]
    rw [e]
    exact refRead_few s w h48 hl
end Go.Proofs.YtlkikkfbennmnaaGreatDoor
