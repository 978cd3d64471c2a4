/- LA10: several texts in one. -/
import Derived.Deep.RegionHeld3
import Derived.Laws.AppendOwn
import Derived.Laws.OwnMore
import Derived.Lib.Atoi
import Derived.Lib.IndexMore
import Derived.Lib.Split
import Derived.Maps.Own
import Derived.Maps.OwnOps
import Derived.Maps.OwnSet
import Derived.Maps.StringElems
import Derived.Maps.Views
import Derived.Shelf.Strings.Cut
import Derived.Shelf.Strings.Split
import Derived.StringKeys
import Derived.Test.YtjbbbpgcegcbaaaGreatDoorProg
import Derived.Test.YtjbbbpgcegcbaaaGreatDoorRows
import Derived.Test.YtjbbbpgcegcbaaaGreatDoorLA01
import Derived.Test.YtjbbbpgcegcbaaaGreatDoorLA03
import Derived.Test.YtjbbbpgcegcbaaaGreatDoorLA05
import Derived.Test.YtjbbbpgcegcbaaaGreatDoorLA06
import Derived.Test.YtjbbbpgcegcbaaaGreatDoorLA08
import Derived.Test.YtjbbbpgcegcbaaaGreatDoorLA09
namespace Go.Proofs.YtjbbbpgcegcbaaaGreatDoor
open Go.RowKit Go.Maps
theorem keyedS : Keyed Tryz.prog 9 := string_keyed Tryz.underlying9
theorem zeroB (w : World) : (zeroValue 4).run Tryz.prog w = .ok (.bool false) w := by kernel_rfl
theorem plainElem_bool_inv {P : Program} {e : TypeId} (he : P.underlying e = some .bool) {v : Value} {z : DataW Unit × List MemPlace} (h : plainElem P e v = some z) : ∃ a, v = .bool a ∧ z = (.lit (.bool a), []) := by
 unfold plainElem at h
 rw [he] at h
 cases v <;> simp at h
 subst h
 exact ⟨_, rfl, rfl⟩
def BMap (k : TypeId) (W : World) (b n : Nat) (f : Lit → Prop) : Prop :=
 ∃ D : DataW Unit, W.ownsMap Tryz.prog k (plainElem Tryz.prog 4) b n D ∧ ∀ kl, (f kl → D.atKey kl (.lit (.bool false)) = .lit (.bool true)) ∧ (¬ f kl → D.atKey kl (.lit (.bool false)) = .lit (.bool false))
theorem BMap.made (k : TypeId) (w : World) : BMap k (w.alloc (.map #[] 0)) w.heap.size 0 (fun _ => False) :=
 ⟨.map [], World.ownsMap_made _ _ _ _, fun _ => ⟨fun h => h.elim, fun _ => rfl⟩⟩
theorem BMap.lt {k : TypeId} {W : World} {b n : Nat} {f : Lit → Prop} (h : BMap k W b n f) : b < W.heap.size := by
 obtain ⟨D, ⟨es, clock, h1, _⟩, _⟩ := h
 exact (Array.getElem?_eq_some_iff.1 h1).1
theorem BMap.same {k : TypeId} {W W' : World} {b n : Nat} {f : Lit → Prop} (h : BMap k W b n f) (hb : W'.heap[b]? = W.heap[b]?) : BMap k W' b n f := by
 obtain ⟨D, ⟨es, clock, h1, h2, h3, h4⟩, hf⟩ := h
 exact ⟨D, ⟨es, clock, by rw [hb]; exact h1, h2, h3, h4⟩, hf⟩
theorem BMap.later {k : TypeId} {W W' : World} {b n : Nat} {f : Lit → Prop} (h : BMap k W b n f) (hb : Below W.heap.size W W') : BMap k W' b n f := h.same (hb.block b h.lt)
theorem BMap.alloc {k : TypeId} {W : World} {b n : Nat} {f : Lit → Prop} (h : BMap k W b n f) (o : Obj) : BMap k (W.alloc o) b n f := h.later ((Below.refl _ _).alloc (Nat.le_refl _) _)
theorem Blk.otherB {W W' : World} {b b' : Nat} {C : Array Value} {t : TypeId} (h : Blk W b C t) (hg : W.grownBy W' (some b')) (hne : b ≠ b') : Blk W' b C t :=
 (hg.block b h.lt (fun e => hne (Option.some.inj e))).trans h
theorem Below.grownB {B : Nat} {w W W' : World} {b : Nat} (h : Below B w W) (hg : W.grownBy W' (some b)) (hb : B ≤ b) (hB : B ≤ W.heap.size) : Below B w W' :=
 h.trans ⟨hg.os, hg.tape, hg.output, hg.size, fun k hk => hg.block k (Nat.lt_of_lt_of_le hk hB) (fun e => by have := Option.some.inj e; omega)⟩
theorem BMap.look {k t : TypeId} {W : World} {b n : Nat} {f : Lit → Prop} (h : BMap k W b n f) (K : Keyed Tryz.prog k) (ht : Tryz.prog.underlying t = some (.map k 4)) {key : Value} {kl : Lit} (hkey : keyOf Tryz.prog k key = some kl) :
  (f kl → (Instr.lookup t (.map (some b)) key false).run Tryz.prog W = .ok (.bool true) W) ∧ (¬ f kl → (Instr.lookup t (.map (some b)) key false).run Tryz.prog W = .ok (.bool false) W) := by
 obtain ⟨D, hown, hf⟩ := h
 obtain ⟨v, ps, hrun, hv⟩ := hown.lookup K ht (zeroB W) (plainElem_bool Tryz.underlying4 false) hkey
 obtain ⟨x, rfl, hz⟩ := plainElem_bool_inv Tryz.underlying4 hv
 have hx : D.atKey kl (.lit (.bool false)) = .lit (.bool x) := by injection hz
 have lb : ∀ {x y : Bool}, (DataW.lit (.bool x) : DataW Unit) = .lit (.bool y) → x = y := fun h => Lit.bool.inj (DataW.lit.inj h)
 exact ⟨fun h => by obtain rfl := lb (hx.symm.trans ((hf kl).1 h)); exact hrun, fun h => by obtain rfl := lb (hx.symm.trans ((hf kl).2 h)); exact hrun⟩
theorem BMap.put {k t : TypeId} {W : World} {b n : Nat} {f : Lit → Prop} (h : BMap k W b n f) (K : Keyed Tryz.prog k) (ht : Tryz.prog.underlying t = some (.map k 4)) (hn : n < 1000000) {key : Value} {kl : Lit} (hkey : keyOf Tryz.prog k key = some kl) (hl : WideAt.IsKeyLit kl) :
  ∃ w', (Instr.mapUpdate t (.map (some b)) key (.bool true)).run Tryz.prog W = .ok () w' ∧ BMap k w' b (n + 1) (fun x => x = kl ∨ f x) ∧ W.grownBy w' (some b) := by
 obtain ⟨D, hown, hf⟩ := h
 have hM := hown.isMap
 obtain ⟨w', hrun, r1, r2⟩ := hown.update K ht (by unfold maxLen; omega) hkey (plainElem_bool Tryz.underlying4 true)
 refine ⟨w', hrun, ⟨_, r1, fun x => ?_⟩, r2⟩
 by_cases e : x = kl
 ·subst e
  exact ⟨fun _ => atKey_put_same hM hl _ _, fun h => absurd (.inl rfl) h⟩
 ·rw [atKey_put_other e]
  exact ⟨fun h => (hf x).1 (h.resolve_left e), fun h => (hf x).2 (fun h' => h (.inr h'))⟩
theorem BMap.as {k : TypeId} {W : World} {b n : Nat} {f g : Lit → Prop} (h : BMap k W b n f) (e : ∀ x, f x ↔ g x) : BMap k W b n g := by
 obtain ⟨D, hown, hf⟩ := h
 exact ⟨D, hown, fun kl => ⟨fun h => (hf kl).1 ((e kl).2 h), fun h => (hf kl).2 (fun h' => h ((e kl).1 h'))⟩⟩
theorem keyS (l : List UInt8) (h : l.length < 1000) : keyOf Tryz.prog 9 (.string (S l)) = some (.string l) := by
 have := Go.WideMaps.keyOf_string_mk (P := Tryz.prog) (k := 9) Tryz.underlying9 (s := S l) (by rw [S_size]; unfold maxLen; omega)
 rw [this]; rfl
theorem zeroT (w : World) : (zeroValue 9).run Tryz.prog w = .ok (.string (S [])) w := by kernel_rfl
def SMap (W : World) (b n : Nat) (f : List UInt8 → Option (List UInt8)) : Prop :=
 ∃ D : DataW Unit, W.ownsMap Tryz.prog 9 (plainElem Tryz.prog 9) b n D ∧ ∀ l, Maps.has D (.string l) = (f l).isSome ∧ D.atKey (.string l) (.lit (.string [])) = .lit (.string ((f l).getD []))
theorem SMap.made (w : World) : SMap (w.alloc (.map #[] 0)) w.heap.size 0 (fun _ => none) :=
 ⟨.map [], World.ownsMap_made _ _ _ _, fun _ => ⟨rfl, rfl⟩⟩
theorem SMap.lt {W : World} {b n : Nat} {f : List UInt8 → Option (List UInt8)} (h : SMap W b n f) : b < W.heap.size := by
 obtain ⟨D, ⟨es, clock, h1, _⟩, _⟩ := h
 exact (Array.getElem?_eq_some_iff.1 h1).1
theorem SMap.same {W W' : World} {b n : Nat} {f : List UInt8 → Option (List UInt8)} (h : SMap W b n f) (hb : W'.heap[b]? = W.heap[b]?) : SMap W' b n f := by
 obtain ⟨D, ⟨es, clock, h1, h2, h3, h4⟩, hf⟩ := h
 exact ⟨D, ⟨es, clock, by rw [hb]; exact h1, h2, h3, h4⟩, hf⟩
theorem SMap.later {W W' : World} {b n : Nat} {f : List UInt8 → Option (List UInt8)} (h : SMap W b n f) (hb : Below W.heap.size W W') : SMap W' b n f := h.same (hb.block b h.lt)
theorem SMap.as {W : World} {b n : Nat} {f g : List UInt8 → Option (List UInt8)} (h : SMap W b n f) (e : ∀ l, f l = g l) : SMap W b n g := by
 obtain ⟨D, h1, h2⟩ := h
 exact ⟨D, h1, fun l => by rw [← e l]; exact h2 l⟩
theorem str_lit {s : ByteArray} {x : List UInt8} (h : (DataW.lit (.string x) : DataW Unit) = .lit (.string s.data.toList)) : s = S x := by
 have h1 : x = s.data.toList := Lit.string.inj (DataW.lit.inj h)
 rw [h1]; rfl
theorem SMap.look {t : TypeId} {W : World} {b n : Nat} {f : List UInt8 → Option (List UInt8)} (h : SMap W b n f) (ht : Tryz.prog.underlying t = some (.map 9 9)) (l : List UInt8) (hl : l.length < 1000) :
  (Instr.lookup t (.map (some b)) (.string (S l)) true).run Tryz.prog W = .ok (.tuple #[.string (S ((f l).getD [])), .bool (f l).isSome]) W ∧ (Instr.lookup t (.map (some b)) (.string (S l)) false).run Tryz.prog W = .ok (.string (S ((f l).getD []))) W := by
 obtain ⟨D, hown, hf⟩ := h
 obtain ⟨h1, h2⟩ := hf l
 have hz : plainElem (H := Unit) Tryz.prog 9 (.string (S [])) = some (.lit (.string []), []) := by
  rw [plainElem_string Tryz.underlying9 (by rw [S_size]; decide)]; rfl
 obtain ⟨v, ps, hrun, hv⟩ := hown.look_ok keyedS ht (zeroT W) hz (keyS l hl)
 obtain ⟨v0, ps0, hrun0, hv0⟩ := hown.lookup keyedS ht (zeroT W) hz (keyS l hl)
 obtain ⟨s, rfl, hs, _⟩ := plainElem_string_inv Tryz.underlying9 hv
 obtain ⟨s0, rfl, hs0, _⟩ := plainElem_string_inv Tryz.underlying9 hv0
 have e1 := str_lit (h2.symm.trans (congrArg Prod.fst hs))
 have e0 := str_lit (h2.symm.trans (congrArg Prod.fst hs0))
 rw [e1, h1] at hrun
 rw [e0] at hrun0
 exact ⟨hrun, hrun0⟩
theorem SMap.put {t : TypeId} {W : World} {b n : Nat} {f : List UInt8 → Option (List UInt8)} (h : SMap W b n f) (ht : Tryz.prog.underlying t = some (.map 9 9)) (hn : n < 1000000) (l x : List UInt8) (hl : l.length < 1000) (hx : x.length ≤ 140737488355328) :
  ∃ w', (Instr.mapUpdate t (.map (some b)) (.string (S l)) (.string (S x))).run Tryz.prog W = .ok () w' ∧ SMap w' b (n + 1) (fun k => if k = l then some x else f k) ∧ W.grownBy w' (some b) := by
 obtain ⟨D, hown, hf⟩ := h
 have hM := hown.isMap
 obtain ⟨w', hrun, r1, r2⟩ := hown.update keyedS ht (by unfold maxLen; omega) (keyS l hl) (plainElem_string Tryz.underlying9 (s := S x) (by rw [S_size]; unfold maxLen; omega))
 refine ⟨w', hrun, ⟨_, r1, fun k => ?_⟩, r2⟩
 by_cases e : k = l
 ·subst e
  simp only [↓reduceIte]
  exact ⟨has_put_same (k := .string k) hM trivial _, (atKey_put_same (k := .string k) hM trivial _ _).trans (by simp [S])⟩
 ·simp only [if_neg e]
  have hne : (Lit.string k) ≠ .string l := fun h => e (Lit.string.inj h)
  rw [has_put_other hne, atKey_put_other hne]
  exact hf k
end Go.Proofs.YtjbbbpgcegcbaaaGreatDoor
namespace Go.Proofs.YtjbbbpgcegcbaaaGreatDoor
open Go.RowKit
set_option linter.unusedVariables false
def UsV (W : World) (v : Value) (l : List Us) : Prop := ∃ p c, v = .slice p l.length c ∧ l.length ≤ c ∧ (0 < l.length → ∃ b o, p = some ⟨b, o, none⟩ ∧ ∀ j (hj : j < l.length), W.cell? ⟨b, o + j * 2, none⟩ = some (.string (S l[j].nm)) ∧ W.cell? ⟨b, o + j * 2 + 1, none⟩ = some (.string (S l[j].sc)))
theorem UsV.later {W W' : World} {v : Value} {l : List Us} (h : UsV W v l) (hb : Below W.heap.size W W') : UsV W' v l := by
 obtain ⟨p, c, hv, hlc, hc⟩ := h
 refine ⟨p, c, hv, hlc, fun hl => ?_⟩
 obtain ⟨b, o, hp, hcell⟩ := hc hl
 refine ⟨b, o, hp, fun j hj => ?_⟩
 obtain ⟨h1, h2⟩ := hcell j hj
 rw [(bcell hb).1 b (o + j * 2) (block_lt_of_cell (w := W) (a := ⟨b, o + j * 2, none⟩) h1), (bcell hb).1 b (o + j * 2 + 1) (block_lt_of_cell (w := W) (a := ⟨b, o + j * 2 + 1, none⟩) h2)]
 exact ⟨h1, h2⟩
theorem UsV.nil (W : World) : UsV W (.slice none 0 0) [] := ⟨none, 0, rfl, Nat.le_refl _, fun h => absurd h (by decide)⟩
theorem UsV.form {W : World} {v : Value} {l : List Us} (h : UsV W v l) : ∃ p c, v = .slice p l.length c := by obtain ⟨p, c, h, _⟩ := h; exact ⟨p, c, h⟩
theorem UsV.cell {W : World} {p : Option Addr} {c : Nat} {l : List Us} (h : UsV W (.slice p l.length c) l) {j : Nat} (hj : j < l.length) : ∃ b o, p = some ⟨b, o, none⟩ ∧ W.cell? ⟨b, o + j * 2, none⟩ = some (.string (S l[j].nm)) ∧ W.cell? ⟨b, o + j * 2 + 1, none⟩ = some (.string (S l[j].sc)) := by
 obtain ⟨p0, c0, hv, _, hc⟩ := h
 obtain ⟨rfl, rfl⟩ : p = p0 ∧ c = c0 := by simpa using hv
 obtain ⟨b, o, rfl, hcell⟩ := hc (by omega)
 exact ⟨b, o, rfl, hcell j hj⟩
def fitUs (l : List Us) : Prop := l.length ≤ 140737488355328 ∧ ∀ p ∈ l, p.nm.length ≤ 140737488355328 ∧ p.sc.length ≤ 140737488355328
def usVs (l : List Us) : List Value := l.flatMap fun p => [.string (S p.nm), .string (S p.sc)]
theorem usVs_len : ∀ l : List Us, (usVs l).length = l.length * 2
 | [] => rfl
 | a :: l => by
  have := usVs_len l
  unfold usVs at *
  simp only [List.flatMap_cons, List.length_append, List.length_cons, List.length_nil] at *
  omega
theorem usVs_one (l : List Us) : ∀ u ∈ usVs l, u.oneCell' = true := by
 intro u hu
 unfold usVs at hu
 obtain ⟨a, _, h⟩ := List.mem_flatMap.1 hu
 rcases List.mem_cons.1 h with rfl | h
 ·rfl
 ·rw [List.mem_singleton.1 h]; rfl
theorem usVs_get : ∀ (l : List Us) (j : Nat) (hj : j < l.length), (usVs l)[j * 2]? = some (.string (S l[j].nm)) ∧ (usVs l)[j * 2 + 1]? = some (.string (S l[j].sc))
 | [], j, hj => by simp at hj
 | a :: l, 0, _ => ⟨rfl, rfl⟩
 | a :: l, j + 1, hj => by
  obtain ⟨h1, h2⟩ := usVs_get l j (by simpa using hj)
  have e : usVs (a :: l) = .string (S a.nm) :: .string (S a.sc) :: usVs l := rfl
  rw [e, show (j + 1) * 2 = j * 2 + 1 + 1 by omega, List.getElem?_cons_succ, List.getElem?_cons_succ, h1, show j * 2 + 1 + 1 + 1 = (j * 2 + 1) + 1 + 1 by omega, List.getElem?_cons_succ, List.getElem?_cons_succ, h2]
  exact ⟨rfl, rfl⟩
def UsBuf (base : Nat) (W : World) (v : Value) (l : List Us) : Prop := W.ownsRow base 26 2 v l.length (usVs l)
theorem UsBuf.nil (base : Nat) (W : World) : UsBuf base W (.slice none 0 0) [] := World.ownsRow_nil W base 26 2
theorem UsBuf.later {base : Nat} {W W' : World} {v : Value} {l : List Us} (h : UsBuf base W v l) (hb : Below W.heap.size W W') : UsBuf base W' v l := by
 refine World.ownsRow.kept (row := none) h ⟨hb.os, hb.tape, hb.output, hb.size, fun k hk _ => hb.block k hk⟩ ?_
 cases hv : v.ownBlock with
 | none => exact .inl rfl
 | some k => exact .inr (by simp)
theorem UsBuf.form {base : Nat} {W : World} {v : Value} {l : List Us} (h : UsBuf base W v l) : ∃ p cap, v = .slice p l.length cap := by
 rcases h.2 with ⟨rfl, h0⟩ | ⟨g, cap, cur, hv, _⟩
 ·exact ⟨none, 0, by rw [h0]⟩
 ·exact ⟨_, _, hv⟩
theorem UsBuf.us {base : Nat} {W : World} {v : Value} {l : List Us} (h : UsBuf base W v l) : UsV W v l := by
 rcases h.2 with ⟨rfl, h0⟩ | ⟨g, cap, cur, rfl, hbg, hg, hnc, hcm, hcs, htake⟩
 ·obtain rfl : l = [] := List.eq_nil_of_length_eq_zero h0
  exact UsV.nil W
 ·refine ⟨_, _, rfl, hnc, fun _ => ⟨g, 0, rfl, fun j hj => ?_⟩⟩
  obtain ⟨g1, g2⟩ := usVs_get l j hj
  have h1 := World.ownsRow.cells h (g := g) rfl (j * 2) _ g1
  have h2 := World.ownsRow.cells h (g := g) rfl (j * 2 + 1) _ g2
  have e1 : (⟨g, 0, none⟩ : Addr).add (j * 2) = ⟨g, 0 + j * 2, none⟩ := by simp only [Addr.add]; split <;> simp_all
  have e2 : (⟨g, 0, none⟩ : Addr).add (j * 2 + 1) = ⟨g, 0 + j * 2 + 1, none⟩ := by simp only [Addr.add]; split <;> simp_all <;> omega
  rw [e1] at h1
  rw [e2] at h2
  exact ⟨h1, h2⟩
theorem UsBuf.ge {base : Nat} {W : World} {v : Value} {l : List Us} (h : UsBuf base W v l) : ∀ k, v.ownBlock = some k → base ≤ k := fun k hk => (World.ownsRow.lt h k hk).1
theorem infoUs : ∃ i, Tryz.prog.info? 26 = some i ∧ i.zero = some (.agg #[.string (S []), .string (S [])]) ∧ i.size = 2 ∧ i.bytes = 32 := info_parts (show (Tryz.prog.info? 26).map (fun i => (i.zero, i.size, i.bytes)) = some (some (.agg #[.string (S []), .string (S [])]), 2, 32) by kernel_rfl)
theorem us_new (w : World) (l : List Us) (t : TypeId) : UsV (w.alloc (.cells (usVs l).toArray t)) (.slice (some ⟨w.heap.size, 0, none⟩) l.length l.length) l :=
 ⟨_, _, rfl, Nat.le_refl _, fun _ => ⟨w.heap.size, 0, rfl, fun j hj => by
  obtain ⟨g1, g2⟩ := usVs_get l j hj
  have hb := Blk.new w (usVs l).toArray t
  rw [hb.cell, hb.cell]
  simp only [Nat.zero_add, List.getElem?_toArray]
  exact ⟨g1, g2⟩⟩⟩
end Go.Proofs.YtjbbbpgcegcbaaaGreatDoor
namespace Go.Proofs.YtjbbbpgcegcbaaaGreatDoor
open Go.RowKit
def StrV (W : World) (v : Value) (l : List (List UInt8)) : Prop := ∃ p c, v = .slice p l.length c ∧ (0 < l.length → ∃ b o, p = some ⟨b, o, none⟩ ∧ ∀ j (hj : j < l.length), W.cell? ⟨b, o + j, none⟩ = some (.string (S l[j])))
theorem StrV.later {W W' : World} {v : Value} {l : List (List UInt8)} (h : StrV W v l) (hb : Below W.heap.size W W') : StrV W' v l := by
 obtain ⟨p, c, hv, hc⟩ := h
 refine ⟨p, c, hv, fun hl => ?_⟩
 obtain ⟨b, o, hp, hcell⟩ := hc hl
 refine ⟨b, o, hp, fun j hj => ?_⟩
 rw [(bcell hb).1 b (o + j) (block_lt_of_cell (w := W) (a := ⟨b, o + j, none⟩) (hcell j hj))]
 exact hcell j hj
theorem strV_nil (W : World) : StrV W (.slice none 0 0) [] := ⟨none, 0, rfl, fun h => absurd h (by decide)⟩
theorem StrV.form {W : World} {v : Value} {l : List (List UInt8)} (h : StrV W v l) : ∃ p c, v = .slice p l.length c := by obtain ⟨p, c, h, _⟩ := h; exact ⟨p, c, h⟩
theorem StrV.cell {W : World} {p : Option Addr} {c : Nat} {l : List (List UInt8)} (h : StrV W (.slice p l.length c) l) {j : Nat} (hj : j < l.length) : ∃ b o, p = some ⟨b, o, none⟩ ∧ W.cell? ⟨b, o + j, none⟩ = some (.string (S l[j])) := by
 obtain ⟨p0, c0, hv, hc⟩ := h
 obtain ⟨rfl, rfl⟩ : p = p0 ∧ c = c0 := by simpa using hv
 obtain ⟨b, o, rfl, hcell⟩ := hc (by omega)
 exact ⟨b, o, rfl, hcell j hj⟩
def strVs (l : List (List UInt8)) : List Value := l.map fun s => .string (S s)
theorem strVs_len (l : List (List UInt8)) : (strVs l).length = l.length := by simp [strVs]
theorem strVs_app (l m : List (List UInt8)) : strVs (l ++ m) = strVs l ++ strVs m := by simp [strVs]
theorem strVs_one (l : List (List UInt8)) : ∀ u ∈ strVs l, u.oneCell' = true := by
 intro u hu
 obtain ⟨s, _, rfl⟩ := List.mem_map.1 hu
 rfl
def StBuf (base : Nat) (W : World) (v : Value) (l : List (List UInt8)) : Prop := W.ownsRow base 9 1 v l.length (strVs l)
theorem StBuf.nil (base : Nat) (W : World) : StBuf base W (.slice none 0 0) [] := World.ownsRow_nil W base 9 1
theorem StBuf.later {base : Nat} {W W' : World} {v : Value} {l : List (List UInt8)} (h : StBuf base W v l) (hb : Below W.heap.size W W') : StBuf base W' v l := by
 refine World.ownsRow.kept (row := none) h ⟨hb.os, hb.tape, hb.output, hb.size, fun k hk _ => hb.block k hk⟩ ?_
 cases hv : v.ownBlock with
 | none => exact .inl rfl
 | some k => exact .inr (by simp)
theorem StBuf.form {base : Nat} {W : World} {v : Value} {l : List (List UInt8)} (h : StBuf base W v l) : ∃ p cap, v = .slice p l.length cap := by
 rcases h.2 with ⟨rfl, h0⟩ | ⟨g, cap, cur, hv, _⟩
 ·exact ⟨none, 0, by rw [h0]⟩
 ·exact ⟨_, _, hv⟩
theorem StBuf.strs {base : Nat} {W : World} {v : Value} {l : List (List UInt8)} (h : StBuf base W v l) : StrV W v l := by
 rcases h.2 with ⟨rfl, h0⟩ | ⟨g, cap, cur, rfl, hbg, hg, hnc, hcm, hcs, htake⟩
 ·obtain rfl : l = [] := List.eq_nil_of_length_eq_zero h0
  exact strV_nil W
 ·refine ⟨_, _, rfl, fun _ => ⟨g, 0, rfl, fun j hj => ?_⟩⟩
  have h1 := World.ownsRow.cells h (g := g) rfl j (.string (S l[j])) (by simp [strVs, List.getElem?_eq_getElem hj])
  have e1 : (⟨g, 0, none⟩ : Addr).add j = ⟨g, 0 + j, none⟩ := by simp only [Addr.add]; split <;> simp_all
  rw [e1] at h1
  exact h1
theorem StBuf.ge {base : Nat} {W : World} {v : Value} {l : List (List UInt8)} (h : StBuf base W v l) : ∀ k, v.ownBlock = some k → base ≤ k := fun k hk => (World.ownsRow.lt h k hk).1
theorem infoSt : ∃ i, Tryz.prog.info? 9 = some i ∧ i.zero = some (.string (S [])) ∧ i.size = 1 ∧ i.bytes = 16 := info_parts (show (Tryz.prog.info? 9).map (fun i => (i.zero, i.size, i.bytes)) = some (some (.string (S [])), 1, 16) by kernel_rfl)
theorem appS_sides (s : List UInt8) (wu : World) (N n base : Nat) (hN : wu.heap.size = N) (hn : n ≤ 1000000) (hb : base ≤ N) :
  Hid (∀ j u, ([.string (S s)] : List Value)[j]? = some u → (wu.alloc (.cells #[.string (S s)] 9)).cell? ((⟨N, 0, none⟩ : Addr).add j) = some u) ∧ Hid (∀ u ∈ ([.string (S s)] : List Value), u.oneCell' = true) ∧ Hid (n + 1 ≤ maxLen) ∧ Hid ((n + 1) * 16 ≤ 140737488355328) ∧ Hid (base ≤ (wu.alloc (.cells #[.string (S s)] 9)).heap.size) := by
 subst hN
 refine ⟨Lib.hid ?_, Lib.hid ?_, Lib.hid (by unfold maxLen; omega), Lib.hid (by omega), Lib.hid (by simp; omega)⟩
 ·intro j u h
  have hb := (Blk.new wu #[.string (S s)] 9).cell j
  have e1 : (⟨wu.heap.size, 0, none⟩ : Addr).add j = ⟨wu.heap.size, j, none⟩ := by simp only [Addr.add]; split <;> simp_all
  rw [e1, hb]
  simpa using h
 ·exact strVs_one [s]
end Go.Proofs.YtjbbbpgcegcbaaaGreatDoor
namespace Go.Proofs.YtjbbbpgcegcbaaaGreatDoor
open Go.RowKit
set_option linter.unusedVariables false
def PosV (W : World) (v : Value) (l : List Po) : Prop := ∃ p c, v = .slice p l.length c ∧ l.length ≤ c ∧ (0 < l.length → ∃ b o, p = some ⟨b, o, none⟩ ∧ ∀ j (hj : j < l.length), W.cell? ⟨b, o + j * 2, none⟩ = some (.string (S l[j].ad)) ∧ W.cell? ⟨b, o + j * 2 + 1, none⟩ = some (.int .i64 l[j].gr))
theorem PosV.later {W W' : World} {v : Value} {l : List Po} (h : PosV W v l) (hb : Below W.heap.size W W') : PosV W' v l := by
 obtain ⟨p, c, hv, hlc, hc⟩ := h
 refine ⟨p, c, hv, hlc, fun hl => ?_⟩
 obtain ⟨b, o, hp, hcell⟩ := hc hl
 refine ⟨b, o, hp, fun j hj => ?_⟩
 obtain ⟨h1, h2⟩ := hcell j hj
 rw [(bcell hb).1 b (o + j * 2) (block_lt_of_cell (w := W) (a := ⟨b, o + j * 2, none⟩) h1), (bcell hb).1 b (o + j * 2 + 1) (block_lt_of_cell (w := W) (a := ⟨b, o + j * 2 + 1, none⟩) h2)]
 exact ⟨h1, h2⟩
theorem PosV.form {W : World} {v : Value} {l : List Po} (h : PosV W v l) : ∃ p c, v = .slice p l.length c := by obtain ⟨p, c, h, _⟩ := h; exact ⟨p, c, h⟩
theorem PosV.cell {W : World} {p : Option Addr} {c : Nat} {l : List Po} (h : PosV W (.slice p l.length c) l) {j : Nat} (hj : j < l.length) : ∃ b o, p = some ⟨b, o, none⟩ ∧ W.cell? ⟨b, o + j * 2, none⟩ = some (.string (S l[j].ad)) ∧ W.cell? ⟨b, o + j * 2 + 1, none⟩ = some (.int .i64 l[j].gr) := by
 obtain ⟨p0, c0, hv, _, hc⟩ := h
 obtain ⟨rfl, rfl⟩ : p = p0 ∧ c = c0 := by simpa using hv
 obtain ⟨b, o, rfl, hcell⟩ := hc (by omega)
 exact ⟨b, o, rfl, hcell j hj⟩
def fitPo (l : List Po) : Prop := l.length * 24 ≤ 140737488351232 ∧ ∀ p ∈ l, p.ad.length ≤ 140737488351232 ∧ -9223372036854775808 ≤ p.gr ∧ p.gr ≤ 9223372036854775807
def confV (c : Cf) (vt vp vu vo : Value) : Value := .agg #[vt, vp, vu, .string (S c.sn), .string (S c.ss), .int .i64 c.lim, vo]
structure ConfAt (W : World) (c : Cf) (vt vp vu vo : Value) : Prop where
 ts : StrV W vt c.ts
 ps : PosV W vp c.ps
 us : UsV W vu c.us
 own : PrsV W vo c.own
 tc : ∀ p n k, vt = .slice p n k → n ≤ k
theorem ConfAt.later {W W' : World} {c : Cf} {vt vp vu vo : Value} (h : ConfAt W c vt vp vu vo) (hb : Below W.heap.size W W') : ConfAt W' c vt vp vu vo := ⟨h.ts.later hb, h.ps.later hb, h.us.later hb, h.own.later hb, h.tc⟩
end Go.Proofs.YtjbbbpgcegcbaaaGreatDoor
namespace Go.Proofs.YtjbbbpgcegcbaaaGreatDoor
open Go.RowKit
def fieldC (f : Fd) : List Value := [.string (S f.nm), .int .i64 (f.pos : Int), .int .i64 (f.sz : Int)]
def cellsF (l : List Fd) : Array Value := (l.flatMap fieldC).toArray
def fd0 : Fd := ⟨[], 0, 0⟩
theorem cellsF_len : ∀ (l : List Fd), (cellsF l).size = 3 * l.length
 | [] => rfl
 | f :: l => by
  have := cellsF_len l
  unfold cellsF at *
  simp only [List.flatMap_cons, List.size_toArray, List.length_append, List.length_cons] at *
  rw [this]; simp [fieldC]; omega
theorem cellsF_get : ∀ (l : List Fd) (j : Nat) (hj : j < l.length) (i : Nat), i < 3 → (cellsF l)[j * 3 + i]? = (fieldC l[j])[i]?
 | [], j, hj, _, _ => by simp at hj
 | f :: l, j, hj, i, hi => by
  unfold cellsF
  simp only [List.flatMap_cons, List.getElem?_toArray]
  cases j with
  | zero => rw [List.getElem?_append_left (by simp [fieldC]; omega)]; simp
  | succ j =>
   rw [List.getElem?_append_right (by simp [fieldC]; omega)]
   have h := cellsF_get l j (by simpa using hj) i hi
   unfold cellsF at h
   rw [List.getElem?_toArray] at h
   rw [show (j + 1) * 3 + i - (fieldC f).length = j * 3 + i by simp [fieldC]; omega, h]
   rfl
theorem cellsF_set (l : List Fd) (j : Nat) (hj : j < l.length) (f : Fd) :
  (((cellsF l).setIfInBounds (j * 3) (.string (S f.nm))).setIfInBounds (j * 3 + 1) (.int .i64 (f.pos : Int))).setIfInBounds (j * 3 + 2) (.int .i64 (f.sz : Int)) = cellsF (l.set j f) := by
 apply Array.ext_getElem?
 intro i
 have hs := cellsF_len l
 have hs2 := cellsF_len (l.set j f)
 rw [List.length_set] at hs2
 by_cases hi : i < 3 * l.length
 ·obtain ⟨a, b, rfl, hb⟩ : ∃ a b, i = a * 3 + b ∧ b < 3 := ⟨i / 3, i % 3, by omega, by omega⟩
  have ha : a < l.length := by omega
  rw [cellsF_get _ a (by rw [List.length_set]; exact ha) b hb]
  simp only [Array.getElem?_setIfInBounds, Array.size_setIfInBounds, hs]
  by_cases hab : a = j
  ·subst hab
   rw [List.getElem_set_self]
   have hb' : b = 0 ∨ b = 1 ∨ b = 2 := by omega
   rcases hb' with rfl | rfl | rfl
   ·rw [if_neg (by omega), if_neg (by omega), if_pos (by omega), if_pos (by omega)]; rfl
   ·rw [if_neg (by omega), if_pos (by omega), if_pos (by omega)]; rfl
   ·rw [if_pos (by omega), if_pos (by omega)]; rfl
  ·rw [if_neg (by omega), if_neg (by omega), if_neg (by omega), List.getElem_set_ne (by omega), cellsF_get _ a ha b hb]
 ·rw [Array.getElem?_eq_none (by simp only [Array.size_setIfInBounds]; omega), Array.getElem?_eq_none (by omega)]
theorem madeCells_F (n : Nat) : madeCells #[Value.string (S []), .int .i64 0, .int .i64 0] (n * 3) = cellsF (List.replicate n fd0) := by
 apply Array.ext_getElem?
 intro i
 have h1 : (madeCells #[Value.string (S []), .int .i64 0, .int .i64 0] (n * 3)).size = n * 3 := size_madeCells _ _
 have h2 := cellsF_len (List.replicate n fd0)
 rw [List.length_replicate] at h2
 by_cases hi : i < n * 3
 ·obtain ⟨a, b, rfl, hb⟩ : ∃ a b, i = a * 3 + b ∧ b < 3 := ⟨i / 3, i % 3, by omega, by omega⟩
  rw [cellsF_get _ a (by rw [List.length_replicate]; omega) b hb, Array.getElem?_eq_getElem (by omega)]
  unfold madeCells
  simp only [Array.getElem_map, Array.getElem_range, List.getElem_replicate]
  have e : (a * 3 + b) % (#[Value.string (S []), .int .i64 0, .int .i64 0] : Array Value).size = b := by
   show (a * 3 + b) % 3 = b
   omega
  rw [e]
  have hb' : b = 0 ∨ b = 1 ∨ b = 2 := by omega
  rcases hb' with rfl | rfl | rfl <;> rfl
 ·rw [Array.getElem?_eq_none (by omega), Array.getElem?_eq_none (by omega)]
def rowsF (fs : List Fd) (k : Nat) : List Fd := fs.take k ++ List.replicate (fs.length - k) fd0
theorem rowsF_0 (fs : List Fd) : rowsF fs 0 = List.replicate fs.length fd0 := by simp [rowsF]
theorem rowsF_all (fs : List Fd) : rowsF fs fs.length = fs := by simp [rowsF]
theorem rowsF_len (fs : List Fd) (k : Nat) (hk : k ≤ fs.length) : (rowsF fs k).length = fs.length := by simp [rowsF]; omega
theorem rowsF_step (fs : List Fd) (k : Nat) (hk : k < fs.length) : (rowsF fs k).set k fs[k] = rowsF fs (k + 1) := by
 unfold rowsF
 have hl : (fs.take k).length = k := by simp; omega
 rw [List.set_append_right _ _ (by omega), hl, Nat.sub_self, show fs.length - k = (fs.length - (k + 1)) + 1 by omega, List.replicate_succ, List.set_cons_zero, List.take_succ_eq_append_getElem hk, List.append_assoc]
 rfl
def dec2 (n : Nat) : List UInt8 := if n < 10 then [UInt8.ofNat (48 + n)] else [UInt8.ofNat (48 + n / 10), UInt8.ofNat (48 + n % 10)]
def numT (f : Fd) : List UInt8 := dec2 f.pos ++ 32 :: dec2 f.sz
def fieldT (f : Fd) : List UInt8 := f.nm ++ 32 :: numT f
def spelt (f : Fd) : Bool := Lib.cut (fieldT f) [32] == (f.nm, numT f, true) && Lib.cut (numT f) [32] == (dec2 f.pos, dec2 f.sz, true) &&
 Lib.atoi (dec2 f.pos) == some (f.pos : Int) && Lib.atoi (dec2 f.sz) == some (f.sz : Int) && decide ((fieldT f).length < 100)
def speltK (k : Kd) : Bool := k.fs.all spelt && Lib.splitK [44, 32] 0 (Lib.count k.tx [44, 32]) k.tx == k.fs.map fieldT && Lib.count k.tx [44, 32] + 1 == k.fs.length && decide (k.tx.length < 1000)
theorem kinds_spelt : kinds.all speltK = true := by decide +kernel
structure Spelt (k : Kd) : Prop where
 fld : ∀ f ∈ k.fs, Lib.cut (fieldT f) [32] = (f.nm, numT f, true) ∧ Lib.cut (numT f) [32] = (dec2 f.pos, dec2 f.sz, true) ∧ Lib.atoi (dec2 f.pos) = some (f.pos : Int) ∧ Lib.atoi (dec2 f.sz) = some (f.sz : Int) ∧ (fieldT f).length < 100
 split : Lib.splitK [44, 32] 0 (Lib.count k.tx [44, 32]) k.tx = k.fs.map fieldT
 cnt : Lib.count k.tx [44, 32] + 1 = k.fs.length
 len : k.tx.length < 1000
theorem spelt_of {k : Kd} (h : k ∈ kinds) : Spelt k := by
 have := List.all_eq_true.1 kinds_spelt k h
 unfold speltK at this
 simp only [Bool.and_eq_true, decide_eq_true_eq, beq_iff_eq] at this
 obtain ⟨⟨⟨h1, h2⟩, h3⟩, h4⟩ := this
 refine ⟨fun f hf => ?_, h2, h3, h4⟩
 have hs := List.all_eq_true.1 h1 f hf
 unfold spelt at hs
 simp only [Bool.and_eq_true, decide_eq_true_eq, beq_iff_eq] at hs
 obtain ⟨⟨⟨⟨a, b⟩, c⟩, d⟩, e⟩ := hs
 exact ⟨a, b, c, d, e⟩
theorem dec2_len (n : Nat) : (dec2 n).length ≤ 2 := by unfold dec2; split <;> simp
theorem splitB_of {k : Kd} (h : Spelt k) : Lib.splitB (S [44, 32]) 0 (Lib.countB (S k.tx) (S [44, 32])) (S k.tx) = k.fs.map fun f => S (fieldT f) := by
 have e1 : Lib.countB (S k.tx) (S [44, 32]) = Lib.count k.tx [44, 32] := by show Lib.count (S k.tx).data.toList (S [44, 32]).data.toList = _; simp [S]
 rw [e1]
 have hd := Lib.splitB_data (S [44, 32]) 0 (Lib.count k.tx [44, 32]) (S k.tx)
 have e2 : (S [44, 32]).data.toList = [44, 32] := by simp [S]
 have e3 : (S k.tx).data.toList = k.tx := by simp [S]
 rw [e2, e3, h.split] at hd
 have hinv : ∀ s : ByteArray, S s.data.toList = s := fun s => by apply ByteArray.ext; simp [S]
 have := congrArg (List.map S) hd
 rw [List.map_map, List.map_map] at this
 rw [show (S ∘ fun x : ByteArray => x.data.toList) = id from funext fun s => hinv s, List.map_id] at this
 rw [this]
 rfl
theorem countB_of {k : Kd} (h : Spelt k) : Lib.countB (S k.tx) (S [44, 32]) + 1 = k.fs.length := by
 have e1 : Lib.countB (S k.tx) (S [44, 32]) = Lib.count k.tx [44, 32] := by show Lib.count (S k.tx).data.toList (S [44, 32]).data.toList = _; simp [S]
 rw [e1, h.cnt]
end Go.Proofs.YtjbbbpgcegcbaaaGreatDoor
namespace Go.Proofs
open Go.Shelf
def Tryz.lays146_ren : Go.Shelf.Ren := ⟨fun | 146 => 146 | 221 => 172 | 268 => 185 | 138 => 186 | 143 => 187 | 195 => 197 | 197 => 193 | 218 => 198 | 219 => 169 | 260 => 206 | 217 => 141 | 225 => 182 | 224 => 183 | 267 => 184 | 266 => 171 | 314 => 196 | n => n, fun | 9 => 9 | 31 => 22 | 3 => 3 | 4 => 4 | 0 => 0 | 105 => 288 | 21 => 21 | 5 => 5 | 46 => 132 | 119 => 308 | 139 => 311 | 138 => 310 | 146 => 282 | 51 => 66 | n => n, fun | 1 => 3 | 3 => 6 | 4 => 7 | n => n⟩
theorem Tryz.lays146 : Go.Proofs.Lays.n146 Tryz.prog Tryz.lays146_ren := {
 mixed := by kernel_rfl
 f138 := Tryz.func186.trans (congrArg some (by kernel_rfl))
 f143 := Tryz.func187.trans (congrArg some (by kernel_rfl))
 f146 := Tryz.func146.trans (congrArg some (by kernel_rfl))
 f195 := Tryz.func197.trans (congrArg some (by kernel_rfl))
 f197 := Tryz.func193.trans (congrArg some (by kernel_rfl))
 f217 := Tryz.func141.trans (congrArg some (by kernel_rfl))
 f218 := Tryz.func198.trans (congrArg some (by kernel_rfl))
 f219 := Tryz.func169.trans (congrArg some (by kernel_rfl))
 f221 := Tryz.func172.trans (congrArg some (by kernel_rfl))
 f224 := Tryz.func183.trans (congrArg some (by kernel_rfl))
 f225 := Tryz.func182.trans (congrArg some (by kernel_rfl))
 f260 := Tryz.func206.trans (congrArg some (by kernel_rfl))
 f266 := Tryz.func171.trans (congrArg some (by kernel_rfl))
 f267 := Tryz.func184.trans (congrArg some (by kernel_rfl))
 f268 := Tryz.func185.trans (congrArg some (by kernel_rfl))
 f314 := Tryz.func196.trans (congrArg some (by kernel_rfl))
 t0 := Tryz.underlying0
 a0 := Tryz.isAgg0
 z0 := Tryz.sizeOf0
 v0 := Tryz.zeroValue0
 t3 := Tryz.underlying3
 a3 := Tryz.isAgg3
 z3 := Tryz.sizeOf3
 v3 := Tryz.zeroValue3
 t4 := Tryz.underlying4
 a4 := Tryz.isAgg4
 z4 := Tryz.sizeOf4
 v4 := Tryz.zeroValue4
 t5 := Tryz.underlying5
 a5 := Tryz.isAgg5
 z5 := Tryz.sizeOf5
 v5 := Tryz.zeroValue5
 t9 := Tryz.underlying9
 a9 := Tryz.isAgg9
 z9 := Tryz.sizeOf9
 v9 := Tryz.zeroValue9
 t21 := Tryz.underlying21
 a21 := Tryz.isAgg21
 z21 := Tryz.sizeOf21
 v21 := Tryz.zeroValue21
 t31 := Tryz.underlying22
 a31 := Tryz.isAgg22
 z31 := Tryz.sizeOf22
 v31 := Tryz.zeroValue22
 t46 := Tryz.underlying132
 a46 := Tryz.isAgg132
 z46 := Tryz.sizeOf132
 v46 := Tryz.zeroValue132
 t51 := Tryz.underlying66
 a51 := Tryz.isAgg66
 z51 := Tryz.sizeOf66
 v51 := Tryz.zeroValue66
 t105 := Tryz.underlying288
 a105 := Tryz.isAgg288
 z105 := Tryz.sizeOf288
 v105 := Tryz.zeroValue288
 t119 := Tryz.underlying308
 a119 := Tryz.isAgg308
 z119 := Tryz.sizeOf308
 t138 := Tryz.underlying310
 a138 := Tryz.isAgg310
 z138 := Tryz.sizeOf310
 v138 := Tryz.zeroValue310
 t139 := Tryz.underlying311
 a139 := Tryz.isAgg311
 z139 := Tryz.sizeOf311
 v139 := Tryz.zeroValue311
 t146 := Tryz.underlying282
 a146 := Tryz.isAgg282
 z146 := Tryz.sizeOf282
 v146 := Tryz.zeroValue282
 g1 := by kernel_rfl
 g3 := by kernel_rfl
 g4 := by kernel_rfl }
open Go.RowKit Go.Lib in
theorem Tryz.strings_Split (s sep : ByteArray) (m : Int) (w : World) (hs : s.size < 4294967281) (hm : w.cell? ⟨3, 0, none⟩ = some (.int .i64 m)) (h1 : 1 ≤ sep.size) :
  Calls Tryz.prog 146 #[.string s, .string sep] w fun e w' =>
   e = .returned (.slice (some ⟨w.heap.size, 0, none⟩) (Lib.countB s sep + 1) (Lib.countB s sep + 1)) ∧ w' = w.alloc (.cells ((Lib.splitB sep 0 (Lib.countB s sep) s).map Value.string).toArray 9) := Any.strings_Split Tryz.lays146 (by kernel_rfl) s sep m w hs hm h1
def Tryz.lays145_ren : Go.Shelf.Ren := ⟨fun | 145 => 93 | 220 => 134 | 219 => 169 | 217 => 141 | 225 => 182 | 224 => 183 | 267 => 184 | 266 => 171 | 314 => 196 | n => n, fun | 9 => 9 | 4 => 4 | 59 => 48 | 3 => 3 | 5 => 5 | 46 => 132 | 146 => 282 | 51 => 66 | n => n, fun | 1 => 3 | n => n⟩
theorem Tryz.lays145 : Go.Proofs.Lays.n145 Tryz.prog Tryz.lays145_ren := {
 mixed := by kernel_rfl
 f145 := Tryz.func93.trans (congrArg some (by kernel_rfl))
 f217 := Tryz.func141.trans (congrArg some (by kernel_rfl))
 f219 := Tryz.func169.trans (congrArg some (by kernel_rfl))
 f220 := Tryz.func134.trans (congrArg some (by kernel_rfl))
 f224 := Tryz.func183.trans (congrArg some (by kernel_rfl))
 f225 := Tryz.func182.trans (congrArg some (by kernel_rfl))
 f266 := Tryz.func171.trans (congrArg some (by kernel_rfl))
 f267 := Tryz.func184.trans (congrArg some (by kernel_rfl))
 f314 := Tryz.func196.trans (congrArg some (by kernel_rfl))
 t3 := Tryz.underlying3
 a3 := Tryz.isAgg3
 z3 := Tryz.sizeOf3
 v3 := Tryz.zeroValue3
 t4 := Tryz.underlying4
 a4 := Tryz.isAgg4
 z4 := Tryz.sizeOf4
 v4 := Tryz.zeroValue4
 t5 := Tryz.underlying5
 a5 := Tryz.isAgg5
 z5 := Tryz.sizeOf5
 v5 := Tryz.zeroValue5
 t9 := Tryz.underlying9
 a9 := Tryz.isAgg9
 z9 := Tryz.sizeOf9
 v9 := Tryz.zeroValue9
 t46 := Tryz.underlying132
 a46 := Tryz.isAgg132
 z46 := Tryz.sizeOf132
 v46 := Tryz.zeroValue132
 t51 := Tryz.underlying66
 a51 := Tryz.isAgg66
 z51 := Tryz.sizeOf66
 v51 := Tryz.zeroValue66
 t59 := Tryz.underlying48
 a59 := Tryz.isAgg48
 z59 := Tryz.sizeOf48
 v59 := Tryz.zeroValue48
 t146 := Tryz.underlying282
 a146 := Tryz.isAgg282
 z146 := Tryz.sizeOf282
 v146 := Tryz.zeroValue282
 g1 := by kernel_rfl }
open Go.RowKit Go.Lib in
theorem Tryz.strings_Cut (s sep : ByteArray) (m : Int) (w : World) (hs : s.size < 4294967281) (hm : w.cell? ⟨3, 0, none⟩ = some (.int .i64 m)) :
  Calls Tryz.prog 93 #[.string s, .string sep] w fun e w' => e = .returned (.tuple #[.string ⟨(Lib.cut s.data.toList sep.data.toList).1.toArray⟩, .string ⟨(Lib.cut s.data.toList sep.data.toList).2.1.toArray⟩, .bool (Lib.cut s.data.toList sep.data.toList).2.2]) ∧ ∃ n, w' = w.drewN n := Any.strings_Cut Tryz.lays145 s sep m w hs hm
end Go.Proofs
