/- Heads as lists of bytes and numbers: what is right, what a field has, what is made, written, read. No function of the program is walked here. -/
import Derived.Test.YtffdlchoaaakdaaGreatDoorHeadTab
import Derived.Test.YtffdlchoaaakdaaGreatDoorNum
namespace Go.Proofs.YtffdlchoaaakdaaGreatDoor
open Go.RowKit
structure Hd where
  op : Int
  now : Bool
  fl : Int
  vs : List Nat
def hd0 : Hd := ⟨0, false, 0, []⟩
def idxName : List Fd → List UInt8 → Option Nat
  | [], _ => none
  | f :: fs, n => if f.nm = n then some 0 else (idxName fs n).map (· + 1)
def flOk (fl : Int) (mask : Nat) : Bool := decide (0 ≤ fl) && (fl.toNat &&& mask == fl.toNat)
def badVal : List Fd → List Nat → Option Nat
  | f :: fs, v :: vs => if v / 2 ^ (8 * f.sz) = 0 then (badVal fs vs).map (· + 1) else some 0
  | _, _ => none
def rightK (k : Kd) (now : Bool) (op : Int) (fl : Int) (vs : List Nat) : Int × Int :=
  if (now && decide (32 ≤ op)) || !flOk fl k.fl then (3, -1)
  else if vs.length ≠ k.fs.length then (7, -1)
  else match badVal k.fs vs with
    | some i => (2, (i : Int))
    | none => (0, -1)
def rightR (h : Hd) : Int × Int :=
  match kindOf h.op with
  | none => (1, -1)
  | some k => rightK k h.now h.op h.fl h.vs
def valueK (k : Kd) (vs : List Nat) (n : List UInt8) : Nat × Int :=
  match idxName k.fs n with
  | none => (0, 5)
  | some i => if i < vs.length then (vs.getD i 0, 0) else (0, 7)
def valueR (h : Hd) (n : List UInt8) : Nat × Int :=
  match kindOf h.op with
  | none => (0, 1)
  | some k => valueK k h.vs n
/-- name by name: the values so far; and what is wrong -/
def fill (fs : List Fd) : List (List UInt8) → List Nat → List Nat → List Nat × Int
  | [], _, acc => (acc, 0)
  | n :: ns, vs, acc => match idxName fs n with
    | none => (acc, 5)
    | some j => match vs with
      | [] => (acc, 7)
      | v :: vs => fill fs ns vs (acc.set j v)
def makeR (op fl : Int) (ns : List (List UInt8)) (vs : List Nat) : Hd × Int × Int :=
  match kindOf op with
  | none => (hd0, 1, -1)
  | some k =>
    let r := fill k.fs ns vs (List.replicate k.fs.length 0)
    if r.2 ≠ 0 then (hd0, r.2, -1)
    else
      let e := rightR ⟨op, false, fl, r.1⟩
      if e.1 ≠ 0 then (hd0, e) else (⟨op, false, fl, r.1⟩, 0, -1)
def baseB (h : Hd) (words data : Nat) : List UInt8 :=
  [UInt8.ofNat (h.op.toNat + if h.now then 64 else 0), UInt8.ofNat h.fl.toNat, 0, 0] ++ be words 1 ++ be data 3 ++ List.replicate 40 0
def splice (l : List UInt8) (o : Nat) (r : List UInt8) : List UInt8 := l.take o ++ r ++ l.drop (o + r.length)
def putAll : List Fd → List Nat → List UInt8 → List UInt8
  | f :: fs, v :: vs, l => putAll fs vs (splice l f.pos (be v f.sz))
  | _, _, l => l
def headB (h : Hd) (words data : Nat) : List UInt8 :=
  match kindOf h.op with
  | none => []
  | some k => putAll k.fs h.vs (baseB h words data)
def writeR (h : Hd) (words data : Int) : List UInt8 × Int × Int :=
  let r := rightR h
  if r.1 ≠ 0 then ([], r)
  else if words < 0 ∨ 255 < words ∨ data < 0 ∨ 16777215 < data then ([], 4, -1)
  else (headB h words.toNat data.toNat, 0, -1)
def cutB (l : List UInt8) (o n : Nat) : List UInt8 := (l.drop o).take n
def readVs (fs : List Fd) (s : List UInt8) : List Nat := fs.map fun f => val (cutB s f.pos f.sz)
def readH (k : Kd) (s : List UInt8) : Hd := ⟨((s.getD 0 0).toNat % 64 : Nat), decide (64 ≤ (s.getD 0 0).toNat), ((s.getD 1 0).toNat : Nat), readVs k.fs s⟩
def readW (s : List UInt8) : Nat := val (cutB s 4 1)
def readD (s : List UInt8) : Nat := val (cutB s 5 3)
def readR (s : List UInt8) : Hd × Nat × Nat × Int :=
  if s.length ≠ 48 then (hd0, 0, 0, 7)
  else if 128 ≤ (s.getD 0 0).toNat then (hd0, 0, 0, 3)
  else match kindOf ((s.getD 0 0).toNat % 64 : Nat) with
    | none => (hd0, 0, 0, 1)
    | some k => if writeR (readH k s) (readW s) (readD s) = (s, 0, -1) then (readH k s, readW s, readD s, 0) else (hd0, 0, 0, 3)

-- what each row of the table keeps
def apartF : List Fd → Bool
  | [] => true
  | f :: fs => fs.all (fun g => decide (f.pos + f.sz ≤ g.pos ∨ g.pos + g.sz ≤ f.pos) && decide (f.nm ≠ g.nm)) && apartF fs
def fieldOk (f : Fd) : Bool := decide (2 ≤ f.pos) && decide (f.pos + f.sz ≤ 48) && decide (1 ≤ f.sz) && decide (f.sz ≤ 8) && decide (f.pos + f.sz ≤ 4 ∨ 8 ≤ f.pos) && decide (0 < f.nm.length) && decide (f.nm.length < 50)
def kindOk (k : Kd) : Bool := decide (k.op < 64) && decide (0 < k.fl) && decide (k.fl < 256) && decide (1 ≤ k.fs.length) && decide (k.fs.length ≤ 10) && k.fs.all fieldOk && apartF k.fs && decide (0 < k.nm.length) && decide (k.nm.length < 50) && (idxName k.fs [73, 84, 84]).isSome
theorem kinds_ok : kinds.all kindOk = true := by decide +kernel
theorem kindOf_mem {op : Int} {k : Kd} (h : kindOf op = some k) : k ∈ kinds ∧ (k.op : Int) = op := by
  unfold kindOf at h
  exact ⟨List.mem_of_find?_eq_some h, by have := List.find?_some h; simpa using this⟩
theorem kindOf_ok {op : Int} {k : Kd} (h : kindOf op = some k) : kindOk k = true := List.all_eq_true.1 kinds_ok k (kindOf_mem h).1
structure KindFacts (k : Kd) : Prop where
  op : k.op < 64
  fl0 : 0 < k.fl
  fl : k.fl < 256
  len0 : 1 ≤ k.fs.length
  len : k.fs.length ≤ 10
  fok : ∀ f ∈ k.fs, 2 ≤ f.pos ∧ f.pos + f.sz ≤ 48 ∧ 1 ≤ f.sz ∧ f.sz ≤ 8 ∧ (f.pos + f.sz ≤ 4 ∨ 8 ≤ f.pos) ∧ 0 < f.nm.length ∧ f.nm.length < 50
  apart : apartF k.fs = true
  nm0 : 0 < k.nm.length
  nm : k.nm.length < 50
  itt : ∃ i, idxName k.fs [73, 84, 84] = some i
theorem kindFacts {op : Int} {k : Kd} (h : kindOf op = some k) : KindFacts k := by
  have hk := kindOf_ok h
  unfold kindOk at hk
  simp only [Bool.and_eq_true, decide_eq_true_eq] at hk
  obtain ⟨⟨⟨⟨⟨⟨⟨⟨⟨h1, h2⟩, h3⟩, h4⟩, h5⟩, h6⟩, h7⟩, h8⟩, h9⟩, h10⟩ := hk
  refine ⟨h1, h2, h3, h4, h5, fun f hf => ?_, h7, h8, h9, Option.isSome_iff_exists.1 h10⟩
  have := List.all_eq_true.1 h6 f hf
  unfold fieldOk at this
  simp only [Bool.and_eq_true, decide_eq_true_eq] at this
  obtain ⟨⟨⟨⟨⟨⟨a, b⟩, c⟩, d⟩, e⟩, f1⟩, f2⟩ := this
  exact ⟨a, b, c, d, e, f1, f2⟩
theorem kindOf_range {op : Int} {k : Kd} (h : kindOf op = some k) : 0 ≤ op ∧ op < 64 := by
  have h1 := (kindFacts h).op
  have h2 := (kindOf_mem h).2
  omega
-- names
theorem idxName_lt {fs : List Fd} {n : List UInt8} {i : Nat} : idxName fs n = some i → i < fs.length := by
  induction fs generalizing i with
  | nil => intro h; cases h
  | cons f fs ih =>
    intro h
    unfold idxName at h
    split at h
    · cases h; simp
    · cases hx : idxName fs n with
      | none => rw [hx] at h; cases h
      | some j => rw [hx] at h; cases h; have := ih hx; simp; omega
theorem idxName_at {fs : List Fd} {n : List UInt8} {i : Nat} (h : idxName fs n = some i) : (fs[i]'(idxName_lt h)).nm = n := by
  induction fs generalizing i with
  | nil => cases h
  | cons f fs ih =>
    have h' := h
    unfold idxName at h
    split at h
    · cases h; assumption
    · cases hx : idxName fs n with
      | none => rw [hx] at h; cases h
      | some j => rw [hx] at h; cases h; simpa using ih hx
theorem idxName_none {fs : List Fd} {n : List UInt8} (h : idxName fs n = none) : ∀ f ∈ fs, f.nm ≠ n := by
  induction fs with
  | nil => intro f hf; cases hf
  | cons f fs ih =>
    unfold idxName at h
    split at h
    · cases h
    · rename_i hn
      have hx : idxName fs n = none := by cases hx : idxName fs n with | none => rfl | some j => rw [hx] at h; cases h
      intro g hg
      rcases List.mem_cons.1 hg with rfl | hg
      · exact hn
      · exact ih hx g hg
/-- how a walk finds it: none ahead of k, then that one -/
theorem idxName_first {fs : List Fd} {n : List UInt8} {k : Nat} (hk : k < fs.length) (h0 : ∀ j (hj : j < k), (fs[j]'(by omega)).nm ≠ n) (h1 : (fs[k]'hk).nm = n) : idxName fs n = some k := by
  induction fs generalizing k with
  | nil => simp at hk
  | cons f fs ih =>
    unfold idxName
    cases k with
    | zero => rw [if_pos (by simpa using h1)]
    | succ k =>
      rw [if_neg (by simpa using h0 0 (by omega))]
      rw [ih (k := k) (by simpa using hk) (fun j hj => by have := h0 (j + 1) (by omega); simpa using this) (by simpa using h1)]
      rfl
theorem idxName_all {fs : List Fd} {n : List UInt8} (h0 : ∀ j (hj : j < fs.length), (fs[j]'hj).nm ≠ n) : idxName fs n = none := by
  cases h : idxName fs n with
  | none => rfl
  | some i => exact absurd (idxName_at h) (h0 i (idxName_lt h))
theorem badVal_first {fs : List Fd} {vs : List Nat} {k : Nat} (hk : k < fs.length) (hv : k < vs.length) (h0 : ∀ j (hj : j < k), (vs[j]'(by omega)) / 2 ^ (8 * (fs[j]'(by omega)).sz) = 0) (h1 : vs[k] / 2 ^ (8 * fs[k].sz) ≠ 0) : badVal fs vs = some k := by
  induction fs generalizing k vs with
  | nil => simp at hk
  | cons f fs ih =>
    cases vs with
    | nil => simp at hv
    | cons v vs =>
      unfold badVal
      cases k with
      | zero => rw [if_neg (by simpa using h1)]
      | succ k =>
        rw [if_pos (by simpa using h0 0 (by omega))]
        rw [ih (k := k) (vs := vs) (by simpa using hk) (by simpa using hv) (fun j hj => by have := h0 (j + 1) (by omega); simpa using this) (by simpa using h1)]
        rfl
theorem badVal_none {fs : List Fd} {vs : List Nat} (hl : vs.length = fs.length) (h0 : ∀ j (hj : j < fs.length), (vs[j]'(by omega)) / 2 ^ (8 * (fs[j]'hj).sz) = 0) : badVal fs vs = none := by
  induction fs generalizing vs with
  | nil => rfl
  | cons f fs ih =>
    cases vs with
    | nil => rfl
    | cons v vs =>
      unfold badVal
      have h00 : v / 2 ^ (8 * f.sz) = 0 := h0 0 (by simp)
      rw [if_pos h00, ih (by simpa using hl) (fun j hj => by have := h0 (j + 1) (by simpa using hj); simpa using this)]
      rfl
theorem badVal_good {fs : List Fd} {vs : List Nat} (h : badVal fs vs = none) : ∀ j (hj : j < fs.length) (hv : j < vs.length), vs[j] / 2 ^ (8 * fs[j].sz) = 0 := by
  induction fs generalizing vs with
  | nil => intro j hj; simp at hj
  | cons f fs ih =>
    cases vs with
    | nil => intro j _ hv; simp at hv
    | cons v vs =>
      unfold badVal at h
      split at h
      · rename_i h0
        have hx : badVal fs vs = none := by cases hx : badVal fs vs with | none => rfl | some j => rw [hx] at h; cases h
        intro j hj hv
        cases j with
        | zero => simpa using h0
        | succ j => simpa using ih hx j (by simpa using hj) (by simpa using hv)
      · cases h
-- bytes
theorem splice_len {l r : List UInt8} {o : Nat} (h : o + r.length ≤ l.length) : (splice l o r).length = l.length := by
  unfold splice; simp; omega
theorem splice_get {l r : List UInt8} {o : Nat} (h : o + r.length ≤ l.length) (i : Nat) :
    (splice l o r)[i]? = if o ≤ i ∧ i < o + r.length then r[i - o]? else l[i]? := by
  unfold splice
  have ho : (l.take o).length = o := by simp; omega
  by_cases h1 : i < o
  · rw [if_neg (by omega), List.append_assoc, List.getElem?_append_left (by omega), List.getElem?_take_of_lt h1]
  · by_cases h2 : i < o + r.length
    · rw [if_pos ⟨by omega, h2⟩, List.append_assoc, List.getElem?_append_right (by omega), ho, List.getElem?_append_left (by omega)]
    · rw [if_neg (by omega), List.append_assoc, List.getElem?_append_right (by omega), ho, List.getElem?_append_right (by omega), List.getElem?_drop]
      congr 1; omega
theorem putAll_len {fs : List Fd} {vs : List Nat} {l : List UInt8} (h : ∀ f ∈ fs, f.pos + f.sz ≤ l.length) : (putAll fs vs l).length = l.length := by
  induction fs generalizing vs l with
  | nil => rfl
  | cons f fs ih =>
    cases vs with
    | nil => rfl
    | cons v vs =>
      have h1 := splice_len (l := l) (r := be v f.sz) (o := f.pos) (by rw [be_len]; exact h f List.mem_cons_self)
      show (putAll fs vs (splice l f.pos (be v f.sz))).length = _
      rw [ih (by intro g hg; rw [h1]; exact h g (List.mem_cons_of_mem _ hg)), h1]
def inF (f : Fd) (i : Nat) : Prop := f.pos ≤ i ∧ i < f.pos + f.sz
instance (f : Fd) (i : Nat) : Decidable (inF f i) := by unfold inF; infer_instance
theorem cutB_len {s : List UInt8} {o n : Nat} (h : o + n ≤ s.length) : (cutB s o n).length = n := by unfold cutB; simp; omega
theorem cutB_get {s : List UInt8} {o n i : Nat} (h : i < n) : (cutB s o n)[i]? = s[o + i]? := by
  unfold cutB; rw [List.getElem?_take_of_lt h, List.getElem?_drop]
theorem be_cut {s : List UInt8} {o n : Nat} (h : o + n ≤ s.length) : be (val (cutB s o n)) n = cutB s o n := by
  have := be_val (cutB s o n)
  rwa [cutB_len h] at this
/-- fields with what stands in s: s there, l elsewhere -/
theorem putAll_read {fs : List Fd} {s l : List UInt8} (h : ∀ f ∈ fs, f.pos + f.sz ≤ s.length) (hl : l.length = s.length) (i : Nat) :
    (putAll fs (readVs fs s) l)[i]? = if ∃ f ∈ fs, inF f i then s[i]? else l[i]? := by
  induction fs generalizing l with
  | nil => simp [putAll]
  | cons f fs ih =>
    have hf := h f List.mem_cons_self
    have h1 := splice_len (l := l) (r := be (val (cutB s f.pos f.sz)) f.sz) (o := f.pos) (by rw [be_len, hl]; exact hf)
    show (putAll fs (readVs fs s) (splice l f.pos (be (val (cutB s f.pos f.sz)) f.sz)))[i]? = _
    rw [ih (fun g hg => h g (List.mem_cons_of_mem _ hg)) (by rw [h1]; exact hl)]
    by_cases hx : ∃ g ∈ fs, inF g i
    · obtain ⟨g, hg, hi⟩ := hx
      rw [if_pos ⟨g, hg, hi⟩, if_pos ⟨g, List.mem_cons_of_mem _ hg, hi⟩]
    · rw [if_neg hx, splice_get (by rw [be_len, hl]; exact hf), be_len]
      by_cases hy : inF f i
      · rw [if_pos (by exact hy), if_pos ⟨f, List.mem_cons_self, hy⟩, be_cut hf, cutB_get (by have := hy.1; have := hy.2; omega)]
        congr 1; have := hy.1; omega
      · rw [if_neg (by exact hy), if_neg]
        rintro ⟨g, hg, hi⟩
        rcases List.mem_cons.1 hg with rfl | hg
        · exact hy hi
        · exact hx ⟨g, hg, hi⟩
theorem putAll_other {fs : List Fd} {vs : List Nat} {l : List UInt8} (h : ∀ f ∈ fs, f.pos + f.sz ≤ l.length) (i : Nat) (hi : ∀ f ∈ fs, ¬ inF f i) : (putAll fs vs l)[i]? = l[i]? := by
  induction fs generalizing vs l with
  | nil => rfl
  | cons f fs ih =>
    cases vs with
    | nil => rfl
    | cons v vs =>
      have hf := h f List.mem_cons_self
      have h1 := splice_len (l := l) (r := be v f.sz) (o := f.pos) (by rw [be_len]; exact hf)
      show (putAll fs vs (splice l f.pos (be v f.sz)))[i]? = _
      rw [ih (by intro g hg; rw [h1]; exact h g (List.mem_cons_of_mem _ hg)) (fun g hg => hi g (List.mem_cons_of_mem _ hg)), splice_get (by rw [be_len]; exact hf), be_len]
      exact if_neg (hi f List.mem_cons_self)
theorem apartF_cons {f : Fd} {fs : List Fd} (h : apartF (f :: fs) = true) : (∀ g ∈ fs, (f.pos + f.sz ≤ g.pos ∨ g.pos + g.sz ≤ f.pos) ∧ f.nm ≠ g.nm) ∧ apartF fs = true := by
  unfold apartF at h
  simp only [Bool.and_eq_true] at h
  refine ⟨fun g hg => ?_, h.2⟩
  have := List.all_eq_true.1 h.1 g hg
  simpa using this
/-- each field has what was put there -/
theorem putAll_get {fs : List Fd} {vs : List Nat} {l : List UInt8} (h : ∀ f ∈ fs, f.pos + f.sz ≤ l.length) (ha : apartF fs = true) (j : Nat) (hj : j < fs.length) (hv : j < vs.length) :
    cutB (putAll fs vs l) fs[j].pos fs[j].sz = be vs[j] fs[j].sz := by
  induction fs generalizing vs l j with
  | nil => simp at hj
  | cons f fs ih =>
    cases vs with
    | nil => simp at hv
    | cons v vs =>
      have hf := h f List.mem_cons_self
      have h1 := splice_len (l := l) (r := be v f.sz) (o := f.pos) (by rw [be_len]; exact hf)
      have hr : ∀ g ∈ fs, g.pos + g.sz ≤ (splice l f.pos (be v f.sz)).length := by intro g hg; rw [h1]; exact h g (List.mem_cons_of_mem _ hg)
      obtain ⟨hd, ha'⟩ := apartF_cons ha
      show cutB (putAll fs vs (splice l f.pos (be v f.sz))) _ _ = _
      cases j with
      | succ j => exact ih hr ha' j (by simpa using hj) (by simpa using hv)
      | zero =>
        show cutB (putAll fs vs (splice l f.pos (be v f.sz))) f.pos f.sz = be v f.sz
        apply List.ext_getElem?
        intro i
        by_cases hi : i < f.sz
        · rw [cutB_get hi, putAll_other hr _ (fun g hg hx => by have := (hd g hg).1; have h2 := hx.1; have h3 := hx.2; omega), splice_get (by rw [be_len]; exact hf), be_len, if_pos ⟨by omega, by omega⟩]
          congr 1; omega
        · have h2 : (cutB (putAll fs vs (splice l f.pos (be v f.sz))) f.pos f.sz).length ≤ f.sz := by unfold cutB; simp; omega
          have h3 := be_len v f.sz
          rw [List.getElem?_eq_none (by omega), List.getElem?_eq_none (by omega)]
end Go.Proofs.YtffdlchoaaakdaaGreatDoor
