/- LP09: several texts in one. -/
import Derived.Laws.OwnMore
import Derived.Laws.Tables
import Derived.Lib.Atoi
import Derived.Lib.IndexMore
import Derived.Lib.Split
import Derived.LoopIn
import Derived.LoopNIn
import Derived.OwnWalkIn
import Derived.RangeFuncBound
import Derived.RangeFuncCalls
import Derived.RangeFuncLeaves
import Derived.RangeFuncNested
import Derived.Shelf.Abstract
import Derived.Shelf.RegionOpen
import Derived.Shelf.Strconv.Atoi
import Derived.Shelf.Strings.Cut
import Derived.Shelf.Strings.Split
import Derived.TacticsInMore
import Derived.Test.YtmkebjdmkkjloaaGreatDoorProg
import Derived.Test.YtmkebjdmkkjloaaGreatDoorRows
import Derived.Test.YtmkebjdmkkjloaaGreatDoorLP04
import Derived.Test.YtmkebjdmkkjloaaGreatDoorLP05
import Derived.Test.YtmkebjdmkkjloaaGreatDoorLP07
import Derived.Test.YtmkebjdmkkjloaaGreatDoorLP08
namespace Go.Proofs.YtmkebjdmkkjloaaGreatDoor
open Go.RowKit
set_option linter.unusedVariables false
def PosV (W : World) (v : Value) (l : List Po) : Prop := ∃ p c, v = .slice p l.length c ∧ l.length ≤ c ∧ (0 < l.length → ∃ b o, p = some ⟨b, o, none⟩ ∧ ∀ j (hj : j < l.length), W.cell? ⟨b, o + j * 2, none⟩ = some (.string (S l[j].ad)) ∧ W.cell? ⟨b, o + j * 2 + 1, none⟩ = some (.int .i64 l[j].gr))
theorem PosV.later {W W' : World} {v : Value} {l : List Po} (h : PosV W v l) (hb : Below W.heap.size W W') : PosV W' v l := by
  obtain ⟨p, c, hv, hlc, hc⟩ := h
  refine ⟨p, c, hv, hlc, fun hl => ?_⟩
  obtain ⟨b, o, hp, hcell⟩ := hc hl
  refine ⟨b, o, hp, fun j hj => ?_⟩
  obtain ⟨h1, h2⟩ := hcell j hj
  rw [(bcell hb).1 b (o + j * 2) (block_lt_of_cell (w := W) (a := ⟨b, o + j * 2, none⟩) h1), (bcell hb).1 b (o + j * 2 + 1) (block_lt_of_cell (w := W) (a := ⟨b, o + j * 2 + 1, none⟩) h2)]
  exact ⟨h1, h2⟩
theorem PosV.drewN {W : World} {v : Value} {l : List Po} (h : PosV W v l) (n : Nat) : PosV (W.drewN n) v l := h
theorem PosV.nil (W : World) : PosV W (.slice none 0 0) [] := ⟨none, 0, rfl, Nat.le_refl _, fun h => absurd h (by decide)⟩
theorem PosV.form {W : World} {v : Value} {l : List Po} (h : PosV W v l) : ∃ p c, v = .slice p l.length c := by obtain ⟨p, c, h, _⟩ := h; exact ⟨p, c, h⟩
theorem PosV.cell {W : World} {p : Option Addr} {c : Nat} {l : List Po} (h : PosV W (.slice p l.length c) l) {j : Nat} (hj : j < l.length) : ∃ b o, p = some ⟨b, o, none⟩ ∧ W.cell? ⟨b, o + j * 2, none⟩ = some (.string (S l[j].ad)) ∧ W.cell? ⟨b, o + j * 2 + 1, none⟩ = some (.int .i64 l[j].gr) := by
  obtain ⟨p0, c0, hv, _, hc⟩ := h
  obtain ⟨rfl, rfl⟩ : p = p0 ∧ c = c0 := by simpa using hv
  obtain ⟨b, o, rfl, hcell⟩ := hc (by omega)
  exact ⟨b, o, rfl, hcell j hj⟩
def fitPo (l : List Po) : Prop := l.length * 24 ≤ 140737488351232 ∧ ∀ p ∈ l, p.ad.length ≤ 140737488351232 ∧ -9223372036854775808 ≤ p.gr ∧ p.gr ≤ 9223372036854775807
def confV (c : Cf) (vt vp vu vo : Value) : Value := .agg #[vt, vp, vu, .string (S c.sn), .string (S c.ss), .int .i64 c.lim, vo]
structure ConfAt (W : World) (c : Cf) (vt vp vu vo : Value) : Prop where
  ts : StrV W vt c.ts
  ps : PosV W vp c.ps
  us : UsV W vu c.us
  own : PrsV W vo c.own
  tc : ∀ p n k, vt = .slice p n k → n ≤ k
theorem ConfAt.later {W W' : World} {c : Cf} {vt vp vu vo : Value} (h : ConfAt W c vt vp vu vo) (hb : Below W.heap.size W W') : ConfAt W' c vt vp vu vo := ⟨h.ts.later hb, h.ps.later hb, h.us.later hb, h.own.later hb, h.tc⟩
theorem ConfAt.drewN {W : World} {c : Cf} {vt vp vu vo : Value} (h : ConfAt W c vt vp vu vo) (n : Nat) : ConfAt (W.drewN n) c vt vp vu vo := ⟨h.ts, h.ps.drewN n, h.us.drewN n, h.own.drewN n, h.tc⟩
theorem StrV.take {W : World} {p : Option Addr} {k : Nat} {l : List (List UInt8)} (h : StrV W (.slice p l.length k) l) {j : Nat} (hj : j ≤ l.length) : StrV W (.slice p j k) (l.take j) := by
  obtain ⟨p0, k0, hv, hc⟩ := h
  obtain ⟨rfl, rfl⟩ : p = p0 ∧ k = k0 := by simpa using hv
  have hl : (l.take j).length = j := by rw [List.length_take]; omega
  refine ⟨p, k, by rw [hl], fun h0 => ?_⟩
  rw [hl] at h0
  obtain ⟨b, o, rfl, hcell⟩ := hc (by omega)
  refine ⟨b, o, rfl, fun i hi => ?_⟩
  rw [List.getElem_take]
  exact hcell i (by rw [hl] at hi; omega)
end Go.Proofs.YtmkebjdmkkjloaaGreatDoor
namespace Go.Proofs.YtmkebjdmkkjloaaGreatDoor
open Go.RowKit
def fieldC (f : Fd) : List Value := [.string (S f.nm), .int .i64 (f.pos : Int), .int .i64 (f.sz : Int)]
def cellsF (l : List Fd) : Array Value := (l.flatMap fieldC).toArray
def fd0 : Fd := ⟨[], 0, 0⟩
theorem cellsF_len : ∀ (l : List Fd), (cellsF l).size = 3 * l.length
  | [] => rfl
  | f :: l => by
    have := cellsF_len l
    unfold cellsF at *
    simp only [List.flatMap_cons, List.size_toArray, List.length_append, List.length_cons] at *
    rw [this]; simp [fieldC]; omega
theorem cellsF_get : ∀ (l : List Fd) (j : Nat) (hj : j < l.length) (i : Nat), i < 3 → (cellsF l)[j * 3 + i]? = (fieldC l[j])[i]?
  | [], j, hj, _, _ => by simp at hj
  | f :: l, j, hj, i, hi => by
    unfold cellsF
    simp only [List.flatMap_cons, List.getElem?_toArray]
    cases j with
    | zero => rw [List.getElem?_append_left (by simp [fieldC]; omega)]; simp
    | succ j =>
      rw [List.getElem?_append_right (by simp [fieldC]; omega)]
      have h := cellsF_get l j (by simpa using hj) i hi
      unfold cellsF at h
      rw [List.getElem?_toArray] at h
      rw [show (j + 1) * 3 + i - (fieldC f).length = j * 3 + i by simp [fieldC]; omega, h]
      rfl
theorem cellsF_set (l : List Fd) (j : Nat) (hj : j < l.length) (f : Fd) :
    (((cellsF l).setIfInBounds (j * 3) (.string (S f.nm))).setIfInBounds (j * 3 + 1) (.int .i64 (f.pos : Int))).setIfInBounds (j * 3 + 2) (.int .i64 (f.sz : Int)) = cellsF (l.set j f) := by
  apply Array.ext_getElem?
  intro i
  have hs := cellsF_len l
  have hs2 := cellsF_len (l.set j f)
  rw [List.length_set] at hs2
  by_cases hi : i < 3 * l.length
  · obtain ⟨a, b, rfl, hb⟩ : ∃ a b, i = a * 3 + b ∧ b < 3 := ⟨i / 3, i % 3, by omega, by omega⟩
    have ha : a < l.length := by omega
    rw [cellsF_get _ a (by rw [List.length_set]; exact ha) b hb]
    simp only [Array.getElem?_setIfInBounds, Array.size_setIfInBounds, hs]
    by_cases hab : a = j
    · subst hab
      rw [List.getElem_set_self]
      have hb' : b = 0 ∨ b = 1 ∨ b = 2 := by omega
      rcases hb' with rfl | rfl | rfl
      · rw [if_neg (by omega), if_neg (by omega), if_pos (by omega), if_pos (by omega)]; rfl
      · rw [if_neg (by omega), if_pos (by omega), if_pos (by omega)]; rfl
      · rw [if_pos (by omega), if_pos (by omega)]; rfl
    · rw [if_neg (by omega), if_neg (by omega), if_neg (by omega), List.getElem_set_ne (by omega), cellsF_get _ a ha b hb]
  · rw [Array.getElem?_eq_none (by simp only [Array.size_setIfInBounds]; omega), Array.getElem?_eq_none (by omega)]
theorem madeCells_F (n : Nat) : madeCells #[Value.string (S []), .int .i64 0, .int .i64 0] (n * 3) = cellsF (List.replicate n fd0) := by
  apply Array.ext_getElem?
  intro i
  have h1 : (madeCells #[Value.string (S []), .int .i64 0, .int .i64 0] (n * 3)).size = n * 3 := size_madeCells _ _
  have h2 := cellsF_len (List.replicate n fd0)
  rw [List.length_replicate] at h2
  by_cases hi : i < n * 3
  · obtain ⟨a, b, rfl, hb⟩ : ∃ a b, i = a * 3 + b ∧ b < 3 := ⟨i / 3, i % 3, by omega, by omega⟩
    rw [cellsF_get _ a (by rw [List.length_replicate]; omega) b hb, Array.getElem?_eq_getElem (by omega)]
    unfold madeCells
    simp only [Array.getElem_map, Array.getElem_range, List.getElem_replicate]
    have e : (a * 3 + b) % (#[Value.string (S []), .int .i64 0, .int .i64 0] : Array Value).size = b := by
      show (a * 3 + b) % 3 = b
      omega
    rw [e]
    have hb' : b = 0 ∨ b = 1 ∨ b = 2 := by omega
    rcases hb' with rfl | rfl | rfl <;> rfl
  · rw [Array.getElem?_eq_none (by omega), Array.getElem?_eq_none (by omega)]
def rowsF (fs : List Fd) (k : Nat) : List Fd := fs.take k ++ List.replicate (fs.length - k) fd0
theorem rowsF_0 (fs : List Fd) : rowsF fs 0 = List.replicate fs.length fd0 := by simp [rowsF]
theorem rowsF_all (fs : List Fd) : rowsF fs fs.length = fs := by simp [rowsF]
theorem rowsF_len (fs : List Fd) (k : Nat) (hk : k ≤ fs.length) : (rowsF fs k).length = fs.length := by simp [rowsF]; omega
theorem rowsF_step (fs : List Fd) (k : Nat) (hk : k < fs.length) : (rowsF fs k).set k fs[k] = rowsF fs (k + 1) := by
  unfold rowsF
  have hl : (fs.take k).length = k := by simp; omega
  rw [List.set_append_right _ _ (by omega), hl, Nat.sub_self, show fs.length - k = (fs.length - (k + 1)) + 1 by omega, List.replicate_succ, List.set_cons_zero, List.take_succ_eq_append_getElem hk, List.append_assoc]
  rfl
def dec2 (n : Nat) : List UInt8 := if n < 10 then [UInt8.ofNat (48 + n)] else [UInt8.ofNat (48 + n / 10), UInt8.ofNat (48 + n % 10)]
def numT (f : Fd) : List UInt8 := dec2 f.pos ++ 32 :: dec2 f.sz
def fieldT (f : Fd) : List UInt8 := f.nm ++ 32 :: numT f
def spelt (f : Fd) : Bool := Lib.cut (fieldT f) [32] == (f.nm, numT f, true) && Lib.cut (numT f) [32] == (dec2 f.pos, dec2 f.sz, true) &&
  Lib.atoi (dec2 f.pos) == some (f.pos : Int) && Lib.atoi (dec2 f.sz) == some (f.sz : Int) && decide ((fieldT f).length < 100)
def speltK (k : Kd) : Bool := k.fs.all spelt && Lib.splitK [44, 32] 0 (Lib.count k.tx [44, 32]) k.tx == k.fs.map fieldT && Lib.count k.tx [44, 32] + 1 == k.fs.length && decide (k.tx.length < 1000)
theorem kinds_spelt : kinds.all speltK = true := by decide +kernel
structure Spelt (k : Kd) : Prop where
  fld : ∀ f ∈ k.fs, Lib.cut (fieldT f) [32] = (f.nm, numT f, true) ∧ Lib.cut (numT f) [32] = (dec2 f.pos, dec2 f.sz, true) ∧ Lib.atoi (dec2 f.pos) = some (f.pos : Int) ∧ Lib.atoi (dec2 f.sz) = some (f.sz : Int) ∧ (fieldT f).length < 100
  split : Lib.splitK [44, 32] 0 (Lib.count k.tx [44, 32]) k.tx = k.fs.map fieldT
  cnt : Lib.count k.tx [44, 32] + 1 = k.fs.length
  len : k.tx.length < 1000
theorem spelt_of {k : Kd} (h : k ∈ kinds) : Spelt k := by
  have := List.all_eq_true.1 kinds_spelt k h
  unfold speltK at this
  simp only [Bool.and_eq_true, decide_eq_true_eq, beq_iff_eq] at this
  obtain ⟨⟨⟨h1, h2⟩, h3⟩, h4⟩ := this
  refine ⟨fun f hf => ?_, h2, h3, h4⟩
  have hs := List.all_eq_true.1 h1 f hf
  unfold spelt at hs
  simp only [Bool.and_eq_true, decide_eq_true_eq, beq_iff_eq] at hs
  obtain ⟨⟨⟨⟨a, b⟩, c⟩, d⟩, e⟩ := hs
  exact ⟨a, b, c, d, e⟩
theorem dec2_len (n : Nat) : (dec2 n).length ≤ 2 := by unfold dec2; split <;> simp
theorem splitB_of {k : Kd} (h : Spelt k) : Lib.splitB (S [44, 32]) 0 (Lib.countB (S k.tx) (S [44, 32])) (S k.tx) = k.fs.map fun f => S (fieldT f) := by
  have e1 : Lib.countB (S k.tx) (S [44, 32]) = Lib.count k.tx [44, 32] := by show Lib.count (S k.tx).data.toList (S [44, 32]).data.toList = _; simp [S]
  rw [e1]
  have hd := Lib.splitB_data (S [44, 32]) 0 (Lib.count k.tx [44, 32]) (S k.tx)
  have e2 : (S [44, 32]).data.toList = [44, 32] := by simp [S]
  have e3 : (S k.tx).data.toList = k.tx := by simp [S]
  rw [e2, e3, h.split] at hd
  have hinv : ∀ s : ByteArray, S s.data.toList = s := fun s => by apply ByteArray.ext; simp [S]
  have := congrArg (List.map S) hd
  rw [List.map_map, List.map_map] at this
  rw [show (S ∘ fun x : ByteArray => x.data.toList) = id from funext fun s => hinv s, List.map_id] at this
  rw [this]
  rfl
theorem countB_of {k : Kd} (h : Spelt k) : Lib.countB (S k.tx) (S [44, 32]) + 1 = k.fs.length := by
  have e1 : Lib.countB (S k.tx) (S [44, 32]) = Lib.count k.tx [44, 32] := by show Lib.count (S k.tx).data.toList (S [44, 32]).data.toList = _; simp [S]
  rw [e1, h.cnt]
end Go.Proofs.YtmkebjdmkkjloaaGreatDoor
namespace Go.Proofs
open Go.Shelf
def Tryz.lays146_ren : Go.Shelf.Ren := ⟨fun | 146 => 108 | 221 => 136 | 268 => 153 | 138 => 154 | 143 => 127 | 195 => 179 | 197 => 126 | 218 => 180 | 219 => 147 | 260 => 146 | 217 => 170 | 225 => 171 | 224 => 172 | 267 => 173 | 266 => 197 | 314 => 198 | n => n, fun | 9 => 9 | 31 => 22 | 3 => 3 | 4 => 4 | 0 => 0 | 105 => 236 | 21 => 21 | 5 => 5 | 46 => 52 | 119 => 281 | 139 => 284 | 138 => 283 | 146 => 294 | 51 => 54 | n => n, fun | 1 => 5 | 3 => 3 | 4 => 4 | n => n⟩
theorem Tryz.lays146 : Go.Proofs.Lays.n146 Tryz.prog Tryz.lays146_ren := {
  mixed := by kernel_rfl
  f138 := Tryz.func154.trans (congrArg some (by kernel_rfl))
  f143 := Tryz.func127.trans (congrArg some (by kernel_rfl))
  f146 := Tryz.func108.trans (congrArg some (by kernel_rfl))
  f195 := Tryz.func179.trans (congrArg some (by kernel_rfl))
  f197 := Tryz.func126.trans (congrArg some (by kernel_rfl))
  f217 := Tryz.func170.trans (congrArg some (by kernel_rfl))
  f218 := Tryz.func180.trans (congrArg some (by kernel_rfl))
  f219 := Tryz.func147.trans (congrArg some (by kernel_rfl))
  f221 := Tryz.func136.trans (congrArg some (by kernel_rfl))
  f224 := Tryz.func172.trans (congrArg some (by kernel_rfl))
  f225 := Tryz.func171.trans (congrArg some (by kernel_rfl))
  f260 := Tryz.func146.trans (congrArg some (by kernel_rfl))
  f266 := Tryz.func197.trans (congrArg some (by kernel_rfl))
  f267 := Tryz.func173.trans (congrArg some (by kernel_rfl))
  f268 := Tryz.func153.trans (congrArg some (by kernel_rfl))
  f314 := Tryz.func198.trans (congrArg some (by kernel_rfl))
  t0 := Tryz.underlying0
  a0 := Tryz.isAgg0
  z0 := Tryz.sizeOf0
  v0 := Tryz.zeroValue0
  t3 := Tryz.underlying3
  a3 := Tryz.isAgg3
  z3 := Tryz.sizeOf3
  v3 := Tryz.zeroValue3
  t4 := Tryz.underlying4
  a4 := Tryz.isAgg4
  z4 := Tryz.sizeOf4
  v4 := Tryz.zeroValue4
  t5 := Tryz.underlying5
  a5 := Tryz.isAgg5
  z5 := Tryz.sizeOf5
  v5 := Tryz.zeroValue5
  t9 := Tryz.underlying9
  a9 := Tryz.isAgg9
  z9 := Tryz.sizeOf9
  v9 := Tryz.zeroValue9
  t21 := Tryz.underlying21
  a21 := Tryz.isAgg21
  z21 := Tryz.sizeOf21
  v21 := Tryz.zeroValue21
  t31 := Tryz.underlying22
  a31 := Tryz.isAgg22
  z31 := Tryz.sizeOf22
  v31 := Tryz.zeroValue22
  t46 := Tryz.underlying52
  a46 := Tryz.isAgg52
  z46 := Tryz.sizeOf52
  v46 := Tryz.zeroValue52
  t51 := Tryz.underlying54
  a51 := Tryz.isAgg54
  z51 := Tryz.sizeOf54
  v51 := Tryz.zeroValue54
  t105 := Tryz.underlying236
  a105 := Tryz.isAgg236
  z105 := Tryz.sizeOf236
  v105 := Tryz.zeroValue236
  t119 := Tryz.underlying281
  a119 := Tryz.isAgg281
  z119 := Tryz.sizeOf281
  t138 := Tryz.underlying283
  a138 := Tryz.isAgg283
  z138 := Tryz.sizeOf283
  v138 := Tryz.zeroValue283
  t139 := Tryz.underlying284
  a139 := Tryz.isAgg284
  z139 := Tryz.sizeOf284
  v139 := Tryz.zeroValue284
  t146 := Tryz.underlying294
  a146 := Tryz.isAgg294
  z146 := Tryz.sizeOf294
  v146 := Tryz.zeroValue294
  g1 := by kernel_rfl
  g3 := by kernel_rfl
  g4 := by kernel_rfl }
open Go.RowKit Go.Lib in
theorem Tryz.strings_Split (s sep : ByteArray) (m : Int) (w : World) (hs : s.size < 4294967281) (hm : w.cell? ⟨5, 0, none⟩ = some (.int .i64 m)) (h1 : 1 ≤ sep.size) :
    Calls Tryz.prog 108 #[.string s, .string sep] w fun e w' =>
      e = .returned (.slice (some ⟨w.heap.size, 0, none⟩) (Lib.countB s sep + 1) (Lib.countB s sep + 1)) ∧ w' = w.alloc (.cells ((Lib.splitB sep 0 (Lib.countB s sep) s).map Value.string).toArray 9) := Any.strings_Split Tryz.lays146 (by kernel_rfl) s sep m w hs hm h1
end Go.Proofs
namespace Go.Proofs
open Go.Shelf
def Tryz.lays145_ren : Go.Shelf.Ren := ⟨fun | 145 => 109 | 220 => 137 | 219 => 147 | 217 => 170 | 225 => 171 | 224 => 172 | 267 => 173 | 266 => 197 | 314 => 198 | n => n, fun | 9 => 9 | 4 => 4 | 59 => 71 | 3 => 3 | 5 => 5 | 46 => 52 | 146 => 294 | 51 => 54 | n => n, fun | 1 => 5 | n => n⟩
theorem Tryz.lays145 : Go.Proofs.Lays.n145 Tryz.prog Tryz.lays145_ren := {
  mixed := by kernel_rfl
  f145 := Tryz.func109.trans (congrArg some (by kernel_rfl))
  f217 := Tryz.func170.trans (congrArg some (by kernel_rfl))
  f219 := Tryz.func147.trans (congrArg some (by kernel_rfl))
  f220 := Tryz.func137.trans (congrArg some (by kernel_rfl))
  f224 := Tryz.func172.trans (congrArg some (by kernel_rfl))
  f225 := Tryz.func171.trans (congrArg some (by kernel_rfl))
  f266 := Tryz.func197.trans (congrArg some (by kernel_rfl))
  f267 := Tryz.func173.trans (congrArg some (by kernel_rfl))
  f314 := Tryz.func198.trans (congrArg some (by kernel_rfl))
  t3 := Tryz.underlying3
  a3 := Tryz.isAgg3
  z3 := Tryz.sizeOf3
  v3 := Tryz.zeroValue3
  t4 := Tryz.underlying4
  a4 := Tryz.isAgg4
  z4 := Tryz.sizeOf4
  v4 := Tryz.zeroValue4
  t5 := Tryz.underlying5
  a5 := Tryz.isAgg5
  z5 := Tryz.sizeOf5
  v5 := Tryz.zeroValue5
  t9 := Tryz.underlying9
  a9 := Tryz.isAgg9
  z9 := Tryz.sizeOf9
  v9 := Tryz.zeroValue9
  t46 := Tryz.underlying52
  a46 := Tryz.isAgg52
  z46 := Tryz.sizeOf52
  v46 := Tryz.zeroValue52
  t51 := Tryz.underlying54
  a51 := Tryz.isAgg54
  z51 := Tryz.sizeOf54
  v51 := Tryz.zeroValue54
  t59 := Tryz.underlying71
  a59 := Tryz.isAgg71
  z59 := Tryz.sizeOf71
  v59 := Tryz.zeroValue71
  t146 := Tryz.underlying294
  a146 := Tryz.isAgg294
  z146 := Tryz.sizeOf294
  v146 := Tryz.zeroValue294
  g1 := by kernel_rfl }
open Go.RowKit Go.Lib in
theorem Tryz.strings_Cut (s sep : ByteArray) (m : Int) (w : World) (hs : s.size < 4294967281) (hm : w.cell? ⟨5, 0, none⟩ = some (.int .i64 m)) :
    Calls Tryz.prog 109 #[.string s, .string sep] w fun e w' => e = .returned (.tuple #[.string ⟨(Lib.cut s.data.toList sep.data.toList).1.toArray⟩, .string ⟨(Lib.cut s.data.toList sep.data.toList).2.1.toArray⟩, .bool (Lib.cut s.data.toList sep.data.toList).2.2]) ∧ ∃ n, w' = w.drewN n := Any.strings_Cut Tryz.lays145 s sep m w hs hm
end Go.Proofs
namespace Go.Proofs
open Go.Shelf
def Tryz.lays172_ren : Go.Shelf.Ren := ⟨fun | 172 => 138 | 244 => 155 | 245 => 156 | 247 => 181 | 279 => 182 | 280 => 183 | 281 => 184 | 282 => 185 | 287 => 191 | 316 => 203 | 171 => 94 | 205 => 204 | 321 => 206 | 322 => 207 | 243 => 124 | 246 => 145 | 283 => 166 | 284 => 167 | 285 => 168 | 286 => 169 | 129 => 193 | 317 => 192 | 318 => 194 | 319 => 195 | 320 => 196 | 337 => 208 | 338 => 209 | n => n, fun | 9 => 9 | 3 => 3 | 75 => 43 | 76 => 130 | 4 => 4 | 5 => 5 | 167 => 288 | 37 => 127 | 0 => 0 | 85 => 289 | 2 => 2 | 168 => 291 | 53 => 49 | 175 => 105 | 46 => 52 | 210 => 309 | 127 => 172 | 145 => 316 | 143 => 314 | 21 => 21 | 171 => 276 | 173 => 279 | 212 => 299 | 51 => 54 | 20 => 20 | 213 => 300 | 232 => 317 | 233 => 318 | 80 => 132 | n => n, fun | 15 => 7 | 16 => 8 | 17 => 6 | 18 => 9 | 19 => 10 | n => n⟩
theorem Tryz.lays172 : Go.Proofs.Lays.n172 Tryz.prog Tryz.lays172_ren := {
  mixed := by kernel_rfl
  f129 := Tryz.func193.trans (congrArg some (by kernel_rfl))
  f171 := Tryz.func94.trans (congrArg some (by kernel_rfl))
  f172 := Tryz.func138.trans (congrArg some (by kernel_rfl))
  f205 := Tryz.func204.trans (congrArg some (by kernel_rfl))
  f243 := Tryz.func124.trans (congrArg some (by kernel_rfl))
  f244 := Tryz.func155.trans (congrArg some (by kernel_rfl))
  f245 := Tryz.func156.trans (congrArg some (by kernel_rfl))
  f246 := Tryz.func145.trans (congrArg some (by kernel_rfl))
  f247 := Tryz.func181.trans (congrArg some (by kernel_rfl))
  f279 := Tryz.func182.trans (congrArg some (by kernel_rfl))
  f280 := Tryz.func183.trans (congrArg some (by kernel_rfl))
  f281 := Tryz.func184.trans (congrArg some (by kernel_rfl))
  f282 := Tryz.func185.trans (congrArg some (by kernel_rfl))
  f283 := Tryz.func166.trans (congrArg some (by kernel_rfl))
  f284 := Tryz.func167.trans (congrArg some (by kernel_rfl))
  f285 := Tryz.func168.trans (congrArg some (by kernel_rfl))
  f286 := Tryz.func169.trans (congrArg some (by kernel_rfl))
  f287 := Tryz.func191.trans (congrArg some (by kernel_rfl))
  f316 := Tryz.func203.trans (congrArg some (by kernel_rfl))
  f317 := Tryz.func192.trans (congrArg some (by kernel_rfl))
  f318 := Tryz.func194.trans (congrArg some (by kernel_rfl))
  f319 := Tryz.func195.trans (congrArg some (by kernel_rfl))
  f320 := Tryz.func196.trans (congrArg some (by kernel_rfl))
  f321 := Tryz.func206.trans (congrArg some (by kernel_rfl))
  f322 := Tryz.func207.trans (congrArg some (by kernel_rfl))
  f337 := Tryz.func208.trans (congrArg some (by kernel_rfl))
  f338 := Tryz.func209.trans (congrArg some (by kernel_rfl))
  t0 := Tryz.underlying0
  a0 := Tryz.isAgg0
  z0 := Tryz.sizeOf0
  v0 := Tryz.zeroValue0
  t2 := Tryz.underlying2
  a2 := Tryz.isAgg2
  z2 := Tryz.sizeOf2
  v2 := Tryz.zeroValue2
  t3 := Tryz.underlying3
  a3 := Tryz.isAgg3
  z3 := Tryz.sizeOf3
  v3 := Tryz.zeroValue3
  t4 := Tryz.underlying4
  a4 := Tryz.isAgg4
  z4 := Tryz.sizeOf4
  v4 := Tryz.zeroValue4
  t5 := Tryz.underlying5
  a5 := Tryz.isAgg5
  z5 := Tryz.sizeOf5
  v5 := Tryz.zeroValue5
  t9 := Tryz.underlying9
  a9 := Tryz.isAgg9
  z9 := Tryz.sizeOf9
  v9 := Tryz.zeroValue9
  t20 := Tryz.underlying20
  a20 := Tryz.isAgg20
  z20 := Tryz.sizeOf20
  v20 := Tryz.zeroValue20
  t21 := Tryz.underlying21
  a21 := Tryz.isAgg21
  z21 := Tryz.sizeOf21
  v21 := Tryz.zeroValue21
  t37 := Tryz.underlying127
  a37 := Tryz.isAgg127
  z37 := Tryz.sizeOf127
  v37 := Tryz.zeroValue127
  t46 := Tryz.underlying52
  a46 := Tryz.isAgg52
  z46 := Tryz.sizeOf52
  v46 := Tryz.zeroValue52
  t51 := Tryz.underlying54
  a51 := Tryz.isAgg54
  z51 := Tryz.sizeOf54
  v51 := Tryz.zeroValue54
  t53 := Tryz.underlying49
  a53 := Tryz.isAgg49
  z53 := Tryz.sizeOf49
  v53 := Tryz.zeroValue49
  t75 := Tryz.underlying43
  a75 := Tryz.isAgg43
  z75 := Tryz.sizeOf43
  v75 := Tryz.zeroValue43
  t76 := Tryz.underlying130
  a76 := Tryz.isAgg130
  z76 := Tryz.sizeOf130
  v76 := Tryz.zeroValue130
  t85 := Tryz.underlying289
  a85 := Tryz.isAgg289
  z85 := Tryz.sizeOf289
  v85 := Tryz.zeroValue289
  t127 := Tryz.underlying172
  a127 := Tryz.isAgg172
  z127 := Tryz.sizeOf172
  v127 := Tryz.zeroValue172
  t143 := Tryz.underlying314
  a143 := Tryz.isAgg314
  z143 := Tryz.sizeOf314
  v143 := Tryz.zeroValue314
  t145 := Tryz.underlying316
  a145 := Tryz.isAgg316
  z145 := Tryz.sizeOf316
  v145 := Tryz.zeroValue316
  t167 := Tryz.underlying288
  a167 := Tryz.isAgg288
  z167 := Tryz.sizeOf288
  v167 := Tryz.zeroValue288
  t168 := Tryz.underlying291
  a168 := Tryz.isAgg291
  z168 := Tryz.sizeOf291
  v168 := Tryz.zeroValue291
  t171 := Tryz.underlying276
  a171 := Tryz.isAgg276
  z171 := Tryz.sizeOf276
  v171 := Tryz.zeroValue276
  t173 := Tryz.underlying279
  a173 := Tryz.isAgg279
  z173 := Tryz.sizeOf279
  v173 := Tryz.zeroValue279
  t175 := Tryz.underlying105
  a175 := Tryz.isAgg105
  z175 := Tryz.sizeOf105
  v175 := Tryz.zeroValue105
  t210 := Tryz.underlying309
  a210 := Tryz.isAgg309
  z210 := Tryz.sizeOf309
  v210 := Tryz.zeroValue309
  t212 := Tryz.underlying299
  a212 := Tryz.isAgg299
  z212 := Tryz.sizeOf299
  v212 := Tryz.zeroValue299
  t213 := Tryz.underlying300
  a213 := Tryz.isAgg300
  z213 := Tryz.sizeOf300
  t232 := Tryz.underlying317
  a232 := Tryz.isAgg317
  z232 := Tryz.sizeOf317
  v232 := Tryz.zeroValue317
  t233 := Tryz.underlying318
  a233 := Tryz.isAgg318
  z233 := Tryz.sizeOf318
  v233 := Tryz.zeroValue318
  g15 := by kernel_rfl
  g16 := by kernel_rfl
  g17 := by kernel_rfl
  g18 := by kernel_rfl
  g19 := by kernel_rfl }
open Go.RowKit in
theorem Tryz.strconv_Atoi (s : ByteArray) (n : Int) (hl : s.size ≤ 18) (h : Lib.atoi s.data.toList = some n) (w : World) :
    Calls Tryz.prog 138 #[.string s] w fun e w' => e = .returned (.tuple #[.int .i64 n, .nilIface]) ∧ ∃ t, w' = Lib.bytesWorld w 5 t := Any.strconv_Atoi Tryz.lays172 s n hl h w
end Go.Proofs
namespace Go.Proofs.YtmkebjdmkkjloaaGreatDoor
open Go.RowKit Go.Shelf
attribute [local go_sem] Oper.semAt_some
theorem wpListIn_buildTo {F : Fence} {n : Nat} {P : Program} {ops : Array Oper} {rest : List Oper} {o : Oper} {a : Act} {w : World} {Q : Exit → Act → World → Prop} (hg : o.guard = none) (t : TypeId) (parts : Array (Nat × Operand)) (ho : o.op = .build t parts)
    (d : Option Tmp) (hd : o.dst = d) (cells : Array Value) (hf : P.built t (parts.map fun (i, x) => (i, a.eval x)).toList = some cells)
    (h : wpListIn F n P ops Q rest (a.put d (.agg cells)) w) : wpListIn F n P ops Q (o :: rest) a w := by
  subst hd
  refine wpListIn_plain hg fun K hK => ⟨fun f hf' => ?_, ?_⟩
  · unfold Oper.about at hf'
    rw [ho] at hf'
    cases hf'
  · rw [Oper.semAt_plain F _ _ (by rw [ho]; intro c hc'; cases hc')]
    unfold execOp
    simp only [ho, Sem.run_bind, run_build w t _ cells hf, Result.andThen_ok]
    exact hK _ _ h
def rowC (k : Kd) : List Value := [.int .i64 (k.op : Int), .string (S k.nm), .int .i64 (k.fl : Int), .string (S k.tx)]
def rowV (k : Kd) : Value := .agg (rowC k).toArray
def rowsC : Array Value := (kinds.flatMap rowC).toArray
def kdAt (k : Nat) : Kd := kinds.getD k kd0
set_option maxRecDepth 100000 in
theorem rows_index0 (w : World) : (Instr.index 245 (.agg rowsC) (.int .i64 ((0 : Nat) : Int))).run Tryz.prog w = .ok (rowV (kdAt 0)) w := by kernel_rfl
set_option maxRecDepth 100000 in
theorem rows_index1 (w : World) : (Instr.index 245 (.agg rowsC) (.int .i64 ((1 : Nat) : Int))).run Tryz.prog w = .ok (rowV (kdAt 1)) w := by kernel_rfl
set_option maxRecDepth 100000 in
theorem rows_index2 (w : World) : (Instr.index 245 (.agg rowsC) (.int .i64 ((2 : Nat) : Int))).run Tryz.prog w = .ok (rowV (kdAt 2)) w := by kernel_rfl
set_option maxRecDepth 100000 in
theorem rows_index3 (w : World) : (Instr.index 245 (.agg rowsC) (.int .i64 ((3 : Nat) : Int))).run Tryz.prog w = .ok (rowV (kdAt 3)) w := by kernel_rfl
set_option maxRecDepth 100000 in
theorem rows_index4 (w : World) : (Instr.index 245 (.agg rowsC) (.int .i64 ((4 : Nat) : Int))).run Tryz.prog w = .ok (rowV (kdAt 4)) w := by kernel_rfl
set_option maxRecDepth 100000 in
theorem rows_index5 (w : World) : (Instr.index 245 (.agg rowsC) (.int .i64 ((5 : Nat) : Int))).run Tryz.prog w = .ok (rowV (kdAt 5)) w := by kernel_rfl
set_option maxRecDepth 100000 in
theorem rows_index6 (w : World) : (Instr.index 245 (.agg rowsC) (.int .i64 ((6 : Nat) : Int))).run Tryz.prog w = .ok (rowV (kdAt 6)) w := by kernel_rfl
set_option maxRecDepth 100000 in
theorem rows_index7 (w : World) : (Instr.index 245 (.agg rowsC) (.int .i64 ((7 : Nat) : Int))).run Tryz.prog w = .ok (rowV (kdAt 7)) w := by kernel_rfl
set_option maxRecDepth 100000 in
theorem rows_index8 (w : World) : (Instr.index 245 (.agg rowsC) (.int .i64 ((8 : Nat) : Int))).run Tryz.prog w = .ok (rowV (kdAt 8)) w := by kernel_rfl
set_option maxRecDepth 100000 in
theorem rows_index9 (w : World) : (Instr.index 245 (.agg rowsC) (.int .i64 ((9 : Nat) : Int))).run Tryz.prog w = .ok (rowV (kdAt 9)) w := by kernel_rfl
set_option maxRecDepth 100000 in
theorem rows_index10 (w : World) : (Instr.index 245 (.agg rowsC) (.int .i64 ((10 : Nat) : Int))).run Tryz.prog w = .ok (rowV (kdAt 10)) w := by kernel_rfl
set_option maxRecDepth 100000 in
theorem rows_index11 (w : World) : (Instr.index 245 (.agg rowsC) (.int .i64 ((11 : Nat) : Int))).run Tryz.prog w = .ok (rowV (kdAt 11)) w := by kernel_rfl
set_option maxRecDepth 100000 in
theorem rows_index12 (w : World) : (Instr.index 245 (.agg rowsC) (.int .i64 ((12 : Nat) : Int))).run Tryz.prog w = .ok (rowV (kdAt 12)) w := by kernel_rfl
set_option maxRecDepth 100000 in
theorem rows_index13 (w : World) : (Instr.index 245 (.agg rowsC) (.int .i64 ((13 : Nat) : Int))).run Tryz.prog w = .ok (rowV (kdAt 13)) w := by kernel_rfl
set_option maxRecDepth 100000 in
theorem rows_index14 (w : World) : (Instr.index 245 (.agg rowsC) (.int .i64 ((14 : Nat) : Int))).run Tryz.prog w = .ok (rowV (kdAt 14)) w := by kernel_rfl
set_option maxRecDepth 100000 in
theorem rows_index15 (w : World) : (Instr.index 245 (.agg rowsC) (.int .i64 ((15 : Nat) : Int))).run Tryz.prog w = .ok (rowV (kdAt 15)) w := by kernel_rfl
set_option maxRecDepth 100000 in
theorem rows_index16 (w : World) : (Instr.index 245 (.agg rowsC) (.int .i64 ((16 : Nat) : Int))).run Tryz.prog w = .ok (rowV (kdAt 16)) w := by kernel_rfl
set_option maxRecDepth 100000 in
theorem rows_index17 (w : World) : (Instr.index 245 (.agg rowsC) (.int .i64 ((17 : Nat) : Int))).run Tryz.prog w = .ok (rowV (kdAt 17)) w := by kernel_rfl
theorem rows_index (k : Nat) (hk : k < 18) (w : World) : (Instr.index 245 (.agg rowsC) (.int .i64 (k : Int))).run Tryz.prog w = .ok (rowV (kdAt k)) w := by
  have h : k = 0 ∨ k = 1 ∨ k = 2 ∨ k = 3 ∨ k = 4 ∨ k = 5 ∨ k = 6 ∨ k = 7 ∨ k = 8 ∨ k = 9 ∨ k = 10 ∨ k = 11 ∨ k = 12 ∨ k = 13 ∨ k = 14 ∨ k = 15 ∨ k = 16 ∨ k = 17 := by omega
  rcases h with rfl | rfl | rfl | rfl | rfl | rfl | rfl | rfl | rfl | rfl | rfl | rfl | rfl | rfl | rfl | rfl | rfl | rfl
  · exact rows_index0 w
  · exact rows_index1 w
  · exact rows_index2 w
  · exact rows_index3 w
  · exact rows_index4 w
  · exact rows_index5 w
  · exact rows_index6 w
  · exact rows_index7 w
  · exact rows_index8 w
  · exact rows_index9 w
  · exact rows_index10 w
  · exact rows_index11 w
  · exact rows_index12 w
  · exact rows_index13 w
  · exact rows_index14 w
  · exact rows_index15 w
  · exact rows_index16 w
  · exact rows_index17 w
theorem kinds_take (k : Nat) (h : k < 18) : kinds.take k ++ [kdAt k] = kinds.take (k + 1) := by
  rw [List.take_succ_eq_append_getElem (show k < kinds.length from h)]
  congr 2
  unfold kdAt
  rw [List.getD_eq_getElem?_getD, List.getElem?_eq_getElem (show k < kinds.length from h)]
  rfl
theorem kinds_take_len (k : Nat) (h : k ≤ 18) : (kinds.take k).length = k := by rw [List.length_take]; exact Nat.min_eq_left h
set_option maxRecDepth 100000 in
theorem rows1_in (F : Fence) (n : Nat) (hf : F.fn 107) (hro : F.round = none) (hn : 1 ≤ n) (l n₀ : Nat) (J Jx : List Kd → World → Prop)
    (hY : ∀ pre x W, J pre W → pre.length < 18 → YieldAt F (n - 1) Tryz.prog l #[rowV x] W fun e W' =>
      (e = .returned (.bool true) ∧ J (pre ++ [x]) W' ∧ Below n₀ W W') ∨ (e = .returned (.bool false) ∧ Jx (pre ++ [x]) W'))
    (W : World) (hJ : AbidesFrom W.heap.size J) (h0 : J [] W) :
    CallsIn F n Tryz.prog 107 #[.func (.yield l) #[] #[]] W fun e W' => (∃ v, e = .returned v) ∧
      ((∃ ys, ys = kinds ∧ J ys W') ∨ (∃ pre, pre <+: kinds ∧ Jx pre W')) := by
  refine callsIn_of_wp Tryz.func107 rfl hf ?_ hro
  simp only [Tryz.ntmps107, List.size_toArray, List.length_cons, List.length_nil, Nat.reduceAdd, Nat.reduceSub, Array.replicate_succ, Array.replicate_zero, List.push_toArray, List.append_toArray, List.nil_append, List.cons_append]
  repeat (first | apply wpIn_block | (apply wpIn_seq_k; intro _ _) | apply wpIn_region_lit)
  refine wpListIn_buildTo rfl 148 _ rfl (some 4) rfl (rowC kd0).toArray (by as_aux_lemma => kernel_rfl) ?_
  refine wpListIn_buildTo rfl 148 _ rfl (some 5) rfl (rowC kd1).toArray (by as_aux_lemma => kernel_rfl) ?_
  refine wpListIn_buildTo rfl 148 _ rfl (some 6) rfl (rowC kd2).toArray (by as_aux_lemma => kernel_rfl) ?_
  refine wpListIn_buildTo rfl 148 _ rfl (some 7) rfl (rowC kd3).toArray (by as_aux_lemma => kernel_rfl) ?_
  refine wpListIn_buildTo rfl 148 _ rfl (some 8) rfl (rowC kd4).toArray (by as_aux_lemma => kernel_rfl) ?_
  refine wpListIn_buildTo rfl 148 _ rfl (some 9) rfl (rowC kd5).toArray (by as_aux_lemma => kernel_rfl) ?_
  refine wpListIn_buildTo rfl 148 _ rfl (some 10) rfl (rowC kd6).toArray (by as_aux_lemma => kernel_rfl) ?_
  refine wpListIn_buildTo rfl 148 _ rfl (some 11) rfl (rowC kd7).toArray (by as_aux_lemma => kernel_rfl) ?_
  refine wpListIn_buildTo rfl 148 _ rfl (some 12) rfl (rowC kd8).toArray (by as_aux_lemma => kernel_rfl) ?_
  refine wpListIn_buildTo rfl 148 _ rfl (some 13) rfl (rowC kd9).toArray (by as_aux_lemma => kernel_rfl) ?_
  refine wpListIn_buildTo rfl 148 _ rfl (some 14) rfl (rowC kd10).toArray (by as_aux_lemma => kernel_rfl) ?_
  refine wpListIn_buildTo rfl 148 _ rfl (some 15) rfl (rowC kd11).toArray (by as_aux_lemma => kernel_rfl) ?_
  refine wpListIn_buildTo rfl 148 _ rfl (some 16) rfl (rowC kd12).toArray (by as_aux_lemma => kernel_rfl) ?_
  refine wpListIn_buildTo rfl 148 _ rfl (some 17) rfl (rowC kd13).toArray (by as_aux_lemma => kernel_rfl) ?_
  refine wpListIn_buildTo rfl 148 _ rfl (some 18) rfl (rowC kd14).toArray (by as_aux_lemma => kernel_rfl) ?_
  refine wpListIn_buildTo rfl 148 _ rfl (some 19) rfl (rowC kd15).toArray (by as_aux_lemma => kernel_rfl) ?_
  refine wpListIn_buildTo rfl 148 _ rfl (some 20) rfl (rowC kd16).toArray (by as_aux_lemma => kernel_rfl) ?_
  refine wpListIn_buildTo rfl 148 _ rfl (some 21) rfl (rowC kd17).toArray (by as_aux_lemma => kernel_rfl) ?_
  refine wpListIn_buildTo rfl 245 _ rfl (some 22) rfl rowsC (by as_aux_lemma => kernel_rfl) ?_
  gi_wp2
  have hidx := rows_index
  obtain ⟨RC, hRC⟩ : ∃ RC, Value.agg rowsC = RC := ⟨_, rfl⟩
  rw [hRC] at hidx ⊢
  clear hRC
  gi_loopw [23] (fun p wr => ∃ k : Nat, k ≤ 18 ∧ p = .int .i64 k ∧ W.heap.size ≤ wr.heap.size ∧ J (kinds.take k) wr) (fun p _ => 18 - (intOf p).toNat)
  case atStart => exact ⟨0, by omega, rfl, Nat.le_refl _, h0⟩
  case round =>
    obtain ⟨k, hk, rfl, hsz, hJs⟩ := hrel
    by_cases hlt : k < 18
    · obtain ⟨x, hx⟩ : ∃ x, kdAt k = x := ⟨_, rfl⟩
      have hi := hidx k hlt
      rw [hx] at hi
      unfold rowV rowC at hi
      have hJ2 : J (kinds.take k) (wr.alloc (.cells #[.int .i64 (x.op : Int), .string (S x.nm), .int .i64 (x.fl : Int), .string (S x.tx)] 148)) := hJ _ _ _ none hJs (World.grownBy_alloc _ _ none) (fun r e => by cases e)
      obtain ⟨fn, tmps, assign, body, hy, hR⟩ := hY (kinds.take k) x _ hJ2 (by rw [kinds_take_len k hk]; exact hlt)
      unfold rowV rowC at hy
      clear hidx hY
      have htk := Lib.hid (show kinds.take k ++ [x] = kinds.take (k + 1) by rw [← hx]; exact kinds_take k hlt)
      gi_wp2
      refine hR.mono ?_
      clear hR hy
      rintro e W3 (⟨rfl, hJ3, hk3⟩ | ⟨rfl, hJx3⟩)
      · gi_wp2
        go_roundw
        case rel => exact ⟨k + 1, by omega, by go_num, by have := hk3.size; simp at this; omega, by have h3 := hJ3; rw [htk.out] at h3; exact h3⟩
        case measure => simp [intOf]; omega
      · gi_wp2
        refine bodyPost_ret (results_none rfl _ _ _) rfl ?_
        exact ⟨⟨_, rfl⟩, .inr ⟨kinds.take (k + 1), List.take_prefix _ _, by rw [htk.out] at hJx3; exact hJx3⟩⟩
    · have hk18 : k = 18 := by omega
      gi_wp2
      go_end0
      exact ⟨⟨_, rfl⟩, .inl ⟨kinds, rfl, by rw [hk18] at hJs; exact hJs⟩⟩
theorem rows_stops (F : Fence) (n : Nat) (hf : F.fn 107) (hro : F.round = none) (hn : 1 ≤ n) (n₀ : Nat) (w : World) :
    SeqStopsK F n Tryz.prog 107 #[] (fun x : Kd => #[rowV x]) (Below n₀) (fun ys => ys = kinds) (fun pre => pre <+: kinds) 18 w := fun l J Jx W _ hJ _ hY h0 =>
  rows1_in F n hf hro hn l n₀ J Jx hY W hJ h0
end Go.Proofs.YtmkebjdmkkjloaaGreatDoor
namespace Go.Proofs.YtmkebjdmkkjloaaGreatDoor
open Go.RowKit Go.Shelf
attribute [local go_sem] Oper.semAt_some
def zeroC : Array Value := #[.int .i64 0, .string (S []), .int .i64 0, .string (S [])]
def findV (op : Int) : Value := match kindOf op with
  | some k => .tuple #[.agg (rowC k).toArray, .nilIface]
  | none => .tuple #[.agg zeroC, .iface 80 (.int .i64 1)]
theorem row_stored {w W : World} {N b : Nat} {o0 o1 o2 o3 oe : Value} {t te : TypeId} (x0 x1 x2 x3 e : Value) (hR : Blk W b #[o0, o1, o2, o3] t) (hE : Blk W (b + 1) #[oe] te) (hb : N ≤ b) (hB : Below N w W) :
    Blk (((((W.setCell ⟨b, 0, none⟩ x0).setCell ⟨b, 1, none⟩ x1).setCell ⟨b, 2, none⟩ x2).setCell ⟨b, 3, none⟩ x3).setCell ⟨b + 1, 0, none⟩ e) b #[x0, x1, x2, x3] t ∧
    Blk (((((W.setCell ⟨b, 0, none⟩ x0).setCell ⟨b, 1, none⟩ x1).setCell ⟨b, 2, none⟩ x2).setCell ⟨b, 3, none⟩ x3).setCell ⟨b + 1, 0, none⟩ e) (b + 1) #[e] te ∧
    Below N w (((((W.setCell ⟨b, 0, none⟩ x0).setCell ⟨b, 1, none⟩ x1).setCell ⟨b, 2, none⟩ x2).setCell ⟨b, 3, none⟩ x3).setCell ⟨b + 1, 0, none⟩ e) ∧
    KeepsOthers W (((((W.setCell ⟨b, 0, none⟩ x0).setCell ⟨b, 1, none⟩ x1).setCell ⟨b, 2, none⟩ x2).setCell ⟨b, 3, none⟩ x3).setCell ⟨b + 1, 0, none⟩ e) := by
  refine ⟨?_, ?_, ?_, ?_⟩
  · exact ((((hR.set 0 x0).set 1 x1).set 2 x2).set 3 x3).other (by omega) e
  · exact ((((hE.other (by omega) x0).other (by omega) x1).other (by omega) x2).other (by omega) x3).set 0 e
  · exact ((((hB.setCell (p := ⟨b, 0, none⟩) hb _).setCell (p := ⟨b, 1, none⟩) hb _).setCell (p := ⟨b, 2, none⟩) hb _).setCell (p := ⟨b, 3, none⟩) hb _).setCell (p := ⟨b + 1, 0, none⟩) (by show N ≤ b + 1; omega) _
  · exact ((((KeepsOthers.setCell _ _ _).trans (KeepsOthers.setCell _ _ _)).trans (KeepsOthers.setCell _ _ _)).trans (KeepsOthers.setCell _ _ _)).trans (KeepsOthers.setCell _ _ _)
theorem kindOf_prefix {op : Int} {q : List Kd} {k : Kd} (hp : q ++ [k] <+: kinds) (hq : ∀ k ∈ q, (k.op : Int) ≠ op) (hk : (k.op : Int) = op) : kindOf op = some k := by
  obtain ⟨r, hr⟩ := hp
  unfold kindOf
  rw [← hr, List.append_assoc, List.find?_append, List.find?_eq_none.2 (fun x hx => by simpa using hq x hx)]
  simp [hk]
theorem kindOf_none {op : Int} (hq : ∀ k ∈ kinds, (k.op : Int) ≠ op) : kindOf op = none := by
  unfold kindOf
  exact List.find?_eq_none.2 (fun x hx => by simpa using hq x hx)
set_option maxRecDepth 100000 in
set_option maxHeartbeats 1000000 in
theorem find_in (F : Fence) (n : Nat) (hf : F.fn 72) (hr : F.fn 107) (hro : F.round = none) (hn : 6 ≤ n) (op : Int) (w : World) :
    CallsIn F n Tryz.prog 72 #[.int .i64 op] w fun e W' => e = .returned (findV op) ∧ Below w.heap.size w W' := by
  have h1 : 1 ≤ n := by omega
  refine callsIn_of_wp_marks Tryz.func72 rfl hf ?_ hro
  simp only [Tryz.ntmps72, List.size_toArray, List.length_cons, List.length_nil, Nat.reduceAdd, Nat.reduceSub, Array.replicate_succ, Array.replicate_zero, List.push_toArray, List.append_toArray, List.nil_append, List.cons_append]
  gi_wp2
  have bO := ((Blk.new w #[.int .i64 op] 3).alloc (.cells #[.int .i64 0, .string (S []), .int .i64 0, .string (S [])] 148)).alloc (.cells #[.nilIface] 43)
  have bR := (Blk.new (w.alloc (.cells #[.int .i64 op] 3)) #[.int .i64 0, .string (S []), .int .i64 0, .string (S [])] 148).alloc (.cells #[.nilIface] 43)
  have bE := Blk.new ((w.alloc (.cells #[.int .i64 op] 3)).alloc (.cells #[.int .i64 0, .string (S []), .int .i64 0, .string (S [])] 148)) #[.nilIface] 43
  simp only [World.size_alloc] at bR bE
  have hB0 : Below w.heap.size w (((w.alloc (.cells #[.int .i64 op] 3)).alloc (.cells #[.int .i64 0, .string (S []), .int .i64 0, .string (S [])] 148)).alloc (.cells #[.nilIface] 43)) := (((Below.refl _ w).alloc (Nat.le_refl _) _).alloc (by simp) _).alloc (by simp; omega) _
  have hsz : (((w.alloc (.cells #[.int .i64 op] 3)).alloc (.cells #[.int .i64 0, .string (S []), .int .i64 0, .string (S [])] 148)).alloc (.cells #[.nilIface] 43)).heap.size = w.heap.size + 3 := by simp
  obtain ⟨W0, hW0⟩ : ∃ W0, ((w.alloc (.cells #[.int .i64 op] 3)).alloc (.cells #[.int .i64 0, .string (S []), .int .i64 0, .string (S [])] 148)).alloc (.cells #[.nilIface] 43) = W0 := ⟨_, rfl⟩
  rw [hW0] at bO bR bE hB0 hsz ⊢
  clear hW0
  refine wpIn_rangeFunc_ownH hro h1 (gf := 107) (lb := #[]) rfl hr (enters_of Tryz.func107 (by kernel_rfl) rfl)
    (rows_stops F (n - 1) hr hro (by omega) w.heap.size W0) belowK_t (belowK_b (by omega)) (Below.refl _ _) (fun _ => rfl)
    (fun pre W => ((Blk W w.heap.size #[.int .i64 op] 3 ∧ Blk W (w.heap.size + 1) #[.int .i64 0, .string (S []), .int .i64 0, .string (S [])] 148 ∧ Blk W (w.heap.size + 1 + 1) #[.nilIface] 43) ∧ (∀ k ∈ pre, (k.op : Int) ≠ op)) ∧ Below w.heap.size w W)
    (fun c pre W => (c = .ret ∧ ∃ q k, pre = q ++ [k] ∧ (∀ k ∈ q, (k.op : Int) ≠ op) ∧ (k.op : Int) = op ∧ Blk W (w.heap.size + 1) (rowC k).toArray 148 ∧ Blk W (w.heap.size + 1 + 1) #[.nilIface] 43) ∧ Below w.heap.size w W)
    (OwnFrom.and (OwnFrom.and (OwnFrom.and (Own.from (Blk.own _ _ _) _) (OwnFrom.and (Own.from (Blk.own _ _ _) _) (Own.from (Blk.own _ _ _) _))) (Own.from (own_const _) _)) (ownFrom_below (Nat.le_refl _) (by omega)))
    (fun c => OwnFrom.and (Own.from (fun s X Y row hs hg hr => by
      obtain ⟨hc, q, k, h1, h2, h3, h4, h5⟩ := hs
      exact ⟨hc, q, k, h1, h2, h3, Blk.own _ (fun _ : Unit => _) _ () X Y row h4 hg hr, Blk.own _ (fun _ : Unit => _) _ () X Y row h5 hg hr⟩) _) (ownFrom_below (Nat.le_refl _) (by omega)))
    ⟨⟨⟨bO, bR, bE⟩, fun k hk => by cases hk⟩, hB0⟩
    (fun x a' W => ∃ Bx, w.heap.size + 2 < Bx ∧ Blk W Bx (rowC x).toArray 148 ∧ a' = { tmps := #[.int .i64 op, .pointer (some ⟨w.heap.size, 0, none⟩), .pointer (some ⟨w.heap.size + 1, 0, none⟩), .pointer (some ⟨w.heap.size + 1 + 1, 0, none⟩), .pointer (some ⟨Bx, 0, none⟩), rowV x, undef, undef, undef, undef, undef, undef, undef], defers := [] })
    (fun x a' _ X Y row hs hg hr => by obtain ⟨Bx, h1, h2, h3⟩ := hs; exact ⟨Bx, h1, Blk.own Bx (fun _ : Unit => _) _ () X Y row h2 hg (fun r e => (hr r e).2), h3⟩)
    ?assign ?body ?done ?stop
  case assign =>
    rintro l pre x W K ⟨⟨⟨bO1, bR1, bE1⟩, hpre⟩, hB1⟩ hK
    unfold rowV rowC at *
    gi_wp2
    exact hK _ _ ((KeepsOthers.alloc _ _).from _) ((Below.refl _ W).alloc hB1.size _) ⟨⟨⟨bO1.alloc _, bR1.alloc _, bE1.alloc _⟩, hpre⟩, hB1.alloc hB1.size _⟩ ⟨W.heap.size, bE1.lt, Blk.new W _ _, rfl⟩
  case body =>
    rintro l pre x a' W hl ⟨r, hr⟩ ⟨⟨⟨bO1, bR1, bE1⟩, hpre⟩, hB1⟩ ⟨Bx, hBx, bX, rfl⟩ hlt
    obtain ⟨c0, c1, c2, c3⟩ := bR1.four
    have f0 := bR1.frozen 0
    have f1 := bR1.frozen 1
    have f2 := bR1.frozen 2
    have f3 := bR1.frozen 3
    have ce := bE1.one
    have fe := bE1.frozen 0
    have co := bO1.one
    unfold rowC at bX
    obtain ⟨x0, x1, x2, x3⟩ := bX.four
    by_cases hx : (x.op : Int) = op
    · have hx' : ((x.op : Int) == op) = true := by simpa using hx
      have Hx := Lib.hid hx
      clear hx
      gi_wp2
      obtain ⟨g1, g2, g3, g4⟩ := row_stored (.int .i64 (x.op : Int)) (.string (S x.nm)) (.int .i64 (x.fl : Int)) (.string (S x.tx)) .nilIface bR1 bE1 (Nat.le_succ _) hB1
      exact ⟨g4.from _, ⟨rfl, pre, x, rfl, hpre, Hx.out, g1, g2⟩, g3⟩
    · have hx' : ((x.op : Int) == op) = false := by simpa using hx
      gi_wp2
      exact ⟨KeepsFrom.refl _ _, Below.refl _ _, ⟨⟨bO1, bR1, bE1⟩, fun k hk => by
        rcases List.mem_append.1 hk with h | h
        · exact hpre k h
        · rw [List.mem_singleton.1 h]; exact hx⟩, hB1⟩
  case done =>
    rintro D xs W hD rfl ⟨⟨⟨bO1, bR1, bE1⟩, hpre⟩, hB1⟩ hK
    obtain ⟨c0, c1, c2, c3⟩ := bR1.four
    have f0 := bR1.frozen 0
    have f1 := bR1.frozen 1
    have f2 := bR1.frozen 2
    have f3 := bR1.frozen 3
    have ce := bE1.one
    have fe := bE1.frozen 0
    gi_wp2
    obtain ⟨g1, g2, g3, g4⟩ := row_stored (.int .i64 0) (.string (S [])) (.int .i64 0) (.string (S [])) (.iface 80 (.int .i64 1)) bR1 bE1 (Nat.le_succ _) hB1
    have hK' := g4.same D _ hK rfl
    refine ⟨by simp, .inl ⟨_, _, rfl, run_takeDeferred hK', ?_⟩⟩
    have e1 : w.heap.size + 1 ≠ D := by omega
    have e2 : w.heap.size + 1 + 1 ≠ D := by omega
    have hB2 := g3.trans (belowK_b (w := w) (Nat.le_refl _) _ D _ (.deferred none) (by omega) hK' rfl rfl)
    have g1' := g1.put (.deferred none) e1
    have g2' := g2.put (.deferred none) e2
    obtain ⟨q0, q1, q2, q3⟩ := g1'.four
    have qe := g2'.one
    refine ⟨findV op, ?_, rfl, hB2⟩
    unfold findV
    rw [kindOf_none hpre]
    clear g1 g2 g3 g4 hK' g1' g2' hB2 c0 c1 c2 c3 f0 f1 f2 f3 ce fe
    simp [results, Tryz.results72, go_sem, q0, q1, q2, q3, qe, zeroC]
  case stop =>
    rintro D c pre W hD hp ⟨⟨rfl, q, k, rfl, hq, hk, bR1, bE1⟩, hB1⟩ hK
    gi_wp2
    refine ⟨by simp, .inl ⟨_, _, rfl, run_takeDeferred hK, ?_⟩⟩
    have e1 : w.heap.size + 1 ≠ D := by omega
    have e2 : w.heap.size + 1 + 1 ≠ D := by omega
    have hB2 := hB1.trans (belowK_b (w := w) (Nat.le_refl _) _ D _ (.deferred none) (by omega) hK rfl rfl)
    unfold rowC at bR1
    have g1' := bR1.put (.deferred none) e1
    have g2' := bE1.put (.deferred none) e2
    obtain ⟨q0, q1, q2, q3⟩ := g1'.four
    have qe := g2'.one
    refine ⟨findV op, ?_, rfl, hB2⟩
    unfold findV
    rw [kindOf_prefix hp hq hk]
    clear g1' g2' hB2 hq hp hk
    simp [results, Tryz.results72, go_sem, q0, q1, q2, q3, qe, rowC]
theorem find_any (op : Int) (w : World) : Calls Tryz.prog 72 #[.int .i64 op] w fun e W' => e = .returned (findV op) ∧ Below w.heap.size w W' :=
  (callsIn_wide (n := 6)).1 (find_in _ 6 trivial trivial rfl (Nat.le_refl _) op w)
end Go.Proofs.YtmkebjdmkkjloaaGreatDoor
