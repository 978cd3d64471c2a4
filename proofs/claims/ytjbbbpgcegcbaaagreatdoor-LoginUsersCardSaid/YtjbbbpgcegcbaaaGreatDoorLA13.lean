/- LA13: several texts in one. -/
import Derived.BigRegion
import Derived.IntWalk
import Derived.Test.YtjbbbpgcegcbaaaGreatDoorLA08
import Derived.Test.YtjbbbpgcegcbaaaGreatDoorLA09
import Derived.Test.YtjbbbpgcegcbaaaGreatDoorLA10
import Derived.Test.YtjbbbpgcegcbaaaGreatDoorLA11
import Derived.Test.YtjbbbpgcegcbaaaGreatDoorLA12
namespace Go.Proofs.YtjbbbpgcegcbaaaGreatDoor
open Go.RowKit Go.Maps
set_option linter.unusedVariables false
theorem MdTabs.off {H : Nat → Prop} {W : World} (h : MdTabs (offW H W)) : MdTabs W := ⟨fun i hi => off_cell (h.1 i hi), fun j hj => off_cell (h.2 j hj)⟩
structure EnvL (w : World) : Prop where
 env : Env w
 err : ErrCell w
 md : MdTabs w
theorem EnvL.later {w w' : World} (h : EnvL w) (hb : Below w.heap.size w w') : EnvL w' := ⟨h.env.later hb, h.err.later hb, h.md.later hb⟩
theorem EnvL.off {H : Nat → Prop} {W : World} (h : EnvL (offW H W)) : EnvL W := ⟨h.env.off, h.err.off, h.md.off⟩
theorem EnvL.sub {H K : Nat → Prop} {W : World} (h : EnvL (offW K W)) (hs : ∀ k, H k → K k) : EnvL (offW H W) := by rw [off_sub W hs] at h; exact h.off
theorem EnvL.gl {H K : Nat → Prop} {W : World} (h : EnvL (offW K W)) (hs : ∀ k, H k → K k) : GL H W := ⟨(h.sub hs).env.mc, (h.sub hs).err⟩
structure LgM where
 nb : Nat
 gb : Nat
 mb : Nat
 mv : Value
 vt : Value
 vu : Value
 HN : Nat → Prop
 HG : Nat → Prop
def LgM.H (m : LgM) (lb : Nat) (k : Nat) : Prop := k = lb ∨ k = m.mb ∨ m.HN k ∨ m.HG k
def proC (m : LgM) (c : Cf) (d : Dw) (q : Lq) : Array Value :=
 #[.pointer (some ⟨m.nb, 0, none⟩), m.vt, .slice none 0 0, m.vu, .string (S c.sn), .string (S c.ss), .int .i64 0, .slice none 0 0, .int .i64 d.id, .string (S d.ch), .pointer (some ⟨m.gb, 0, none⟩), .int .u32 q.sta, .int .u32 q.cmd, .bool q.bgn, .int .u64 (q.isd : Nat), .int .u64 (q.cid : Nat), .int .i64 q.stg, .bool q.met, .map (some m.mb), .string (S q.mth), .bool q.chd, .bool q.don, .bool q.fld]
structure PCells (W : World) (b : Nat) (m : LgM) (c : Cf) (d : Dw) (q : Lq) : Prop where
 q0 : W.cell? ⟨b, 0, none⟩ = some (.pointer (some ⟨m.nb, 0, none⟩))
 q1 : W.cell? ⟨b, 1, none⟩ = some m.vt
 q2 : W.cell? ⟨b, 2, none⟩ = some (.slice none 0 0)
 q3 : W.cell? ⟨b, 3, none⟩ = some m.vu
 q4 : W.cell? ⟨b, 4, none⟩ = some (.string (S c.sn))
 q5 : W.cell? ⟨b, 5, none⟩ = some (.string (S c.ss))
 q6 : W.cell? ⟨b, 6, none⟩ = some (.int .i64 0)
 q7 : W.cell? ⟨b, 7, none⟩ = some (.slice none 0 0)
 q8 : W.cell? ⟨b, 8, none⟩ = some (.int .i64 d.id)
 q9 : W.cell? ⟨b, 9, none⟩ = some (.string (S d.ch))
 q10 : W.cell? ⟨b, 10, none⟩ = some (.pointer (some ⟨m.gb, 0, none⟩))
 q11 : W.cell? ⟨b, 11, none⟩ = some (.int .u32 q.sta)
 q12 : W.cell? ⟨b, 12, none⟩ = some (.int .u32 q.cmd)
 q13 : W.cell? ⟨b, 13, none⟩ = some (.bool q.bgn)
 q14 : W.cell? ⟨b, 14, none⟩ = some (.int .u64 (q.isd : Nat))
 q15 : W.cell? ⟨b, 15, none⟩ = some (.int .u64 (q.cid : Nat))
 q16 : W.cell? ⟨b, 16, none⟩ = some (.int .i64 q.stg)
 q17 : W.cell? ⟨b, 17, none⟩ = some (.bool q.met)
 q18 : W.cell? ⟨b, 18, none⟩ = some (.map (some m.mb))
 q19 : W.cell? ⟨b, 19, none⟩ = some (.string (S q.mth))
 q20 : W.cell? ⟨b, 20, none⟩ = some (.bool q.chd)
 q21 : W.cell? ⟨b, 21, none⟩ = some (.bool q.don)
 q22 : W.cell? ⟨b, 22, none⟩ = some (.bool q.fld)
theorem pcells {W : World} {b : Nat} {m : LgM} {c : Cf} {d : Dw} {q : Lq} {t : TypeId} (h : Blk W b (proC m c d q) t) : PCells W b m c d q :=
 ⟨h.cell 0, h.cell 1, h.cell 2, h.cell 3, h.cell 4, h.cell 5, h.cell 6, h.cell 7, h.cell 8, h.cell 9, h.cell 10, h.cell 11, h.cell 12, h.cell 13, h.cell 14, h.cell 15, h.cell 16, h.cell 17, h.cell 18, h.cell 19, h.cell 20, h.cell 21, h.cell 22⟩
def whoN (q : Lq) : Nat := q.wN.isSome.toNat + q.wT.isSome.toNat + q.wS.isSome.toNat
structure LogIn (W : World) (B : Nat) (lb : Nat) (m : LgM) (c : Cf) (d : Dw) (q : Lq) : Prop where
 blk : Blk W lb (proC m c d q) 95
 neg : NegAt W B m.HN m.nb m.mv q.mine q.recd
 gat : GatAt W B m.HG m.gb ⟨8192, q.came⟩
 who : SMap W m.mb (whoN q) (whoF q)
 mine : PrsV (offW (m.H lb) W) m.mv q.mine
 ts : StrV (offW (m.H lb) W) m.vt c.ts
 us : UsV (offW (m.H lb) W) m.vu c.us
 base : B ≤ lb ∧ B ≤ m.mb
 d1 : lb ≠ m.mb
 d2 : ¬ m.HN lb ∧ ¬ m.HG lb
 d3 : ¬ m.HN m.mb ∧ ¬ m.HG m.mb
 d4 : ∀ k, m.HN k → ¬ m.HG k
theorem LogIn.ge {W : World} {B lb : Nat} {m : LgM} {c : Cf} {d : Dw} {q : Lq} (h : LogIn W B lb m c d q) : ∀ k, m.H lb k → B ≤ k ∧ k < W.heap.size := fun k hk => by
 rcases hk with rfl | rfl | hk | hk
 ·exact ⟨h.base.1, h.blk.lt⟩
 ·exact ⟨h.base.2, h.who.lt⟩
 ·exact h.neg.base k hk
 ·exact h.gat.base k hk
theorem LgM.H.neg {m : LgM} {lb : Nat} : ∀ k, m.HN k → m.H lb k := fun k h => .inr (.inr (.inl h))
theorem LgM.H.gat {m : LgM} {lb : Nat} : ∀ k, m.HG k → m.H lb k := fun k h => .inr (.inr (.inr h))
theorem LgM.H.lb {m : LgM} {lb : Nat} : m.H lb lb := .inl rfl
theorem LgM.H.mb {m : LgM} {lb : Nat} : m.H lb m.mb := .inr (.inl rfl)
theorem LogIn.kept {W W' : World} {B lb : Nat} {m : LgM} {c : Cf} {d : Dw} {q : Lq} (h : LogIn W B lb m c d q) (hk : Keeps W.heap.size W W' (m.H lb) (m.H lb)) (hb : ∀ k, m.H lb k → W'.heap[k]? = W.heap[k]?) : LogIn W' B lb m c d q := by
 have hm := h.mine.later hk.off'
 exact ⟨(hb lb .lb).trans h.blk, h.neg.kept hk.size (fun k hn => hb k (.neg k hn)) (hm.sub (fun k hn => .neg k hn)), h.gat.kept (fun k hg => hb k (.gat k hg)) hk.size, h.who.same (hb m.mb .mb), hm, h.ts.later hk.off', h.us.later hk.off', h.base, h.d1, h.d2, h.d3, h.d4⟩
theorem LogIn.later {W W' : World} {B lb : Nat} {m : LgM} {c : Cf} {d : Dw} {q : Lq} (h : LogIn W B lb m c d q) (hb : Below W.heap.size W W') : LogIn W' B lb m c d q :=
 h.kept (Keeps.of hb _) (fun k hk => hb.block k (h.ge k hk).2)
theorem LogIn.mono {W : World} {B B' lb : Nat} {m : LgM} {c : Cf} {d : Dw} {q : Lq} (h : LogIn W B lb m c d q) (hB : B' ≤ B) : LogIn W B' lb m c d q :=
 ⟨h.blk, h.neg.mono hB, h.gat.mono hB, h.who, h.mine, h.ts, h.us, ⟨Nat.le_trans hB h.base.1, Nat.le_trans hB h.base.2⟩, h.d1, h.d2, h.d3, h.d4⟩
theorem LogIn.other {W W' : World} {B lb : Nat} {m : LgM} {c : Cf} {d : Dw} {q : Lq} {K K' : Nat → Prop} (h : LogIn W B lb m c d q) (hk : Keeps W.heap.size W W' K K') (hd : ∀ k, m.H lb k → ¬ K k) (hm : PrsV (offW (fun k => m.H lb k ∨ K k) W) m.mv q.mine) (ht : StrV (offW (fun k => m.H lb k ∨ K k) W) m.vt c.ts) (hu : UsV (offW (fun k => m.H lb k ∨ K k) W) m.vu c.us) : LogIn W' B lb m c d q := by
 have hb : ∀ k, m.H lb k → W'.heap[k]? = W.heap[k]? := fun k hh => hk.block k (h.ge k hh).2 (hd k hh)
 have ho := (hk.wide (m.H lb)).off'
 have es : ∀ k, m.H lb k → (fun k => m.H lb k ∨ K' k) k := fun k hh => .inl hh
 have hm' := (hm.later ho).sub es
 have ht' : StrV (offW (m.H lb) W') m.vt c.ts := by have := ht.later ho; rw [off_sub W' es] at this; exact this.off
 have hu' : UsV (offW (m.H lb) W') m.vu c.us := by have := hu.later ho; rw [off_sub W' es] at this; exact this.off
 exact ⟨(hb lb .lb).trans h.blk, h.neg.kept hk.size (fun k hn => hb k (.neg k hn)) (hm'.sub (fun k hn => .neg k hn)), h.gat.kept (fun k hg => hb k (.gat k hg)) hk.size, h.who.same (hb m.mb .mb), hm', ht', hu', h.base, h.d1, h.d2, h.d3, h.d4⟩
theorem LogIn.turn {W W' : World} {B lb : Nat} {m : LgM} {c : Cf} {d : Dw} {q q' : Lq} (h : LogIn W B lb m c d q) (hk : Keeps W.heap.size W W' (fun k => k = lb) (fun k => k = lb)) (hb : Blk W' lb (proC m c d q') 95) (e1 : q'.mine = q.mine) (e2 : q'.recd = q.recd) (e3 : q'.came = q.came) (e4 : q'.wN = q.wN ∧ q'.wT = q.wT ∧ q'.wS = q.wS) : LogIn W' B lb m c d q' ∧ Keeps W.heap.size W W' (m.H lb) (m.H lb) := by
 have ho : ∀ k, m.H lb k → k ≠ lb → W'.heap[k]? = W.heap[k]? := fun k hh hne => hk.block k (h.ge k hh).2 hne
 have hK : Keeps W.heap.size W W' (m.H lb) (m.H lb) := ⟨hk.os, hk.tape, hk.output, hk.size, fun k hl hn => hk.block k hl (fun e => hn (.inl e)), fun _ h => h, fun _ h => .inl h⟩
 have hm := h.mine.later hK.off'
 have w1 : whoN q' = whoN q := by unfold whoN; rw [e4.1, e4.2.1, e4.2.2]
 have w2 : whoF q' = whoF q := by funext k; unfold whoF; rw [e4.1, e4.2.1, e4.2.2]
 refine ⟨⟨hb, ?_, ?_, ?_, ?_, h.ts.later hK.off', h.us.later hK.off', h.base, h.d1, h.d2, h.d3, h.d4⟩, hK⟩
 ·rw [e1, e2]
  exact h.neg.kept hk.size (fun k hn => ho k (.neg k hn) (fun e => h.d2.1 (e ▸ hn))) (hm.sub (fun k hn => .neg k hn))
 ·rw [e3]
  exact h.gat.kept (fun k hg => ho k (.gat k hg) (fun e => h.d2.2 (e ▸ hg))) hk.size
 ·rw [w1, w2]
  exact h.who.same (ho m.mb .mb (fun e => h.d1 e.symm))
 ·rw [e1]; exact hm
theorem LogIn.told {W W' : World} {B lb : Nat} {m : LgM} {c : Cf} {d : Dw} {q q' : Lq} (h : LogIn W B lb m c d q) (hg : W.grownBy W' (some m.mb)) (hs : SMap W' m.mb (whoN q') (whoF q')) (hp : proC m c d q' = proC m c d q) (e1 : q'.mine = q.mine) (e2 : q'.recd = q.recd) (e3 : q'.came = q.came) : LogIn W' B lb m c d q' ∧ Keeps W.heap.size W W' (m.H lb) (m.H lb) := by
 have ho : ∀ k, m.H lb k → k ≠ m.mb → W'.heap[k]? = W.heap[k]? := fun k hh hne => hg.block k (h.ge k hh).2 (fun e => hne (Option.some.inj e))
 have hK : Keeps W.heap.size W W' (m.H lb) (m.H lb) := ⟨hg.os, hg.tape, hg.output, hg.size, fun k hl hn => hg.block k hl (fun e => hn (.inr (.inl (Option.some.inj e)))), fun _ h => h, fun _ h => .inl h⟩
 have hm := h.mine.later hK.off'
 refine ⟨⟨?_, ?_, ?_, hs, ?_, h.ts.later hK.off', h.us.later hK.off', h.base, h.d1, h.d2, h.d3, h.d4⟩, hK⟩
 ·rw [hp]; exact (ho lb .lb h.d1).trans h.blk
 ·rw [e1, e2]
  exact h.neg.kept hg.size (fun k hn => ho k (.neg k hn) (fun e => h.d3.1 (e ▸ hn))) (hm.sub (fun k hn => .neg k hn))
 ·rw [e3]
  exact h.gat.kept (fun k hh => ho k (.gat k hh) (fun e => h.d3.2 (e ▸ hh))) hg.size
 ·rw [e1]; exact hm
def LgM.setN (m : LgM) (HN : Nat → Prop) : LgM := { m with HN := HN }
def LgM.setG (m : LgM) (HG : Nat → Prop) : LgM := { m with HG := HG }
theorem LogIn.nego {W W' : World} {B lb : Nat} {m : LgM} {c : Cf} {d : Dw} {q : Lq} {r : List Pr} {HN' : Nat → Prop} (h : LogIn W B lb m c d q) (hN : NegAt W' B HN' m.nb m.mv q.mine r) (hk : Keeps W.heap.size W W' m.HN HN') : LogIn W' B lb (m.setN HN') c d { q with recd := r } ∧ Keeps W.heap.size W W' (m.H lb) ((m.setN HN').H lb) := by
 have hK : Keeps W.heap.size W W' (m.H lb) ((m.setN HN').H lb) := hk.widen (fun k hk => .neg k hk) (fun k => by
  unfold LgM.H LgM.setN
  constructor
  ·rintro (h | h | h | h)
   ·exact .inl (.inl h)
   ·exact .inl (.inr (.inl h))
   ·exact .inr h
   ·exact .inl (.inr (.inr (.inr h)))
  ·rintro ((h | h | h | h) | h)
   ·exact .inl h
   ·exact .inr (.inl h)
   ·exact .inr (.inr (.inl (hk.more k h)))
   ·exact .inr (.inr (.inr h))
   ·exact .inr (.inr (.inl h)))
 have hb : ∀ k, k < W.heap.size → ¬ m.HN k → W'.heap[k]? = W.heap[k]? := hk.block
 have hno : ∀ k, k < W.heap.size → ¬ m.HN k → ¬ HN' k := fun k hl hn hh => by
  rcases hk.old k hh with h | h
  ·exact hn h
  ·omega
 refine ⟨⟨(hb lb h.blk.lt h.d2.1).trans h.blk, hN, h.gat.kept (fun k hg => hb k (h.gat.base k hg).2 (fun hh => h.d4 k hh hg)) hk.size, h.who.same (hb m.mb h.who.lt h.d3.1), h.mine.later hK.off', h.ts.later hK.off', h.us.later hK.off', h.base, h.d1, ⟨hno lb h.blk.lt h.d2.1, h.d2.2⟩, ⟨hno m.mb h.who.lt h.d3.1, h.d3.2⟩, fun k hh hg => ?_⟩, hK⟩
 exact hno k (h.gat.base k hg).2 (fun hn => h.d4 k hn hg) hh
theorem LogIn.gather {W W' : World} {B lb : Nat} {m : LgM} {c : Cf} {d : Dw} {q : Lq} {x : List UInt8} {HG' : Nat → Prop} (h : LogIn W B lb m c d q) (hG : GatAt W' B HG' m.gb ⟨8192, x⟩) (hk : Keeps W.heap.size W W' m.HG HG') : LogIn W' B lb (m.setG HG') c d { q with came := x } ∧ Keeps W.heap.size W W' (m.H lb) ((m.setG HG').H lb) := by
 have hK : Keeps W.heap.size W W' (m.H lb) ((m.setG HG').H lb) := hk.widen (fun k hk => .gat k hk) (fun k => by
  unfold LgM.H LgM.setG
  constructor
  ·rintro (h | h | h | h)
   ·exact .inl (.inl h)
   ·exact .inl (.inr (.inl h))
   ·exact .inl (.inr (.inr (.inl h)))
   ·exact .inr h
  ·rintro ((h | h | h | h) | h)
   ·exact .inl h
   ·exact .inr (.inl h)
   ·exact .inr (.inr (.inl h))
   ·exact .inr (.inr (.inr (hk.more k h)))
   ·exact .inr (.inr (.inr h)))
 have hb : ∀ k, k < W.heap.size → ¬ m.HG k → W'.heap[k]? = W.heap[k]? := hk.block
 have hno : ∀ k, k < W.heap.size → ¬ m.HG k → ¬ HG' k := fun k hl hn hh => by
  rcases hk.old k hh with h | h
  ·exact hn h
  ·omega
 have hm := h.mine.later hK.off'
 refine ⟨⟨(hb lb h.blk.lt h.d2.2).trans h.blk, h.neg.kept hk.size (fun k hn => hb k (h.neg.base k hn).2 (h.d4 k hn)) (hm.sub (fun k hn => LgM.H.neg (m := m.setG HG') k hn)), hG, h.who.same (hb m.mb h.who.lt h.d3.2), hm, h.ts.later hK.off', h.us.later hK.off', h.base, h.d1, ⟨h.d2.1, hno lb h.blk.lt h.d2.2⟩, ⟨h.d3.1, hno m.mb h.who.lt h.d3.2⟩, fun k hn hh => ?_⟩, hK⟩
 exact hno k (h.neg.base k hn).2 (h.d4 k hn) hh
end Go.Proofs.YtjbbbpgcegcbaaaGreatDoor
namespace Go.Proofs.YtjbbbpgcegcbaaaGreatDoor
open Go.RowKit
theorem nameIs_any (f : Fd) (n : List UInt8) (B : Nat) (w : World) (hB : w.cell? ⟨B, 0, none⟩ = some (.string (S n))) :
  Calls Tryz.prog 145 #[.agg #[.string (S f.nm), .int .i64 (f.pos : Int), .int .i64 (f.sz : Int)], .pointer (some ⟨B, 0, none⟩)] w fun e w' => e = .returned (.bool (f.nm == n)) ∧ Below w.heap.size w w' := by
 have hlt := block_lt_of_cell (w := w) (a := ⟨B, 0, none⟩) hB
 go_enter Tryz.func145, Tryz.ntmps145
 go_wp2_with fail
 go_ret
 exact ⟨rfl, (Below.refl _ _).alloc (Nat.le_refl _) _⟩
def idxI (fs : List Fd) (n : List UInt8) : Int := match idxName fs n with
 | some i => (i : Int)
 | none => -1
set_option maxRecDepth 100000 in
theorem indexFunc_any (fs : List Fd) (n : List UInt8) (b B : Nat) (w : World) (hl : fs.length ≤ 10) (hF : Flds w b fs) (hB : w.cell? ⟨B, 0, none⟩ = some (.string (S n))) :
  Calls Tryz.prog 144 #[.slice (some ⟨b, 0, none⟩) fs.length fs.length, .func (.func 145) #[] #[.pointer (some ⟨B, 0, none⟩)]] w fun e w' => e = .returned (.int .i64 (idxI fs n)) ∧ Below w.heap.size w w' := by
 have HF := Lib.hid hF
 have HB := Lib.hid hB
 have hltB := block_lt_of_cell (w := w) (a := ⟨B, 0, none⟩) hB
 clear hF hB
 go_enter Tryz.func144, Tryz.ntmps144
 go_wp2_with fail
 go_loopw [8] (fun i wr => ∃ j : Nat, j ≤ fs.length ∧ i = .int .i64 j ∧ (∀ x (hx : x < fs.length), x < j → fs[x].nm ≠ n) ∧ Below w.heap.size w wr) (fun i _ => fs.length - (intOf i).toNat)
 case atStart => exact ⟨0, by omega, rfl, fun x _ hx => by omega, Below.refl _ _⟩
 case round =>
  obtain ⟨j, hj, rfl, hno, hbw⟩ := hrel
  have Hno := Lib.hid hno
  have Hbw := Lib.hid hbw
  by_cases hlt : j < fs.length
  ·obtain ⟨q0, q1, q2⟩ := Flds.get (Blk.later HF.out hbw) j hlt
   have C := Lib.hid (nameIs_any fs[j] n B wr (by rw [(bcell hbw).1 _ 0 hltB]; exact HB.out))
   clear hno hbw
   by_cases hn : fs[j].nm = n
   ·have hnb : (fs[j].nm == n) = true := by simpa using hn
    rw [hnb] at C
    have Hn := Lib.hid hn
    clear hn hnb
    go_wp2_with fail
    refine C.out.mono ?_
    rintro e w' ⟨rfl, hb⟩
    have Hb := Lib.hid (below_then Hbw.out hb)
    clear hb
    go_wp2_with fail
    go_ret
    refine ⟨ret_int ?_, Hb.out⟩
    unfold idxI
    rw [idxName_first hlt (fun x hx => Hno.out x (by omega) hx) Hn.out]
   ·have hnb : (fs[j].nm == n) = false := by simpa using hn
    rw [hnb] at C
    have Hn := Lib.hid hn
    clear hn hnb
    go_wp2_with fail
    refine C.out.mono ?_
    rintro e w' ⟨rfl, hb⟩
    have Hb := Lib.hid (below_then Hbw.out hb)
    clear hb
    go_wp2_with fail
    go_roundw
    case rel => exact ⟨j + 1, by omega, by go_num, fun x hx hxj => by
     by_cases e : x = j
     ·subst e; exact Hn.out
     ·exact Hno.out x hx (by omega), Hb.out⟩
    case measure => simp [intOf]; omega
  ·clear hno hbw
   go_wp2_with fail
   go_ret
   refine ⟨ret_int ?_, Hbw.out⟩
   unfold idxI
   rw [idxName_all (fun x hx => Hno.out x hx (by omega))]
theorem named_any (fs : List Fd) (n : List UInt8) (b : Nat) (w : World) (hl : fs.length ≤ 10) (hF : Flds w b fs) :
  Calls Tryz.prog 109 #[.slice (some ⟨b, 0, none⟩) fs.length fs.length, .string (S n)] w fun e w' => e = .returned (.int .i64 (idxI fs n)) ∧ Below w.heap.size w w' := by
 have hb0 := (Below.refl w.heap.size w).alloc (Nat.le_refl _) (.cells #[.string (S n)] 9)
 have C := Lib.hid (indexFunc_any fs n b w.heap.size _ hl (Blk.later hF hb0) (by simp))
 have Hb0 := Lib.hid hb0
 clear hb0 hF
 go_enter Tryz.func109, Tryz.ntmps109
 go_wp2_with fail
 refine C.out.mono ?_
 rintro e w' ⟨rfl, hb⟩
 have Hb := Lib.hid (below_then Hb0.out hb)
 clear hb
 go_wp2_with fail
 go_ret
 exact ⟨rfl, Hb.out⟩
def badR (fs : List Fd) (vs : List Nat) : Int × Int := match badVal fs vs with
 | some i => (2, (i : Int))
 | none => (0, -1)
theorem badR_some {fs : List Fd} {vs : List Nat} {i : Nat} (h : badVal fs vs = some i) : badR fs vs = (2, (i : Int)) := by unfold badR; rw [h]
theorem badR_none {fs : List Fd} {vs : List Nat} (h : badVal fs vs = none) : badR fs vs = (0, -1) := by unfold badR; rw [h]
set_option maxRecDepth 100000 in
theorem right_vals (h : Hd) (v : Value) (k : Kd) (w : World) (hk : kindOf h.op = some k) (hfl : I64 h.fl) (hm : MaxCell w) (hv : Vals w v h.vs)
  (hnow : h.now = true → h.op < 32) (hok : flOk h.fl k.fl = true) (hlen : h.vs.length = k.fs.length) : Calls Tryz.prog 88 #[headV h v] w (RetE w (badR k.fs h.vs)) := by
 obtain ⟨op, now, fl, vs⟩ := h
 unfold headV
 simp only at *
 obtain ⟨p, c, rfl, hx, hcell⟩ := hv
 have F := kindFacts hk
 obtain ⟨bv, ov, rfl, hcv⟩ := hcell (by have := F.len0; omega)
 have hb0 := (Below.refl w.heap.size w).alloc (Nat.le_refl _) (.cells #[.int .i64 op, .bool now, .int .i64 fl, .slice (some ⟨bv, ov, none⟩) vs.length c] 38)
 have C := Lib.hid (find_some hk (w.alloc (.cells #[.int .i64 op, .bool now, .int .i64 fl, .slice (some ⟨bv, ov, none⟩) vs.length c] 38)))
 have L := fun w hm => Lib.hid (kind_list hk w hm)
 have Hb0 := Lib.hid hb0
 have Hm := Lib.hid (hm.later hb0)
 have hA := andNot_yes fl k.fl F.fl hfl.1 hfl.2 hok
 have hl10 := F.len
 have hl1 := F.len0
 have Fok := Lib.hid F.fok
 have Hlen := Lib.hid hlen
 have Hcv := Lib.hid hcv
 have hbv : bv < w.heap.size := block_lt_of_cell (w := w) (a := ⟨bv, ov + 0, none⟩) (hcv 0 (by omega))
 have hcase : (now = true ∧ op < 32) ∨ now = false := by cases now with
  | true => exact .inl ⟨rfl, hnow rfl⟩
  | false => exact .inr rfl
 have hne : ((vs.length : Int) != (k.fs.length : Int)) = false := by rw [hlen]; simp
 have hvl : vs.length ≤ 10 := by omega
 clear hk hb0 hok hfl F hnow hm hcell hcv hlen
 rcases hcase with ⟨rfl, h32⟩ | rfl
 all_goals
  go_enter Tryz.func88, Tryz.ntmps88
  go_wp2_with fail
  refine C.out.mono ?_
  rintro e w1 ⟨rfl, hb⟩
  obtain ⟨q0, q1, q2, q3⟩ := ((Blk.new w #[.int .i64 op, .bool _, .int .i64 fl, .slice (some ⟨bv, ov, none⟩) vs.length c] 38).later hb).four
  have hz : w.heap.size < w1.heap.size := by have := hb.size; simp at this; omega
  have hb1 := hb.alloc hb.size (.cells #[.int .i64 (k.op : Int), .string (S k.nm), .int .i64 (k.fl : Int), .string (S k.tx)] 192)
  have L2 := Lib.hid (L _ (Hm.out.later hb1)).out
  have Hb1 := Lib.hid (below_then Hb0.out hb1)
  clear hb hb1 L
  go_wp2_with fail
  refine L2.out.mono ?_
  rintro e w2 ⟨b, rfl, hlb, hF, hb2⟩
  have hc3 := (bcell hb2).1 w.heap.size 3 (by simp; omega)
  rw [World.cell?_alloc_lt _ _ ⟨w.heap.size, 3, none⟩ hz] at hc3
  rw [q3] at hc3
  have hz2 : w.heap.size < w2.heap.size := by have := hb2.size; simp at this; omega
  have Hb2 := Lib.hid (below_then Hb1.out hb2)
  have Hc3 := Lib.hid hc3
  have HF := Lib.hid hF
  clear hb2 hF q0 q1 q2 q3 L2
  go_wp2_with fail
  clear hc3
  go_loopw [44] (fun i wr => ∃ j : Nat, j ≤ k.fs.length ∧ i = .int .i64 j ∧ (∀ x (hx : x < k.fs.length) (hx2 : x < vs.length), x < j → vs[x] / 2 ^ (8 * k.fs[x].sz) = 0) ∧ Below w2.heap.size w2 wr) (fun i _ => k.fs.length - (intOf i).toNat)
  case atStart => exact ⟨0, by omega, rfl, fun x _ _ hx => by omega, Below.refl _ _⟩
  case round =>
   obtain ⟨j, hj, rfl, hno, hbw⟩ := hrel
   have Hno := Lib.hid hno
   have Hbw := Lib.hid hbw
   by_cases hlt : j < k.fs.length
   ·obtain ⟨q0, q1, q2⟩ := Flds.get (Blk.later HF.out hbw) j hlt
    have hltF : b < wr.heap.size := Nat.lt_of_lt_of_le (Blk.lt HF.out) hbw.size
    have hjv : j < vs.length := by rw [Hlen.out]; exact hlt
    have hc3 := (bcell hbw).1 w.heap.size 3 hz2
    rw [Hc3.out] at hc3
    have hzr : w.heap.size < wr.heap.size := Nat.lt_of_lt_of_le hz2 hbw.size
    have hbvr : bv < wr.heap.size := by omega
    have hcj : wr.cell? ⟨bv, ov + j, none⟩ = some (.int .u64 (vs[j] : Int)) := by
     rw [(bcell (below_then Hb2.out hbw)).1 bv (ov + j) hbv]; exact Hcv.out j hjv
    obtain ⟨f, hf⟩ : ∃ f, k.fs[j] = f := ⟨_, rfl⟩
    obtain ⟨x, hxj⟩ : ∃ x, vs[j] = x := ⟨_, rfl⟩
    obtain ⟨o1, o2, o3, o4, o5, o6⟩ := Fok.out f (by rw [← hf]; exact List.getElem_mem _)
    have hx64 : x < 2 ^ 64 := by rw [← hxj]; exact hx _ (List.getElem_mem _)
    rw [hf] at q0 q1 q2
    rw [hxj] at hcj
    have Hf := Lib.hid hf
    have Hxj := Lib.hid hxj
    clear hno hbw hf hxj o6
    have hj0 : (0 : Int) ≤ (j : Int) := by omega
    have e8 : IntKind.i64.wrap (8 * (f.sz : Int)) = 8 * f.sz := IntWalk.i64_in _ (by omega)
    have e80 : (0 : Int) ≤ 8 * (f.sz : Int) := by omega
    have e8n : (8 * (f.sz : Int)).toNat = 8 * f.sz := by omega
    by_cases hg : x / 2 ^ (8 * f.sz) = 0
    ·have hq : ((x : Int) / 2 ^ (8 * f.sz) != 0) = false := by
      have : (x : Int) / 2 ^ (8 * f.sz) = 0 := by exact_mod_cast hg
      rw [this]; rfl
     have Hg := Lib.hid hg
     clear hg
     go_wp2_with fail
     go_quiet (fail)
     go_wp2_with fail
     go_roundw
     case rel => exact ⟨j + 1, by omega, by go_num, fun x hx hx2 hxj => by
      by_cases e : x = j
      ·subst e; rw [Hf.out, Hxj.out]; exact Hg.out
      ·exact Hno.out x hx hx2 (by omega), below_drewN (Hbw.out.alloc Hbw.out.size _) _⟩
     case measure => simp [intOf]; omega
    ·have hq : ((x : Int) / 2 ^ (8 * f.sz) != 0) = true := by
      rw [bne_iff_ne]; intro h0; apply hg; exact_mod_cast h0
     have Hg := Lib.hid hg
     clear hg
     go_wp2_with fail
     go_quiet (fail)
     go_wp2_with fail
     go_ret
     have hB := below_drewN (Hbw.out.alloc Hbw.out.size (.cells #[.string (S f.nm), .int .i64 (f.pos : Int), .int .i64 (f.sz : Int)] 216)) nq
     have hbad : badVal k.fs vs = some j := badVal_first hlt hjv (fun x hx => Hno.out x (by omega) (by omega) hx) (by rw [Hf.out, Hxj.out]; exact Hg.out)
     rw [badR_some hbad]
     have hN := Blk.new ((wr.alloc (.cells #[.string (S f.nm), .int .i64 (f.pos : Int), .int .i64 (f.sz : Int)] 216)).drewN nq) #[.int .i64 2, .int .i64 (j : Int)] 122
     have eN : ((wr.alloc (.cells #[.string (S f.nm), .int .i64 (f.pos : Int), .int .i64 (f.sz : Int)] 216)).drewN nq).heap.size = wr.heap.size + 1 := by show (wr.alloc _).heap.size = _; rw [World.size_alloc]
     rw [eN] at hN
     exact ⟨_, rfl, .placed _ 2 j (by decide) hN.two.1 hN.two.2, (below_then Hb2.out hB).alloc (Nat.le_trans Hb2.out.size hB.size) _⟩
   ·clear hno hbw
    go_wp2_with fail
    go_ret
    refine ⟨_, rfl, ?_, below_then Hb2.out Hbw.out⟩
    have hjn : j = k.fs.length := by omega
    rw [badR_none (badVal_none Hlen.out (fun x hx => Hno.out x hx (by rw [Hlen.out]; exact hx) (by omega)))]
    exact .good
theorem right_any (h : Hd) (v : Value) (w : World) (hfl : I64 h.fl) (hm : MaxCell w) (hv : Vals w v h.vs) (hll : h.vs.length ≤ 9223372036854775807) :
  Calls Tryz.prog 88 #[headV h v] w (RetE w (rightR h)) := by
 cases hk : kindOf h.op with
 | none =>
  have e : rightR h = (1, -1) := by unfold rightR; rw [hk]
  rw [e]
  exact right_none h v w hk
 | some k =>
  have e : rightR h = rightK k h.now h.op h.fl h.vs := by unfold rightR; rw [hk]
  rw [e]
  unfold rightK
  by_cases hb : ((h.now && decide (32 ≤ h.op)) || !flOk h.fl k.fl) = true
  ·rw [if_pos hb]
   refine right_form h v k w hk hfl ?_
   simp only [Bool.or_eq_true, Bool.not_eq_true'] at hb
   exact hb
  ·rw [if_neg hb]
   simp only [Bool.or_eq_true, Bool.and_eq_true, decide_eq_true_eq, Bool.not_eq_true', not_or, not_and] at hb
   have hnow : h.now = true → h.op < 32 := fun hn => by have := hb.1 hn; omega
   have hok : flOk h.fl k.fl = true := by simpa using hb.2
   by_cases hl : h.vs.length ≠ k.fs.length
   ·rw [if_pos hl]
    exact right_len h v k w hk hfl hm hv hll hnow hok hl
   ·rw [if_neg hl]
    exact right_vals h v k w hk hfl hm hv hnow hok (by omega)
def RetNE (w : World) (r : Nat × Int) (e : Ending) (w' : World) : Prop := ∃ v, e = .returned (.tuple #[.int .u64 (r.1 : Int), v]) ∧ ErrIs w' v r.2 (-1) ∧ Below w.heap.size w w'
theorem value_none (h : Hd) (v : Value) (n : List UInt8) (w : World) (hk : kindOf h.op = none) : Calls Tryz.prog 73 #[headV h v, .string (S n)] w (RetNE w (0, 1)) := by
 unfold headV
 have hb0 := (Below.refl w.heap.size w).alloc (Nat.le_refl _) (.cells #[.int .i64 h.op, .bool h.now, .int .i64 h.fl, v] 38)
 have C := Lib.hid (find_none hk (w.alloc (.cells #[.int .i64 h.op, .bool h.now, .int .i64 h.fl, v] 38)))
 have Hb0 := Lib.hid hb0
 clear hk hb0
 go_enter Tryz.func73, Tryz.ntmps73
 go_wp2_with fail
 refine C.out.mono ?_
 rintro e w' ⟨rfl, hb⟩
 have Hb := Lib.hid (below_then Hb0.out hb)
 clear hb
 go_wp2_with fail
 go_ret2
 exact ⟨_, rfl, .bare 1 (by decide), Hb.out.alloc Hb.out.size _⟩
theorem idxI_none {fs : List Fd} {n : List UInt8} (h : idxName fs n = none) : idxI fs n = -1 := by unfold idxI; rw [h]
theorem idxI_some {fs : List Fd} {n : List UInt8} {i : Nat} (h : idxName fs n = some i) : idxI fs n = i := by unfold idxI; rw [h]
theorem value_some (h : Hd) (v : Value) (n : List UInt8) (k : Kd) (w : World) (hk : kindOf h.op = some k) (hm : MaxCell w) (hv : Vals w v h.vs) (hll : h.vs.length ≤ 9223372036854775807) :
  Calls Tryz.prog 73 #[headV h v, .string (S n)] w (RetNE w (valueK k h.vs n)) := by
 obtain ⟨op, now, fl, vs⟩ := h
 unfold headV
 simp only at *
 obtain ⟨p, c, rfl, hx, hcell⟩ := hv
 have F := kindFacts hk
 have hb0 := (Below.refl w.heap.size w).alloc (Nat.le_refl _) (.cells #[.int .i64 op, .bool now, .int .i64 fl, .slice p vs.length c] 38)
 have C := Lib.hid (find_some hk (w.alloc (.cells #[.int .i64 op, .bool now, .int .i64 fl, .slice p vs.length c] 38)))
 have L := fun w hm => Lib.hid (kind_list hk w hm)
 have Hb0 := Lib.hid hb0
 have Hm := Lib.hid (hm.later hb0)
 have hl10 := F.len
 have Hcell := Lib.hid hcell
 clear hk hb0 F hm hcell
 cases hi : idxName k.fs n with
 | none =>
  have e : valueK k vs n = (0, 5) := by unfold valueK; rw [hi]
  rw [e]
  have N := fun b w hF => Lib.hid (named_any k.fs n b w hl10 hF)
  rw [idxI_none hi] at N
  clear e hi
  go_enter Tryz.func73, Tryz.ntmps73
  go_wp2_with fail
  refine C.out.mono ?_
  rintro e w1 ⟨rfl, hb⟩
  have hb1 := hb.alloc hb.size (.cells #[.int .i64 (k.op : Int), .string (S k.nm), .int .i64 (k.fl : Int), .string (S k.tx)] 192)
  have L2 := Lib.hid (L _ (Hm.out.later hb1)).out
  have Hb1 := Lib.hid (below_then Hb0.out hb1)
  clear hb hb1 L
  go_wp2_with fail
  refine L2.out.mono ?_
  rintro e w2 ⟨b, rfl, hlb, hF, hb2⟩
  have Hb2 := Lib.hid (below_then Hb1.out hb2)
  have N2 := Lib.hid (N b w2 hF).out
  clear hb2 hF L2 N
  go_wp2_with fail
  refine N2.out.mono ?_
  rintro e w3 ⟨rfl, hb3⟩
  have Hb3 := Lib.hid (below_then Hb2.out hb3)
  clear hb3 N2
  go_wp2_with fail
  go_ret2
  exact ⟨_, rfl, .bare 5 (by decide), Hb3.out⟩
 | some i =>
  have N := fun b w hF => Lib.hid (named_any k.fs n b w hl10 hF)
  rw [idxI_some hi] at N
  by_cases hlt : i < vs.length
  ·have e : valueK k vs n = (vs.getD i 0, 0) := by unfold valueK; rw [hi]; simp only; rw [if_pos hlt]
   rw [e]
   obtain ⟨bv, ov, rfl, hcv⟩ := Hcell.out (by omega)
   have hcj := hcv i hlt
   have hbv : bv < w.heap.size := block_lt_of_cell (w := w) (a := ⟨bv, ov + i, none⟩) hcj
   have eg : vs.getD i 0 = vs[i] := by rw [List.getD_eq_getElem?_getD, List.getElem?_eq_getElem hlt]; rfl
   rw [eg]
   obtain ⟨x, hxe⟩ : ∃ x, vs[i] = x := ⟨_, rfl⟩
   rw [hxe] at hcj ⊢
   have Hcj := Lib.hid hcj
   clear e hi eg hxe hcj hcv Hcell
   go_enter Tryz.func73, Tryz.ntmps73
   go_wp2_with fail
   refine C.out.mono ?_
   rintro e w1 ⟨rfl, hb⟩
   obtain ⟨q0, q1, q2, q3⟩ := ((Blk.new w #[.int .i64 op, .bool now, .int .i64 fl, .slice (some ⟨bv, ov, none⟩) vs.length c] 38).later hb).four
   have hz : w.heap.size < w1.heap.size := by have := hb.size; simp at this; omega
   have hb1 := hb.alloc hb.size (.cells #[.int .i64 (k.op : Int), .string (S k.nm), .int .i64 (k.fl : Int), .string (S k.tx)] 192)
   have L2 := Lib.hid (L _ (Hm.out.later hb1)).out
   have Hb1 := Lib.hid (below_then Hb0.out hb1)
   clear hb hb1 L
   go_wp2_with fail
   refine L2.out.mono ?_
   rintro e w2 ⟨b, rfl, hlb, hF, hb2⟩
   have hc3 := (bcell hb2).1 w.heap.size 3 (by simp; omega)
   rw [World.cell?_alloc_lt _ _ ⟨w.heap.size, 3, none⟩ hz] at hc3
   rw [q3] at hc3
   have hz2 : w.heap.size < w2.heap.size := by have := hb2.size; simp at this; omega
   have Hc3 := Lib.hid hc3
   have Hb2 := Lib.hid (below_then Hb1.out hb2)
   have N2 := Lib.hid (N b w2 hF).out
   clear hb2 hF L2 N q0 q1 q2 q3 hc3
   go_wp2_with fail
   refine N2.out.mono ?_
   rintro e w3 ⟨rfl, hb3⟩
   have hc4 := (bcell hb3).1 w.heap.size 3 hz2
   rw [Hc3.out] at hc4
   have Hb3 := Lib.hid (below_then Hb2.out hb3)
   have hcw : w3.cell? ⟨bv, ov + i, none⟩ = some (.int .u64 (x : Int)) := by rw [(bcell Hb3.out).1 bv (ov + i) hbv]; exact Hcj.out
   clear hb3 N2
   go_wp2_with fail
   go_ret2
   exact ⟨_, rfl, .good, Hb3.out⟩
  ·have e : valueK k vs n = (0, 7) := by unfold valueK; rw [hi]; simp only; rw [if_neg hlt]
   rw [e]
   clear e hi
   go_enter Tryz.func73, Tryz.ntmps73
   go_wp2_with fail
   refine C.out.mono ?_
   rintro e w1 ⟨rfl, hb⟩
   obtain ⟨q0, q1, q2, q3⟩ := ((Blk.new w #[.int .i64 op, .bool now, .int .i64 fl, .slice p vs.length c] 38).later hb).four
   have hz : w.heap.size < w1.heap.size := by have := hb.size; simp at this; omega
   have hb1 := hb.alloc hb.size (.cells #[.int .i64 (k.op : Int), .string (S k.nm), .int .i64 (k.fl : Int), .string (S k.tx)] 192)
   have L2 := Lib.hid (L _ (Hm.out.later hb1)).out
   have Hb1 := Lib.hid (below_then Hb0.out hb1)
   clear hb hb1 L
   go_wp2_with fail
   refine L2.out.mono ?_
   rintro e w2 ⟨b, rfl, hlb, hF, hb2⟩
   have hc3 := (bcell hb2).1 w.heap.size 3 (by simp; omega)
   rw [World.cell?_alloc_lt _ _ ⟨w.heap.size, 3, none⟩ hz] at hc3
   rw [q3] at hc3
   have hz2 : w.heap.size < w2.heap.size := by have := hb2.size; simp at this; omega
   have Hc3 := Lib.hid hc3
   have Hb2 := Lib.hid (below_then Hb1.out hb2)
   have N2 := Lib.hid (N b w2 hF).out
   clear hb2 hF L2 N q0 q1 q2 q3 hc3
   go_wp2_with fail
   refine N2.out.mono ?_
   rintro e w3 ⟨rfl, hb3⟩
   have hc4 := (bcell hb3).1 w.heap.size 3 hz2
   rw [Hc3.out] at hc4
   have Hb3 := Lib.hid (below_then Hb2.out hb3)
   clear hb3 N2
   go_wp2_with fail
   go_ret2
   exact ⟨_, rfl, .bare 7 (by decide), Hb3.out⟩
theorem value_any (h : Hd) (v : Value) (n : List UInt8) (w : World) (hm : MaxCell w) (hv : Vals w v h.vs) (hll : h.vs.length ≤ 9223372036854775807) :
  Calls Tryz.prog 73 #[headV h v, .string (S n)] w (RetNE w (valueR h n)) := by
 cases hk : kindOf h.op with
 | none =>
  have e : valueR h n = (0, 1) := by unfold valueR; rw [hk]
  rw [e]
  exact value_none h v n w hk
 | some k =>
  have e : valueR h n = valueK k h.vs n := by unfold valueR; rw [hk]
  rw [e]
  exact value_some h v n k w hk hm hv hll
end Go.Proofs.YtjbbbpgcegcbaaaGreatDoor
