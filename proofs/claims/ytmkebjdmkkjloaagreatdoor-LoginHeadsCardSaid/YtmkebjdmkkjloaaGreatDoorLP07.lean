/- LP07: several texts in one. -/
import Derived.Deep.RegionHeld3
import Derived.Laws.AppendOwn
import Derived.Laws.OwnMore
import Derived.RangeFuncBound
import Derived.RangeFuncNested
import Derived.Test.YtmkebjdmkkjloaaGreatDoorLP01
import Derived.Test.YtmkebjdmkkjloaaGreatDoorLP02
import Derived.Test.YtmkebjdmkkjloaaGreatDoorLP03
import Derived.Test.YtmkebjdmkkjloaaGreatDoorLP04
import Derived.Test.YtmkebjdmkkjloaaGreatDoorLP05
import Derived.Test.YtmkebjdmkkjloaaGreatDoorLP06
namespace Go.Proofs.YtmkebjdmkkjloaaGreatDoor
open Go.RowKit
set_option linter.unusedVariables false
def nVMin : List UInt8 := [86, 101, 114, 115, 105, 111, 110, 77, 105, 110]
def nTSIH : List UInt8 := [84, 83, 73, 72]
def nISID : List UInt8 := [73, 83, 73, 68]
def nCID : List UInt8 := [67, 73, 68]
def nITT : List UInt8 := [73, 84, 84]
def nCmd : List UInt8 := [67, 109, 100, 83, 78]
def kIni : List UInt8 := [73, 110, 105, 116, 105, 97, 116, 111, 114, 78, 97, 109, 101]
def kSes : List UInt8 := [83, 101, 115, 115, 105, 111, 110, 84, 121, 112, 101]
def vDis : List UInt8 := [68, 105, 115, 99, 111, 118, 101, 114, 121]
def vNor : List UInt8 := [78, 111, 114, 109, 97, 108]
def kAM : List UInt8 := [65, 117, 116, 104, 77, 101, 116, 104, 111, 100]
def kCA : List UInt8 := [67, 72, 65, 80, 95, 65]
def kCI : List UInt8 := [67, 72, 65, 80, 95, 73]
def kCC : List UInt8 := [67, 72, 65, 80, 95, 67]
def kCN : List UInt8 := [67, 72, 65, 80, 95, 78]
def kCR : List UInt8 := [67, 72, 65, 80, 95, 82]
def vCH : List UInt8 := [67, 72, 65, 80]
def vNo : List UInt8 := [78, 111, 110, 101]
def sixK : List (List UInt8) := [kAM, kCA, kCI, kCC, kCN, kCR]
structure Lg where
  mine : List Pr
  recd : List Pr
  came : List UInt8
  fst : Option Hd
  bgn : Bool
  stg : Int
  mth : List UInt8
  ask : Bool
  usr : List UInt8
  knw : Bool
  tgt : List UInt8
  dsc : Bool
  sta : Int
  cmd : Int
  don : Bool
  fld : Bool
def lg0 (c : Cf) : Lg := ⟨c.own, [], [], none, false, 0, [], false, [], false, [], false, 0, 0, false, false⟩
def newL (c : Cf) (d : Dw) : Int × Int := if (tgtR c).1 ≠ 0 then tgtR c else if (respL d.id [] d.ch).2 ≠ 0 then ((respL d.id [] d.ch).2, -1) else (0, -1)
def hv (h : Hd) (n : List UInt8) : Nat := (valueR h n).1
def tB (h : Hd) : Bool := decide (h.fl / 128 = 1)
def cB (h : Hd) : Bool := decide (h.fl / 64 % 2 = 1)
def csgI (h : Hd) : Int := h.fl / 4 % 4
def nsgI (h : Hd) : Int := h.fl % 4
def headL (us : Bool) (s : Lg) (h : Hd) : Int :=
  if 0 < hv h nVMin then 5
  else if hv h nTSIH ≠ 0 then 10
  else if tB h = true ∧ cB h = true then 0
  else if 1 < csgI h ∨ (s.fst.isSome = true ∧ csgI h ≠ s.stg) ∨ (tB h = true ∧ (nsgI h = 2 ∨ nsgI h ≤ csgI h)) then 11
  else match s.fst with
    | some q => if hv h nISID ≠ hv q nISID ∨ hv h nCID ≠ hv q nCID then 0 else -1
    | none => if csgI h = 1 ∧ us = true then 1 else -1
def beginL (c : Cf) (l : List Pr) : Int × List UInt8 × Bool :=
  if (prFind l kIni).getD [] = [] then (7, [], false)
  else if (prFind l kSes).getD [] = vDis then (-1, [], true)
  else if (prFind l kSes).isSome = true ∧ (prFind l kSes).getD [] ≠ vNor then (9, [], false)
  else if (prFind l nmK).getD [] = [] then (7, [], false)
  else if hasT c.ts ((prFind l nmK).getD []) = false then (3, [], false)
  else (-1, (prFind l nmK).getD [], false)
def secBad (late : Bool) : List (List UInt8) → List Pr → Bool
  | _, [] => false
  | seen, p :: l => if p.k ∈ sixK then (if p.k ∈ seen ∨ late = true then true else secBad late (seen ++ [p.k]) l) else secBad late seen l
def restL (l : List Pr) : List Pr := l.filter fun p => decide (p.k ∉ sixK)
def toldL (l : List Pr) : List Pr := l.filter fun p => decide (p.k ∈ sixK)
def holdsL (v word : List UInt8) : Bool := match listR v with
  | some l => decide (word ∈ l)
  | none => false
def wantL (us : Bool) : List UInt8 := if us = true then vCH else vNo
def secA (us : Bool) (o : Option (List UInt8)) (s : Lg) : Option (List Pr × Lg) := match o with
  | none => some ([], s)
  | some v => if holdsL v (wantL us) = false ∨ s.mth ≠ [] then none else some ([⟨kAM, wantL us⟩], { s with mth := wantL us })
def secB (d : Dw) (o : Option (List UInt8)) (s : Lg) : Option (List Pr × Lg) := match o with
  | none => some ([], s)
  | some v => if holdsL v [53] = false ∨ s.mth ≠ vCH ∨ s.ask = true then none else some ([⟨kCA, [53]⟩, ⟨kCI, Lib.itoa d.id⟩, ⟨kCC, hexL d.ch⟩], { s with ask := true })
def secM (c : Cf) (d : Dw) (iv cv : List UInt8) : Option (List Pr) :=
  if (numE iv 0 255).2 ≠ 0 ∨ (readV cv).2.1 ≠ 0 ∨ (readV cv).1 = d.ch ∨ c.sn = [] ∨ (respL (numE iv 0 255).1 c.ss (readV cv).1).2 ≠ 0 then none
  else some [⟨kCN, c.sn⟩, ⟨kCR, hexL (respL (numE iv 0 255).1 c.ss (readV cv).1).1⟩]
def secC (c : Cf) (d : Dw) (i cc n r : Option (List UInt8)) (s : Lg) : Option (List Pr) × Lg :=
  if i = none ∧ cc = none ∧ n = none ∧ r = none then (some [], s)
  else if n = none ∨ r = none ∨ i.isSome ≠ cc.isSome ∨ s.ask = false ∨ s.knw = true ∨ chkL c.us (n.getD []) (r.getD []) d.id d.ch ≠ 0 then (none, s)
  else if i = none then (some [], { s with knw := true, usr := n.getD [] })
  else (secM c d (i.getD []) (cc.getD []), { s with knw := true, usr := n.getD [] })
def secL (c : Cf) (d : Dw) (l : List Pr) (s : Lg) : (List Pr × Int) × Lg :=
  if secBad (decide (s.stg ≠ 0)) [] l = true then (([], 0), s)
  else match secA (decide (c.us ≠ [])) (prFind l kAM) s with
    | none => (([], 1), s)
    | some (a, s1) => match secB d (prFind l kCA) s1 with
      | none => (([], 1), s1)
      | some (b, s2) => match secC c d (prFind l kCI) (prFind l kCC) (prFind l kCN) (prFind l kCR) s2 with
        | (none, s3) => (([], 1), s3)
        | (some x, s3) => ((a ++ b ++ x, -1), s3)
def firstL (c : Cf) (h : Hd) (s : Lg) : Lg := match s.fst with
  | some _ => s
  | none => { s with fst := some h, stg := csgI h, knw := decide (c.us = []) }
def textL (c : Cf) (d : Dw) (l : List Pr) (s : Lg) : (List Pr × Int) × Lg :=
  let b := beginL c l
  let s1 : Lg := if s.bgn = true then s else if b.1 = -1 then { s with bgn := true, tgt := b.2.1, dsc := b.2.2 } else { s with bgn := true }
  if s.bgn = false ∧ b.1 ≠ -1 then (([], b.1), s1)
  else match secL c d l s1 with
    | ((x, e), s2) => if e ≠ -1 then (([], e), s2)
      else match ansN s2.mine s2.recd (restL l) true s2.dsc with
        | ((y, n, _), r) => if n ≠ 0 then (([], 0), s2) else ((x ++ y, -1), { s2 with recd := r })
def asksL (c : Cf) (d : Dw) (p : Pd) (s : Lg) : (Int × List Pr × Int) × Lg :=
  if headL (decide (c.us ≠ [])) s p.h ≠ -1 then ((0, [], headL (decide (c.us ≠ [])) s p.h), s)
  else
    let s1 := firstL c p.h s
    match addG ⟨8192, s1.came⟩ p.d (cB p.h) with
    | ((l, n, _), G) =>
      let s2 : Lg := { s1 with came := G.came }
      if n ≠ 0 then ((0, [], 0), s2)
      else if cB p.h = true then ((4 * csgI p.h, [], -1), s2)
      else match textL c d l s2 with
        | ((x, e), s3) => if e ≠ -1 then ((0, [], e), s3)
          else if tB p.h = true ∧ s3.knw = true then ((128 + 4 * csgI p.h + nsgI p.h, x, -1), { s3 with stg := nsgI p.h, don := decide (nsgI p.h = 3) })
          else ((4 * csgI p.h, x, -1), s3)
def ansH (h : Hd) (fl tsih sta cmd cls det : Int) : Hd := ⟨35, false, fl, [0, 0, hv h nISID, tsih.toNat, hv h nITT, sta.toNat, cmd.toNat, (afterI cmd 31).toNat, cls.toNat, det.toNat]⟩
def u32 (n : Nat) : Int := ((n % 4294967296 : Nat) : Int)
def replyL (p : Pd) (r : (Int × List Pr × Int) × Lg) : Pd × Lg :=
  let s := r.2
  let bad : Bool := decide (r.1.2.2 ≠ -1)
  let cmd := u32 (hv p.h nCmd)
  (⟨ansH p.h (if bad = true then 4 * csgI p.h else r.1.1) (if s.don = true then 1 else 0) s.sta cmd (if bad = true then 2 else 0) (if bad = true then r.1.2.2 else 0), [], if bad = true then [] else (prPrint r.1.2.1).1⟩,
    { s with fld := s.fld || bad, cmd := cmd, sta := (s.sta + 1) % 4294967296 })
def takeL (c : Cf) (d : Dw) (s : Lg) (p : Pd) : (Pd × Int) × Lg :=
  if s.don = true ∨ s.fld = true then ((pd0, 6), s)
  else if p.h.op ≠ 3 then ((pd0, 1), s)
  else if rightP p ≠ 0 then ((pd0, rightP p), s)
  else (((replyL p (asksL c d p s)).1, 0), (replyL p (asksL c d p s)).2)
theorem takeL_over {c : Cf} {d : Dw} {s : Lg} {p : Pd} (h : s.don = true ∨ s.fld = true) : takeL c d s p = ((pd0, 6), s) := by unfold takeL; rw [if_pos h]
theorem takeL_go {c : Cf} {d : Dw} {s : Lg} {p : Pd} (h : ¬ (s.don = true ∨ s.fld = true)) (h2 : p.h.op = 3) (h3 : rightP p = 0) : takeL c d s p = (((replyL p (asksL c d p s)).1, 0), (replyL p (asksL c d p s)).2) := by
  unfold takeL; rw [if_neg h, if_neg (by simpa using h2), if_neg (by simpa using h3)]
theorem secBad_app (late : Bool) : ∀ (l m : List Pr) (seen : List (List UInt8)), secBad late seen (l ++ m) = (secBad late seen l || secBad late (seen ++ keysP (toldL l)) m)
  | [], m, seen => by simp [secBad, toldL, keysP]
  | p :: l, m, seen => by
    have ih := secBad_app late l m
    simp only [List.cons_append, secBad]
    by_cases h : p.k ∈ sixK
    · rw [if_pos h, if_pos h]
      by_cases h2 : p.k ∈ seen ∨ late = true
      · rw [if_pos h2, if_pos h2]; rfl
      · rw [if_neg h2, if_neg h2, ih]
        have : keysP (toldL (p :: l)) = p.k :: keysP (toldL l) := by unfold toldL; rw [List.filter_cons_of_pos (by simpa using h)]; rfl
        rw [this, List.append_assoc]; rfl
    · rw [if_neg h, if_neg h, ih]
      have : keysP (toldL (p :: l)) = keysP (toldL l) := by unfold toldL; rw [List.filter_cons_of_neg (by simpa using h)]
      rw [this]
theorem secBad_none (late : Bool) : ∀ (l : List Pr) (seen : List (List UInt8)), (∀ p ∈ l, p.k ∉ sixK) → secBad late seen l = false
  | [], _, _ => rfl
  | p :: l, seen, h => by
    rw [secBad, if_neg (h p List.mem_cons_self)]
    exact secBad_none late l seen (fun q hq => h q (List.mem_cons_of_mem _ hq))
theorem restL_all {l : List Pr} (h : ∀ p ∈ l, p.k ∉ sixK) : restL l = l := by unfold restL; exact List.filter_eq_self.2 (fun p hp => by simpa using h p hp)
theorem prFind_not {l : List Pr} {k : List UInt8} (h : ∀ p ∈ l, p.k ≠ k) : prFind l k = none := by
  induction l with
  | nil => rfl
  | cons p l ih =>
    rw [prFind, if_neg (h p List.mem_cons_self)]
    exact ih fun q hq => h q (List.mem_cons_of_mem _ hq)
theorem prFind_told {l : List Pr} {k : List UInt8} (hk : k ∈ sixK) : prFind (toldL l) k = prFind l k := by
  induction l with
  | nil => rfl
  | cons p l ih =>
    by_cases h : p.k ∈ sixK
    · have e : toldL (p :: l) = p :: toldL l := by unfold toldL; rw [List.filter_cons_of_pos (by simpa using h)]
      rw [e, prFind, prFind, ih]
    · have e : toldL (p :: l) = toldL l := by unfold toldL; rw [List.filter_cons_of_neg (by simpa using h)]
      rw [e, ih, prFind, if_neg (fun (e2 : p.k = k) => h (by rw [e2]; exact hk))]
theorem secL_plain {c : Cf} {d : Dw} {l : List Pr} {s : Lg} (h : ∀ p ∈ l, p.k ∉ sixK) : secL c d l s = (([], -1), s) := by
  have hn : ∀ k ∈ sixK, prFind l k = none := fun k hk => prFind_not fun p hp e => h p hp (e ▸ hk)
  unfold secL
  rw [secBad_none _ l [] h, if_neg (by simp), hn kAM (by decide), hn kCA (by decide), hn kCI (by decide), hn kCC (by decide), hn kCN (by decide), hn kCR (by decide)]
  simp [secA, secB, secC]
end Go.Proofs.YtmkebjdmkkjloaaGreatDoor
namespace Go.Proofs.YtmkebjdmkkjloaaGreatDoor
open Go.RowKit
set_option linter.unusedVariables false
theorem told_snoc (m : List Pr) (p : Pr) : toldL (m ++ [p]) = toldL m ++ (if p.k ∈ sixK then [p] else []) := by
  unfold toldL
  rw [List.filter_append]
  by_cases h : p.k ∈ sixK
  · rw [if_pos h, List.filter_cons_of_pos (by simpa using h)]; rfl
  · rw [if_neg h, List.filter_cons_of_neg (by simpa using h)]; rfl
theorem rest_snoc (m : List Pr) (p : Pr) : restL (m ++ [p]) = restL m ++ (if p.k ∈ sixK then [] else [p]) := by
  unfold restL
  rw [List.filter_append]
  by_cases h : p.k ∈ sixK
  · rw [if_pos h, List.filter_cons_of_neg (by simpa using h)]; rfl
  · rw [if_neg h, List.filter_cons_of_pos (by simpa using h)]; rfl
theorem take_snoc {l : List Pr} {j : Nat} (h : j < l.length) : l.take (j + 1) = l.take j ++ [l[j]] := by rw [List.take_add_one, List.getElem?_eq_getElem h]; rfl
theorem bad_snoc (late : Bool) (m : List Pr) (p : Pr) : secBad late [] (m ++ [p]) = (secBad late [] m || decide (p.k ∈ sixK ∧ (p.k ∈ keysP (toldL m) ∨ late = true))) := by
  rw [secBad_app, List.nil_append]
  congr 1
  simp only [secBad]
  by_cases h : p.k ∈ sixK
  · rw [if_pos h]
    by_cases h2 : p.k ∈ keysP (toldL m) ∨ late = true
    · rw [if_pos h2, decide_eq_true ⟨h, h2⟩]
    · rw [if_neg h2, decide_eq_false (fun h3 => h2 h3.2)]
  · rw [if_neg h, decide_eq_false (fun h3 => h h3.1)]
theorem bad_whole {late : Bool} {l : List Pr} {j : Nat} (h : secBad late [] (l.take j) = true) : secBad late [] l = true := by
  have e := secBad_app late (l.take j) (l.drop j) []
  rw [List.take_append_drop, h] at e
  rw [e]; rfl
theorem find_snoc (m : List Pr) (p : Pr) (h : p.k ∉ keysP m) (k : List UInt8) : prFind (m ++ [p]) k = if k = p.k then some p.v else prFind m k := by
  rw [prFind_app]
  by_cases e : k = p.k
  · subst e
    have : prFind m p.k = none := by
      cases hf : prFind m p.k with
      | none => rfl
      | some v => exact absurd (prFind_iff.1 (by rw [hf]; rfl)) h
    rw [this, if_pos rfl]
  · rw [if_neg e]
    cases hf : prFind m k with
    | none => simp only; rw [if_neg (fun h => e h.symm)]
    | some v => rfl
end Go.Proofs.YtmkebjdmkkjloaaGreatDoor
namespace Go.Proofs.YtmkebjdmkkjloaaGreatDoor
open Go.RowKit
set_option linter.unusedVariables false
structure Lq where
  mine : List Pr
  recd : List Pr
  came : List UInt8
  sta : Int
  cmd : Int
  bgn : Bool
  isd : Nat
  cid : Nat
  stg : Int
  met : Bool
  wN : Option (List UInt8)
  wT : Option (List UInt8)
  wS : Option (List UInt8)
  mth : List UInt8
  chd : Bool
  don : Bool
  fld : Bool
def lq0 (c : Cf) : Lq := ⟨c.own, [], [], 0, 0, false, 0, 0, 0, false, none, none, none, [], false, false, false⟩
def whoF (q : Lq) (k : List UInt8) : Option (List UInt8) := if k = kCN then q.wN else if k = nmK then q.wT else if k = kSes then q.wS else none
def grdQ (c : Cf) : Bool := decide (c.us ≠ [])
def knwQ (c : Cf) (q : Lq) : Bool := !grdQ c || decide (q.wN.getD [] ≠ [])
def dscQ (q : Lq) : Bool := decide (q.wS.getD [] = vDis)
def begQ (h : Hd) (q : Lq) : Lq := if q.bgn = true then q else { q with bgn := true, isd := hv h nISID, cid := hv h nCID, stg := csgI h }
def admE (c : Cf) (h : Hd) (first : Bool) (q : Lq) : Int :=
  if hv h nVMin ≠ 0 then 5
  else if hv h nTSIH ≠ 0 then 10
  else if tB h = true ∧ cB h = true then 0
  else if ¬ (csgI h = q.stg ∧ (csgI h = 0 ∨ csgI h = 1)) then 11
  else if ¬ (tB h = false ∨ (csgI h < nsgI h ∧ nsgI h ≠ 2)) then 11
  else if ¬ (hv h nISID = q.isd ∧ hv h nCID = q.cid) then 0
  else if ¬ (first = false ∨ csgI h = 0 ∨ grdQ c = false) then 1
  else -1
def admQ (c : Cf) (h : Hd) (q : Lq) : Int × Lq := (admE c h (!q.bgn) (begQ h q), begQ h q)
def meetQ (c : Cf) (l : List Pr) (q : Lq) : Int × Lq :=
  if (prFind l kIni).getD [] = [] then (7, q)
  else if (prFind l kSes).getD [] = vDis then (-1, { q with wS := some vDis })
  else if ¬ ((prFind l kSes).isSome = false ∨ (prFind l kSes).getD [] = vNor) then (9, q)
  else if (prFind l nmK).getD [] = [] then (7, q)
  else if hasT c.ts ((prFind l nmK).getD []) = false then (3, q)
  else (-1, { q with wT := some ((prFind l nmK).getD []) })
def chsQ (c : Cf) (o : Option (List UInt8)) (q : Lq) : Option (List Pr) × Lq := match o with
  | none => (some [], q)
  | some v => if ¬ (holdsL v (wantL (grdQ c)) = true ∧ q.mth = []) then (none, q) else (some [⟨kAM, wantL (grdQ c)⟩], { q with mth := wantL (grdQ c) })
def chlQ (d : Dw) (o : Option (List UInt8)) (q : Lq) : Option (List Pr) × Lq := match o with
  | none => (some [], q)
  | some v => if ¬ (holdsL v [53] = true ∧ q.mth = vCH ∧ q.chd = false) then (none, q) else (some [⟨kCA, [53]⟩, ⟨kCI, Lib.itoa d.id⟩, ⟨kCC, hexL d.ch⟩], { q with chd := true })
def chkQ (c : Cf) (d : Dw) (n r i cc : Option (List UInt8)) (q : Lq) : Option (List Pr) × Lq :=
  if n.isSome = false ∧ r.isSome = false ∧ i.isSome = false ∧ cc.isSome = false then (some [], q)
  else if ¬ (n.isSome = true ∧ r.isSome = true ∧ i.isSome = cc.isSome) then (none, q)
  else if ¬ (q.chd = true ∧ knwQ c q = false) then (none, q)
  else if chkL c.us (n.getD []) (r.getD []) d.id d.ch ≠ 0 then (none, q)
  else if i.isSome = false then (some [], { q with wN := some (n.getD []) })
  else (secM c d (i.getD []) (cc.getD []), { q with wN := some (n.getD []) })
def goQ (c : Cf) (h : Hd) (q : Lq) : Int × Lq :=
  if tB h = false ∨ knwQ c q = false then (0, q) else (128 + nsgI h, { q with stg := nsgI h, don := decide (nsgI h = 3) })
def tellQ (c : Cf) (d : Dw) (h : Hd) (l : List Pr) (q : Lq) : (Int × List Pr × Int) × Lq :=
  if secBad (decide (q.stg ≠ 0)) [] l = true then ((0, [], 0), q)
  else match chsQ c (prFind l kAM) q with
    | (none, q1) => ((1, [], 0), q1)
    | (some a, q1) => match chlQ d (prFind l kCA) q1 with
      | (none, q2) => ((1, [], 0), q2)
      | (some b, q2) => match chkQ c d (prFind l kCN) (prFind l kCR) (prFind l kCI) (prFind l kCC) q2 with
        | (none, q3) => ((1, [], 0), q3)
        | (some x, q3) => match ansN q3.mine q3.recd (restL l) true (dscQ q3) with
          | ((y, n, _), r) => if n ≠ 0 then ((0, [], 0), { q3 with recd := r })
            else ((-1, a ++ b ++ x ++ y, (goQ c h { q3 with recd := r }).1), (goQ c h { q3 with recd := r }).2)
def metQ (c : Cf) (l : List Pr) (q : Lq) : Int × Lq := if q.met = true then (-1, q) else meetQ c l { q with met := true }
def hearQ (c : Cf) (d : Dw) (p : Pd) (q : Lq) : (Int × List Pr × Int) × Lq :=
  if (admQ c p.h q).1 ≠ -1 then (((admQ c p.h q).1, [], 0), (admQ c p.h q).2)
  else match addG ⟨8192, (admQ c p.h q).2.came⟩ p.d (cB p.h) with
    | ((l, n, _), G) =>
      if n ≠ 0 then ((0, [], 0), { (admQ c p.h q).2 with came := G.came })
      else if cB p.h = true then ((-1, [], 0), { (admQ c p.h q).2 with came := G.came })
      else if (metQ c l { (admQ c p.h q).2 with came := G.came }).1 ≠ -1 then (((metQ c l { (admQ c p.h q).2 with came := G.came }).1, [], 0), (metQ c l { (admQ c p.h q).2 with came := G.came }).2)
      else tellQ c d p.h l (metQ c l { (admQ c p.h q).2 with came := G.came }).2
def judgeQ (c : Cf) (d : Dw) (p : Pd) (q : Lq) : (List Pr × Int × Int × Int) × Lq :=
  match hearQ c d p q with
  | ((e, l, f), q1) => if e ≠ -1 then (([], 0, 2, e), { q1 with fld := true }) else ((l, f, 0, 0), q1)
def writeQ (p : Pd) (a : List Pr × Int × Int × Int) (q : Lq) : Pd × Lq :=
  (⟨ansH p.h (4 * csgI p.h + a.2.1) (if q.don = true then 1 else 0) q.sta q.cmd a.2.2.1 a.2.2.2, [], (prPrint a.1).1⟩, { q with sta := (q.sta + 1) % 4294967296 })
def takeQ (c : Cf) (d : Dw) (q : Lq) (p : Pd) : (Pd × Int) × Lq :=
  if q.don = true ∨ q.fld = true then ((pd0, 6), q)
  else if p.h.op ≠ 3 then ((pd0, 1), q)
  else if rightP p ≠ 0 then ((pd0, rightP p), q)
  else
    let q1 : Lq := { q with cmd := u32 (hv p.h nCmd) }
    (((writeQ p (judgeQ c d p q1).1 (judgeQ c d p q1).2).1, 0), (writeQ p (judgeQ c d p q1).1 (judgeQ c d p q1).2).2)
end Go.Proofs.YtmkebjdmkkjloaaGreatDoor
namespace Go.Proofs.YtmkebjdmkkjloaaGreatDoor
open Go.RowKit
def Blk (W : World) (b : Nat) (C : Array Value) (t : TypeId) : Prop := W.heap[b]? = some (.cells C t (0, 0))
theorem Blk.new (w : World) (C : Array Value) (t : TypeId) : Blk (w.alloc (.cells C t)) w.heap.size C t := World.alloc_heap_new w _
theorem Blk.lt {W : World} {b : Nat} {C : Array Value} {t : TypeId} (h : Blk W b C t) : b < W.heap.size := (Array.getElem?_eq_some_iff.1 h).1
theorem Blk.cell {W : World} {b : Nat} {C : Array Value} {t : TypeId} (h : Blk W b C t) (i : Nat) : W.cell? ⟨b, i, none⟩ = C[i]? := by
  have h' : W.heap[b]? = some (.cells C t (0, 0)) := h
  unfold World.cell?
  simp [h']
theorem Blk.frozen {W : World} {b : Nat} {C : Array Value} {t : TypeId} (h : Blk W b C t) (i : Nat) : W.frozen? ⟨b, i, none⟩ = false := by
  have h' : W.heap[b]? = some (.cells C t (0, 0)) := h
  unfold World.frozen?
  simp [h']
theorem Blk.later {W W' : World} {b : Nat} {C : Array Value} {t : TypeId} (h : Blk W b C t) (hb : Below W.heap.size W W') : Blk W' b C t := (hb.block b h.lt).trans h
theorem Blk.below {B : Nat} {W W' : World} {b : Nat} {C : Array Value} {t : TypeId} (h : Blk W b C t) (hb : Below B W W') (hlt : b < B) : Blk W' b C t := (hb.block b hlt).trans h
theorem Blk.alloc {W : World} {b : Nat} {C : Array Value} {t : TypeId} (h : Blk W b C t) (o : Obj) : Blk (W.alloc o) b C t := h.later ((Below.refl _ _).alloc (Nat.le_refl _) _)
theorem Blk.drew {W : World} {b : Nat} {C : Array Value} {t : TypeId} (h : Blk W b C t) : Blk W.drew b C t := h
theorem Blk.drewN {W : World} {b : Nat} {C : Array Value} {t : TypeId} (h : Blk W b C t) (n : Nat) : Blk (W.drewN n) b C t := h
theorem setCell_heap_same {w : World} {b i : Nat} {C : Array Value} {t : TypeId} {fr : Nat × Nat} (h : w.heap[b]? = some (.cells C t fr)) (v : Value) : (w.setCell ⟨b, i, none⟩ v).heap[b]? = some (.cells (C.setIfInBounds i v) t fr) := by
  have hlt : b < w.heap.size := (Array.getElem?_eq_some_iff.1 h).1
  have hv : w.heap[b] = .cells C t fr := (Array.getElem?_eq_some_iff.1 h).2
  unfold World.setCell
  show (w.heap.modify b _)[b]? = _
  rw [Array.getElem?_eq_getElem (by simpa using hlt), Array.getElem_modify]
  simp [hv]
theorem setCell_heap_other {w : World} {b i k : Nat} (hne : k ≠ b) (v : Value) : (w.setCell ⟨b, i, none⟩ v).heap[k]? = w.heap[k]? := by
  unfold World.setCell
  show (w.heap.modify b _)[k]? = _
  simp [Array.getElem?_modify, Ne.symm hne]
theorem Blk.set {W : World} {b : Nat} {C : Array Value} {t : TypeId} (h : Blk W b C t) (i : Nat) (v : Value) : Blk (W.setCell ⟨b, i, none⟩ v) b (C.setIfInBounds i v) t := setCell_heap_same h v
theorem Blk.other {W : World} {b b' i : Nat} {C : Array Value} {t : TypeId} (h : Blk W b C t) (hne : b ≠ b') (v : Value) : Blk (W.setCell ⟨b', i, none⟩ v) b C t := (setCell_heap_other hne v).trans h
theorem Blk.put {W : World} {b D : Nat} {C : Array Value} {t : TypeId} (h : Blk W b C t) (o : Obj) (hne : b ≠ D) : Blk (W.putObj D o) b C t := (World.putObj_heap_other (fun e => hne e)).trans h
theorem Blk.own {β : Type} (b : Nat) (f : β → Array Value) (t : TypeId) : Own (fun s W => Blk W b (f s) t) := fun s X Y row hs hg hrow => by
  have hs' : X.heap[b]? = some (.cells (f s) t (0, 0)) := hs
  refine (hg.block b (Array.getElem?_eq_some_iff.1 hs').1 (fun e => ?_)).trans hs'
  obtain ⟨o, ho, hc⟩ := hrow b e.symm
  rw [hs'] at ho
  cases ho
  cases hc
theorem own_const {β : Type} (p : β → Prop) : Own (fun s (_ : World) => p s) := fun _ _ _ _ h _ _ => h
theorem Blk.one {W : World} {b : Nat} {x : Value} {t : TypeId} (h : Blk W b #[x] t) : W.cell? ⟨b, 0, none⟩ = some x := h.cell 0
theorem Blk.two {W : World} {b : Nat} {x y : Value} {t : TypeId} (h : Blk W b #[x, y] t) : W.cell? ⟨b, 0, none⟩ = some x ∧ W.cell? ⟨b, 1, none⟩ = some y := ⟨h.cell 0, h.cell 1⟩
theorem Blk.four {W : World} {b : Nat} {x y z u : Value} {t : TypeId} (h : Blk W b #[x, y, z, u] t) : W.cell? ⟨b, 0, none⟩ = some x ∧ W.cell? ⟨b, 1, none⟩ = some y ∧ W.cell? ⟨b, 2, none⟩ = some z ∧ W.cell? ⟨b, 3, none⟩ = some u := ⟨h.cell 0, h.cell 1, h.cell 2, h.cell 3⟩
theorem Blk.seven {W : World} {b : Nat} {x0 x1 x2 x3 x4 x5 x6 : Value} {t : TypeId} (h : Blk W b #[x0, x1, x2, x3, x4, x5, x6] t) : W.cell? ⟨b, 0, none⟩ = some x0 ∧ W.cell? ⟨b, 1, none⟩ = some x1 ∧ W.cell? ⟨b, 2, none⟩ = some x2 ∧ W.cell? ⟨b, 3, none⟩ = some x3 ∧ W.cell? ⟨b, 4, none⟩ = some x4 ∧ W.cell? ⟨b, 5, none⟩ = some x5 ∧ W.cell? ⟨b, 6, none⟩ = some x6 :=
  ⟨h.cell 0, h.cell 1, h.cell 2, h.cell 3, h.cell 4, h.cell 5, h.cell 6⟩
end Go.Proofs.YtmkebjdmkkjloaaGreatDoor
namespace Go.Proofs.YtmkebjdmkkjloaaGreatDoor
open Go.RowKit
def PrsV (W : World) (v : Value) (l : List Pr) : Prop := ∃ p c, v = .slice p l.length c ∧ l.length ≤ c ∧ (0 < l.length → ∃ b o, p = some ⟨b, o, none⟩ ∧ ∀ j (hj : j < l.length), W.cell? ⟨b, o + j * 2, none⟩ = some (.string (S l[j].k)) ∧ W.cell? ⟨b, o + j * 2 + 1, none⟩ = some (.string (S l[j].v)))
theorem PrsV.later {W W' : World} {v : Value} {l : List Pr} (h : PrsV W v l) (hb : Below W.heap.size W W') : PrsV W' v l := by
  obtain ⟨p, c, hv, hlc, hc⟩ := h
  refine ⟨p, c, hv, hlc, fun hl => ?_⟩
  obtain ⟨b, o, hp, hcell⟩ := hc hl
  refine ⟨b, o, hp, fun j hj => ?_⟩
  obtain ⟨h1, h2⟩ := hcell j hj
  rw [(bcell hb).1 b (o + j * 2) (block_lt_of_cell (w := W) (a := ⟨b, o + j * 2, none⟩) h1), (bcell hb).1 b (o + j * 2 + 1) (block_lt_of_cell (w := W) (a := ⟨b, o + j * 2 + 1, none⟩) h2)]
  exact ⟨h1, h2⟩
theorem PrsV.drewN {W : World} {v : Value} {l : List Pr} (h : PrsV W v l) (n : Nat) : PrsV (W.drewN n) v l := h
theorem PrsV.nil (W : World) : PrsV W (.slice none 0 0) [] := ⟨none, 0, rfl, Nat.le_refl _, fun h => absurd h (by decide)⟩
theorem PrsV.form {W : World} {v : Value} {l : List Pr} (h : PrsV W v l) : ∃ p c, v = .slice p l.length c := by obtain ⟨p, c, h, _⟩ := h; exact ⟨p, c, h⟩
theorem PrsV.cell {W : World} {p : Option Addr} {c : Nat} {l : List Pr} (h : PrsV W (.slice p l.length c) l) {j : Nat} (hj : j < l.length) : ∃ b o, p = some ⟨b, o, none⟩ ∧ W.cell? ⟨b, o + j * 2, none⟩ = some (.string (S l[j].k)) ∧ W.cell? ⟨b, o + j * 2 + 1, none⟩ = some (.string (S l[j].v)) := by
  obtain ⟨p0, c0, hv, _, hc⟩ := h
  obtain ⟨rfl, rfl⟩ : p = p0 ∧ c = c0 := by simpa using hv
  obtain ⟨b, o, rfl, hcell⟩ := hc (by omega)
  exact ⟨b, o, rfl, hcell j hj⟩
def fitPs (l : List Pr) : Prop := l.length ≤ 140737488355328 ∧ ∀ p ∈ l, p.k.length ≤ 140737488355328 ∧ p.v.length ≤ 140737488355328
def prsVs (l : List Pr) : List Value := l.flatMap fun p => [.string (S p.k), .string (S p.v)]
theorem prsVs_len : ∀ l : List Pr, (prsVs l).length = l.length * 2
  | [] => rfl
  | a :: l => by
    have := prsVs_len l
    unfold prsVs at *
    simp only [List.flatMap_cons, List.length_append, List.length_cons, List.length_nil] at *
    omega
theorem prsVs_app (l m : List Pr) : prsVs (l ++ m) = prsVs l ++ prsVs m := by simp [prsVs]
theorem prsVs_one (l : List Pr) : ∀ u ∈ prsVs l, u.oneCell' = true := by
  intro u hu
  unfold prsVs at hu
  obtain ⟨a, _, h⟩ := List.mem_flatMap.1 hu
  rcases List.mem_cons.1 h with rfl | h
  · rfl
  · rw [List.mem_singleton.1 h]; rfl
theorem prsVs_get : ∀ (l : List Pr) (j : Nat) (hj : j < l.length), (prsVs l)[j * 2]? = some (.string (S l[j].k)) ∧ (prsVs l)[j * 2 + 1]? = some (.string (S l[j].v))
  | [], j, hj => by simp at hj
  | a :: l, 0, _ => ⟨rfl, rfl⟩
  | a :: l, j + 1, hj => by
    obtain ⟨h1, h2⟩ := prsVs_get l j (by simpa using hj)
    have e : prsVs (a :: l) = .string (S a.k) :: .string (S a.v) :: prsVs l := rfl
    rw [e, show (j + 1) * 2 = j * 2 + 1 + 1 by omega, List.getElem?_cons_succ, List.getElem?_cons_succ, h1, show j * 2 + 1 + 1 + 1 = (j * 2 + 1) + 1 + 1 by omega, List.getElem?_cons_succ, List.getElem?_cons_succ, h2]
    exact ⟨rfl, rfl⟩
def PrBuf (base : Nat) (W : World) (v : Value) (l : List Pr) : Prop := W.ownsRow base 61 2 v l.length (prsVs l)
theorem PrBuf.nil (base : Nat) (W : World) : PrBuf base W (.slice none 0 0) [] := World.ownsRow_nil W base 61 2
theorem PrBuf.alloc {base : Nat} {W : World} {v : Value} {l : List Pr} (h : PrBuf base W v l) (o : Obj) : PrBuf base (W.alloc o) v l := World.ownsRow.alloc h o
theorem PrBuf.drew {base : Nat} {W : World} {v : Value} {l : List Pr} (h : PrBuf base W v l) : PrBuf base W.drew v l := h
theorem PrBuf.drewN {base : Nat} {W : World} {v : Value} {l : List Pr} (h : PrBuf base W v l) (n : Nat) : PrBuf base (W.drewN n) v l := h
theorem PrBuf.later {base : Nat} {W W' : World} {v : Value} {l : List Pr} (h : PrBuf base W v l) (hb : Below W.heap.size W W') : PrBuf base W' v l := by
  refine World.ownsRow.kept (row := none) h ⟨hb.os, hb.tape, hb.output, hb.size, fun k hk _ => hb.block k hk⟩ ?_
  cases hv : v.ownBlock with
  | none => exact .inl rfl
  | some k => exact .inr (by simp)
theorem PrBuf.form {base : Nat} {W : World} {v : Value} {l : List Pr} (h : PrBuf base W v l) : ∃ p cap, v = .slice p l.length cap := by
  rcases h.2 with ⟨rfl, h0⟩ | ⟨g, cap, cur, hv, _⟩
  · exact ⟨none, 0, by rw [h0]⟩
  · exact ⟨_, _, hv⟩
theorem PrBuf.prs {base : Nat} {W : World} {v : Value} {l : List Pr} (h : PrBuf base W v l) : PrsV W v l := by
  rcases h.2 with ⟨rfl, h0⟩ | ⟨g, cap, cur, rfl, hbg, hg, hnc, hcm, hcs, htake⟩
  · obtain rfl : l = [] := List.eq_nil_of_length_eq_zero h0
    exact PrsV.nil W
  · refine ⟨_, _, rfl, hnc, fun _ => ⟨g, 0, rfl, fun j hj => ?_⟩⟩
    obtain ⟨g1, g2⟩ := prsVs_get l j hj
    have h1 := World.ownsRow.cells h (g := g) rfl (j * 2) _ g1
    have h2 := World.ownsRow.cells h (g := g) rfl (j * 2 + 1) _ g2
    have e1 : (⟨g, 0, none⟩ : Addr).add (j * 2) = ⟨g, 0 + j * 2, none⟩ := by simp only [Addr.add]; split <;> simp_all
    have e2 : (⟨g, 0, none⟩ : Addr).add (j * 2 + 1) = ⟨g, 0 + j * 2 + 1, none⟩ := by simp only [Addr.add]; split <;> simp_all <;> omega
    rw [e1] at h1
    rw [e2] at h2
    exact ⟨h1, h2⟩
theorem PrBuf.ne {base : Nat} {W : World} {v : Value} {l : List Pr} (h : PrBuf base W v l) {b : Nat} (hb : W.heap.size ≤ b) : ∀ k, v.ownBlock = some k → b ≠ k := fun k hk => by
  have := (World.ownsRow.lt h k hk).2
  omega
theorem PrBuf.ge {base : Nat} {W : World} {v : Value} {l : List Pr} (h : PrBuf base W v l) : ∀ k, v.ownBlock = some k → base ≤ k := fun k hk => (World.ownsRow.lt h k hk).1
theorem Blk.grownP {W W' : World} {b : Nat} {C : Array Value} {t : TypeId} {row : Option Nat} (h : Blk W b C t) (hg : W.grownBy W' row) (hne : ∀ k, row = some k → b ≠ k) : Blk W' b C t :=
  (hg.block b h.lt (fun e => hne b e.symm rfl)).trans h
theorem infoPr : ∃ i, Tryz.prog.info? 61 = some i ∧ i.zero = some (.agg #[.string (S []), .string (S [])]) ∧ i.size = 2 ∧ i.bytes = 32 := info_parts (show (Tryz.prog.info? 61).map (fun i => (i.zero, i.size, i.bytes)) = some (some (.agg #[.string (S []), .string (S [])]), 2, 32) by kernel_rfl)
theorem appP_sides (k v : List UInt8) (wu : World) (N n base : Nat) (hN : wu.heap.size = N) (hn : n ≤ 5000) (hb : base ≤ N) :
    Hid (∀ j u, ([.string (S k), .string (S v)] : List Value)[j]? = some u → (wu.alloc (.cells #[.string (S k), .string (S v)] 61)).cell? ((⟨N, 0, none⟩ : Addr).add j) = some u) ∧ Hid (∀ u ∈ ([.string (S k), .string (S v)] : List Value), u.oneCell' = true) ∧ Hid (n + 1 ≤ maxLen) ∧ Hid ((n + 1) * 32 ≤ 140737488355328) ∧ Hid (base ≤ (wu.alloc (.cells #[.string (S k), .string (S v)] 61)).heap.size) := by
  subst hN
  refine ⟨Lib.hid ?_, Lib.hid ?_, Lib.hid (by unfold maxLen; omega), Lib.hid (by omega), Lib.hid (by simp; omega)⟩
  · intro j u h
    have hb := (Blk.new wu #[.string (S k), .string (S v)] 61).cell j
    have e1 : (⟨wu.heap.size, 0, none⟩ : Addr).add j = ⟨wu.heap.size, j, none⟩ := by simp only [Addr.add]; split <;> simp_all
    rw [e1, hb]
    simpa using h
  · exact prsVs_one [⟨k, v⟩]
theorem prs_new (w : World) (l : List Pr) (t : TypeId) : PrsV (w.alloc (.cells (prsVs l).toArray t)) (.slice (some ⟨w.heap.size, 0, none⟩) l.length l.length) l :=
  ⟨_, _, rfl, Nat.le_refl _, fun _ => ⟨w.heap.size, 0, rfl, fun j hj => by
    obtain ⟨g1, g2⟩ := prsVs_get l j hj
    have hb := Blk.new w (prsVs l).toArray t
    rw [hb.cell, hb.cell]
    simp only [Nat.zero_add, List.getElem?_toArray]
    exact ⟨g1, g2⟩⟩⟩
end Go.Proofs.YtmkebjdmkkjloaaGreatDoor
namespace Go.Proofs.YtmkebjdmkkjloaaGreatDoor
open Go.RowKit
set_option linter.unusedVariables false
open Classical in
noncomputable def offW (H : Nat → Prop) (W : World) : World := { W with heap := W.heap.mapIdx fun i o => if H i then .cells #[] 0 (1, 1) else o }
theorem off_size (H : Nat → Prop) (W : World) : (offW H W).heap.size = W.heap.size := by simp [offW]
theorem off_in {H : Nat → Prop} {W : World} {k : Nat} (h : H k) (hk : k < W.heap.size) : (offW H W).heap[k]? = some (.cells #[] 0 (1, 1)) := by
  unfold offW
  simp only [Array.getElem?_mapIdx]
  rw [Array.getElem?_eq_getElem hk]
  simp [h]
theorem off_out {H : Nat → Prop} {W : World} {k : Nat} (h : ¬ H k) : (offW H W).heap[k]? = W.heap[k]? := by
  unfold offW
  simp only [Array.getElem?_mapIdx]
  cases hk : W.heap[k]? with
  | none => rfl
  | some o => simp [h]
theorem off_cell {H : Nat → Prop} {W : World} {a : Addr} {v : Value} (h : (offW H W).cell? a = some v) : W.cell? a = some v := by
  have hlt : a.block < W.heap.size := by have := block_lt_of_cell h; rwa [off_size] at this
  by_cases hH : H a.block
  · unfold World.cell? at h
    rw [off_in hH hlt] at h
    simp at h
  · rw [← h]
    exact (World.cell?_of_block (w := W) (off_out hH)).symm
theorem off_cellout {H : Nat → Prop} {W : World} {a : Addr} {v : Value} (h : (offW H W).cell? a = some v) : ¬ H a.block := by
  have hlt : a.block < W.heap.size := by have := block_lt_of_cell h; rwa [off_size] at this
  intro hH
  unfold World.cell? at h
  rw [off_in hH hlt] at h
  simp at h
theorem off_to {H : Nat → Prop} {W : World} {a : Addr} (hH : ¬ H a.block) : (offW H W).cell? a = W.cell? a := World.cell?_of_block (w := W) (off_out hH)
theorem off_two (H K : Nat → Prop) (W : World) : offW H (offW K W) = offW (fun k => H k ∨ K k) W := by
  unfold offW
  congr 1
  apply Array.ext
  · simp
  · intro i h1 h2
    simp only [Array.getElem_mapIdx]
    by_cases hh : H i
    · simp [hh]
    · by_cases hk : K i <;> simp [hh, hk]
theorem off_row {H : Nat → Prop} {W : World} {base : Nat} {e : TypeId} {size : Nat} {v : Value} {n : Nat} {xs : List Value} (h : (offW H W).ownsRow base e size v n xs) : W.ownsRow base e size v n xs ∧ ∀ k, v.ownBlock = some k → ¬ H k := by
  rcases h.2 with ⟨rfl, h0⟩ | ⟨g, cap, cur, rfl, hb, hg, rest⟩
  · exact ⟨⟨h.1, .inl ⟨rfl, h0⟩⟩, fun k hk => by simp [Value.ownBlock] at hk⟩
  · have hlt : g < W.heap.size := by have := (Array.getElem?_eq_some_iff.1 hg).1; rwa [off_size] at this
    have hH : ¬ H g := fun hH => by rw [off_in hH hlt] at hg; simp at hg
    rw [off_out hH] at hg
    exact ⟨⟨h.1, .inr ⟨g, cap, cur, rfl, hb, hg, rest⟩⟩, fun k hk => by simp [Value.ownBlock] at hk; subst hk; exact hH⟩
theorem row_off {H : Nat → Prop} {W : World} {base : Nat} {e : TypeId} {size : Nat} {v : Value} {n : Nat} {xs : List Value} (h : W.ownsRow base e size v n xs) (hH : ∀ k, v.ownBlock = some k → ¬ H k) : (offW H W).ownsRow base e size v n xs := by
  rcases h.2 with ⟨rfl, h0⟩ | ⟨g, cap, cur, rfl, hb, hg, rest⟩
  · exact ⟨h.1, .inl ⟨rfl, h0⟩⟩
  · exact ⟨h.1, .inr ⟨g, cap, cur, rfl, hb, by rw [off_out (hH g rfl)]; exact hg, rest⟩⟩
structure Keeps (N : Nat) (w w' : World) (H H' : Nat → Prop) : Prop where
  os : w'.os = w.os
  tape : w'.tape = w.tape
  output : w'.output = w.output
  size : w.heap.size ≤ w'.heap.size
  block : ∀ k, k < N → ¬ H k → w'.heap[k]? = w.heap[k]?
  more : ∀ k, H k → H' k
  old : ∀ k, H' k → H k ∨ N ≤ k
theorem Keeps.of {N : Nat} {w w' : World} (h : Below N w w') (H : Nat → Prop) : Keeps N w w' H H := ⟨h.os, h.tape, h.output, h.size, fun k hk _ => h.block k hk, fun _ h => h, fun _ h => .inl h⟩
theorem Keeps.refl (N : Nat) (w : World) (H : Nat → Prop) : Keeps N w w H H := .of (Below.refl _ _) H
theorem Keeps.trans {N N' : Nat} {w w1 w2 : World} {H H1 H2 : Nat → Prop} (h : Keeps N w w1 H H1) (k : Keeps N' w1 w2 H1 H2) (hN : N ≤ N') : Keeps N w w2 H H2 :=
  ⟨k.os.trans h.os, k.tape.trans h.tape, k.output.trans h.output, Nat.le_trans h.size k.size, fun i hi hH => by
    have h1 : ¬ H1 i := fun hc => by rcases h.old i hc with hc | hc <;> first | exact hH hc | omega
    exact (k.block i (by omega) h1).trans (h.block i hi hH),
   fun i hi => k.more i (h.more i hi), fun i hi => by
    rcases k.old i hi with hc | hc
    · exact h.old i hc
    · exact .inr (by omega)⟩
theorem Keeps.then {w0 w w2 : World} {H0 H H2 : Nat → Prop} (h : Keeps w0.heap.size w0 w H0 H) (k : Keeps w.heap.size w w2 H H2) : Keeps w0.heap.size w0 w2 H0 H2 := h.trans k h.size
theorem Keeps.off {N : Nat} {w w' : World} {H H' : Nat → Prop} (h : Keeps N w w' H H') (hN : N ≤ w.heap.size) : Below N (offW H w) (offW H' w') :=
  ⟨h.os, h.tape, h.output, by rw [off_size, off_size]; exact h.size, fun k hk => by
    have hs := h.size
    by_cases hH : H k
    · rw [off_in hH (by omega), off_in (h.more k hH) (by omega)]
    · have hH' : ¬ H' k := fun hc => by rcases h.old k hc with hc | hc <;> first | exact hH hc | omega
      rw [off_out hH, off_out hH']
      exact h.block k hk hH⟩
theorem Keeps.off' {w w' : World} {H H' : Nat → Prop} (h : Keeps w.heap.size w w' H H') : Below (offW H w).heap.size (offW H w) (offW H' w') := by
  rw [off_size]; exact h.off (Nat.le_refl _)
theorem Keeps.below {N B : Nat} {w w' : World} {H H' : Nat → Prop} (h : Keeps N w w' H H') (hB : B ≤ N) (hH : ∀ k, H k → B ≤ k) : Below B w w' :=
  ⟨h.os, h.tape, h.output, h.size, fun k hk => h.block k (by omega) (fun hc => by have := hH k hc; omega)⟩
end Go.Proofs.YtmkebjdmkkjloaaGreatDoor
namespace Go.Proofs.YtmkebjdmkkjloaaGreatDoor
open Go.RowKit
set_option linter.unusedVariables false
theorem two_cell {W : World} {gb j : Nat} {x y : Value} {t : TypeId} (h : Blk W gb #[x, y] t) {v : Value} (hc : W.cell? ⟨gb, j, none⟩ = some v) : (j = 0 ∧ v = x) ∨ (j = 1 ∧ v = y) := by
  rw [h.cell j] at hc
  obtain rfl | rfl | ho : j = 0 ∨ j = 1 ∨ 2 ≤ j := by omega
  · simp at hc; exact .inl ⟨rfl, hc.symm⟩
  · simp at hc; exact .inr ⟨rfl, hc.symm⟩
  · rw [Array.getElem?_eq_none (by simpa using ho)] at hc
    cases hc
theorem Keeps.put1 {N : Nat} {w : World} {H : Nat → Prop} {b : Nat} (hf : H b) (i : Nat) (v : Value) : Keeps N w (w.setCell ⟨b, i, none⟩ v) H H :=
  ⟨rfl, rfl, rfl, by simp [World.setCell], fun k _ hH => setCell_heap_other (fun e => hH (by rw [e]; exact hf)) v, fun _ h => h, fun _ h => .inl h⟩
theorem grownBy_cell (W : World) (b i : Nat) (v : Value) : W.grownBy (W.setCell ⟨b, i, none⟩ v) (some b) :=
  ⟨rfl, rfl, rfl, by simp [World.setCell], fun k _ hne => setCell_heap_other (fun e => hne (by rw [e])) v⟩
end Go.Proofs.YtmkebjdmkkjloaaGreatDoor
namespace Go.Proofs.YtmkebjdmkkjloaaGreatDoor
open Go.RowKit
set_option linter.unusedVariables false
theorem PrsV.off {H : Nat → Prop} {W : World} {v : Value} {l : List Pr} (h : PrsV (offW H W) v l) : PrsV W v l := by
  obtain ⟨p, c, hv, hlc, hc⟩ := h
  exact ⟨p, c, hv, hlc, fun hl => by obtain ⟨b, o, hp, hcell⟩ := hc hl; exact ⟨b, o, hp, fun j hj => ⟨off_cell (hcell j hj).1, off_cell (hcell j hj).2⟩⟩⟩
theorem ErrIs.off {H : Nat → Prop} {W : World} {v : Value} {n p : Int} (h : ErrIs (offW H W) v n p) : ErrIs W v n p := by
  cases h with
  | good => exact .good
  | bare _ hn => exact .bare _ hn
  | placed b _ _ hn h0 h1 => exact .placed b _ _ hn (off_cell h0) (off_cell h1)
end Go.Proofs.YtmkebjdmkkjloaaGreatDoor
namespace Go.Proofs.YtmkebjdmkkjloaaGreatDoor
open Go.RowKit
set_option linter.unusedVariables false
theorem ErrCell.off {H : Nat → Prop} {W : World} (h : ErrCell (offW H W)) : ErrCell W := off_cell h
theorem MaxCell.off {H : Nat → Prop} {W : World} (h : MaxCell (offW H W)) : MaxCell W := by obtain ⟨m, hm⟩ := h; exact ⟨m, off_cell hm⟩
structure GL (H : Nat → Prop) (W : World) : Prop where
  c : MaxCell (offW H W)
  g : ErrCell (offW H W)
theorem GL.keeps {w w' : World} {H H' : Nat → Prop} (h : GL H w) (hk : Keeps w.heap.size w w' H H') : GL H' w' := ⟨h.c.later hk.off', h.g.later hk.off'⟩
theorem GL.later {w w' : World} {H : Nat → Prop} (h : GL H w) (hb : Below w.heap.size w w') : GL H w' := h.keeps (Keeps.of hb H)
theorem Keeps.from {w w1 w2 : World} {H H2 : Nat → Prop} (hb : Below w.heap.size w w1) (hk : Keeps w1.heap.size w1 w2 H H2) (hH : ∀ k, H k → w.heap.size ≤ k) : Below w.heap.size w w2 := hb.trans (hk.below hb.size hH)
end Go.Proofs.YtmkebjdmkkjloaaGreatDoor
namespace Go.Proofs.YtmkebjdmkkjloaaGreatDoor
open Go.RowKit
set_option linter.unusedVariables false
theorem tabIs_off {H : Nat → Prop} {W : World} (h : Lib.TabIs Tryz.prog (offW H W) "internal/strconv.uint64pow10" .u64 Lib.pow10Tab) : Lib.TabIs Tryz.prog W "internal/strconv.uint64pow10" .u64 Lib.pow10Tab := by
  unfold Lib.TabIs World.var? at *
  cases hg : Tryz.prog.globalNamed "internal/strconv.uint64pow10" with
  | none => simp [hg] at h
  | some g =>
    simp only [hg, Option.bind_some] at h ⊢
    by_cases hH : H g
    · have hlt : g < W.heap.size := by
        rcases Nat.lt_or_ge g W.heap.size with h' | h'
        · exact h'
        · rw [Array.getElem?_eq_none (by rw [off_size]; exact h')] at h; simp at h
      rw [off_in hH hlt] at h
      have h2 := congrArg (fun x : Option (Array Value) => x.map Array.size) h
      simp [Lib.pow10Tab] at h2
    · rw [off_out hH] at h
      exact h
theorem Env.off {H : Nat → Prop} {W : World} (h : Env (offW H W)) : Env W := by
  refine ⟨h.mc.off, ?_, ?_, tabIs_off h.tb⟩
  · obtain ⟨v, hc, hv⟩ := h.sy
    exact ⟨v, off_cell hc, hv⟩
  · obtain ⟨v, hc, hv⟩ := h.rg
    exact ⟨v, off_cell hc, hv⟩
theorem Env.keeps {w W : World} {H H' : Nat → Prop} (h : Env (offW H w)) (hk : Keeps w.heap.size w W H H') : Env (offW H' W) := h.later hk.off'
end Go.Proofs.YtmkebjdmkkjloaaGreatDoor
