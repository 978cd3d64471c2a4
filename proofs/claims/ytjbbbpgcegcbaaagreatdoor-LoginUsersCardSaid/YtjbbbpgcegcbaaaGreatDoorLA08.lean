/- LA08: several texts in one. -/
import Derived.BigRegion
import Derived.RangeFuncBound
import Derived.RangeFuncNested
import Derived.Test.YtjbbbpgcegcbaaaGreatDoorLA01
import Derived.Test.YtjbbbpgcegcbaaaGreatDoorLA03
import Derived.Test.YtjbbbpgcegcbaaaGreatDoorLA04
import Derived.Test.YtjbbbpgcegcbaaaGreatDoorLA05
import Derived.Test.YtjbbbpgcegcbaaaGreatDoorLA06
import Derived.Test.YtjbbbpgcegcbaaaGreatDoorLA07
namespace Go.Proofs.YtjbbbpgcegcbaaaGreatDoor
open Go.RowKit
def RetPP (w : World) (r : Option Nat) (e : Ending) (w' : World) : Prop :=
 ((∃ n : Nat, r = some n ∧ e = .returned (.tuple #[.int .u64 (n : Int), .nilIface])) ∨ (r = none ∧ ∃ (v : Int) (t : TypeId) (x : Value), e = .returned (.tuple #[.int .u64 v, .iface t x]))) ∧ Below w.heap.size w w'
set_option maxRecDepth 100000 in
theorem parseP_any (b : Int) (l : List UInt8) (r : Option Nat) (w : World) (hl : l.length ≤ 1000000) (hE : Env w)
  (C : Calls Tryz.prog 191 #[.string (S l), .int .i64 b, .int .i64 40] w (RetPU w r)) :
  Calls Tryz.prog 175 #[.string (S l), .int .i64 b, .int .i64 40] w (RetPP w r) := by
 have HE := Lib.hid hE
 have C := Lib.hid C
 clear hE
 go_enter Tryz.func175, Tryz.ntmps175
 go_wp2_with fail
 refine C.out.mono ?_
 rintro e w1 ⟨hr, hb1⟩
 have Hb1 := Lib.hid hb1
 have HE1 := Lib.hid (HE.out.later hb1)
 rcases hr with ⟨n, rfl, rfl⟩ | ⟨rfl, v, rfl | rfl⟩
 ·clear hb1
  go_wp2_with fail
  go_ret2
  exact ⟨.inl ⟨n, rfl, rfl⟩, Hb1.out⟩
 ·obtain ⟨ev, hc, hev⟩ := HE1.out.rg
  have T := Lib.hid (Tryz.strconv_toError_range (S [80, 97, 114, 115, 101, 85, 105, 110, 116]) (S l) b 40 ev w1 (by rw [S_size]; omega) hc hev)
  clear hb1 hc hev
  go_wp2_with fail
  refine T.out.mono ?_
  rintro e w2 ⟨N, rfl, _, _, hb2⟩
  have Hb2 := Lib.hid (below_then Hb1.out hb2)
  clear hb2
  go_wp2_with fail
  go_ret2
  exact ⟨.inr ⟨rfl, _, _, _, rfl⟩, Hb2.out⟩
 ·obtain ⟨ev, hc, hev⟩ := HE1.out.sy
  have T := Lib.hid (Tryz.strconv_toError_syntax (S [80, 97, 114, 115, 101, 85, 105, 110, 116]) (S l) b 40 ev w1 (by rw [S_size]; omega) hc hev)
  clear hb1 hc hev
  go_wp2_with fail
  refine T.out.mono ?_
  rintro e w2 ⟨N, rfl, _, _, hb2⟩
  have Hb2 := Lib.hid (below_then Hb1.out hb2)
  clear hb2
  go_wp2_with fail
  go_ret2
  exact ⟨.inr ⟨rfl, _, _, _, rfl⟩, Hb2.out⟩
theorem cutx_yes (r : List UInt8) (w : World) : Calls Tryz.prog 174 #[.string (S (48 :: 120 :: r)), .string (S [48, 120])] w fun e w' => e = .returned (.tuple #[.string (S r), .bool true]) ∧ w = w' := by
 refine (Tryz.strings_CutPrefix (S (48 :: 120 :: r)) (S [48, 120]) w).mono ?_
 rintro e w' ⟨rfl, rfl⟩
 refine ⟨?_, rfl⟩
 have e1 : (S (48 :: 120 :: r)).data.toList = 48 :: 120 :: r := by simp [S]
 have e2 : (S [48, 120]).data.toList = [48, 120] := by simp [S]
 have h1 : Lib.hasPrefix (48 :: 120 :: r) [48, 120] = true := by simp [Lib.hasPrefix, List.isPrefixOf]
 have h2 : Lib.trimPrefix (48 :: 120 :: r) [48, 120] = r := by unfold Lib.trimPrefix; rw [if_pos h1]; rfl
 rw [e1, e2, h1, h2]
 rfl
theorem cutx_no (s : List UInt8) (w : World) (h : ¬ s.take 2 = [48, 120]) : Calls Tryz.prog 174 #[.string (S s), .string (S [48, 120])] w fun e w' => e = .returned (.tuple #[.string (S s), .bool false]) ∧ w = w' := by
 refine (Tryz.strings_CutPrefix (S s) (S [48, 120]) w).mono ?_
 rintro e w' ⟨rfl, rfl⟩
 refine ⟨?_, rfl⟩
 have e1 : (S s).data.toList = s := by simp [S]
 have e2 : (S [48, 120]).data.toList = [48, 120] := by simp [S]
 have h1 : Lib.hasPrefix s [48, 120] = false := by
  cases hp : Lib.hasPrefix s [48, 120] with
  | false => rfl
  | true =>
   unfold Lib.hasPrefix at hp
   rw [List.isPrefixOf_iff_prefix] at hp
   obtain ⟨r, rfl⟩ := hp
   exact absurd rfl h
 have h2 : Lib.trimPrefix s [48, 120] = s := by unfold Lib.trimPrefix; rw [if_neg (by rw [h1]; decide)]
 rw [e1, e2, h1, h2]
 rfl
def RetNum (w : World) (r : Option Nat) (e : Ending) (w' : World) : Prop :=
 ((∃ n : Nat, r = some n ∧ e = .returned (.tuple #[.int .i64 (n : Int), .bool true])) ∨ (r = none ∧ ∃ v : Int, e = .returned (.tuple #[.int .i64 v, .bool false]))) ∧ Below w.heap.size w w'
set_option maxRecDepth 100000 in
theorem number_any (s : List UInt8) (w : World) (hl : s.length ≤ 1000000) (hE : Env w) :
  Calls Tryz.prog 149 #[.string (S s)] w (RetNum w (numR s)) := by
 by_cases hx : s.take 2 = [48, 120]
 ·obtain ⟨r, rfl⟩ := take2_of hx
  have hr : r.length ≤ 1000000 := by simp at hl; omega
  have HN := Lib.hid (show numR (48 :: 120 :: r) = numU 16 r by unfold numR; rw [if_pos hx]; rfl)
  have C := Lib.hid (cutx_yes r w)
  have P := Lib.hid (parseP_any 16 r _ w hr hE (parseU16 r w hr))
  have HR := Lib.hid (fun n (h : numU 16 r = some n) => numU_lt h)
  clear hx hl hE
  go_enter Tryz.func149, Tryz.ntmps149
  go_wp2_with fail
  refine C.out.mono ?_
  rintro e w' ⟨rfl, rfl⟩
  go_wp2_with fail
  refine P.out.mono ?_
  rintro e w1 ⟨hr, hb1⟩
  have Hb1 := Lib.hid hb1
  clear hb1 C P
  rcases hr with ⟨n, hn, rfl⟩ | ⟨hn, v, t, x, rfl⟩
  ·have hlt := HR.out n hn
   rw [hn] at HN
   have l1 : (0 : Int) ≤ (n : Int) := by omega
   have l2 : (n : Int) ≤ 9223372036854775807 := by omega
   clear hn HR
   go_wp2_with fail
   go_region
   all_goals
    go_wp2_with fail
    go_ret2
    rw [HN.out]
    exact ⟨.inl ⟨n, rfl, rfl⟩, Hb1.out.drew⟩
  ·rw [hn] at HN
   clear hn HR
   go_wp2_with fail
   go_region
   all_goals
    go_wp2_with fail
    go_ret2
    rw [HN.out]
    exact ⟨.inr ⟨rfl, _, rfl⟩, Hb1.out.drew⟩
 ·have C := Lib.hid (cutx_no s w hx)
  by_cases hz : 1 < s.length ∧ s.getD 0 0 = 48
  ·have HN := Lib.hid (show numR s = none by unfold numR; rw [if_neg hx, if_pos hz])
   obtain ⟨h1, h0⟩ := hz
   have h1' : (1 : Int) < (s.length : Int) := by omega
   have hc : s[0] = 48 := by rw [← h0, List.getD_eq_getElem?_getD, List.getElem?_eq_getElem (by omega)]; rfl
   clear hx h0
   go_enter Tryz.func149, Tryz.ntmps149
   go_wp2_with fail
   refine C.out.mono ?_
   rintro e w' ⟨rfl, rfl⟩
   go_wp2_with fail
   go_ret2
   rw [HN.out]
   exact ⟨.inr ⟨rfl, _, rfl⟩, Below.refl _ _⟩
  ·have HN := Lib.hid (show numR s = numU 10 s by unfold numR; rw [if_neg hx, if_neg hz])
   have P := Lib.hid (parseP_any 10 s _ w hl hE (parseU10 s w hl))
   have HR := Lib.hid (fun n (h : numU 10 s = some n) => numU_lt h)
   have fin : ∀ (hg : (s.length : Int) ≤ 1 ∨ (∃ (h0 : 0 < s.length), (1 : Int) < (s.length : Int) ∧ (((s[0]'h0).toNat : Int) == 48) = false)), Calls Tryz.prog 149 #[.string (S s)] w (RetNum w (numR s)) := by
    intro hg
    clear hx hz hE
    rcases hg with hg | ⟨h0, hg, hc⟩
    all_goals
     go_enter Tryz.func149, Tryz.ntmps149
     go_wp2_with fail
     refine C.out.mono ?_
     rintro e w' ⟨rfl, rfl⟩
     go_wp2_with fail
     refine P.out.mono ?_
     rintro e w1 ⟨hr, hb1⟩
     have Hb1 := Lib.hid hb1
     clear hb1
     rcases hr with ⟨n, hn, rfl⟩ | ⟨hn, v, t, x, rfl⟩
     ·have hlt := HR.out n hn
      have HN2 := HN.out
      rw [hn] at HN2
      have HN2 := Lib.hid HN2
      have l1 : (0 : Int) ≤ (n : Int) := by omega
      have l2 : (n : Int) ≤ 9223372036854775807 := by omega
      clear hn
      go_wp2_with fail
      go_region
      all_goals
       go_wp2_with fail
       go_ret2
       rw [HN2.out]
       exact ⟨.inl ⟨n, rfl, rfl⟩, Hb1.out.drew⟩
     ·have HN2 := HN.out
      rw [hn] at HN2
      have HN2 := Lib.hid HN2
      clear hn
      go_wp2_with fail
      go_region
      all_goals
       go_wp2_with fail
       go_ret2
       rw [HN2.out]
       exact ⟨.inr ⟨rfl, _, rfl⟩, Hb1.out.drew⟩
   by_cases h1 : 1 < s.length
   ·refine fin (.inr ⟨by omega, by omega, ?_⟩)
    have h0 : ¬ s.getD 0 0 = 48 := fun e => hz ⟨h1, e⟩
    rw [List.getD_eq_getElem?_getD, List.getElem?_eq_getElem (by omega)] at h0
    simp only [Option.getD_some] at h0
    rw [beq_eq_false_iff_ne]
    intro e
    exact h0 (UInt8.toNat_inj.1 (by show _ = 48; omega))
   ·exact fin (.inl (by omega))
def numE (s : List UInt8) (lo hi : Int) : Int × Int := match numR s with | none => (0, 3) | some n => if (n : Int) < lo ∨ hi < (n : Int) then (0, 2) else ((n : Int), 0)
theorem numE_none {s : List UInt8} {lo hi : Int} (h : numR s = none) : numE s lo hi = (0, 3) := by unfold numE; rw [h]
theorem numE_off {s : List UInt8} {lo hi : Int} {n : Nat} (h : numR s = some n) (h2 : (n : Int) < lo ∨ hi < (n : Int)) : numE s lo hi = (0, 2) := by unfold numE; rw [h]; simp only; rw [if_pos h2]
theorem numE_in {s : List UInt8} {lo hi : Int} {n : Nat} (h : numR s = some n) (h2 : lo ≤ (n : Int)) (h3 : (n : Int) ≤ hi) : numE s lo hi = ((n : Int), 0) := by unfold numE; rw [h]; simp only; rw [if_neg (by omega)]
def RetNI (w : World) (r : Int × Int) (e : Ending) (w' : World) : Prop := e = .returned (.tuple #[.int .i64 r.1, errV r.2]) ∧ Below w.heap.size w w'
set_option maxRecDepth 100000 in
theorem numeral_any (s : List UInt8) (lo hi : Int) (w : World) (hl : s.length ≤ 1000000) (hE : Env w) :
  Calls Tryz.prog 114 #[.string (S s), .int .i64 lo, .int .i64 hi] w (RetNI w (numE s lo hi)) := by
 have N := Lib.hid (number_any s w hl hE)
 clear hE
 go_enter Tryz.func114, Tryz.ntmps114
 go_wp2_with fail
 refine N.out.mono ?_
 rintro e w1 ⟨hr, hb1⟩
 have Hb1 := Lib.hid hb1
 clear hb1 N
 rcases hr with ⟨n, hn, rfl⟩ | ⟨hn, v, rfl⟩
 ·by_cases h1 : (n : Int) < lo
  ·have R := Lib.hid (numE_off (hi := hi) hn (.inl h1))
   clear hn
   go_wp2_with fail
   go_ret2
   rw [R.out]
   exact ⟨rfl, Hb1.out⟩
  ·by_cases h2 : hi < (n : Int)
   ·have R := Lib.hid (numE_off (lo := lo) hn (.inr h2))
    have h1' : lo ≤ (n : Int) := by omega
    clear hn h1
    go_wp2_with fail
    go_ret2
    rw [R.out]
    exact ⟨rfl, Hb1.out⟩
   ·have h1' : lo ≤ (n : Int) := by omega
    have h2' : (n : Int) ≤ hi := by omega
    have R := Lib.hid (numE_in hn h1' h2')
    clear hn h1 h2
    go_wp2_with fail
    go_ret2
    rw [R.out]
    exact ⟨rfl, Hb1.out⟩
 ·have R := Lib.hid (numE_none (lo := lo) (hi := hi) hn)
  clear hn
  go_wp2_with fail
  go_ret2
  rw [R.out]
  exact ⟨rfl, Hb1.out⟩
end Go.Proofs.YtjbbbpgcegcbaaaGreatDoor
namespace Go.Proofs.YtjbbbpgcegcbaaaGreatDoor
open Go.RowKit
set_option linter.unusedVariables false
def afterI (a n : Int) : Int := (a + n) % 4294967296
end Go.Proofs.YtjbbbpgcegcbaaaGreatDoor
namespace Go.Proofs.YtjbbbpgcegcbaaaGreatDoor
structure Dw where
 id : Int
 ch : List UInt8
end Go.Proofs.YtjbbbpgcegcbaaaGreatDoor
namespace Go.Proofs.YtjbbbpgcegcbaaaGreatDoor
open Go.RowKit
set_option linter.unusedVariables false
def nVMin : List UInt8 := [86, 101, 114, 115, 105, 111, 110, 77, 105, 110]
def nTSIH : List UInt8 := [84, 83, 73, 72]
def nISID : List UInt8 := [73, 83, 73, 68]
def nCID : List UInt8 := [67, 73, 68]
def nITT : List UInt8 := [73, 84, 84]
def nCmd : List UInt8 := [67, 109, 100, 83, 78]
def kIni : List UInt8 := [73, 110, 105, 116, 105, 97, 116, 111, 114, 78, 97, 109, 101]
def kSes : List UInt8 := [83, 101, 115, 115, 105, 111, 110, 84, 121, 112, 101]
def vDis : List UInt8 := [68, 105, 115, 99, 111, 118, 101, 114, 121]
def vNor : List UInt8 := [78, 111, 114, 109, 97, 108]
def kAM : List UInt8 := [65, 117, 116, 104, 77, 101, 116, 104, 111, 100]
def kCA : List UInt8 := [67, 72, 65, 80, 95, 65]
def kCI : List UInt8 := [67, 72, 65, 80, 95, 73]
def kCC : List UInt8 := [67, 72, 65, 80, 95, 67]
def kCN : List UInt8 := [67, 72, 65, 80, 95, 78]
def kCR : List UInt8 := [67, 72, 65, 80, 95, 82]
def vCH : List UInt8 := [67, 72, 65, 80]
def vNo : List UInt8 := [78, 111, 110, 101]
def sixK : List (List UInt8) := [kAM, kCA, kCI, kCC, kCN, kCR]
structure Lg where
 mine : List Pr
 recd : List Pr
 came : List UInt8
 fst : Option Hd
 bgn : Bool
 stg : Int
 mth : List UInt8
 ask : Bool
 usr : List UInt8
 knw : Bool
 tgt : List UInt8
 dsc : Bool
 sta : Int
 cmd : Int
 don : Bool
 fld : Bool
def lg0 (c : Cf) : Lg := ⟨c.own, [], [], none, false, 0, [], false, [], false, [], false, 0, 0, false, false⟩
def newL (c : Cf) (d : Dw) : Int × Int := if (tgtR c).1 ≠ 0 then tgtR c else if (respL d.id [] d.ch).2 ≠ 0 then ((respL d.id [] d.ch).2, -1) else (0, -1)
def hv (h : Hd) (n : List UInt8) : Nat := (valueR h n).1
def tB (h : Hd) : Bool := decide (h.fl / 128 = 1)
def cB (h : Hd) : Bool := decide (h.fl / 64 % 2 = 1)
def csgI (h : Hd) : Int := h.fl / 4 % 4
def nsgI (h : Hd) : Int := h.fl % 4
def headL (us : Bool) (s : Lg) (h : Hd) : Int :=
 if 0 < hv h nVMin then 5
 else if hv h nTSIH ≠ 0 then 10
 else if tB h = true ∧ cB h = true then 0
 else if 1 < csgI h ∨ (s.fst.isSome = true ∧ csgI h ≠ s.stg) ∨ (tB h = true ∧ (nsgI h = 2 ∨ nsgI h ≤ csgI h)) then 11
 else match s.fst with
  | some q => if hv h nISID ≠ hv q nISID ∨ hv h nCID ≠ hv q nCID then 0 else -1
  | none => if csgI h = 1 ∧ us = true then 1 else -1
def beginL (c : Cf) (l : List Pr) : Int × List UInt8 × Bool :=
 if (prFind l kIni).getD [] = [] then (7, [], false)
 else if (prFind l kSes).getD [] = vDis then (-1, [], true)
 else if (prFind l kSes).isSome = true ∧ (prFind l kSes).getD [] ≠ vNor then (9, [], false)
 else if (prFind l nmK).getD [] = [] then (7, [], false)
 else if hasT c.ts ((prFind l nmK).getD []) = false then (3, [], false)
 else (-1, (prFind l nmK).getD [], false)
def secBad (late : Bool) : List (List UInt8) → List Pr → Bool
 | _, [] => false
 | seen, p :: l => if p.k ∈ sixK then (if p.k ∈ seen ∨ late = true then true else secBad late (seen ++ [p.k]) l) else secBad late seen l
def restL (l : List Pr) : List Pr := l.filter fun p => decide (p.k ∉ sixK)
def toldL (l : List Pr) : List Pr := l.filter fun p => decide (p.k ∈ sixK)
def holdsL (v word : List UInt8) : Bool := match listR v with
 | some l => decide (word ∈ l)
 | none => false
def wantL (us : Bool) : List UInt8 := if us = true then vCH else vNo
def secA (us : Bool) (o : Option (List UInt8)) (s : Lg) : Option (List Pr × Lg) := match o with
 | none => some ([], s)
 | some v => if holdsL v (wantL us) = false ∨ s.mth ≠ [] then none else some ([⟨kAM, wantL us⟩], { s with mth := wantL us })
def secB (d : Dw) (o : Option (List UInt8)) (s : Lg) : Option (List Pr × Lg) := match o with
 | none => some ([], s)
 | some v => if holdsL v [53] = false ∨ s.mth ≠ vCH ∨ s.ask = true then none else some ([⟨kCA, [53]⟩, ⟨kCI, Lib.itoa d.id⟩, ⟨kCC, hexL d.ch⟩], { s with ask := true })
def secM (c : Cf) (d : Dw) (iv cv : List UInt8) : Option (List Pr) :=
 if (numE iv 0 255).2 ≠ 0 ∨ (readV cv).2.1 ≠ 0 ∨ (readV cv).1 = d.ch ∨ c.sn = [] ∨ (respL (numE iv 0 255).1 c.ss (readV cv).1).2 ≠ 0 then none
 else some [⟨kCN, c.sn⟩, ⟨kCR, hexL (respL (numE iv 0 255).1 c.ss (readV cv).1).1⟩]
def secC (c : Cf) (d : Dw) (i cc n r : Option (List UInt8)) (s : Lg) : Option (List Pr) × Lg :=
 if i = none ∧ cc = none ∧ n = none ∧ r = none then (some [], s)
 else if n = none ∨ r = none ∨ i.isSome ≠ cc.isSome ∨ s.ask = false ∨ s.knw = true ∨ chkL c.us (n.getD []) (r.getD []) d.id d.ch ≠ 0 then (none, s)
 else if i = none then (some [], { s with knw := true, usr := n.getD [] })
 else (secM c d (i.getD []) (cc.getD []), { s with knw := true, usr := n.getD [] })
def secL (c : Cf) (d : Dw) (l : List Pr) (s : Lg) : (List Pr × Int) × Lg :=
 if secBad (decide (s.stg ≠ 0)) [] l = true then (([], 0), s)
 else match secA (decide (c.us ≠ [])) (prFind l kAM) s with
  | none => (([], 1), s)
  | some (a, s1) => match secB d (prFind l kCA) s1 with
   | none => (([], 1), s1)
   | some (b, s2) => match secC c d (prFind l kCI) (prFind l kCC) (prFind l kCN) (prFind l kCR) s2 with
    | (none, s3) => (([], 1), s3)
    | (some x, s3) => ((a ++ b ++ x, -1), s3)
def firstL (c : Cf) (h : Hd) (s : Lg) : Lg := match s.fst with
 | some _ => s
 | none => { s with fst := some h, stg := csgI h, knw := decide (c.us = []) }
def textL (c : Cf) (d : Dw) (l : List Pr) (s : Lg) : (List Pr × Int) × Lg :=
 let b := beginL c l
 let s1 : Lg := if s.bgn = true then s else if b.1 = -1 then { s with bgn := true, tgt := b.2.1, dsc := b.2.2 } else { s with bgn := true }
 if s.bgn = false ∧ b.1 ≠ -1 then (([], b.1), s1)
 else match secL c d l s1 with
  | ((x, e), s2) => if e ≠ -1 then (([], e), s2)
   else match ansN s2.mine s2.recd (restL l) true s2.dsc with
    | ((y, n, _), r) => if n ≠ 0 then (([], 0), s2) else ((x ++ y, -1), { s2 with recd := r })
def asksL (c : Cf) (d : Dw) (p : Pd) (s : Lg) : (Int × List Pr × Int) × Lg :=
 if headL (decide (c.us ≠ [])) s p.h ≠ -1 then ((0, [], headL (decide (c.us ≠ [])) s p.h), s)
 else
  let s1 := firstL c p.h s
  match addG ⟨8192, s1.came⟩ p.d (cB p.h) with
  | ((l, n, _), G) =>
   let s2 : Lg := { s1 with came := G.came }
   if n ≠ 0 then ((0, [], 0), s2)
   else if cB p.h = true then ((4 * csgI p.h, [], -1), s2)
   else match textL c d l s2 with
    | ((x, e), s3) => if e ≠ -1 then ((0, [], e), s3)
     else if tB p.h = true ∧ s3.knw = true then ((128 + 4 * csgI p.h + nsgI p.h, x, -1), { s3 with stg := nsgI p.h, don := decide (nsgI p.h = 3) })
     else ((4 * csgI p.h, x, -1), s3)
def ansH (h : Hd) (fl tsih sta cmd cls det : Int) : Hd := ⟨35, false, fl, [0, 0, hv h nISID, tsih.toNat, hv h nITT, sta.toNat, cmd.toNat, (afterI cmd 31).toNat, cls.toNat, det.toNat]⟩
def u32 (n : Nat) : Int := ((n % 4294967296 : Nat) : Int)
def replyL (p : Pd) (r : (Int × List Pr × Int) × Lg) : Pd × Lg :=
 let s := r.2
 let bad : Bool := decide (r.1.2.2 ≠ -1)
 let cmd := u32 (hv p.h nCmd)
 (⟨ansH p.h (if bad = true then 4 * csgI p.h else r.1.1) (if s.don = true then 1 else 0) s.sta cmd (if bad = true then 2 else 0) (if bad = true then r.1.2.2 else 0), [], if bad = true then [] else (prPrint r.1.2.1).1⟩,
  { s with fld := s.fld || bad, cmd := cmd, sta := (s.sta + 1) % 4294967296 })
def takeL (c : Cf) (d : Dw) (s : Lg) (p : Pd) : (Pd × Int) × Lg :=
 if s.don = true ∨ s.fld = true then ((pd0, 6), s)
 else if p.h.op ≠ 3 then ((pd0, 1), s)
 else if rightP p ≠ 0 then ((pd0, rightP p), s)
 else (((replyL p (asksL c d p s)).1, 0), (replyL p (asksL c d p s)).2)
theorem takeL_over {c : Cf} {d : Dw} {s : Lg} {p : Pd} (h : s.don = true ∨ s.fld = true) : takeL c d s p = ((pd0, 6), s) := by unfold takeL; rw [if_pos h]
theorem takeL_go {c : Cf} {d : Dw} {s : Lg} {p : Pd} (h : ¬ (s.don = true ∨ s.fld = true)) (h2 : p.h.op = 3) (h3 : rightP p = 0) : takeL c d s p = (((replyL p (asksL c d p s)).1, 0), (replyL p (asksL c d p s)).2) := by
 unfold takeL; rw [if_neg h, if_neg (by simpa using h2), if_neg (by simpa using h3)]
theorem secBad_app (late : Bool) : ∀ (l m : List Pr) (seen : List (List UInt8)), secBad late seen (l ++ m) = (secBad late seen l || secBad late (seen ++ keysP (toldL l)) m)
 | [], m, seen => by simp [secBad, toldL, keysP]
 | p :: l, m, seen => by
  have ih := secBad_app late l m
  simp only [List.cons_append, secBad]
  by_cases h : p.k ∈ sixK
  ·rw [if_pos h, if_pos h]
   by_cases h2 : p.k ∈ seen ∨ late = true
   ·rw [if_pos h2, if_pos h2]; rfl
   ·rw [if_neg h2, if_neg h2, ih]
    have : keysP (toldL (p :: l)) = p.k :: keysP (toldL l) := by unfold toldL; rw [List.filter_cons_of_pos (by simpa using h)]; rfl
    rw [this, List.append_assoc]; rfl
  ·rw [if_neg h, if_neg h, ih]
   have : keysP (toldL (p :: l)) = keysP (toldL l) := by unfold toldL; rw [List.filter_cons_of_neg (by simpa using h)]
   rw [this]
theorem prFind_told {l : List Pr} {k : List UInt8} (hk : k ∈ sixK) : prFind (toldL l) k = prFind l k := by
 induction l with
 | nil => rfl
 | cons p l ih =>
  by_cases h : p.k ∈ sixK
  ·have e : toldL (p :: l) = p :: toldL l := by unfold toldL; rw [List.filter_cons_of_pos (by simpa using h)]
   rw [e, prFind, prFind, ih]
  ·have e : toldL (p :: l) = toldL l := by unfold toldL; rw [List.filter_cons_of_neg (by simpa using h)]
   rw [e, ih, prFind, if_neg (fun (e2 : p.k = k) => h (by rw [e2]; exact hk))]
theorem told_snoc (m : List Pr) (p : Pr) : toldL (m ++ [p]) = toldL m ++ (if p.k ∈ sixK then [p] else []) := by
 unfold toldL
 rw [List.filter_append]
 by_cases h : p.k ∈ sixK
 ·rw [if_pos h, List.filter_cons_of_pos (by simpa using h)]; rfl
 ·rw [if_neg h, List.filter_cons_of_neg (by simpa using h)]; rfl
theorem rest_snoc (m : List Pr) (p : Pr) : restL (m ++ [p]) = restL m ++ (if p.k ∈ sixK then [] else [p]) := by
 unfold restL
 rw [List.filter_append]
 by_cases h : p.k ∈ sixK
 ·rw [if_pos h, List.filter_cons_of_neg (by simpa using h)]; rfl
 ·rw [if_neg h, List.filter_cons_of_pos (by simpa using h)]; rfl
theorem take_snoc {l : List Pr} {j : Nat} (h : j < l.length) : l.take (j + 1) = l.take j ++ [l[j]] := by rw [List.take_add_one, List.getElem?_eq_getElem h]; rfl
theorem bad_snoc (late : Bool) (m : List Pr) (p : Pr) : secBad late [] (m ++ [p]) = (secBad late [] m || decide (p.k ∈ sixK ∧ (p.k ∈ keysP (toldL m) ∨ late = true))) := by
 rw [secBad_app, List.nil_append]
 congr 1
 simp only [secBad]
 by_cases h : p.k ∈ sixK
 ·rw [if_pos h]
  by_cases h2 : p.k ∈ keysP (toldL m) ∨ late = true
  ·rw [if_pos h2, decide_eq_true ⟨h, h2⟩]
  ·rw [if_neg h2, decide_eq_false (fun h3 => h2 h3.2)]
 ·rw [if_neg h, decide_eq_false (fun h3 => h h3.1)]
theorem bad_whole {late : Bool} {l : List Pr} {j : Nat} (h : secBad late [] (l.take j) = true) : secBad late [] l = true := by
 have e := secBad_app late (l.take j) (l.drop j) []
 rw [List.take_append_drop, h] at e
 rw [e]; rfl
theorem find_snoc (m : List Pr) (p : Pr) (h : p.k ∉ keysP m) (k : List UInt8) : prFind (m ++ [p]) k = if k = p.k then some p.v else prFind m k := by
 rw [prFind_app]
 by_cases e : k = p.k
 ·subst e
  have : prFind m p.k = none := by
   cases hf : prFind m p.k with
   | none => rfl
   | some v => exact absurd (prFind_iff.1 (by rw [hf]; rfl)) h
  rw [this, if_pos rfl]
 ·rw [if_neg e]
  cases hf : prFind m k with
  | none => simp only; rw [if_neg (fun h => e h.symm)]
  | some v => rfl
structure Lq where
 mine : List Pr
 recd : List Pr
 came : List UInt8
 sta : Int
 cmd : Int
 bgn : Bool
 isd : Nat
 cid : Nat
 stg : Int
 met : Bool
 wN : Option (List UInt8)
 wT : Option (List UInt8)
 wS : Option (List UInt8)
 mth : List UInt8
 chd : Bool
 don : Bool
 fld : Bool
def lq0 (c : Cf) : Lq := ⟨c.own, [], [], 0, 0, false, 0, 0, 0, false, none, none, none, [], false, false, false⟩
def whoF (q : Lq) (k : List UInt8) : Option (List UInt8) := if k = kCN then q.wN else if k = nmK then q.wT else if k = kSes then q.wS else none
def grdQ (c : Cf) : Bool := decide (c.us ≠ [])
def knwQ (c : Cf) (q : Lq) : Bool := !grdQ c || decide (q.wN.getD [] ≠ [])
def dscQ (q : Lq) : Bool := decide (q.wS.getD [] = vDis)
def begQ (h : Hd) (q : Lq) : Lq := if q.bgn = true then q else { q with bgn := true, isd := hv h nISID, cid := hv h nCID, stg := csgI h }
def admE (c : Cf) (h : Hd) (first : Bool) (q : Lq) : Int :=
 if hv h nVMin ≠ 0 then 5
 else if hv h nTSIH ≠ 0 then 10
 else if tB h = true ∧ cB h = true then 0
 else if ¬ (csgI h = q.stg ∧ (csgI h = 0 ∨ csgI h = 1)) then 11
 else if ¬ (tB h = false ∨ (csgI h < nsgI h ∧ nsgI h ≠ 2)) then 11
 else if ¬ (hv h nISID = q.isd ∧ hv h nCID = q.cid) then 0
 else if ¬ (first = false ∨ csgI h = 0 ∨ grdQ c = false) then 1
 else -1
def admQ (c : Cf) (h : Hd) (q : Lq) : Int × Lq := (admE c h (!q.bgn) (begQ h q), begQ h q)
def meetQ (c : Cf) (l : List Pr) (q : Lq) : Int × Lq :=
 if (prFind l kIni).getD [] = [] then (7, q)
 else if (prFind l kSes).getD [] = vDis then (-1, { q with wS := some vDis })
 else if ¬ ((prFind l kSes).isSome = false ∨ (prFind l kSes).getD [] = vNor) then (9, q)
 else if (prFind l nmK).getD [] = [] then (7, q)
 else if hasT c.ts ((prFind l nmK).getD []) = false then (3, q)
 else (-1, { q with wT := some ((prFind l nmK).getD []) })
def chsQ (c : Cf) (o : Option (List UInt8)) (q : Lq) : Option (List Pr) × Lq := match o with
 | none => (some [], q)
 | some v => if ¬ (holdsL v (wantL (grdQ c)) = true ∧ q.mth = []) then (none, q) else (some [⟨kAM, wantL (grdQ c)⟩], { q with mth := wantL (grdQ c) })
def chlQ (d : Dw) (o : Option (List UInt8)) (q : Lq) : Option (List Pr) × Lq := match o with
 | none => (some [], q)
 | some v => if ¬ (holdsL v [53] = true ∧ q.mth = vCH ∧ q.chd = false) then (none, q) else (some [⟨kCA, [53]⟩, ⟨kCI, Lib.itoa d.id⟩, ⟨kCC, hexL d.ch⟩], { q with chd := true })
def chkQ (c : Cf) (d : Dw) (n r i cc : Option (List UInt8)) (q : Lq) : Option (List Pr) × Lq :=
 if n.isSome = false ∧ r.isSome = false ∧ i.isSome = false ∧ cc.isSome = false then (some [], q)
 else if ¬ (n.isSome = true ∧ r.isSome = true ∧ i.isSome = cc.isSome) then (none, q)
 else if ¬ (q.chd = true ∧ knwQ c q = false) then (none, q)
 else if chkL c.us (n.getD []) (r.getD []) d.id d.ch ≠ 0 then (none, q)
 else if i.isSome = false then (some [], { q with wN := some (n.getD []) })
 else (secM c d (i.getD []) (cc.getD []), { q with wN := some (n.getD []) })
def goQ (c : Cf) (h : Hd) (q : Lq) : Int × Lq :=
 if tB h = false ∨ knwQ c q = false then (0, q) else (128 + nsgI h, { q with stg := nsgI h, don := decide (nsgI h = 3) })
def tellQ (c : Cf) (d : Dw) (h : Hd) (l : List Pr) (q : Lq) : (Int × List Pr × Int) × Lq :=
 if secBad (decide (q.stg ≠ 0)) [] l = true then ((0, [], 0), q)
 else match chsQ c (prFind l kAM) q with
  | (none, q1) => ((1, [], 0), q1)
  | (some a, q1) => match chlQ d (prFind l kCA) q1 with
   | (none, q2) => ((1, [], 0), q2)
   | (some b, q2) => match chkQ c d (prFind l kCN) (prFind l kCR) (prFind l kCI) (prFind l kCC) q2 with
    | (none, q3) => ((1, [], 0), q3)
    | (some x, q3) => match ansN q3.mine q3.recd (restL l) true (dscQ q3) with
     | ((y, n, _), r) => if n ≠ 0 then ((0, [], 0), { q3 with recd := r })
      else ((-1, a ++ b ++ x ++ y, (goQ c h { q3 with recd := r }).1), (goQ c h { q3 with recd := r }).2)
def metQ (c : Cf) (l : List Pr) (q : Lq) : Int × Lq := if q.met = true then (-1, q) else meetQ c l { q with met := true }
def hearQ (c : Cf) (d : Dw) (p : Pd) (q : Lq) : (Int × List Pr × Int) × Lq :=
 if (admQ c p.h q).1 ≠ -1 then (((admQ c p.h q).1, [], 0), (admQ c p.h q).2)
 else match addG ⟨8192, (admQ c p.h q).2.came⟩ p.d (cB p.h) with
  | ((l, n, _), G) =>
   if n ≠ 0 then ((0, [], 0), { (admQ c p.h q).2 with came := G.came })
   else if cB p.h = true then ((-1, [], 0), { (admQ c p.h q).2 with came := G.came })
   else if (metQ c l { (admQ c p.h q).2 with came := G.came }).1 ≠ -1 then (((metQ c l { (admQ c p.h q).2 with came := G.came }).1, [], 0), (metQ c l { (admQ c p.h q).2 with came := G.came }).2)
   else tellQ c d p.h l (metQ c l { (admQ c p.h q).2 with came := G.came }).2
def judgeQ (c : Cf) (d : Dw) (p : Pd) (q : Lq) : (List Pr × Int × Int × Int) × Lq :=
 match hearQ c d p q with
 | ((e, l, f), q1) => if e ≠ -1 then (([], 0, 2, e), { q1 with fld := true }) else ((l, f, 0, 0), q1)
def writeQ (p : Pd) (a : List Pr × Int × Int × Int) (q : Lq) : Pd × Lq :=
 (⟨ansH p.h (4 * csgI p.h + a.2.1) (if q.don = true then 1 else 0) q.sta q.cmd a.2.2.1 a.2.2.2, [], (prPrint a.1).1⟩, { q with sta := (q.sta + 1) % 4294967296 })
def takeQ (c : Cf) (d : Dw) (q : Lq) (p : Pd) : (Pd × Int) × Lq :=
 if q.don = true ∨ q.fld = true then ((pd0, 6), q)
 else if p.h.op ≠ 3 then ((pd0, 1), q)
 else if rightP p ≠ 0 then ((pd0, rightP p), q)
 else
  let q1 : Lq := { q with cmd := u32 (hv p.h nCmd) }
  (((writeQ p (judgeQ c d p q1).1 (judgeQ c d p q1).2).1, 0), (writeQ p (judgeQ c d p q1).1 (judgeQ c d p q1).2).2)
end Go.Proofs.YtjbbbpgcegcbaaaGreatDoor
namespace Go.Proofs.YtjbbbpgcegcbaaaGreatDoor
open Go.RowKit
def Blk (W : World) (b : Nat) (C : Array Value) (t : TypeId) : Prop := W.heap[b]? = some (.cells C t (0, 0))
theorem Blk.new (w : World) (C : Array Value) (t : TypeId) : Blk (w.alloc (.cells C t)) w.heap.size C t := World.alloc_heap_new w _
theorem Blk.lt {W : World} {b : Nat} {C : Array Value} {t : TypeId} (h : Blk W b C t) : b < W.heap.size := (Array.getElem?_eq_some_iff.1 h).1
theorem Blk.cell {W : World} {b : Nat} {C : Array Value} {t : TypeId} (h : Blk W b C t) (i : Nat) : W.cell? ⟨b, i, none⟩ = C[i]? := by
 have h' : W.heap[b]? = some (.cells C t (0, 0)) := h
 unfold World.cell?
 simp [h']
theorem Blk.frozen {W : World} {b : Nat} {C : Array Value} {t : TypeId} (h : Blk W b C t) (i : Nat) : W.frozen? ⟨b, i, none⟩ = false := by
 have h' : W.heap[b]? = some (.cells C t (0, 0)) := h
 unfold World.frozen?
 simp [h']
theorem Blk.later {W W' : World} {b : Nat} {C : Array Value} {t : TypeId} (h : Blk W b C t) (hb : Below W.heap.size W W') : Blk W' b C t := (hb.block b h.lt).trans h
theorem Blk.below {B : Nat} {W W' : World} {b : Nat} {C : Array Value} {t : TypeId} (h : Blk W b C t) (hb : Below B W W') (hlt : b < B) : Blk W' b C t := (hb.block b hlt).trans h
theorem Blk.alloc {W : World} {b : Nat} {C : Array Value} {t : TypeId} (h : Blk W b C t) (o : Obj) : Blk (W.alloc o) b C t := h.later ((Below.refl _ _).alloc (Nat.le_refl _) _)
theorem Blk.drewN {W : World} {b : Nat} {C : Array Value} {t : TypeId} (h : Blk W b C t) (n : Nat) : Blk (W.drewN n) b C t := h
theorem setCell_heap_same {w : World} {b i : Nat} {C : Array Value} {t : TypeId} {fr : Nat × Nat} (h : w.heap[b]? = some (.cells C t fr)) (v : Value) : (w.setCell ⟨b, i, none⟩ v).heap[b]? = some (.cells (C.setIfInBounds i v) t fr) := by
 have hlt : b < w.heap.size := (Array.getElem?_eq_some_iff.1 h).1
 have hv : w.heap[b] = .cells C t fr := (Array.getElem?_eq_some_iff.1 h).2
 unfold World.setCell
 show (w.heap.modify b _)[b]? = _
 rw [Array.getElem?_eq_getElem (by simpa using hlt), Array.getElem_modify]
 simp [hv]
theorem setCell_heap_other {w : World} {b i k : Nat} (hne : k ≠ b) (v : Value) : (w.setCell ⟨b, i, none⟩ v).heap[k]? = w.heap[k]? := by
 unfold World.setCell
 show (w.heap.modify b _)[k]? = _
 simp [Array.getElem?_modify, Ne.symm hne]
theorem Blk.set {W : World} {b : Nat} {C : Array Value} {t : TypeId} (h : Blk W b C t) (i : Nat) (v : Value) : Blk (W.setCell ⟨b, i, none⟩ v) b (C.setIfInBounds i v) t := setCell_heap_same h v
theorem Blk.other {W : World} {b b' i : Nat} {C : Array Value} {t : TypeId} (h : Blk W b C t) (hne : b ≠ b') (v : Value) : Blk (W.setCell ⟨b', i, none⟩ v) b C t := (setCell_heap_other hne v).trans h
theorem Blk.put {W : World} {b D : Nat} {C : Array Value} {t : TypeId} (h : Blk W b C t) (o : Obj) (hne : b ≠ D) : Blk (W.putObj D o) b C t := (World.putObj_heap_other (fun e => hne e)).trans h
theorem Blk.own {β : Type} (b : Nat) (f : β → Array Value) (t : TypeId) : Own (fun s W => Blk W b (f s) t) := fun s X Y row hs hg hrow => by
 have hs' : X.heap[b]? = some (.cells (f s) t (0, 0)) := hs
 refine (hg.block b (Array.getElem?_eq_some_iff.1 hs').1 (fun e => ?_)).trans hs'
 obtain ⟨o, ho, hc⟩ := hrow b e.symm
 rw [hs'] at ho
 cases ho
 cases hc
theorem own_const {β : Type} (p : β → Prop) : Own (fun s (_ : World) => p s) := fun _ _ _ _ h _ _ => h
theorem Blk.one {W : World} {b : Nat} {x : Value} {t : TypeId} (h : Blk W b #[x] t) : W.cell? ⟨b, 0, none⟩ = some x := h.cell 0
theorem Blk.two {W : World} {b : Nat} {x y : Value} {t : TypeId} (h : Blk W b #[x, y] t) : W.cell? ⟨b, 0, none⟩ = some x ∧ W.cell? ⟨b, 1, none⟩ = some y := ⟨h.cell 0, h.cell 1⟩
theorem Blk.four {W : World} {b : Nat} {x y z u : Value} {t : TypeId} (h : Blk W b #[x, y, z, u] t) : W.cell? ⟨b, 0, none⟩ = some x ∧ W.cell? ⟨b, 1, none⟩ = some y ∧ W.cell? ⟨b, 2, none⟩ = some z ∧ W.cell? ⟨b, 3, none⟩ = some u := ⟨h.cell 0, h.cell 1, h.cell 2, h.cell 3⟩
theorem Blk.seven {W : World} {b : Nat} {x0 x1 x2 x3 x4 x5 x6 : Value} {t : TypeId} (h : Blk W b #[x0, x1, x2, x3, x4, x5, x6] t) : W.cell? ⟨b, 0, none⟩ = some x0 ∧ W.cell? ⟨b, 1, none⟩ = some x1 ∧ W.cell? ⟨b, 2, none⟩ = some x2 ∧ W.cell? ⟨b, 3, none⟩ = some x3 ∧ W.cell? ⟨b, 4, none⟩ = some x4 ∧ W.cell? ⟨b, 5, none⟩ = some x5 ∧ W.cell? ⟨b, 6, none⟩ = some x6 :=
 ⟨h.cell 0, h.cell 1, h.cell 2, h.cell 3, h.cell 4, h.cell 5, h.cell 6⟩
end Go.Proofs.YtjbbbpgcegcbaaaGreatDoor
