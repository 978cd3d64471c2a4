/- strconv.ParseUint, keys.number, keys.Numeral. -/
import Derived.Test.YtikcgnalcchlpaaGreatDoorKeyEnv
import Derived.Test.YtikcgnalcchlpaaGreatDoorParseU10
import Derived.Test.YtikcgnalcchlpaaGreatDoorParseU16
import Derived.Test.YtikcgnalcchlpaaGreatDoorErrV
import Derived.Test.YtikcgnalcchlpaaGreatDoorKeyMath2
import Derived.BigRegion
namespace Go.Proofs.YtikcgnalcchlpaaGreatDoor
open Go.RowKit
/-- a number, or an error, is returned -/
def RetPP (w : World) (r : Option Nat) (e : Ending) (w' : World) : Prop :=
  ((∃ n : Nat, r = some n ∧ e = .returned (.tuple #[.int .u64 (n : Int), .nilIface])) ∨ (r = none ∧ ∃ (v : Int) (t : TypeId) (x : Value), e = .returned (.tuple #[.int .u64 v, .iface t x]))) ∧ Below w.heap.size w w'
set_option maxRecDepth 100000 in
theorem parseP_any (b : Int) (l : List UInt8) (r : Option Nat) (w : World) (hl : l.length ≤ 1000000) (hE : Env w)
    (C : Calls Tryz.prog 50 #[.string (S l), .int .i64 b, .int .i64 40] w (RetPU w r)) :
    Calls Tryz.prog 33 #[.string (S l), .int .i64 b, .int .i64 40] w (RetPP w r) := by
  have HE := Lib.hid hE
  have C := Lib.hid C
  clear hE
  go_enter Tryz.func33, Tryz.ntmps33
  go_wp2_with fail
  refine C.out.mono ?_
  rintro e w1 ⟨hr, hb1⟩
  have Hb1 := Lib.hid hb1
  have HE1 := Lib.hid (HE.out.later hb1)
  rcases hr with ⟨n, rfl, rfl⟩ | ⟨rfl, v, rfl | rfl⟩
  · clear hb1
    go_wp2_with fail
    go_ret2
    exact ⟨.inl ⟨n, rfl, rfl⟩, Hb1.out⟩
  · obtain ⟨ev, hc, hev⟩ := HE1.out.rg
    have T := Lib.hid (Tryz.strconv_toError_range (S [80, 97, 114, 115, 101, 85, 105, 110, 116]) (S l) b 40 ev w1 (by rw [S_size]; omega) hc hev)
    clear hb1 hc hev
    go_wp2_with fail
    refine T.out.mono ?_
    rintro e w2 ⟨N, rfl, _, _, hb2⟩
    have Hb2 := Lib.hid (below_then Hb1.out hb2)
    clear hb2
    go_wp2_with fail
    go_ret2
    exact ⟨.inr ⟨rfl, _, _, _, rfl⟩, Hb2.out⟩
  · obtain ⟨ev, hc, hev⟩ := HE1.out.sy
    have T := Lib.hid (Tryz.strconv_toError_syntax (S [80, 97, 114, 115, 101, 85, 105, 110, 116]) (S l) b 40 ev w1 (by rw [S_size]; omega) hc hev)
    clear hb1 hc hev
    go_wp2_with fail
    refine T.out.mono ?_
    rintro e w2 ⟨N, rfl, _, _, hb2⟩
    have Hb2 := Lib.hid (below_then Hb1.out hb2)
    clear hb2
    go_wp2_with fail
    go_ret2
    exact ⟨.inr ⟨rfl, _, _, _, rfl⟩, Hb2.out⟩
theorem cutx_yes (r : List UInt8) (w : World) : Calls Tryz.prog 32 #[.string (S (48 :: 120 :: r)), .string (S [48, 120])] w fun e w' => e = .returned (.tuple #[.string (S r), .bool true]) ∧ w = w' := by
  refine (Tryz.strings_CutPrefix (S (48 :: 120 :: r)) (S [48, 120]) w).mono ?_
  rintro e w' ⟨rfl, rfl⟩
  refine ⟨?_, rfl⟩
  have e1 : (S (48 :: 120 :: r)).data.toList = 48 :: 120 :: r := by simp [S]
  have e2 : (S [48, 120]).data.toList = [48, 120] := by simp [S]
  have h1 : Lib.hasPrefix (48 :: 120 :: r) [48, 120] = true := by simp [Lib.hasPrefix, List.isPrefixOf]
  have h2 : Lib.trimPrefix (48 :: 120 :: r) [48, 120] = r := by unfold Lib.trimPrefix; rw [if_pos h1]; rfl
  rw [e1, e2, h1, h2]
  rfl
theorem cutx_no (s : List UInt8) (w : World) (h : ¬ s.take 2 = [48, 120]) : Calls Tryz.prog 32 #[.string (S s), .string (S [48, 120])] w fun e w' => e = .returned (.tuple #[.string (S s), .bool false]) ∧ w = w' := by
  refine (Tryz.strings_CutPrefix (S s) (S [48, 120]) w).mono ?_
  rintro e w' ⟨rfl, rfl⟩
  refine ⟨?_, rfl⟩
  have e1 : (S s).data.toList = s := by simp [S]
  have e2 : (S [48, 120]).data.toList = [48, 120] := by simp [S]
  have h1 : Lib.hasPrefix s [48, 120] = false := by
    cases hp : Lib.hasPrefix s [48, 120] with
    | false => rfl
    | true =>
      unfold Lib.hasPrefix at hp
      rw [List.isPrefixOf_iff_prefix] at hp
      obtain ⟨r, rfl⟩ := hp
      exact absurd rfl h
  have h2 : Lib.trimPrefix s [48, 120] = s := by unfold Lib.trimPrefix; rw [if_neg (by rw [h1]; decide)]
  rw [e1, e2, h1, h2]
  rfl
/-- a number and whether it is one -/
def RetNum (w : World) (r : Option Nat) (e : Ending) (w' : World) : Prop :=
  ((∃ n : Nat, r = some n ∧ e = .returned (.tuple #[.int .i64 (n : Int), .bool true])) ∨ (r = none ∧ ∃ v : Int, e = .returned (.tuple #[.int .i64 v, .bool false]))) ∧ Below w.heap.size w w'
set_option maxRecDepth 100000 in
theorem number_any (s : List UInt8) (w : World) (hl : s.length ≤ 1000000) (hE : Env w) :
    Calls Tryz.prog 17 #[.string (S s)] w (RetNum w (numR s)) := by
  by_cases hx : s.take 2 = [48, 120]
  · obtain ⟨r, rfl⟩ := take2_of hx
    have hr : r.length ≤ 1000000 := by simp at hl; omega
    have HN := Lib.hid (show numR (48 :: 120 :: r) = numU 16 r by unfold numR; rw [if_pos hx]; rfl)
    have C := Lib.hid (cutx_yes r w)
    have P := Lib.hid (parseP_any 16 r _ w hr hE (parseU16 r w hr))
    have HR := Lib.hid (fun n (h : numU 16 r = some n) => numU_lt h)
    clear hx hl hE
    go_enter Tryz.func17, Tryz.ntmps17
    go_wp2_with fail
    refine C.out.mono ?_
    rintro e w' ⟨rfl, rfl⟩
    go_wp2_with fail
    refine P.out.mono ?_
    rintro e w1 ⟨hr, hb1⟩
    have Hb1 := Lib.hid hb1
    clear hb1 C P
    rcases hr with ⟨n, hn, rfl⟩ | ⟨hn, v, t, x, rfl⟩
    · have hlt := HR.out n hn
      rw [hn] at HN
      have l1 : (0 : Int) ≤ (n : Int) := by omega
      have l2 : (n : Int) ≤ 9223372036854775807 := by omega
      clear hn HR
      go_wp2_with fail
      go_region
      all_goals
        go_wp2_with fail
        go_ret2
        rw [HN.out]
        exact ⟨.inl ⟨n, rfl, rfl⟩, Hb1.out.drew⟩
    · rw [hn] at HN
      clear hn HR
      go_wp2_with fail
      go_region
      all_goals
        go_wp2_with fail
        go_ret2
        rw [HN.out]
        exact ⟨.inr ⟨rfl, _, rfl⟩, Hb1.out.drew⟩
  · have C := Lib.hid (cutx_no s w hx)
    by_cases hz : 1 < s.length ∧ s.getD 0 0 = 48
    · have HN := Lib.hid (show numR s = none by unfold numR; rw [if_neg hx, if_pos hz])
      obtain ⟨h1, h0⟩ := hz
      have h1' : (1 : Int) < (s.length : Int) := by omega
      have hc : s[0] = 48 := by rw [← h0, List.getD_eq_getElem?_getD, List.getElem?_eq_getElem (by omega)]; rfl
      clear hx h0
      go_enter Tryz.func17, Tryz.ntmps17
      go_wp2_with fail
      refine C.out.mono ?_
      rintro e w' ⟨rfl, rfl⟩
      go_wp2_with fail
      go_ret2
      rw [HN.out]
      exact ⟨.inr ⟨rfl, _, rfl⟩, Below.refl _ _⟩
    · have HN := Lib.hid (show numR s = numU 10 s by unfold numR; rw [if_neg hx, if_neg hz])
      have P := Lib.hid (parseP_any 10 s _ w hl hE (parseU10 s w hl))
      have HR := Lib.hid (fun n (h : numU 10 s = some n) => numU_lt h)
      have fin : ∀ (hg : (s.length : Int) ≤ 1 ∨ (∃ (h0 : 0 < s.length), (1 : Int) < (s.length : Int) ∧ (((s[0]'h0).toNat : Int) == 48) = false)), Calls Tryz.prog 17 #[.string (S s)] w (RetNum w (numR s)) := by
        intro hg
        clear hx hz hE
        rcases hg with hg | ⟨h0, hg, hc⟩
        all_goals
          go_enter Tryz.func17, Tryz.ntmps17
          go_wp2_with fail
          refine C.out.mono ?_
          rintro e w' ⟨rfl, rfl⟩
          go_wp2_with fail
          refine P.out.mono ?_
          rintro e w1 ⟨hr, hb1⟩
          have Hb1 := Lib.hid hb1
          clear hb1
          rcases hr with ⟨n, hn, rfl⟩ | ⟨hn, v, t, x, rfl⟩
          · have hlt := HR.out n hn
            have HN2 := HN.out
            rw [hn] at HN2
            have HN2 := Lib.hid HN2
            have l1 : (0 : Int) ≤ (n : Int) := by omega
            have l2 : (n : Int) ≤ 9223372036854775807 := by omega
            clear hn
            go_wp2_with fail
            go_region
            all_goals
              go_wp2_with fail
              go_ret2
              rw [HN2.out]
              exact ⟨.inl ⟨n, rfl, rfl⟩, Hb1.out.drew⟩
          · have HN2 := HN.out
            rw [hn] at HN2
            have HN2 := Lib.hid HN2
            clear hn
            go_wp2_with fail
            go_region
            all_goals
              go_wp2_with fail
              go_ret2
              rw [HN2.out]
              exact ⟨.inr ⟨rfl, _, rfl⟩, Hb1.out.drew⟩
      by_cases h1 : 1 < s.length
      · refine fin (.inr ⟨by omega, by omega, ?_⟩)
        have h0 : ¬ s.getD 0 0 = 48 := fun e => hz ⟨h1, e⟩
        rw [List.getD_eq_getElem?_getD, List.getElem?_eq_getElem (by omega)] at h0
        simp only [Option.getD_some] at h0
        rw [beq_eq_false_iff_ne]
        intro e
        exact h0 (UInt8.toNat_inj.1 (by show _ = 48; omega))
      · exact fin (.inl (by omega))
/-- the number that a value is between both; an error's number -/
def numE (s : List UInt8) (lo hi : Int) : Int × Int := match numR s with | none => (0, 3) | some n => if (n : Int) < lo ∨ hi < (n : Int) then (0, 2) else ((n : Int), 0)
theorem numE_none {s : List UInt8} {lo hi : Int} (h : numR s = none) : numE s lo hi = (0, 3) := by unfold numE; rw [h]
theorem numE_off {s : List UInt8} {lo hi : Int} {n : Nat} (h : numR s = some n) (h2 : (n : Int) < lo ∨ hi < (n : Int)) : numE s lo hi = (0, 2) := by unfold numE; rw [h]; simp only; rw [if_pos h2]
theorem numE_in {s : List UInt8} {lo hi : Int} {n : Nat} (h : numR s = some n) (h2 : lo ≤ (n : Int)) (h3 : (n : Int) ≤ hi) : numE s lo hi = ((n : Int), 0) := by unfold numE; rw [h]; simp only; rw [if_neg (by omega)]
def RetNI (w : World) (r : Int × Int) (e : Ending) (w' : World) : Prop := e = .returned (.tuple #[.int .i64 r.1, errV r.2]) ∧ Below w.heap.size w w'
set_option maxRecDepth 100000 in
theorem numeral_any (s : List UInt8) (lo hi : Int) (w : World) (hl : s.length ≤ 1000000) (hE : Env w) :
    Calls Tryz.prog 6 #[.string (S s), .int .i64 lo, .int .i64 hi] w (RetNI w (numE s lo hi)) := by
  have N := Lib.hid (number_any s w hl hE)
  clear hE
  go_enter Tryz.func6, Tryz.ntmps6
  go_wp2_with fail
  refine N.out.mono ?_
  rintro e w1 ⟨hr, hb1⟩
  have Hb1 := Lib.hid hb1
  clear hb1 N
  rcases hr with ⟨n, hn, rfl⟩ | ⟨hn, v, rfl⟩
  · by_cases h1 : (n : Int) < lo
    · have R := Lib.hid (numE_off (hi := hi) hn (.inl h1))
      clear hn
      go_wp2_with fail
      go_ret2
      rw [R.out]
      exact ⟨rfl, Hb1.out⟩
    · by_cases h2 : hi < (n : Int)
      · have R := Lib.hid (numE_off (lo := lo) hn (.inr h2))
        have h1' : lo ≤ (n : Int) := by omega
        clear hn h1
        go_wp2_with fail
        go_ret2
        rw [R.out]
        exact ⟨rfl, Hb1.out⟩
      · have h1' : lo ≤ (n : Int) := by omega
        have h2' : (n : Int) ≤ hi := by omega
        have R := Lib.hid (numE_in hn h1' h2')
        clear hn h1 h2
        go_wp2_with fail
        go_ret2
        rw [R.out]
        exact ⟨rfl, Hb1.out⟩
  · have R := Lib.hid (numE_none (lo := lo) (hi := hi) hn)
    clear hn
    go_wp2_with fail
    go_ret2
    rw [R.out]
    exact ⟨rfl, Hb1.out⟩
end Go.Proofs.YtikcgnalcchlpaaGreatDoor
