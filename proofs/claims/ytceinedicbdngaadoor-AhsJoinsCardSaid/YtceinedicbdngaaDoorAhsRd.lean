/- ahs.Read. -/
import Derived.Test.YtceinedicbdngaaDoorAhsR
namespace Go.Proofs.YtceinedicbdngaaDoor
open Go.RowKit
/-- headers and an error are returned -/
def RetLE (w : World) (r : List Ah × Int × Int) (e : Ending) (w' : World) : Prop := ∃ v ev, e = .returned (.tuple #[v, ev]) ∧ AhsV w' v r.1 ∧ ErrIs w' ev r.2.1 r.2.2 ∧ Below w.heap.size w w'
theorem appA_sides (k : Int) (d : List UInt8) (wu : World) (N n base : Nat) (hN : wu.heap.size = N) (hn : n ≤ 5000) (hb : base ≤ N) :
    Hid (∀ j u, ([.int .i64 k, .string (S d)] : List Value)[j]? = some u → (wu.alloc (.cells #[.int .i64 k, .string (S d)] 41)).cell? ((⟨N, 0, none⟩ : Addr).add j) = some u) ∧ Hid (∀ u ∈ ([.int .i64 k, .string (S d)] : List Value), u.oneCell' = true) ∧ Hid (n + 1 ≤ maxLen) ∧ Hid ((n + 1) * 24 ≤ 140737488355328) ∧ Hid (base ≤ (wu.alloc (.cells #[.int .i64 k, .string (S d)] 41)).heap.size) := by
  subst hN
  refine ⟨Lib.hid ?_, Lib.hid ?_, Lib.hid (by unfold maxLen; omega), Lib.hid (by omega), Lib.hid (by simp; omega)⟩
  · intro j u h
    have hb := (Blk.new wu #[.int .i64 k, .string (S d)] 41).cell j
    have e1 : (⟨wu.heap.size, 0, none⟩ : Addr).add j = ⟨wu.heap.size, j, none⟩ := by simp only [Addr.add]; split <;> simp_all
    rw [e1, hb]
    simpa using h
  · exact ahsVs_one [⟨k, d⟩]
set_option maxRecDepth 100000 in
theorem read_ahs (s : List UInt8) (w : World) (hg : ErrCell w) (hl : s.length ≤ 140737488355328) :
    Calls Tryd.prog 16 #[.string (S s)] w (RetLE w (readA s)) := by
  by_cases h1 : 1020 < s.length
  · have E := Lib.hid (show readA s = ([], 4, -1) by unfold readA; rw [if_pos h1])
    clear hg
    go_enter Tryd.func16, Tryd.ntmps16
    go_wp2_with fail
    go_ret2
    rw [E.out]
    exact ⟨_, _, rfl, AhsV.nil _, .bare 4 (by decide), Below.refl _ _⟩
  · have E := Lib.hid (show readA s = readF s.length 0 s [] by unfold readA; rw [if_neg h1])
    have Hg := Lib.hid hg
    obtain ⟨i0, hi, hz0, hz1, hz2⟩ := infoAh
    clear hg hl
    go_enter Tryd.func16, Tryd.ntmps16
    go_wp2_with fail
    go_loopw [4, 5] (fun x i wr => ∃ (p f : Nat) (acc : List Ah), p ≤ s.length ∧ s.length ≤ f + p ∧ acc.length ≤ p ∧ i = .int .i64 p ∧ readF f p (s.drop p) acc = readA s ∧ ABuf w.heap.size wr x acc ∧ Below w.heap.size w wr) (fun _ i _ => s.length - (intOf i).toNat)
    case atStart => exact ⟨0, s.length, [], by omega, by omega, by simp, rfl, E.out.symm, ABuf.nil _ _, Below.refl _ _⟩
    case round =>
      obtain ⟨p, f, acc, hp, hf, hap, rfl, hr, hbuf, hb⟩ := hrel
      have Hb := Lib.hid hb
      have Hbuf := Lib.hid hbuf
      obtain ⟨pv, cv, rfl⟩ := hbuf.form
      by_cases hlt : p < s.length
      · obtain ⟨f1, rfl⟩ : ∃ f1, f = f1 + 1 := ⟨f - 1, by omega⟩
        have hne : s.drop p ≠ [] := fun e => by have := congrArg List.length e; simp at this; omega
        rw [readF_succ, if_neg hne] at hr
        have htk : List.take (s.length - p) (s.drop p) = s.drop p := List.take_of_length_le (by simp)
        have hdl : (s.drop p).length = s.length - p := by simp
        have FA := fun w => Lib.hid (first_any (s.drop p) w (by omega))
        have FW := firstA_wr (s := s.drop p)
        obtain ⟨⟨n, ⟨k, d⟩⟩, hfa⟩ : ∃ r, firstA (s.drop p) = r := ⟨_, rfl⟩
        rw [hfa] at hr FW
        simp only [hfa] at FA
        have Hr := Lib.hid hr
        have HFW := Lib.hid FW
        have Hdl := Lib.hid hdl
        clear hb hbuf hfa FW hne hr hdl
        go_wp2_with fail
        refine (FA _).out.mono ?_
        rintro e w1 ⟨ev, rfl, he, hb1⟩
        have hlow1 := (below_then Hb.out hb1).alloc (Nat.le_trans Hb.out.size hb1.size) (.cells #[.int .i64 k, .string (S d)] 41)
        have HB1 := Lib.hid ((Hbuf.out.later hb1).alloc (.cells #[.int .i64 k, .string (S d)] 41))
        have Hlow1 := Lib.hid hlow1
        have HBlk := Lib.hid (Blk.new w1 #[.int .i64 k, .string (S d)] 41)
        have hba := (Below.refl w1.heap.size w1).alloc (Nat.le_refl _) (.cells #[.int .i64 k, .string (S d)] 41)
        have he1 := he.later hba
        have Hne := Lib.hid (Hbuf.out.ne hb1.size)
        have Hge := Lib.hid Hbuf.out.ge
        have hsz1 : w.heap.size ≤ w1.heap.size := Nat.le_trans Hb.out.size hb1.size
        clear hb1 hlow1 hba
        by_cases hn : n = 0
        · subst hn
          obtain rfl := he.zero
          obtain ⟨hkk, hsa, _⟩ := HFW.out rfl
          rw [Hdl.out] at hsa
          have hsa' : 3 + d.length + pad (3 + d.length) ≤ s.length - p := hsa
          have hd47 : d.length ≤ 140737488355328 := by omega
          have ZZ := fun W => Lib.hid (size_any ⟨k, d⟩ W hd47)
          have hpos := sizeA_pos ⟨k, d⟩
          obtain ⟨z, hz⟩ : ∃ z, sizeA ⟨k, d⟩ = z := ⟨_, rfl⟩
          rw [hz] at hsa hpos Hr
          simp only [hz] at ZZ
          rw [if_pos rfl] at Hr
          simp only [List.drop_drop] at Hr
          obtain ⟨HA1, HA2, HA3, HA4, HA5⟩ := appA_sides k d (w1.alloc (.cells #[.int .i64 k, .string (S d)] 41)) (w1.heap.size + 1) acc.length w.heap.size (by simp) (by omega) (by omega)
          have HBa := Lib.hid (HB1.out.alloc (.cells #[.int .i64 k, .string (S d)] 41))
          clear he he1 hz HFW hkk hd47 hsa'
          go_wp2_with (at_builtin; refine wpList_append_own _ rfl _ _ 22 rfl w.heap.size 41 i0 (.agg #[.int .i64 0, .string (S [])]) 2 24 Tryd.underlying22 hi hz0 hz1 hz2 rfl (by decide) (.slice pv acc.length cv) acc.length (ahsVs acc) rfl HBa.out ⟨w1.heap.size + 1, 0, none⟩ 1 1 [.int .i64 k, .string (S d)] rfl rfl HA1.out HA2.out HA3.out HA4.out HA5.out ?_)
          intro v' wa hown hgrow hnil
          have hown' : ABuf w.heap.size wa v' (acc ++ [⟨k, d⟩]) := by
            unfold ABuf
            rw [ahsVs_app, List.length_append]
            exact hown
          have HBlk2 := (HBlk.out.alloc (.cells #[.int .i64 k, .string (S d)] 41)).grownA hgrow (Hne.out)
          obtain ⟨q0, q1⟩ := HBlk2.two
          have Hlow2 := Lib.hid ((Hlow1.out.alloc Hlow1.out.size (.cells #[.int .i64 k, .string (S d)] 41)).grown hgrow (by simp; omega) Hge.out)
          have Hown := Lib.hid hown'
          clear hown hown' hgrow hnil HBlk2
          go_wp2_with fail
          refine (ZZ _).out.mono ?_
          rintro e w3 ⟨rfl, hb3⟩
          have Hown3 := Lib.hid (Hown.out.later hb3)
          have Hlow3 := Lib.hid (below_then Hlow2.out hb3)
          clear hb3 q0 q1
          go_wp2_with fail
          go_roundw
          case rel => exact ⟨p + z, f1, acc ++ [⟨k, d⟩], by omega, by omega, by simp; omega, by go_num, Hr.out, Hown3.out, Hlow3.out⟩
          case measure => simp [intOf]; omega
        · obtain ⟨t, x, rfl⟩ := he.iface hn
          rw [if_neg hn] at Hr
          have T := Lib.hid (tell_is he1 (Hg.out.later Hlow1.out))
          have Hn := Lib.hid hn
          clear he he1 hn HFW
          go_wp2_with fail
          refine T.out.mono ?_
          rintro e w3 ⟨rfl, hb3⟩
          have Hlow3 := Lib.hid (below_then Hlow1.out hb3)
          clear hb3
          go_wp2_with fail
          go_ret2
          rw [← Hr.out]
          exact ⟨_, _, rfl, AhsV.nil _, .placed _ n p Hn.out (by simp) (by simp), Hlow3.out.alloc Hlow3.out.size _⟩
      · obtain rfl : p = s.length := by omega
        rw [List.drop_length, readF_nil] at hr
        have Hr := Lib.hid hr
        clear hb hbuf hr
        go_wp2_with fail
        go_ret2
        rw [← Hr.out]
        exact ⟨_, _, rfl, Hbuf.out.ahs, .good, Hb.out⟩
end Go.Proofs.YtceinedicbdngaaDoor
