/- gather.Split. -/
import Derived.Test.YtildnpnpakhnjaaDoorPairMath2
import Derived.Test.YtildnpnpakhnjaaDoorStrV
import Derived.Test.YtildnpnpakhnjaaDoorErrIs
namespace Go.Proofs.YtildnpnpakhnjaaDoor
open Go.RowKit
def RetSplit (w : World) (l : List (List UInt8)) (e : Ending) (w' : World) : Prop := ∃ v, e = .returned (.tuple #[v, .nilIface]) ∧ StBuf w.heap.size w' v l ∧ Below w.heap.size w w'
set_option maxRecDepth 100000 in
set_option maxHeartbeats 1000000 in
theorem gsplit_any (s : List UInt8) (n : Nat) (w : World) (hl : s.length ≤ 100000) (h1 : 1 ≤ n) (h2 : n ≤ 20000) :
    Calls Tryd.prog 35 #[.string (S s), .int .i64 (n : Int)] w (RetSplit w (chunks n s)) := by
  obtain ⟨i0, hi, hz0, hz1, hz2⟩ := infoSt
  have d1 : decide ((n : Int) < 1) = false := decide_eq_false (by omega)
  have d2 : decide (20000 < (n : Int)) = false := decide_eq_false (by omega)
  have i1 : (1 : Int) ≤ (n : Int) := by omega
  have i2 : (n : Int) ≤ 20000 := by omega
  go_enter Tryd.func35, Tryd.ntmps35
  go_wp2_with fail
  go_loopg [0, 6] s.length (fun g t x wr => ∃ (r : List UInt8) (acc : List (List UInt8)), t = .string (S r) ∧ r.length ≤ g ∧ acc.length + r.length ≤ s.length ∧ acc ++ chunkF g n r = chunks n s ∧ StBuf w.heap.size wr x acc ∧ Below w.heap.size w wr)
  case atStart => exact ⟨s, [], rfl, Nat.le_refl _, by simp, rfl, StBuf.nil _ _, Below.refl _ _⟩
  case round =>
    obtain ⟨r, acc, rfl, hg, hrs, hr, hbuf, hb⟩ := hrel
    have Hb := Lib.hid hb
    have Hbuf := Lib.hid hbuf
    have Hge := Lib.hid hbuf.ge
    have hsz := hb.size
    obtain ⟨pv, cv, rfl⟩ := hbuf.form
    by_cases h0 : n < r.length
    · have i3 : (n : Int) < (r.length : Int) := by omega
      obtain ⟨g1, rfl⟩ : ∃ g1, gk = g1 + 1 := ⟨gk - 1, by omega⟩
      rw [chunkF_succ, if_neg (by omega), List.append_cons] at hr
      have htk : List.take (r.length - n) (List.drop n r) = List.drop n r := List.take_of_length_le (by simp)
      obtain ⟨HA1, HA2, HA3, HA4, HA5⟩ := appS_sides (r.take n) wr wr.heap.size acc.length w.heap.size rfl (by omega) (by omega)
      have HBa := Lib.hid (hbuf.alloc (.cells #[.string (S (r.take n))] 9))
      have Hr := Lib.hid hr
      have Hg := Lib.hid hg
      have Hrs := Lib.hid hrs
      clear hb hbuf hr hg hrs
      go_wp2_with (at_builtin; refine wpList_append_own _ rfl _ _ 53 rfl w.heap.size 9 i0 (.string (S [])) 1 16 Tryd.underlying53 hi hz0 hz1 hz2 rfl (by decide) (.slice pv acc.length cv) acc.length (strVs acc) rfl HBa.out ⟨wr.heap.size, 0, none⟩ 1 1 [.string (S (r.take n))] rfl rfl HA1.out HA2.out HA3.out HA4.out HA5.out ?_)
      intro v' wa hown hgrow hnil
      have hown' : StBuf w.heap.size wa v' (acc ++ [r.take n]) := by
        unfold StBuf
        rw [strVs_app, List.length_append]
        exact hown
      have Hlow3 := Lib.hid ((Hb.out.alloc Hb.out.size (.cells #[.string (S (r.take n))] 9)).grown hgrow (by simp; omega) Hge.out)
      have Hown := Lib.hid hown'
      clear hown hown' hgrow hnil
      go_wp2_with fail
      go_roundg g1
      case measure => omega
      case rel => exact ⟨r.drop n, acc ++ [r.take n], rfl, by have := Hg.out; simp; omega, by have := Hrs.out; simp; omega, Hr.out, Hown.out, Hlow3.out⟩
    · have i3 : (r.length : Int) ≤ (n : Int) := by omega
      rw [chunkF_few _ _ (by omega)] at hr
      obtain ⟨HA1, HA2, HA3, HA4, HA5⟩ := appS_sides r wr wr.heap.size acc.length w.heap.size rfl (by omega) (by omega)
      have HBa := Lib.hid (hbuf.alloc (.cells #[.string (S r)] 9))
      have Hr := Lib.hid hr
      clear hb hbuf hr hg hrs
      go_wp2_with (at_builtin; refine wpList_append_own _ rfl _ _ 53 rfl w.heap.size 9 i0 (.string (S [])) 1 16 Tryd.underlying53 hi hz0 hz1 hz2 rfl (by decide) (.slice pv acc.length cv) acc.length (strVs acc) rfl HBa.out ⟨wr.heap.size, 0, none⟩ 1 1 [.string (S r)] rfl rfl HA1.out HA2.out HA3.out HA4.out HA5.out ?_)
      intro v' wa hown hgrow hnil
      have hown' : StBuf w.heap.size wa v' (acc ++ [r]) := by
        unfold StBuf
        rw [strVs_app, List.length_append]
        exact hown
      have Hlow3 := Lib.hid ((Hb.out.alloc Hb.out.size (.cells #[.string (S r)] 9)).grown hgrow (by simp; omega) Hge.out)
      have Hown := Lib.hid hown'
      clear hown hown' hgrow hnil
      go_wp2_with fail
      go_ret2
      rw [← Hr.out]
      exact ⟨_, rfl, Hown.out, Hlow3.out⟩
theorem gsplit_bad (s : List UInt8) (n : Int) (w : World) (hn : n < 1 ∨ 20000 < n) :
    Calls Tryd.prog 35 #[.string (S s), .int .i64 n] w fun e w' => e = .returned (.tuple #[.slice none 0 0, .iface 24 (.int .i64 2)]) ∧ w = w' := by
  by_cases h1 : n < 1
  · clear hn
    go_enter Tryd.func35, Tryd.ntmps35
    go_wp2_with fail
    go_ret2
    exact ⟨rfl, rfl⟩
  · have h2 : 20000 < n := by omega
    clear hn
    go_enter Tryd.func35, Tryd.ntmps35
    go_wp2_with fail
    go_ret2
    exact ⟨rfl, rfl⟩
end Go.Proofs.YtildnpnpakhnjaaDoor
