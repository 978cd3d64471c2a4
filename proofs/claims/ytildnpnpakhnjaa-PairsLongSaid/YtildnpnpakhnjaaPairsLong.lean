/- PairsLong: pairs have two bytes more than their keys and values, each. -/
import Derived.Test.YtildnpnpakhnjaaPaired
import Derived.Test.YtildnpnpakhnjaaThick
import Derived.Test.YtildnpnpakhnjaaOpenPrs
namespace Go.Proofs.Ytildnpnpakhnjaa
open Go.RowKit
set_option maxRecDepth 100000 in
set_option maxHeartbeats 1000000 in
theorem pairsLong_any (l : List Pr) (v : Value) (w : World) (hv : PrsV w v l) (hf : WideP l) (hm : MaxCell w) :
    Calls Try.prog 7 #[v] w fun e w' => e = .returned (.bool true) ∧ Below w.heap.size w w' := by
  obtain ⟨p, c, rfl⟩ := hv.form
  have HV := Lib.hid hv
  have Hf := Lib.hid hf
  have hl32 := hf.2
  have F := Lib.hid (paired_any w hm)
  clear hv hf hm
  go_enter Try.func7, Try.ntmps7
  go_wp2_with fail
  refine F.out.mono ?_
  rintro e w1 ⟨rfl, hb1⟩
  have Hb1 := Lib.hid hb1
  have T := Lib.hid (thickK_any l _ w1 (HV.out.later hb1) Hf.out.1.1)
  clear hb1 F
  go_wp2_with fail
  refine T.out.mono ?_
  rintro e w2 ⟨b, rfl, hb2⟩
  have Hb2 := Lib.hid (below_then Hb1.out hb2)
  clear hb2 T
  cases b with
  | true =>
    go_wp2_with fail
    go_ret
    exact ⟨rfl, Hb2.out⟩
  | false =>
    have P := Lib.hid (print_prs l _ w2 (HV.out.later Hb2.out) Hf.out.1)
    by_cases h0 : (prRight l).1 = 0
    · obtain ⟨hk, hs, hr⟩ := prRight_is h0
      rw [prPrint_ok h0] at P
      have Hk := Lib.hid hk
      have hsm := prBytes_small hk
      clear h0 hk hr
      go_wp2_with fail
      refine P.out.mono ?_
      rintro e w3 ⟨ev, rfl, he, hb3⟩
      obtain rfl := he.zero
      have Hb3 := Lib.hid (below_then Hb2.out hb3)
      clear he hb3 P
      go_wp2_with fail
      go_loopw [5, 23] (fun n i wr => ∃ j : Nat, j ≤ l.length ∧ i = .int .i64 j ∧ n = .int .i64 ((prBytes (l.take j)).length : Nat) ∧ Below w.heap.size w wr) (fun _ i _ => l.length - (intOf i).toNat)
      case atStart => exact ⟨0, by omega, rfl, rfl, Hb3.out⟩
      case round =>
        obtain ⟨j, hj, rfl, rfl, hb⟩ := hrel
        have Hb := Lib.hid hb
        by_cases hlt : j < l.length
        · obtain ⟨b, o, rfl, h1, h2⟩ := (HV.out.later hb).cell hlt
          have hka := thick_okP (Hk.out l[j] (List.getElem_mem hlt))
          have hst := congrArg List.length (prBytes_take hlt)
          rw [List.length_append, wrP_len] at hst
          have hsm2 := prBytes_small (l := l.take j) (fun q hq => Hk.out q (List.mem_of_mem_take hq))
          rw [List.length_take, Nat.min_eq_left hj] at hsm2
          obtain ⟨a, ha⟩ : ∃ a, l[j] = a := ⟨_, rfl⟩
          rw [ha] at h1 h2 hka hst
          obtain ⟨k, d⟩ := a
          simp only at h1 h2 hka hst
          generalize (prBytes (l.take j)).length = n at *
          have Hst := Lib.hid hst
          have Hb1 := Lib.hid (hb.alloc hb.size (.cells #[.string (S k), .string (S d)] 34))
          have i1 : (k.length : Int) ≤ 63 := by omega
          have i2 : (d.length : Int) ≤ 255 := by omega
          have i3 : (n : Int) ≤ 30000 := by omega
          clear hb ha hst
          go_wp2_with fail
          go_roundw
          case rel => exact ⟨j + 1, by omega, by go_num, by rw [Hst.out]; go_num, Hb1.out⟩
          case measure => simp [intOf]; omega
        · obtain rfl : j = l.length := by omega
          rw [List.take_length]
          have hee : (((prBytes l).length : Int) == ((prBytes l).length : Int)) = true := by simp
          clear hb
          go_wp2_with fail
          go_ret
          exact ⟨rfl, Hb.out⟩
    · rw [prPrint_bad h0] at P
      obtain ⟨⟨n, q⟩, hr⟩ : ∃ r, prRight l = r := ⟨_, rfl⟩
      rw [hr] at P h0
      clear hr
      go_wp2_with fail
      refine P.out.mono ?_
      rintro e w3 ⟨ev, rfl, he, hb3⟩
      obtain ⟨t, x, rfl⟩ := he.iface h0
      have Hb3 := Lib.hid (below_then Hb2.out hb3)
      clear he hb3 P
      go_wp2_with fail
      go_ret
      exact ⟨rfl, Hb3.out⟩
end Go.Proofs.Ytildnpnpakhnjaa
