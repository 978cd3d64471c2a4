/- chap.Check. -/
import Derived.Test.YtoponmdfjbhnoaaGreatDoorChapPlain
import Derived.Test.YtoponmdfjbhnoaaGreatDoorChapResp
import Derived.Test.YtoponmdfjbhnoaaGreatDoorGB
import Derived.Test.YtoponmdfjbhnoaaGreatDoorGC
namespace Go.Proofs.YtoponmdfjbhnoaaGreatDoor
open Go.RowKit
set_option linter.unusedVariables false
set_option maxRecDepth 100000 in
theorem check_none (l : List Us) (v : Value) (name value c : List UInt8) (id : Int) (w : World) (hv : UsV w v l) (hl : l.length ≤ 140737488355328) (h : usFind l name = none) :
    Calls Tryz.prog 10 #[v, .string (S name), .string (S value), .agg #[.int .i64 id, .string (S c)]] w fun e w' => e = .returned (errV 8) ∧ Below w.heap.size w w' := by
  have hA := (Below.refl w.heap.size w).alloc (Nat.le_refl _) (.cells #[.int .i64 id, .string (S c)] 24)
  have F := findU_any l name v _ (hv.later hA) hl
  rw [h] at F
  have F := Lib.hid F
  have HA := Lib.hid hA
  obtain ⟨p, cc, rfl, _⟩ := hv
  clear hA h
  show Calls _ _ _ _ fun e w' => e = .returned (.iface 27 (.int .i64 8)) ∧ _
  go_enter Tryz.func10, Tryz.ntmps10
  go_wp2_with fail
  refine F.out.mono ?_
  rintro e w1 ⟨he, hb1⟩
  obtain rfl := he
  have Hb1 := Lib.hid (below_then HA.out hb1)
  clear hb1
  simp only [usR]
  go_wp2_with fail
  go_ret
  exact ⟨rfl, Hb1.out.alloc Hb1.out.size _⟩
set_option maxRecDepth 100000 in
theorem check_some (l : List Us) (v : Value) (name value c : List UInt8) (id : Int) (u : Us) (w : World) (hv : UsV w v l) (hl : l.length ≤ 140737488355328) (hvl : value.length ≤ 4294967270) (ht : MdTabs w) (hg : ErrCell w) (h : usFind l name = some u) :
    Calls Tryz.prog 10 #[v, .string (S name), .string (S value), .agg #[.int .i64 id, .string (S c)]] w fun e w' => e = .returned (errV (chkR ((readV value).1, (readV value).2.1) (respL id u.sc c))) ∧ Below w.heap.size w w' := by
  have hA := (Below.refl w.heap.size w).alloc (Nat.le_refl _) (.cells #[.int .i64 id, .string (S c)] 24)
  have HK := Lib.hid (Blk.new w #[.int .i64 id, .string (S c)] 24)
  have F := findU_any l name v _ (hv.later hA) hl
  rw [h] at F
  have F := Lib.hid F
  have HA := Lib.hid hA
  obtain ⟨p, cc, rfl, _⟩ := hv
  obtain ⟨t, n, pl, hrv⟩ : ∃ t n pl, readV value = (t, n, pl) := ⟨_, _, _, rfl⟩
  have C := fun W => read_any value W hvl
  rw [hrv] at C
  have C := Lib.hid C
  rw [hrv]
  obtain ⟨nm, sc⟩ := u
  have Ht := Lib.hid ht
  have Hg := Lib.hid hg
  clear hA h hrv ht hg
  have fin : ∃ R, errV (chkR (t, n) (respL id sc c)) = R := ⟨_, rfl⟩
  obtain ⟨R, hR⟩ := fin
  show Calls _ _ _ _ fun e w' => e = .returned (errV (chkR (t, n) (respL id sc c))) ∧ _
  rw [hR]
  have HR := Lib.hid hR
  clear hR
  go_enter Tryz.func10, Tryz.ntmps10
  go_wp2_with fail
  refine F.out.mono ?_
  rintro e w1 ⟨he, hb1⟩
  obtain rfl := he
  have hb1' := below_then HA.out hb1
  have HK1 := Lib.hid (HK.out.later hb1)
  clear hb1 F HK
  simp only [usR]
  have hw2 := hb1'.alloc hb1'.size (.cells #[.string (S nm), .string (S sc)] 26)
  have HU := Lib.hid (Blk.new w1 #[.string (S nm), .string (S sc)] 26)
  have HK2 := Lib.hid (HK1.out.later ((Below.refl w1.heap.size w1).alloc (Nat.le_refl _) (.cells #[.string (S nm), .string (S sc)] 26)))
  have Hw2 := Lib.hid hw2
  clear hb1' hw2 HK1
  go_wp2_with fail
  refine (C.out _).mono ?_
  rintro e w3 ⟨ev, rfl, he, hb3⟩
  have Hb3 := Lib.hid (below_then Hw2.out hb3)
  have HU3 := Lib.hid (HU.out.later hb3)
  have HK3 := Lib.hid (HK2.out.later hb3)
  have He := Lib.hid he
  clear he hb3 HU HK2 Hw2 C
  by_cases hn : n = 0
  · subst hn
    rw [He.out.zero]
    clear He
    obtain ⟨q0, q1⟩ := HK3.out.two
    obtain ⟨u0, u1⟩ := HU3.out.two
    have RS := response_any id sc c w3 (Ht.out.later Hb3.out)
    rcases respL_ways id sc c with ⟨e, -⟩ | ⟨e, -⟩ | ⟨x, e, -⟩
    · rw [e] at RS HR
      rw [show errV ((([] : List UInt8), (2 : Int)).2) = .iface 27 (.int .i64 2) from rfl] at RS
      rw [chkR_resp t [] 2 (by decide), show errV 2 = .iface 27 (.int .i64 2) from rfl] at HR
      have RS := Lib.hid RS
      clear e
      go_wp2_with fail
      refine RS.out.mono ?_
      rintro e w4 ⟨rfl, hb4⟩
      have Hb4 := Lib.hid (below_then Hb3.out hb4)
      clear hb4
      go_wp2_with fail
      go_ret
      exact ⟨by rw [← HR.out]; rfl, Hb4.out⟩
    · rw [e] at RS HR
      rw [show errV ((([] : List UInt8), (4 : Int)).2) = .iface 27 (.int .i64 4) from rfl] at RS
      rw [chkR_resp t [] 4 (by decide), show errV 4 = .iface 27 (.int .i64 4) from rfl] at HR
      have RS := Lib.hid RS
      clear e
      go_wp2_with fail
      refine RS.out.mono ?_
      rintro e w4 ⟨rfl, hb4⟩
      have Hb4 := Lib.hid (below_then Hb3.out hb4)
      clear hb4
      go_wp2_with fail
      go_ret
      exact ⟨by rw [← HR.out]; rfl, Hb4.out⟩
    · rw [e] at RS HR
      rw [show errV ((x, (0 : Int)).2) = .nilIface from rfl] at RS
      have RS := Lib.hid RS
      clear e
      by_cases hx : t = x
      · subst hx
        rw [chkR_same t, errV_0] at HR
        have hne : (t == t) = true := by simp
        go_wp2_with fail
        refine RS.out.mono ?_
        rintro e w4 ⟨rfl, hb4⟩
        have Hb4 := Lib.hid (below_then Hb3.out hb4)
        clear hb4
        go_wp2_with fail
        go_ret
        exact ⟨by rw [← HR.out]; rfl, Hb4.out⟩
      · rw [chkR_other t x hx, show errV 13 = .iface 27 (.int .i64 13) from rfl] at HR
        have hne : (t == x) = false := beq_eq_false_iff_ne.2 hx
        clear hx
        go_wp2_with fail
        refine RS.out.mono ?_
        rintro e w4 ⟨rfl, hb4⟩
        have Hb4 := Lib.hid (below_then Hb3.out hb4)
        clear hb4
        go_wp2_with fail
        go_ret
        exact ⟨by rw [← HR.out]; rfl, Hb4.out⟩
  · rw [chkR_bad t n _ hn, errV_pos n hn] at HR
    obtain ⟨ty, xv, hev⟩ := He.out.iface hn
    subst hev
    have T := Lib.hid (tell_is He.out (Hg.out.later Hb3.out))
    go_wp2_with fail
    refine T.out.mono ?_
    rintro e w4 ⟨rfl, hb4⟩
    have Hb4 := Lib.hid (below_then Hb3.out hb4)
    clear hb4
    go_wp2_with fail
    go_ret
    exact ⟨by rw [← HR.out]; rfl, Hb4.out⟩
theorem check_any (l : List Us) (v : Value) (name value c : List UInt8) (id : Int) (w : World) (hv : UsV w v l) (hl : l.length ≤ 140737488355328) (hvl : value.length ≤ 4294967270) (ht : MdTabs w) (hg : ErrCell w) :
    Calls Tryz.prog 10 #[v, .string (S name), .string (S value), .agg #[.int .i64 id, .string (S c)]] w fun e w' => e = .returned (errV (chkL l name value id c)) ∧ Below w.heap.size w w' := by
  unfold chkL
  cases h : usFind l name with
  | none => exact check_none l v name value c id w hv hl h
  | some u => exact check_some l v name value c id u w hv hl hvl ht hg h
end Go.Proofs.YtoponmdfjbhnoaaGreatDoor
