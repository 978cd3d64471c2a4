/- AhsRoom: as many of the least as there are words may be, and no more. -/
import Derived.Test.YtceinedicbdngaaDoorMore
import Derived.Test.YtceinedicbdngaaDoorRepeat
import Derived.Test.YtceinedicbdngaaDoorPick
import Derived.Test.YtceinedicbdngaaDoorPlaceAt
namespace Go.Proofs.YtceinedicbdngaaDoor
open Go.RowKit
theorem wf_u8A {n : Int} (h : (Lit.int .u8 n).wf = true) : 0 ≤ n ∧ n ≤ 255 := by
  simpa [Lit.wf, IntKind.min, IntKind.max, IntKind.signed, IntKind.bits] using h
theorem rep_size (k : Int) (n : Nat) : (wrL (List.replicate n ⟨k, []⟩)).length = 4 * n := by
  induction n with
  | zero => rfl
  | succ n ih => rw [List.replicate_succ, wrL_cons, List.length_append, wrA_len, ih]; unfold sizeA pad; simp only [List.length_nil]; omega
theorem rep_ok (k : Int) (n : Nat) (h : 0 ≤ k ∧ k ≤ 255) : okK (List.replicate n ⟨k, []⟩) := fun a ha => by rw [List.eq_of_mem_replicate ha]; exact h
theorem rep_much (k : Int) (n : Nat) (h : 0 ≤ k ∧ k ≤ 255) (hn : 255 < n) : writeA (List.replicate n ⟨k, []⟩) = ([], 4, 255) := by
  have e : List.replicate n (⟨k, []⟩ : Ah) = List.replicate 255 ⟨k, []⟩ ++ ⟨k, []⟩ :: List.replicate (n - 256) ⟨k, []⟩ := by
    rw [← List.replicate_succ, List.replicate_append_replicate]; congr 1; omega
  have hr : rightA (List.replicate n ⟨k, []⟩) = (4, 255) := by
    unfold rightA
    rw [e, rightF_app _ _ _ _ (rep_ok k 255 h) (by rw [rep_size]; omega), rep_size, rightF_cons, if_neg (by simp only; omega), if_pos (by unfold sizeA pad; simp only [List.length_nil]; omega), List.length_replicate]
    rfl
  unfold writeA
  rw [hr, if_neg (by decide)]
set_option maxRecDepth 100000 in
theorem ahsRoom_any (n0 k : Int) (w : World) (_hn : (Lit.int .i64 n0).wf = true) (hk : (Lit.int .u8 k).wf = true) (hg : ErrCell w) :
    Calls Tryd.prog 9 #[.int .i64 n0, .int .u8 k] w fun e w' => e = .returned (.bool true) ∧ Below w.heap.size w w' := by
  have hk := wf_u8A hk
  have M := Lib.hid (more_fact w hg)
  have hpk := pickI_lt n0 10 (by decide)
  have Pk := fun w => Lib.hid (pick_any n0 10 w (by decide) (by decide))
  obtain ⟨pk, hpkv⟩ : ∃ pk, pickI n0 10 = pk := ⟨_, rfl⟩
  rw [hpkv] at hpk
  simp only [hpkv] at Pk
  have Rp := fun b c w h0 h1 => Lib.hid (repeat_any ⟨k, []⟩ b c (250 + pk) w (by omega) (by omega) h0 h1)
  have hfit : fitA (List.replicate (250 + pk) ⟨k, []⟩) := ⟨by rw [List.length_replicate]; omega, fun a ha => by rw [List.eq_of_mem_replicate ha]; exact Nat.zero_le _⟩
  have Wr := fun v w hv => Lib.hid (write_ahs (List.replicate (250 + pk) ⟨k, []⟩) v w hv hfit)
  have hsz := rep_size k (250 + pk)
  have Hok := Lib.hid (fun h : 250 + pk ≤ 255 => writeA_ok (rep_ok k (250 + pk) hk) (by rw [rep_size]; omega))
  have Hmu := Lib.hid (rep_much k (250 + pk) hk)
  have ek : IntKind.i64.wrap k = k := IntWalk.i64_in _ (by omega)
  have Hg := Lib.hid hg
  simp only [Int.natCast_add] at Rp
  clear hpkv hg hfit
  go_enter Tryd.func9, Tryd.ntmps9
  go_wp2_with fail
  refine M.out.mono ?_
  rintro e w1 ⟨rfl, hb1⟩
  have Hb1 := Lib.hid hb1
  clear hb1 M
  go_wp2_with fail
  refine (Pk _).out.mono ?_
  rintro e w2 ⟨rfl, rfl⟩
  have hB := Blk.new w1 #[.int .i64 k, .string (S [])] 41
  have R2 := Rp w1.heap.size 1 _ hB.two.1 hB.two.2
  have Hb2 := Lib.hid (Hb1.out.alloc Hb1.out.size (.cells #[.int .i64 k, .string (S [])] 41))
  clear hB Rp
  go_wp2_with fail
  refine R2.out.mono ?_
  rintro e w3 ⟨v, rfl, hv, hb3⟩
  have W3 := Wr v w3 hv
  have Hb3 := Lib.hid (below_then Hb2.out hb3)
  clear hv hb3 R2 Wr
  obtain ⟨s, hs⟩ : ∃ s, wrL (List.replicate (250 + pk) (⟨k, []⟩ : Ah)) = s := ⟨_, rfl⟩
  rw [hs] at hsz Hok
  have Hsz := Lib.hid hsz
  clear hs hsz
  by_cases hm : 255 < 250 + pk
  · rw [Hmu.out hm] at W3
    clear Hok Hmu
    go_wp2_with fail
    refine W3.out.mono ?_
    rintro e w4 ⟨ev, rfl, he, hb4⟩
    have Hb4 := Lib.hid (below_then Hb3.out hb4)
    have Pl := Lib.hid (place_is he (Hg.out.later Hb4.out))
    clear he hb4 W3
    simp only at Pl
    go_wp2_with fail
    refine Pl.out.mono ?_
    rintro e w5 ⟨rfl, hb5⟩
    have Hb5 := Lib.hid (below_then Hb4.out hb5)
    clear hb5 Pl
    go_wp2_with fail
    go_ret
    exact ⟨rfl, Hb5.out⟩
  · rw [Hok.out (by omega)] at W3
    clear Hok Hmu
    go_wp2_with fail
    refine W3.out.mono ?_
    rintro e w4 ⟨ev, rfl, he, hb4⟩
    obtain rfl := he.zero
    have Hb4 := Lib.hid (below_then Hb3.out hb4)
    have hq : ((s.length : Int) == 4 * (250 + (pk : Int))) = true := by rw [beq_iff_eq]; have := Hsz.out; omega
    clear he hb4 W3
    go_wp2_with fail
    go_ret
    exact ⟨rfl, Hb4.out⟩
end Go.Proofs.YtceinedicbdngaaDoor
