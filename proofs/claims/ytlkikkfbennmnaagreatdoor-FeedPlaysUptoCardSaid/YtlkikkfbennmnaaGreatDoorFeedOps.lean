/- feed.New, Mode, Put, Kept, first. -/
import Derived.Test.YtlkikkfbennmnaaGreatDoorFeedGrow
import Derived.Test.YtlkikkfbennmnaaGreatDoorPduEnds
import Derived.Test.YtlkikkfbennmnaaGreatDoorGA
import Derived.Test.YtlkikkfbennmnaaGreatDoorPick
namespace Go.Proofs.YtlkikkfbennmnaaGreatDoor
open Go.RowKit
set_option linter.unusedVariables false
def RetNew (w : World) (n : Nat) (e : Ending) (w' : World) : Prop := ∃ fb H, e = .returned (.tuple #[.pointer (some ⟨fb, 0, none⟩), .nilIface]) ∧ FeedAt w' w.heap.size H fb ⟨n, 0, [], false⟩ ∧ Below w.heap.size w w'
theorem new_ok (n : Nat) (w : World) (hn : n ≤ 100000) : Calls Tryz.prog 13 #[.int .i64 (n : Int)] w (RetNew w n) := by
  have h1 : decide ((n : Int) < 0) = false := decide_eq_false (by omega)
  have h2 : decide (100000 < (n : Int)) = false := decide_eq_false (by omega)
  have h3 : (n : Int) ≤ 100000 := by omega
  have Hn := Lib.hid hn
  clear hn
  go_enter Tryz.func13, Tryz.ntmps13
  go_wp2_with fail
  go_ret2
  exact ⟨w.heap.size, fun k => k = w.heap.size, rfl, ⟨⟨Hn.out, Nat.zero_le 3⟩, ⟨.slice none 0 0, _, Blk.new w _ _, .inl ⟨rfl, rfl⟩⟩, rfl, fun k hk => by subst hk; exact ⟨Nat.le_refl _, by simp⟩, fun k hk hne => absurd hk hne⟩, (Below.refl _ _).alloc (Nat.le_refl _) _⟩
theorem new_bad (n : Int) (w : World) (hn : n < 0 ∨ 100000 < n) : Calls Tryz.prog 13 #[.int .i64 n] w fun e w' => e = .returned (.tuple #[.pointer none, .iface 51 (.int .i64 2)]) ∧ w = w' := by
  by_cases h1 : n < 0
  · clear hn
    go_enter Tryz.func13, Tryz.ntmps13
    go_wp2_with fail
    go_ret2
    exact ⟨rfl, rfl⟩
  · have h2 : 100000 < n := by omega
    clear hn
    go_enter Tryz.func13, Tryz.ntmps13
    go_wp2_with fail
    go_ret2
    exact ⟨rfl, rfl⟩
theorem Bare1.mk (n : Int) (hn : n ≠ 0) : Bare1 (.iface 51 (.int .i64 n)) n := .inr ⟨hn, rfl⟩
theorem Bare1.nil : Bare1 .nilIface 0 := .inl ⟨rfl, rfl⟩
/-- an error is returned by a feed's method -/
def RetF (w : World) (B : Nat) (H : Nat → Prop) (fb : Nat) (r : Int × Fe) (e : Ending) (w' : World) : Prop := ∃ ev H', e = .returned ev ∧ Bare1 ev r.1 ∧ FeedAt w' B H' fb r.2 ∧ Keeps w.heap.size w w' H H'
def modeF (F : Fe) (n : Int) : Int × Fe := if ¬ okM n then (1, F) else if F.bad = true then (6, F) else (0, { F with mode := n.toNat })
def putF (F : Fe) (s : List UInt8) : Int × Fe := if F.bad = true then (6, F) else (0, { F with kept := F.kept ++ s })
theorem Keeps.cell {N : Nat} {w : World} {H : Nat → Prop} {fb : Nat} (hf : H fb) (i : Nat) (v : Value) : Keeps N w (w.setCell ⟨fb, i, none⟩ v) H H :=
  ⟨rfl, rfl, rfl, by simp [World.setCell], fun k _ hH => setCell_heap_other (fun e => hH (by rw [e]; exact hf)) v, fun _ h => h, fun _ h => .inl h⟩
theorem mode_any {w : World} {B : Nat} {H : Nat → Prop} {fb : Nat} {F : Fe} (n : Int) (hn : I64 n) (hF : FeedAt w B H fb F) : Calls Tryz.prog 14 #[.pointer (some ⟨fb, 0, none⟩), .int .i64 n] w (RetF w B H fb (modeF F n)) := by
  have M := fun w => Lib.hid (modes_any n w hn)
  obtain ⟨kv, t, hk, hv⟩ := hF.at_
  obtain ⟨q0, q1, q2, q3⟩ := hk.four
  have f1 := hk.frozen 1
  have HF := Lib.hid hF
  have HK := Lib.hid hk
  have HV := Lib.hid hv
  clear hF hk hv
  by_cases hm : okM n
  · simp only [decide_eq_true hm] at M
    cases hb : F.bad with
    | true =>
      have e1 : modeF F n = (6, F) := by unfold modeF; rw [if_neg (by simpa using hm), if_pos hb]
      rw [e1]
      rw [hb] at q3
      clear e1 hb hm hn
      go_enter Tryz.func14, Tryz.ntmps14
      go_wp2_with fail
      refine (M _).out.mono ?_
      rintro e w1 ⟨rfl, rfl⟩
      go_wp2_with fail
      go_ret
      exact ⟨_, H, rfl, Bare1.mk 6 (by decide), HF.out, Keeps.refl _ _ _⟩
    | false =>
      have e1 : modeF F n = (0, { F with mode := n.toNat }) := by unfold modeF; rw [if_neg (by simpa using hm), if_neg (by simp [hb])]
      rw [e1]
      rw [hb] at q3
      obtain ⟨m, rfl⟩ : ∃ m : Nat, n = m := ⟨n.toNat, by have := hm.1; omega⟩
      have hm3 : m ≤ 3 := by have := hm.2; omega
      have HS := Lib.hid (HF.out.set (F' := { F with mode := m }) ⟨HF.out.ok.lim, hm3⟩ kv HV.out (w.setCell ⟨fb, 1, none⟩ (.int .i64 m)) (HK.out.set 1 _) (by simp [World.setCell]) (fun k hk => setCell_heap_other hk _))
      have Hown := Lib.hid HF.out.own
      rw [Int.toNat_natCast]
      clear e1 hb hm hn hm3
      go_enter Tryz.func14, Tryz.ntmps14
      go_wp2_with fail
      refine (M _).out.mono ?_
      rintro e w1 ⟨rfl, rfl⟩
      go_wp2_with fail
      go_ret
      exact ⟨_, H, rfl, Bare1.nil, HS.out, Keeps.cell Hown.out 1 _⟩
  · simp only [decide_eq_false hm] at M
    have e1 : modeF F n = (1, F) := by unfold modeF; rw [if_pos hm]
    rw [e1]
    clear e1 hm hn
    go_enter Tryz.func14, Tryz.ntmps14
    go_wp2_with fail
    refine (M _).out.mono ?_
    rintro e w1 ⟨rfl, rfl⟩
    go_wp2_with fail
    go_ret
    exact ⟨_, H, rfl, Bare1.mk 1 (by decide), HF.out, Keeps.refl _ _ _⟩
theorem kept_any {w : World} {B : Nat} {H : Nat → Prop} {fb : Nat} {F : Fe} (hF : FeedAt w B H fb F) : Calls Tryz.prog 17 #[.pointer (some ⟨fb, 0, none⟩)] w fun e w' => e = .returned (.int .i64 (F.kept.length : Nat)) ∧ w = w' := by
  obtain ⟨kv, t, hk, hv⟩ := hF.at_
  obtain ⟨p, c, rfl, _⟩ := hv.form
  obtain ⟨q0, q1, q2, q3⟩ := hk.four
  clear hF hk hv
  go_enter Tryz.func17, Tryz.ntmps17
  go_wp2_with fail
  go_ret
  exact ⟨rfl, rfl⟩
set_option maxRecDepth 100000 in
theorem put_any {w : World} {B : Nat} {H : Nat → Prop} {fb : Nat} {F : Fe} (s : List UInt8) (hl : F.kept.length + s.length ≤ 140737488355328) (hF : FeedAt w B H fb F) : Calls Tryz.prog 15 #[.pointer (some ⟨fb, 0, none⟩), .string (S s)] w (RetF w B H fb (putF F s)) := by
  have hB : B ≤ w.heap.size := by have := hF.base fb hF.own; omega
  obtain ⟨kv, t, hk, hv⟩ := hF.at_
  obtain ⟨q0, q1, q2, q3⟩ := hk.four
  cases hb : F.bad with
  | true =>
    have e1 : putF F s = (6, F) := by unfold putF; rw [if_pos hb]
    rw [e1]
    rw [hb] at q3
    have HF := Lib.hid hF
    clear e1 hb hF hk hv hl hB
    go_enter Tryz.func15, Tryz.ntmps15
    go_wp2_with fail
    go_ret
    exact ⟨_, H, rfl, Bare1.mk 6 (by decide), HF.out, Keeps.refl _ _ _⟩
  | false =>
    have e1 : putF F s = (0, { F with kept := F.kept ++ s }) := by unfold putF; rw [if_neg (by simp [hb])]
    rw [e1]
    obtain ⟨v1, w1, H1, hr, hv1, hk1, hfb, hH1, hu1⟩ := run_append_kept 63 hv hF.base hF.u8 hk.lt hB s hl
    obtain ⟨pz, cz, rfl, _⟩ := hv1.form
    have hblk : Blk w1 fb #[.int .i64 F.lim, .int .i64 F.mode, kv, .bool F.bad] t := hfb.trans hk
    have hF1 : FeedAt w1 B H1 fb { F with kept := F.kept ++ s } ∨ True := .inr trivial
    have hS : FeedAt (w1.setCell ⟨fb, 2, none⟩ (.slice pz (F.kept ++ s).length cz)) B H1 fb { F with kept := F.kept ++ s } :=
      ⟨⟨hF.ok.lim, hF.ok.mode⟩, ⟨.slice pz (F.kept ++ s).length cz, t, hblk.set 2 _, hv1.kept (fun k _ _ hne => setCell_heap_other hne (.slice pz (F.kept ++ s).length cz)) (fun _ h => h)⟩, hk1.more _ hF.own, fun k hk => by
        have := hH1 k hk
        exact ⟨this.1, by simp [World.setCell]; exact this.2⟩, fun k hk hne => (hu1 k hk hne).kept (setCell_heap_other hne (.slice pz (F.kept ++ s).length cz))⟩
    have hK : Keeps w.heap.size w (w1.setCell ⟨fb, 2, none⟩ (.slice pz (F.kept ++ s).length cz)) H H1 := hk1.trans (Keeps.cell (hk1.more _ hF.own) 2 (.slice pz (F.kept ++ s).length cz)) (Nat.le_refl _)
    obtain ⟨r0, r1, r2, r3⟩ := hblk.four
    have g2 := hblk.frozen 2
    obtain ⟨p, c, rfl, _⟩ := hv.form
    rw [List.length_append] at hS hK hr
    have HS := Lib.hid hS
    have HK := Lib.hid hK
    have Hr := Lib.hid hr
    rw [hb] at q3
    clear e1 hb hF hk hv hl hB hr hv1 hk1 hfb hH1 hu1 hblk hF1 hS hK r0 r1 r3
    go_enter Tryz.func15, Tryz.ntmps15
    go_wp2_with (at_builtin; refine Lib.wpList_append_run _ rfl _ _ _ _ rfl _ _ rfl rfl _ _ Hr.out ?_)
    go_ret
    exact ⟨_, H1, rfl, Bare1.nil, HS.out, HK.out⟩
set_option maxRecDepth 100000 in
/-- a slice up to k -/
theorem run_slice_to (p : Option Addr) (n c k : Nat) (w : World) (hk : k ≤ c) : (Instr.slice 63 (.slice p n c) none (some (.int .i64 (k : Int))) none).run Tryz.prog w = .ok (.slice p k c) w := by
  obtain ⟨i, hi, hz, hs, hb⟩ := info_parts info8w
  rw [run_slice_h w 63 p n c Tryz.underlying63 .i64 (k : Int) (by omega) (by omega)]
  simp [sizeOf, typeInfo, hi, hs, sliced, show Tryz.prog.elem 63 = 5 from rfl]
  intro _
  cases p with
  | none => rfl
  | some a => rfl
theorem firstF_take (F : Fe) (h : ¬ F.kept.length < 48) : readD F.kept = val ((List.drop 5 (F.kept.take 48)).take 3) ∧ sizeP (F.kept.take 48) (F.mode : Int) = if okM (F.mode : Int) then (ea F.kept F.mode, 0) else (0, 1) := by
  have e1 := readW_take (a := F.kept) (k := 48) (by decide)
  have e2 := readD_take (a := F.kept) (k := 48) (by decide)
  refine ⟨by rw [← e2]; rfl, ?_⟩
  unfold sizeP
  by_cases hm : okM (F.mode : Int)
  · rw [if_neg (by simpa using hm), if_neg (by rw [List.length_take]; omega), if_pos hm, Int.toNat_natCast, (ea_same e1 e2 F.mode).1]
  · rw [if_pos hm, if_neg hm]
set_option maxRecDepth 100000 in
theorem ffirst_any {w : World} {B : Nat} {H : Nat → Prop} {fb : Nat} {F : Fe} (hl : F.kept.length ≤ 140737488351232) (hF : FeedAt w B H fb F) : Calls Tryz.prog 40 #[.pointer (some ⟨fb, 0, none⟩)] w fun e w' => ∃ ev, e = .returned (.tuple #[.string (S (firstF F).1), ev]) ∧ Bare1 ev (firstF F).2 ∧ Below w.heap.size w w' := by
  obtain ⟨kv, t, hk, hv⟩ := hF.at_
  obtain ⟨p, c, rfl, hlc⟩ := hv.form
  obtain ⟨q0, q1, q2, q3⟩ := hk.four
  have hok := hF.ok
  obtain ⟨lim, mode, l, bad⟩ := F
  simp only at *
  by_cases h48 : l.length < 48
  · have e1 : firstF ⟨lim, mode, l, bad⟩ = ([], 0) := by unfold firstF; rw [if_pos h48]
    rw [e1]
    have h48I : (l.length : Int) < 48 := by omega
    clear e1 hF hk hv hl hok hlc h48
    go_enter Tryz.func40, Tryz.ntmps40
    go_wp2_with fail
    go_ret2
    exact ⟨_, rfl, .inl ⟨rfl, rfl⟩, Below.refl _ _⟩
  · obtain ⟨hD, hZ⟩ := firstF_take ⟨lim, mode, l, bad⟩ h48
    simp only at hD hZ
    rw [if_pos ⟨by omega, by have := hok.mode; simp only at this; omega⟩] at hZ
    have h48I : (48 : Int) ≤ (l.length : Int) := by omega
    have hs1 : ∀ w, (Instr.slice 63 (.slice p l.length c) none (some (.int .i64 48)) none).run Tryz.prog w = .ok (.slice p 48 c) w := fun w => run_slice_to p l.length c 48 w (by omega)
    have hc1 := fun w (hv : KeptAt w H fb (.slice p l.length c) l) => kept_string (P := Tryz.prog) 63 9 5 Tryz.underlying63 Tryz.underlying5 Tryz.underlying9 hv 48 c (by omega) (by decide)
    have G := fun w => Lib.hid (get_ok ((List.drop 5 (l.take 48)).take 3) w (by have := List.length_take_le 3 (List.drop 5 (l.take 48)); omega))
    have Z := fun w => Lib.hid (size_any2 (l.take 48) (mode : Int) w ⟨by omega, by have := hok.mode; simp only at this; omega⟩ (by rw [List.length_take]; omega))
    rw [hZ] at Z
    simp only [← hD] at G Z
    have hl48 : ((l.take 48).length : Int) = 48 := by rw [List.length_take]; omega
    have hlim := hok.lim
    simp only at hlim
    have hw := wrap_u64_lt lim (by omega)
    have hc1' := hc1 w hv
    have hL := ends_le l mode
    have HL := Lib.hid hL
    have HF := Lib.hid hF
    have HV := Lib.hid hv
    have HK := Lib.hid hk
    obtain ⟨h48s, hh48⟩ : ∃ s, l.take 48 = s := ⟨_, rfl⟩
    rw [hh48] at hc1' G Z hl48
    by_cases h2 : lim < readD l
    · have e1 : firstF ⟨lim, mode, l, bad⟩ = ([], 4) := by unfold firstF; rw [if_neg h48, if_pos h2]
      rw [e1]
      have h2I : (lim : Int) < (readD l : Int) := by omega
      generalize readD l = rd at *
      clear e1 hF hk hv hl hok hlc h48 hD hZ hc1 hL hlim h2 Z hh48
      go_enter Tryz.func40, Tryz.ntmps40
      go_wp2_with fail
      refine (G _).out.mono ?_
      rintro e w1 ⟨rfl, rfl⟩
      go_wp2_with fail
      go_ret2
      exact ⟨_, rfl, Bare1.mk 4 (by decide), Below.refl _ _⟩
    · have h2I : (readD l : Int) ≤ (lim : Int) := by omega
      by_cases h3 : l.length < ea l mode
      · have e1 : firstF ⟨lim, mode, l, bad⟩ = ([], 0) := by unfold firstF; rw [if_neg h48, if_neg h2, if_pos h3]
        rw [e1]
        have h3I : (l.length : Int) < (ea l mode : Int) := by omega
        generalize readD l = rd at *
        generalize ea l mode = z at *
        clear e1 hF hk hv hl hok hlc h48 hD hZ hc1 hL hlim h2 h3 hh48
        go_enter Tryz.func40, Tryz.ntmps40
        go_wp2_with fail
        refine (G _).out.mono ?_
        rintro e w1 ⟨rfl, rfl⟩
        go_wp2_with fail
        refine (Z _).out.mono ?_
        rintro e w1 ⟨ev, rfl, he, hb⟩
        obtain rfl := he.zero
        obtain ⟨q0', q1', q2', q3'⟩ := (HK.out.later hb).four
        have Hb := Lib.hid hb
        clear q0 q1 q2 q3 he hb hc1'
        go_wp2_with fail
        go_ret2
        exact ⟨_, rfl, .inl ⟨rfl, rfl⟩, Hb.out⟩
      · have e1 : firstF ⟨lim, mode, l, bad⟩ = (l.take (ea l mode), 0) := by unfold firstF; rw [if_neg h48, if_neg h2, if_neg h3]
        rw [e1]
        have h3I : (ea l mode : Int) ≤ (l.length : Int) := by omega
        have hs2 := fun w => run_slice_to p l.length c (ea l mode) w (by omega)
        have hc2 := fun w (hv : KeptAt w H fb (.slice p l.length c) l) => kept_string (P := Tryz.prog) 63 9 5 Tryz.underlying63 Tryz.underlying5 Tryz.underlying9 hv (ea l mode) c (by omega) (by omega)
        have hzc : (ea l mode : Int) ≤ (c : Int) := by omega
        obtain ⟨r, hr⟩ : ∃ s, l.take (ea l mode) = s := ⟨_, rfl⟩
        rw [hr] at hc2 ⊢
        generalize readD l = rd at *
        generalize ea l mode = z at *
        have HC2 := Lib.hid hc2
        have HF2 := Lib.hid hF
        clear e1 hF hk hv hl hok hlc h48 hD hZ hc1 hL hlim h2 h3 hh48 hr hc2
        go_enter Tryz.func40, Tryz.ntmps40
        go_wp2_with fail
        refine (G _).out.mono ?_
        rintro e w1 ⟨rfl, rfl⟩
        go_wp2_with fail
        refine (Z _).out.mono ?_
        rintro e w1 ⟨ev, rfl, he, hb⟩
        obtain rfl := he.zero
        obtain ⟨q0', q1', q2', q3'⟩ := (HK.out.later hb).four
        have hv1 : KeptAt w1 H fb (.slice p l.length c) l := HV.out.kept (fun k hk _ _ => hb.block k (HF2.out.base k hk).2) (fun _ h => h)
        have hc3 := HC2.out w1 hv1
        have Hb := Lib.hid hb
        clear q0 q1 q2 q3 he hb hc1' hv1
        go_wp2_with fail
        go_ret2
        exact ⟨_, rfl, .inl ⟨rfl, rfl⟩, Hb.out⟩
end Go.Proofs.YtlkikkfbennmnaaGreatDoor
