/- gather.New, Size, Add. -/
import Derived.Test.YtildnpnpakhnjaaDoorGatherMem
import Derived.Test.YtildnpnpakhnjaaDoorGL
import Derived.Test.YtildnpnpakhnjaaDoorPairParse
namespace Go.Proofs.YtildnpnpakhnjaaDoor
open Go.RowKit
set_option linter.unusedVariables false
def RetNewG (w : World) (n : Nat) (e : Ending) (w' : World) : Prop := ∃ gb H, e = .returned (.tuple #[.pointer (some ⟨gb, 0, none⟩), .nilIface]) ∧ GatAt w' w.heap.size H gb ⟨n, []⟩ ∧ Below w.heap.size w w'
theorem newG_ok (n : Nat) (w : World) (hn : n ≤ 20000) : Calls Tryd.prog 39 #[.int .i64 (n : Int)] w (RetNewG w n) := by
  have h1 : decide ((n : Int) < 0) = false := decide_eq_false (by omega)
  have h2 : decide (20000 < (n : Int)) = false := decide_eq_false (by omega)
  have h3 : (n : Int) ≤ 20000 := by omega
  have Hn := Lib.hid hn
  clear hn
  go_enter Tryd.func39, Tryd.ntmps39
  go_wp2_with fail
  go_ret2
  exact ⟨w.heap.size, fun k => k = w.heap.size, rfl, ⟨Hn.out, Nat.zero_le _, ⟨.slice none 0 0, _, Blk.new w _ _, .inl ⟨rfl, rfl⟩⟩, rfl, fun k hk => by subst hk; exact ⟨Nat.le_refl _, by simp⟩, fun k hk hne => absurd hk hne⟩, (Below.refl _ _).alloc (Nat.le_refl _) _⟩
theorem newG_bad (n : Int) (w : World) (hn : n < 0 ∨ 20000 < n) : Calls Tryd.prog 39 #[.int .i64 n] w fun e w' => e = .returned (.tuple #[.pointer none, .iface 24 (.int .i64 2)]) ∧ w = w' := by
  by_cases h1 : n < 0
  · clear hn
    go_enter Tryd.func39, Tryd.ntmps39
    go_wp2_with fail
    go_ret2
    exact ⟨rfl, rfl⟩
  · have h2 : 20000 < n := by omega
    clear hn
    go_enter Tryd.func39, Tryd.ntmps39
    go_wp2_with fail
    go_ret2
    exact ⟨rfl, rfl⟩
theorem sizeG_any {w : World} {B : Nat} {H : Nat → Prop} {gb : Nat} {G : Ga} (hG : GatAt w B H gb G) : Calls Tryd.prog 42 #[.pointer (some ⟨gb, 0, none⟩)] w fun e w' => e = .returned (.int .i64 (G.came.length : Nat)) ∧ w = w' := by
  obtain ⟨kv, t, hk, hv⟩ := hG.at_
  obtain ⟨p, c, rfl, _⟩ := hv.form
  obtain ⟨q0, q1⟩ := hk.two
  clear hG hk hv
  go_enter Tryd.func42, Tryd.ntmps42
  go_wp2_with fail
  go_ret
  exact ⟨rfl, rfl⟩
/-- pairs and an error are returned by a gatherer's method -/
def RetAdd (w : World) (B : Nat) (H : Nat → Prop) (gb : Nat) (r : (List Pr × Int × Int) × Ga) (e : Ending) (w' : World) : Prop := ∃ v ev H', e = .returned (.tuple #[v, ev]) ∧ PrsV w' v r.1.1 ∧ ErrIs w' ev r.1.2.1 r.1.2.2 ∧ GatAt w' B H' gb r.2 ∧ Keeps w.heap.size w w' H H'
theorem convert_zero {P : Program} (src dst e : TypeId) (hs : P.underlying src = some (.slice e)) (he : P.underlying e = some (.int .u8)) (hd : P.underlying dst = some .string) (w : World) (p : Option Addr) (c : Nat) :
    (convert src dst (.slice p 0 c)).run P w = .ok (.string (S [])) w := by
  rw [run_convert_bytes_string w src dst e _ 0 c hs he hd]
  cases p <;> simp [Conv.bytesToString, loadCells]
  all_goals rfl
/-- all that is kept, as a string -/
theorem kept_whole {P : Program} (src dst e : TypeId) (hs : P.underlying src = some (.slice e)) (he : P.underlying e = some (.int .u8)) (hd : P.underlying dst = some .string)
    {W : World} {H : Nat → Prop} {fb : Nat} {p : Option Addr} {c : Nat} {l : List UInt8} (h : KeptAt W H fb (.slice p l.length c) l) (c' : Nat) :
    (convert src dst (.slice p l.length c')).run P W = .ok (.string (S l)) W := by
  by_cases h0 : l.length = 0
  · obtain rfl := List.eq_nil_of_length_eq_zero h0
    exact convert_zero src dst e hs he hd W p c'
  · have := kept_string src dst e hs he hd h l.length c' (Nat.le_refl _) (by omega)
    rwa [List.take_length] at this
/-- what came is forgotten -/
theorem GatAt.forgot {W : World} {B : Nat} {H : Nat → Prop} {gb : Nat} {G : Ga} (h : GatAt W B H gb G) : GatAt (W.setCell ⟨gb, 1, none⟩ (.slice none 0 0)) B H gb ⟨G.most, []⟩ := by
  obtain ⟨kv, t, hk, hv⟩ := h.at_
  exact h.set ⟨G.most, []⟩ h.most (Nat.zero_le _) (.slice none 0 0) (.inl ⟨rfl, rfl⟩) _ (hk.set 1 _) (by simp [World.setCell]) (fun k hk => setCell_heap_other hk _)
set_option maxRecDepth 100000 in
set_option maxHeartbeats 1000000 in
theorem add_any {w : World} {B : Nat} {H : Nat → Prop} {gb : Nat} {G : Ga} (s : List UInt8) (more : Bool) (hl : s.length ≤ 140737488351232) (hgl : GL H w) (hG : GatAt w B H gb G) :
    Calls Tryd.prog 40 #[.pointer (some ⟨gb, 0, none⟩), .string (S s), .bool more] w (RetAdd w B H gb (addG G s more)) := by
  have hB : B ≤ w.heap.size := by have := hG.base gb hG.own; omega
  have hmo := hG.most
  have hfi := hG.fit
  obtain ⟨kv, t, hk, hv⟩ := hG.at_
  obtain ⟨q0, q1⟩ := hk.two
  have g1 := hk.frozen 1
  have HV := Lib.hid hv
  have HK := Lib.hid hk
  have HG := Lib.hid hG
  obtain ⟨p, c, rfl, _⟩ := hv.form
  obtain ⟨mo, came⟩ := G
  simp only at *
  have i1 : (came.length : Int) ≤ 20000 := by omega
  have i2 : (mo : Int) ≤ 20000 := by omega
  have n1 : came.length ≤ 20000 := by omega
  by_cases hfull : mo < came.length + s.length
  · rw [addG_full more hfull]
    have hfI : (mo : Int) - (came.length : Int) < (s.length : Int) := by omega
    have hS := fun n => Lib.hid (hG.drewN n).forgot
    have Hown := Lib.hid hG.own
    clear hG hk hv hB hmo hfi hfull
    go_enter Tryd.func40, Tryd.ntmps40
    go_wp2_with fail
    go_quiet (fail)
    go_wp2_with fail
    go_ret2
    exact ⟨_, _, H, rfl, PrsV.nil _, .bare 12 (by decide), (hS _).out, (Keeps.of (below_drawn _) H).trans (Keeps.cell Hown.out 1 _) (Nat.le_refl _)⟩
  have hfI : (s.length : Int) ≤ (mo : Int) - (came.length : Int) := by omega
  have HBs := Lib.hid hB
  have Hmo := Lib.hid hmo
  have Hgl := Lib.hid hgl
  have Hfu := Lib.hid hfull
  obtain ⟨R, hR⟩ : ∃ R, addG ⟨mo, came⟩ s more = R := ⟨_, rfl⟩
  rw [hR]
  have HR := Lib.hid hR
  clear hG hk hv hB hmo hfi hfull hgl hR
  go_enter Tryd.func40, Tryd.ntmps40
  go_wp2_with fail
  go_quiet (fail)
  have Hq := Lib.hid (Keeps.of (below_drawn (w := w) nq) H)
  have hG := HG.out.drewN nq
  have hv := HV.out.kept (W' := w.drewN nq) (fun _ _ _ _ => rfl) (fun _ h => h)
  have hk := HK.out.drewN nq
  have hgl := Hgl.out.keeps Hq.out
  have q0' := hk.two.1
  have q1' := hk.two.2
  have f1' := hk.frozen 1
  clear q0 q1 g1
  have hsz : (w.drewN nq).heap.size = w.heap.size := rfl
  generalize w.drewN nq = wq at *
  obtain ⟨v1, w1, H1, hr, hv1, hk1, hfb, hH1, hu1⟩ := run_append_kept 82 hv hG.base hG.u8 hk.lt (by rw [hsz]; exact HBs.out) s (by omega)
  obtain ⟨pz, cz, rfl, _⟩ := hv1.form
  have hblk : Blk w1 gb #[.int .i64 mo, .slice p came.length c] t := hfb.trans hk
  have hS : GatAt (w1.setCell ⟨gb, 1, none⟩ (.slice pz (came ++ s).length cz)) B H1 gb ⟨mo, came ++ s⟩ :=
    ⟨Hmo.out, by simp only [List.length_append]; have := Hfu.out; omega, ⟨.slice pz (came ++ s).length cz, t, hblk.set 1 _, hv1.kept (fun k _ _ hne => setCell_heap_other hne (.slice pz (came ++ s).length cz)) (fun _ h => h)⟩, hk1.more _ hG.own, fun k hk => by
      have := hH1 k hk
      exact ⟨this.1, by simp [World.setCell]; exact this.2⟩, fun k hk hne => (hu1 k hk hne).kept (setCell_heap_other hne (.slice pz (came ++ s).length cz))⟩
  have hK1 : Keeps wq.heap.size wq (w1.setCell ⟨gb, 1, none⟩ (.slice pz (came ++ s).length cz)) H H1 := hk1.trans (Keeps.cell (hk1.more _ hG.own) 1 (.slice pz (came ++ s).length cz)) (Nat.le_refl _)
  have hK := Hq.out.then hK1
  obtain ⟨r0, r1⟩ := hblk.two
  have g2 := hblk.frozen 1
  have hgl1 := hgl.keeps hK1
  have hlen : (came ++ s).length ≤ 20000 := by rw [List.length_append]; have := Hfu.out; have := Hmo.out; omega
  have hkv := hv1.kept (W' := w1.setCell ⟨gb, 1, none⟩ (.slice pz (came ++ s).length cz)) (fun k _ _ hne => setCell_heap_other hne (.slice pz (came ++ s).length cz)) (fun _ h => h)
  have hcv := kept_whole (P := Tryd.prog) 82 9 5 Tryd.underlying82 Tryd.underlying5 Tryd.underlying9 hkv cz
  obtain ⟨b0, b1⟩ := (hblk.set 1 (.slice pz (came ++ s).length cz)).two
  have b2 := (hblk.set 1 (.slice pz (came ++ s).length cz)).frozen 1
  rw [List.length_append] at hr hS hK hgl1 hcv b0 b1 b2
  have HS := Lib.hid hS
  have HK2 := Lib.hid hK
  have Hr := Lib.hid hr
  have HG1 := Lib.hid hgl1
  have Hfit := Lib.hid (show came.length + s.length ≤ mo by have := Hfu.out; omega)
  clear hG hk hv hr hv1 hk1 hfb hH1 hu1 hblk hS hK hK1 hlen hgl hgl1 hkv hsz
  cases more with
  | true =>
    go_wp2_with (at_builtin; refine Lib.wpList_append_run _ rfl _ _ _ _ rfl _ _ rfl rfl _ _ Hr.out ?_)
    go_ret2
    obtain rfl : R = (([], 0, -1), ⟨mo, came ++ s⟩) := by rw [← HR.out]; exact addG_more (G := ⟨mo, came⟩) Hfit.out
    exact ⟨_, _, H1, rfl, PrsV.nil _, .good, HS.out, HK2.out⟩
  | false =>
    have hS2 := HS.out.forgot
    have hK2 := HK2.out.trans (Keeps.cell (N := w.heap.size) (w := w1.setCell ⟨gb, 1, none⟩ (.slice pz (came.length + s.length) cz)) HS.out.own 1 (.slice none 0 0)) (Nat.le_refl _)
    have hgl2 := Hgl.out.keeps hK2
    have PB := parse_any (came ++ s) _ (by rw [List.length_append]; have := Hfit.out; omega) hgl2.c.off
    obtain ⟨r, hR⟩ : ∃ r, prParse (came ++ s) = r := ⟨_, rfl⟩
    rw [hR] at PB
    have Hr2 := Lib.hid hR
    have PC := Lib.hid PB
    have HS2 := Lib.hid hS2
    have HK3 := Lib.hid hK2
    clear PB hS2 hK2 hgl2 hR
    go_wp2_with (at_builtin; refine Lib.wpList_append_run _ rfl _ _ _ _ rfl _ _ rfl rfl _ _ Hr.out ?_)
    refine PC.out.mono ?_
    rintro e w4 ⟨v4, ev4, rfl, hv4, he4, hb4⟩
    have Hb4 := Lib.hid hb4
    clear hb4 PC
    go_wp2_with fail
    go_ret2
    obtain rfl : R = (r, ⟨mo, []⟩) := by rw [← HR.out, ← Hr2.out]; exact addG_end (G := ⟨mo, came⟩) Hfit.out
    exact ⟨_, _, H1, rfl, hv4, he4, HS2.out.later Hb4.out, HK3.out.then (Keeps.of Hb4.out H1)⟩
end Go.Proofs.YtildnpnpakhnjaaDoor
