/- ref.HeadMake: a head of a known op. -/
import Derived.Test.YtffdlchoaaakdaaGreatDoorRefMake
import Derived.BigRegion
import Derived.Deep.RegionHeld3
namespace Go.Proofs.YtffdlchoaaakdaaGreatDoor
open Go.RowKit
/-- what stays through the reference's loops -/
structure MkS (w : World) (bf : Nat) (k : Kd) (W : World) : Prop where
  fld : Flds W bf k.fs
  hd : Blk W w.heap.size #[.int .i64 0, .bool false, .int .i64 0, .slice none 0 0] 24
  flt : Cell2 W (w.heap.size + 1) 0 0
  low : Below w.heap.size w W
theorem Cell2.blk {W : World} {b : Nat} {x y : Int} (h : Cell2 W b x y) : Blk W b #[.int .i64 x, .int .i64 y] 49 := h
theorem MkS.later {w : World} {bf : Nat} {k : Kd} {W W' : World} (h : MkS w bf k W) (hb : Below W.heap.size W W') : MkS w bf k W' :=
  ⟨Blk.later h.fld hb, h.hd.later hb, h.flt.later hb, below_then h.low hb⟩
theorem MkS.alloc {w : World} {bf : Nat} {k : Kd} {W : World} (h : MkS w bf k W) (o : Obj) : MkS w bf k (W.alloc o) := h.later ((Below.refl _ _).alloc (Nat.le_refl _) o)
theorem MkS.grown {w : World} {bf : Nat} {k : Kd} {W W' : World} {row : Option Nat} (h : MkS w bf k W) (hg : W.grownBy W' row) (hr : ∀ b, row = some b → bf ≠ b ∧ w.heap.size + 2 ≤ b) : MkS w bf k W' :=
  ⟨h.fld.grown hg (fun b hb => (hr b hb).1), h.hd.grown hg (fun b hb => by have := (hr b hb).2; omega), (h.flt.blk.grown hg (fun b hb => by have := (hr b hb).2; omega) : Blk W' _ _ _), h.low.grown hg h.low.size (fun b hb => by have := (hr b hb).2; omega)⟩
theorem StrV.cell {W : World} {v : Value} {l : List (List UInt8)} (h : StrV W v l) : ∃ p c, v = .slice p l.length c ∧ (0 < l.length → ∃ b o, p = some ⟨b, o, none⟩ ∧ ∀ j (hj : j < l.length), W.cell? ⟨b, o + j, none⟩ = some (.string (S l[j]))) := h
theorem mk_end {w W : World} {bf : Nat} {k : Kd} (h : MkS w bf k W) (o fl : Int) (v : Value) (e p : Int) :
    Blk ((((((W.setCell ⟨w.heap.size, 0, none⟩ (.int .i64 o)).setCell ⟨w.heap.size, 1, none⟩ (.bool false)).setCell ⟨w.heap.size, 2, none⟩ (.int .i64 fl)).setCell ⟨w.heap.size, 3, none⟩ v).setCell ⟨w.heap.size + 1, 0, none⟩ (.int .i64 e)).setCell ⟨w.heap.size + 1, 1, none⟩ (.int .i64 p)) w.heap.size #[.int .i64 o, .bool false, .int .i64 fl, v] 24 ∧
    Blk ((((((W.setCell ⟨w.heap.size, 0, none⟩ (.int .i64 o)).setCell ⟨w.heap.size, 1, none⟩ (.bool false)).setCell ⟨w.heap.size, 2, none⟩ (.int .i64 fl)).setCell ⟨w.heap.size, 3, none⟩ v).setCell ⟨w.heap.size + 1, 0, none⟩ (.int .i64 e)).setCell ⟨w.heap.size + 1, 1, none⟩ (.int .i64 p)) (w.heap.size + 1) #[.int .i64 e, .int .i64 p] 49 ∧
    Below w.heap.size w ((((((W.setCell ⟨w.heap.size, 0, none⟩ (.int .i64 o)).setCell ⟨w.heap.size, 1, none⟩ (.bool false)).setCell ⟨w.heap.size, 2, none⟩ (.int .i64 fl)).setCell ⟨w.heap.size, 3, none⟩ v).setCell ⟨w.heap.size + 1, 0, none⟩ (.int .i64 e)).setCell ⟨w.heap.size + 1, 1, none⟩ (.int .i64 p)) := by
  refine ⟨?_, ?_, ?_⟩
  · have := ((((((h.hd.set 0 (.int .i64 o)).set 1 (.bool false)).set 2 (.int .i64 fl)).set 3 v).other (b' := w.heap.size + 1) (i := 0) (by omega) (.int .i64 e)).other (b' := w.heap.size + 1) (i := 1) (by omega) (.int .i64 p))
    simpa using this
  · have := ((((((h.flt.blk.other (b' := w.heap.size) (i := 0) (by omega) (.int .i64 o)).other (b' := w.heap.size) (i := 1) (by omega) (.bool false)).other (b' := w.heap.size) (i := 2) (by omega) (.int .i64 fl)).other (b' := w.heap.size) (i := 3) (by omega) v).set 0 (.int .i64 e)).set 1 (.int .i64 p))
    simpa using this
  · exact (((((h.low.setCell (p := ⟨w.heap.size, 0, none⟩) (Nat.le_refl _) _).setCell (p := ⟨w.heap.size, 1, none⟩) (Nat.le_refl _) _).setCell (p := ⟨w.heap.size, 2, none⟩) (Nat.le_refl _) _).setCell (p := ⟨w.heap.size, 3, none⟩) (Nat.le_refl _) _).setCell (p := ⟨w.heap.size + 1, 0, none⟩) (Nat.le_succ _) _).setCell (p := ⟨w.heap.size + 1, 1, none⟩) (Nat.le_succ _) _
theorem NBuf.set6 {w W : World} {base : Nat} {v0 : Value} {l : List Nat} (h : NBuf base W v0 l) (hb : w.heap.size + 1 < base) (o fl : Int) (v : Value) (e p : Int) :
    NBuf base ((((((W.setCell ⟨w.heap.size, 0, none⟩ (.int .i64 o)).setCell ⟨w.heap.size, 1, none⟩ (.bool false)).setCell ⟨w.heap.size, 2, none⟩ (.int .i64 fl)).setCell ⟨w.heap.size, 3, none⟩ v).setCell ⟨w.heap.size + 1, 0, none⟩ (.int .i64 e)).setCell ⟨w.heap.size + 1, 1, none⟩ (.int .i64 p)) v0 l :=
  (((((h.set (a := ⟨w.heap.size, 0, none⟩) (by simp only; omega) _).set (a := ⟨w.heap.size, 1, none⟩) (by simp only; omega) _).set (a := ⟨w.heap.size, 2, none⟩) (by simp only; omega) _).set (a := ⟨w.heap.size, 3, none⟩) (by simp only; omega) _).set (a := ⟨w.heap.size + 1, 0, none⟩) (by simp only; omega) _).set (a := ⟨w.heap.size + 1, 1, none⟩) (by simp only; omega) _
/-- what stays through the second loop: the map, the head with the values so far -/
structure MkL (w : World) (bf M h2 base : Nat) (op fl : Int) (k : Kd) (g : List UInt8 → Nat) (m : Nat) (W : World) : Prop where
  st : MkS w bf k W
  mp : ∃ n, UMap W M n g
  own : ∃ v, Blk W h2 #[.int .i64 op, .bool false, .int .i64 fl, v] 24 ∧ NBuf base W v ((ofMap k.fs g).take m)
  big : base ≤ W.heap.size
theorem MkL.later {w : World} {bf M h2 base : Nat} {op fl : Int} {k : Kd} {g : List UInt8 → Nat} {m : Nat} {W W' : World} (h : MkL w bf M h2 base op fl k g m W) (hb : Below W.heap.size W W') : MkL w bf M h2 base op fl k g m W' :=
  ⟨h.st.later hb, h.mp.imp fun _ hv => hv.later hb, h.own.imp fun _ hv => ⟨hv.1.later hb, hv.2.later hb⟩, Nat.le_trans h.big hb.size⟩
theorem mk_step {w : World} {bf M h2 base : Nat} {op fl : Int} {k : Kd} {g : List UInt8 → Nat} {m : Nat} {W W' : World} {v v' : Value} {L : List Nat} {x : Nat} (hN : NBuf base W v L) (hO : W'.ownsRow base 37 1 v' (L.length + 1) (numsV L ++ [.int .u64 (x : Int)]))
    (hg : W.grownBy W' v.ownBlock) (hK : Blk W h2 #[.int .i64 op, .bool false, .int .i64 fl, v] 24) (hL : MkL w bf M h2 base op fl k g m W) (h1 : h2 < base) (h3 : M < base) (h4 : bf < base) (h5 : w.heap.size + 2 ≤ h2) (h6 : bf ≠ h2) (h7 : M ≠ h2)
    (hvs : (ofMap k.fs g).take (m + 1) = L ++ [x]) : MkL w bf M h2 base op fl k g (m + 1) (W'.setCell ⟨h2, 3, none⟩ v') := by
  have hge : ∀ b, v.ownBlock = some b → base ≤ b := hN.ge
  have hN1 : NBuf base W' v' (L ++ [x]) := by
    unfold NBuf
    have e1 : (L ++ [x]).length = L.length + 1 := by simp
    have e2 : numsV (L ++ [x]) = numsV L ++ [.int .u64 (x : Int)] := by simp [numsV]
    rw [e1, e2]
    exact hO
  have hK1 := rd_kept hN hK hg h1
  obtain ⟨n, hU⟩ := hL.mp
  have hU1 : UMap W' M n g := hU.same (hg.block M hU.lt (fun e => by have := hge M e.symm; omega))
  refine ⟨(hL.st.grown hg (fun b hb => by have := hge b hb; omega)).grown (grownBy_setCell _ ⟨h2, 3, none⟩ _) (fun b hb => by have := Option.some.inj hb; simp only at this; omega), ⟨n, hU1.set (a := ⟨h2, 3, none⟩) h7 _⟩, ⟨v', ?_, ?_⟩, ?_⟩
  · have := hK1.set 3 v'
    simpa using this
  · rw [hvs]
    exact hN1.set (a := ⟨h2, 3, none⟩) h1 v'
  · have := hg.size
    have := hL.big
    simp; omega
set_option maxRecDepth 100000 in
set_option maxHeartbeats 4000000 in
theorem refMake_some (op fl : Int) (ns : List (List UInt8)) (vs : List Nat) (vn vv : Value) (k : Kd) (w : World) (hk : kindOf op = some k) (hfl : I64 fl) (hn : StrV w vn ns) (hv : Vals w vv vs) (hln : ns.length ≤ 60) (hlv : vs.length ≤ 60) :
    Calls Tryz.prog 17 #[.int .i64 op, .int .i64 fl, vn, vv] w (RetHF w (makeR op fl ns vs)) := by
  have F := kindFacts hk
  have hb0 := ((Below.refl w.heap.size w).alloc (Nat.le_refl _) (.cells #[.int .i64 0, .bool false, .int .i64 0, .slice none 0 0] 24)).alloc (by simp) (.cells #[.int .i64 0, .int .i64 0] 49)
  have hC0 := cell2_new (w.alloc (.cells #[.int .i64 0, .bool false, .int .i64 0, .slice none 0 0] 24))
  rw [World.size_alloc] at hC0
  have hH0 := (Blk.new w #[.int .i64 0, .bool false, .int .i64 0, .slice none 0 0] 24).alloc (.cells #[.int .i64 0, .int .i64 0] 49)
  have C := refKind_any op ((w.alloc (.cells #[.int .i64 0, .bool false, .int .i64 0, .slice none 0 0] 24)).alloc (.cells #[.int .i64 0, .int .i64 0] 49))
  rw [hk] at C
  have HC := Lib.hid C
  have Hb0 := Lib.hid hb0
  have HC0 := Lib.hid hC0
  have HH0 := Lib.hid hH0
  obtain ⟨pn, cn, rfl, hns⟩ := hn
  obtain ⟨pv, cv, rfl, hx64, hvs⟩ := hv
  have Hns := Lib.hid hns
  have Hvs := Lib.hid hvs
  have Hx := Lib.hid hx64
  have Hk := Lib.hid hk
  have HFl := Lib.hid hfl
  have HF := Lib.hid F
  have hl10 := F.len
  have hl1 := F.len0
  have hmm := @run_makeMap Tryz.prog
  clear hk hb0 C hC0 hH0 hns hvs hx64 hfl F
  go_enter Tryz.func17, Tryz.ntmps17
  go_wp2_with fail
  refine HC.out.mono ?_
  rintro e w1 ⟨bf, rfl, hF, hb⟩
  have hz : w.heap.size + 2 ≤ w1.heap.size := by have := hb.size; simp at this; omega
  have hfz : bf < w1.heap.size := Blk.lt hF
  have hS1 : MkS w bf k w1 := ⟨hF, HH0.out.later hb, HC0.out.later hb, below_then Hb0.out hb⟩
  have HS1 := Lib.hid (hS1.alloc (.map #[] 0))
  have HM1 := Lib.hid (UMap.made w1)
  clear hb hF hS1
  go_wp2_with fail
  clear hmm
  go_loopw [38] (fun i wr => ∃ j : Nat, j ≤ ns.length ∧ i = .int .i64 j ∧ ∃ g, fill k.fs ns vs (List.replicate k.fs.length 0) = fill k.fs (ns.drop j) (vs.drop j) (ofMap k.fs g) ∧ UMap wr w1.heap.size j g ∧ MkS w bf k wr) (fun i _ => ns.length - (intOf i).toNat)
  case atStart => exact ⟨0, by omega, rfl, fun _ => 0, by rw [ofMap_zero]; rfl, HM1.out, HS1.out⟩
  case round =>
    obtain ⟨j, hj, rfl, g, hfill, hM, hS⟩ := hrel
    have HMr := Lib.hid hM
    have HSr := Lib.hid hS
    have Hfill := Lib.hid hfill
    have ltM : w1.heap.size < wr.heap.size := hM.lt
    clear hM hS hfill
    by_cases hlt : j < ns.length
    · obtain ⟨bn, on, rfl, hnc⟩ := Hns.out (by omega)
      have hcn : wr.cell? ⟨bn, on + j, none⟩ = some (.string (S ns[j])) := (HSr.out.low.cell (block_lt_of_cell (hnc j hlt))).trans (hnc j hlt)
      obtain ⟨nm, hnm⟩ : ∃ x, ns[j] = x := ⟨_, rfl⟩
      rw [hnm] at hcn
      have Hnm := Lib.hid hnm
      clear hnc hnm
      obtain ⟨wo, rfl⟩ : ∃ wo : World, wo = wr := ⟨_, rfl⟩
      go_wp2_with fail
      go_loopw [17, 45] (fun b y wi => ∃ m : Nat, m ≤ k.fs.length ∧ y = .int .i64 m ∧ b = .bool (hasN (k.fs.take m) nm) ∧ Below wo.heap.size wo wi) (fun _ y _ => k.fs.length - (intOf y).toNat)
      case atStart => exact ⟨0, by omega, rfl, rfl, Below.refl _ _⟩
      case round =>
        obtain ⟨m, hm, rfl, rfl, hbw⟩ := hrel
        have Hbw := Lib.hid hbw
        by_cases hlm : m < k.fs.length
        · obtain ⟨q0, q1, q2⟩ := Flds.get (Blk.later HSr.out.fld hbw) m hlm
          have hsucc := hasN_succ k.fs nm m hlm
          obtain ⟨f, hf⟩ : ∃ f, k.fs[m] = f := ⟨_, rfl⟩
          rw [hf] at q0 q1 q2 hsucc
          have Hsucc := Lib.hid hsucc
          have Hba := Lib.hid (hbw.alloc hbw.size (.cells #[.string (S f.nm), .int .i64 (f.pos : Int), .int .i64 (f.sz : Int)] 45))
          clear hbw hf hsucc hcn
          obtain ⟨b, hb⟩ : ∃ b, hasN (k.fs.take m) nm = b := ⟨_, rfl⟩
          rw [hb] at Hsucc ⊢
          clear hb
          cases b with
          | true =>
            go_wp2_with fail
            go_roundw
            case rel => exact ⟨m + 1, by omega, by go_num, by rw [Hsucc.out]; rfl, Hba.out⟩
            case measure => simp [intOf]; omega
          | false =>
            go_wp2_with fail
            go_roundw
            case rel => exact ⟨m + 1, by omega, by go_num, by rw [Hsucc.out]; simp, Hba.out⟩
            case measure => simp [intOf]; omega
        · obtain rfl : m = k.fs.length := by omega
          rw [List.take_length]
          have HS2 := Lib.hid (HSr.out.later hbw)
          have HM2 := Lib.hid (HMr.out.later hbw)
          clear hbw hcn
          cases hi : idxName k.fs nm with
          | none =>
            have hfn := fill_none (vs := vs) (acc := ofMap k.fs g) hlt (by rw [Hnm.out]; exact hi)
            have hmk := makeR_some (fl := fl) ns vs Hk.out (Hfill.out.trans hfn)
            rw [hasN_none hi]
            clear hfn hi
            go_wp2_with fail
            refine (bareF 5 _).mono ?_
            rintro e w2 ⟨rfl, hb⟩
            have hS3 := HS2.out.later hb
            have HS3 := Lib.hid hS3
            obtain ⟨c0, c1⟩ := hS3.flt.cells
            have f0 := hS3.flt.frozen 0
            have f1 := hS3.flt.frozen 1
            obtain ⟨q0, q1, q2, q3⟩ := hS3.hd.four
            have g0 := hS3.hd.frozen 0
            have g1 := hS3.hd.frozen 1
            have g2 := hS3.hd.frozen 2
            have g3 := hS3.hd.frozen 3
            have HMk := Lib.hid hmk
            clear hb hS3 hmk
            go_wp2_with fail
            refine bodyPost_ret (v := .tuple #[headV hd0 (.slice none 0 0), .agg #[.int .i64 5, .int .i64 (-1)]]) (by simp [results, Tryz.results17, go_sem, headV, hd0, c0, c1, q0, q1, q2, q3]) rfl ?_
            rw [HMk.out, if_pos (by decide)]
            exact ⟨_, rfl, vals_nil _, (((((HS3.out.low.setCell (by simp) _).setCell (by simp) _).setCell (by simp) _).setCell (by simp) _).setCell (by simp) _).setCell (by simp) _⟩
          | some i =>
            rw [hasN_some hi]
            by_cases hjv : j < vs.length
            · obtain ⟨bv, ov, rfl, hvc⟩ := Hvs.out (by omega)
              have hcv : wr.cell? ⟨bv, ov + j, none⟩ = some (.int .u64 (vs[j] : Int)) := (HS2.out.low.cell (block_lt_of_cell (hvc j hjv))).trans (hvc j hjv)
              have hstep := fill_step (acc := ofMap k.fs g) hlt (by rw [Hnm.out]; exact hi) hjv
              have hset := ofMap_set HF.out.apart hi (g := g) vs[j]
              have hxj := Hx.out _ (List.getElem_mem hjv)
              obtain ⟨x, hxe⟩ : ∃ x, vs[j] = x := ⟨_, rfl⟩
              rw [hxe] at hcv hset hstep hxj
              rw [hset] at hstep
              have hnl : nm.length < 1000 := by
                have h1 := (HF.out.fok _ (List.getElem_mem (idxName_lt hi))).2.2.2.2.2.2
                rw [idxName_at hi] at h1
                omega
              obtain ⟨w2, hr, hM2, hG⟩ := HM2.out.put Tryz.underlying82 (by omega) nm hnl x hxj
              have HM3 := Lib.hid hM2
              have HS3 := Lib.hid (HS2.out.grown hG (fun b hb => by have := Option.some.inj hb; omega))
              have Hstep := Lib.hid (Hfill.out.trans hstep)
              have hjvi : (j : Int) < (vs.length : Int) := by omega
              have hj0 : (0 : Int) ≤ (j : Int) := by omega
              clear hvc hset hxj hxe hM2 hG hstep hi
              go_wp2_with fail
              go_roundw
              case rel => exact ⟨j + 1, by omega, by go_num, _, Hstep.out, HM3.out, HS3.out⟩
              case measure => simp [intOf]; omega
            · have hfn := fill_few (acc := ofMap k.fs g) hlt (by rw [Hnm.out]; exact hi) (Nat.le_of_not_lt hjv)
              have hmk := makeR_some (fl := fl) ns vs Hk.out (Hfill.out.trans hfn)
              have hjvi : (vs.length : Int) ≤ (j : Int) := by omega
              clear hfn hi hjv
              go_wp2_with fail
              refine (bareF 7 _).mono ?_
              rintro e w2 ⟨rfl, hb⟩
              have hS3 := HS2.out.later hb
              have HS3 := Lib.hid hS3
              obtain ⟨c0, c1⟩ := hS3.flt.cells
              have f0 := hS3.flt.frozen 0
              have f1 := hS3.flt.frozen 1
              obtain ⟨q0, q1, q2, q3⟩ := hS3.hd.four
              have g0 := hS3.hd.frozen 0
              have g1 := hS3.hd.frozen 1
              have g2 := hS3.hd.frozen 2
              have g3 := hS3.hd.frozen 3
              have HMk := Lib.hid hmk
              clear hb hS3 hmk
              go_wp2_with fail
              refine bodyPost_ret (v := .tuple #[headV hd0 (.slice none 0 0), .agg #[.int .i64 7, .int .i64 (-1)]]) (by simp [results, Tryz.results17, go_sem, headV, hd0, c0, c1, q0, q1, q2, q3]) rfl ?_
              rw [HMk.out, if_pos (by decide)]
              exact ⟨_, rfl, vals_nil _, (((((HS3.out.low.setCell (by simp) _).setCell (by simp) _).setCell (by simp) _).setCell (by simp) _).setCell (by simp) _).setCell (by simp) _⟩
    · obtain rfl : j = ns.length := by omega
      have hfe := Hfill.out.trans (fill_end (fs := k.fs) (ns := ns) (vs := vs) (acc := ofMap k.fs g) (Nat.le_refl _))
      have HMk := Lib.hid (makeR_some (fl := fl) ns vs Hk.out hfe)
      have hgl : ∀ l, g l < 2 ^ 64 := by obtain ⟨D, _, h, _⟩ := HMr.out; exact h
      have Hgl := Lib.hid hgl
      have hK2 := Blk.new wr #[.int .i64 op, .bool false, .int .i64 fl, .slice none 0 0] 24
      have HL0 := Lib.hid (show MkL w bf w1.heap.size wr.heap.size (wr.heap.size + 1) op fl k g 0 (wr.alloc (.cells #[.int .i64 op, .bool false, .int .i64 fl, .slice none 0 0] 24)) from ⟨HSr.out.alloc _, ⟨_, HMr.out.alloc _⟩, ⟨_, hK2, NBuf.nil _ _⟩, by simp⟩)
      have hMz : w.heap.size + 2 ≤ w1.heap.size := hz
      obtain ⟨wo, rfl⟩ : ∃ wo : World, wo = wr := ⟨_, rfl⟩
      clear hfe hgl hK2
      go_wp2_with fail
      go_loopw [79] (fun y wi => ∃ m : Nat, m ≤ k.fs.length ∧ y = .int .i64 m ∧ MkL w bf w1.heap.size wo.heap.size (wo.heap.size + 1) op fl k g m wi) (fun y _ => k.fs.length - (intOf y).toNat)
      case atStart => exact ⟨0, by omega, rfl, HL0.out⟩
      case round =>
        obtain ⟨m, hm, rfl, hL⟩ := hrel
        have HL := Lib.hid hL
        clear hL
        by_cases hlm : m < k.fs.length
        · obtain ⟨q0, q1, q2⟩ := Flds.get HL.out.st.fld m hlm
          have hsucc := ofMap_succ k.fs g m hlm
          obtain ⟨f, hf⟩ : ∃ f, k.fs[m] = f := ⟨_, rfl⟩
          have hfl50 : f.nm.length < 1000 := by
            have h1 := (HF.out.fok f (by rw [← hf]; exact List.getElem_mem hlm)).2.2.2.2.2.2
            omega
          rw [hf] at q0 q1 q2 hsucc
          have hbx := (Below.refl wr.heap.size wr).alloc (Nat.le_refl _) (.cells #[.string (S f.nm), .int .i64 (f.pos : Int), .int .i64 (f.sz : Int)] 45)
          have HLb := Lib.hid (HL.out.later hbx)
          obtain ⟨x0, x1, x2⟩ := (Blk.new wr #[.string (S f.nm), .int .i64 (f.pos : Int), .int .i64 (f.sz : Int)] 45).three
          have hsz : wr.heap.size + 1 = (wr.alloc (.cells #[.string (S f.nm), .int .i64 (f.pos : Int), .int .i64 (f.sz : Int)] 45)).heap.size := by simp
          clear hf hbx
          go_upto_region 24 with (fail)
          generalize wr.alloc (.cells #[.string (S f.nm), .int .i64 (f.pos : Int), .int .i64 (f.sz : Int)] 45) = wb at HLb x0 x1 x2 hsz ⊢
          have hzb : wr.heap.size < wb.heap.size := by omega
          clear hsz q0 q1 q2
          obtain ⟨L, hL⟩ : ∃ L, (ofMap k.fs g).take m = L := ⟨_, rfl⟩
          have hLl : L.length ≤ 10 := by rw [← hL]; simp; omega
          obtain ⟨nn, hU⟩ := HLb.out.mp
          have hlook := hU.look Tryz.underlying82 f.nm hfl50
          obtain ⟨vo, hK, hN⟩ := HLb.out.own
          rw [hL] at hN hsucc
          obtain ⟨po, co, rfl⟩ := hN.form
          obtain ⟨c0, c1, c2, c3⟩ := hK.four
          obtain ⟨x, hx⟩ : ∃ x, g f.nm = x := ⟨_, rfl⟩
          rw [hx] at hlook hsucc
          have Hsucc := Lib.hid hsucc
          have hbig := HLb.out.big
          have hbz : wo.heap.size < wb.heap.size := by omega
          obtain ⟨HA1, HA2, HA3, HA4, HA5⟩ := app_sides x wb L.length (wo.heap.size + 1) hLl hbig
          obtain ⟨i0, hi, hz0, hz1, hz2⟩ := infoU
          have HK := Lib.hid (hK.alloc (.cells #[.int .u64 (x : Int)] 37))
          have HN := Lib.hid (hN.alloc (.cells #[.int .u64 (x : Int)] 37))
          have HLa := Lib.hid (HLb.out.later ((Below.refl _ _).alloc (Nat.le_refl _) (.cells #[.int .u64 (x : Int)] 37)))
          have HN' := Lib.hid (show World.ownsRow _ (wo.heap.size + 1) 37 1 (.slice po L.length co) L.length (numsV L) from HN.out)
          clear hU hK hN hL hsucc hx hbig
          go_wp2_with (at_builtin; refine wpList_append_own _ rfl _ _ 22 rfl (wo.heap.size + 1) 37 i0 (.int .u64 0) 1 8 Tryz.underlying22 hi hz0 hz1 hz2 rfl (by decide) (.slice po L.length co) L.length (numsV L) rfl HN'.out ⟨wb.heap.size, 0, none⟩ 1 1 [.int .u64 (x : Int)] rfl rfl HA1.out HA2.out HA3.out HA4.out HA5.out ?_)
          intro v' wa hown hgrow hnil
          obtain ⟨p', c', rfl⟩ := own_form hown
          have hKa := rd_kept HN.out HK.out hgrow (by omega)
          obtain ⟨d0, d1, d2, d3⟩ := hKa.four
          have e3f := hKa.frozen 3
          have hza := hKa.lt
          have HLf := Lib.hid (mk_step HN.out hown hgrow HK.out HLa.out (by omega) (by omega) (by omega) (by omega) (by omega) (by omega) Hsucc.out)
          clear hKa hown hgrow hnil c0 c1 c2 c3 hlook x0 x1 x2
          go_wp2_with fail
          go_roundw
          case rel => exact ⟨m + 1, by omega, by go_num, HLf.out⟩
          case measure => simp [intOf]; omega
        · obtain rfl : m = k.fs.length := by omega
          obtain ⟨vo, hK, hN⟩ := HL.out.own
          have hall : (ofMap k.fs g).take k.fs.length = ofMap k.fs g := List.take_of_length_le (by simp [ofMap])
          rw [hall] at hN
          have hgx : ∀ x ∈ ofMap k.fs g, x < 2 ^ 64 := fun x hx => by
            obtain ⟨f, _, rfl⟩ := List.mem_map.1 hx
            exact Hgl.out _
          have hV : Vals wr vo (ofMap k.fs g) := hN.vals hgx
          have hglen : (ofMap k.fs g).length = k.fs.length := by simp [ofMap]
          have C2 := refRight_any ⟨op, false, fl, ofMap k.fs g⟩ vo wr HFl.out hV (by simp only [hglen]; omega)
          obtain ⟨po, co, rfl⟩ := hN.form
          obtain ⟨⟨r1, r2⟩, hr⟩ : ∃ r, rightR ⟨op, false, fl, ofMap k.fs g⟩ = r := ⟨_, rfl⟩
          rw [hr] at C2
          have hmk := HMk.out
          rw [hr, if_neg (by decide)] at hmk
          have HMk2 := Lib.hid hmk
          have HC2 := Lib.hid (show Calls Tryz.prog 16 #[.agg #[.int .i64 op, .bool false, .int .i64 fl, .slice po (ofMap k.fs g).length co]] wr (fun e w' => e = .returned (.agg #[.int .i64 r1, .int .i64 r2]) ∧ Below wr.heap.size wr w') from C2)
          have HN0 := Lib.hid hN
          have HGx := Lib.hid (show ∀ x ∈ ofMap k.fs g, x < 2 ^ 64 from hgx)
          obtain ⟨c0, c1, c2, c3⟩ := hK.four
          have HK := Lib.hid hK
          have hzw : w.heap.size + 2 ≤ wo.heap.size := by omega
          have hzr : wo.heap.size < wr.heap.size := hK.lt
          clear hN hV hgx hall hglen C2 hr hmk hK
          go_wp2_with fail
          refine HC2.out.mono ?_
          rintro e w2 ⟨rfl, hb⟩
          have hbn := (Below.refl w2.heap.size w2).alloc (Nat.le_refl _) (.cells #[.int .i64 r1, .int .i64 r2] 49)
          have hT : Cell2 (w2.alloc (.cells #[.int .i64 r1, .int .i64 r2] 49)) w2.heap.size r1 r2 := heap_alloc_new w2 _
          have HT := Lib.hid hT
          have HS2 := Lib.hid ((HL.out.st.later hb).later hbn)
          have HK2 := Lib.hid ((HK.out.later hb).later hbn)
          have HV2 := Lib.hid ((HN0.out.later hb).later hbn)
          have hz2 : wr.heap.size ≤ w2.heap.size := hb.size
          clear hb hbn hT c0 c1 c2 c3
          go_wp2_with fail
          by_cases h0 : r1 = 0
          · subst h0
            refine (isF_good _ _).mono ?_
            rintro e w3 ⟨rfl, hb⟩
            have HS3 := Lib.hid (HS2.out.later hb)
            have HK3 := Lib.hid (HK2.out.later hb)
            have HV3 := Lib.hid (HV2.out.later hb)
            clear hb
            obtain ⟨k0, k1, k2, k3⟩ := HK3.out.four
            obtain ⟨q0, q1, q2, q3⟩ := HS3.out.hd.four
            obtain ⟨d0, d1⟩ := HS3.out.flt.cells
            have f0 := HS3.out.flt.frozen 0
            have f1 := HS3.out.flt.frozen 1
            have g0 := HS3.out.hd.frozen 0
            have g1 := HS3.out.hd.frozen 1
            have g2 := HS3.out.hd.frozen 2
            have g3 := HS3.out.hd.frozen 3
            go_wp2_with fail
            go_region_with ((with_reducible refine (goodF _).mono ?_); rintro e w4 ⟨rfl, hb4⟩; have hS4 := HS3.out.later (show Below w3.heap.size w3 w4 from ⟨hb4.os, hb4.tape, hb4.output, hb4.size, hb4.block⟩); have hK4 := HK3.out.later (show Below w3.heap.size w3 w4 from ⟨hb4.os, hb4.tape, hb4.output, hb4.size, hb4.block⟩); have hV4 := HV3.out.later (show Below w3.heap.size w3 w4 from ⟨hb4.os, hb4.tape, hb4.output, hb4.size, hb4.block⟩); have HS4 := Lib.hid hS4; have HV4 := Lib.hid hV4; obtain ⟨l0, l1, l2, l3⟩ := hK4.four; obtain ⟨n0, n1, n2, n3⟩ := hS4.hd.four; obtain ⟨z0, z1⟩ := hS4.flt.cells; have v0 := hS4.flt.frozen 0; have v1 := hS4.flt.frozen 1; have u0 := hS4.hd.frozen 0; have u1 := hS4.hd.frozen 1; have u2 := hS4.hd.frozen 2; have u3 := hS4.hd.frozen 3; clear hS4 hK4 hV4 hb4)
            all_goals
              obtain ⟨E1, E2, E3⟩ := mk_end HS4.out op fl (.slice po (ofMap k.fs g).length co) 0 (-1)
              have E4 := (HV4.out.set6 (w := w) (by omega) op fl (.slice po (ofMap k.fs g).length co) 0 (-1)).vals HGx.out
              generalize ((((((w4.setCell ⟨w.heap.size, 0, none⟩ (.int .i64 op)).setCell ⟨w.heap.size, 1, none⟩ (.bool false)).setCell ⟨w.heap.size, 2, none⟩ (.int .i64 fl)).setCell ⟨w.heap.size, 3, none⟩ (.slice po (ofMap k.fs g).length co)).setCell ⟨w.heap.size + 1, 0, none⟩ (.int .i64 0)).setCell ⟨w.heap.size + 1, 1, none⟩ (.int .i64 (-1))) = wz at E1 E2 E3 E4 ⊢
              obtain ⟨y0, y1, y2, y3⟩ := E1.four
              obtain ⟨y4, y5⟩ := E2.two
              have H3 := Lib.hid E3
              have H4 := Lib.hid E4
              clear E1 E2 E3 E4 l0 l1 l2 l3 n0 n1 n2 n3 z0 z1 v0 v1 u0 u1 u2 u3 k0 k1 k2 k3 q0 q1 q2 q3 d0 d1 f0 f1 g0 g1 g2 g3
              go_wp2_with fail
              refine bodyPost_ret (v := .tuple #[headV ⟨op, false, fl, ofMap k.fs g⟩ (.slice po (ofMap k.fs g).length co), .agg #[.int .i64 0, .int .i64 (-1)]]) (by simp [results, Tryz.results17, go_sem, headV, y0, y1, y2, y3, y4, y5]) rfl ?_
              rw [HMk2.out, if_neg (by decide)]
              exact ⟨_, rfl, H4.out, H3.out⟩
          · refine (isF_bad _ _ _ h0).mono ?_
            rintro e w3 ⟨rfl, hb⟩
            have HS3 := Lib.hid (HS2.out.later hb)
            obtain ⟨t0, t1⟩ := (HT.out.later hb).cells
            clear hb
            obtain ⟨q0, q1, q2, q3⟩ := HS3.out.hd.four
            obtain ⟨d0, d1⟩ := HS3.out.flt.cells
            have f0 := HS3.out.flt.frozen 0
            have f1 := HS3.out.flt.frozen 1
            have g0 := HS3.out.hd.frozen 0
            have g1 := HS3.out.hd.frozen 1
            have g2 := HS3.out.hd.frozen 2
            have g3 := HS3.out.hd.frozen 3
            go_wp2_with fail
            go_region
            obtain ⟨E1, E2, E3⟩ := mk_end HS3.out 0 0 (.slice none 0 0) r1 r2
            have E3' := E3.drew
            have E1' := Blk.drew E1
            have E2' := Blk.drew E2
            generalize ((((((w3.setCell ⟨w.heap.size, 0, none⟩ (.int .i64 0)).setCell ⟨w.heap.size, 1, none⟩ (.bool false)).setCell ⟨w.heap.size, 2, none⟩ (.int .i64 0)).setCell ⟨w.heap.size, 3, none⟩ (.slice none 0 0)).setCell ⟨w.heap.size + 1, 0, none⟩ (.int .i64 r1)).setCell ⟨w.heap.size + 1, 1, none⟩ (.int .i64 r2)).drew = wz at E1' E2' E3' ⊢
            obtain ⟨y0, y1, y2, y3⟩ := E1'.four
            obtain ⟨y4, y5⟩ := E2'.two
            have H3 := Lib.hid E3'
            clear E1 E2 E3 E1' E2' E3' q0 q1 q2 q3 d0 d1 f0 f1 g0 g1 g2 g3 t0 t1
            go_wp2_with fail
            refine bodyPost_ret (v := .tuple #[headV hd0 (.slice none 0 0), .agg #[.int .i64 r1, .int .i64 r2]]) (by simp [results, Tryz.results17, go_sem, headV, hd0, y0, y1, y2, y3, y4, y5]) rfl ?_
            rw [HMk2.out, if_pos h0]
            exact ⟨_, rfl, vals_nil _, H3.out⟩
theorem refMake_any (op fl : Int) (ns : List (List UInt8)) (vs : List Nat) (vn vv : Value) (w : World) (hfl : I64 fl) (hn : StrV w vn ns) (hv : Vals w vv vs) (hln : ns.length ≤ 60) (hlv : vs.length ≤ 60) :
    Calls Tryz.prog 17 #[.int .i64 op, .int .i64 fl, vn, vv] w (RetHF w (makeR op fl ns vs)) := by
  cases hk : kindOf op with
  | none =>
    have e : makeR op fl ns vs = (hd0, 1, -1) := by unfold makeR; rw [hk]
    rw [e]
    exact refMake_none op fl vn vv w hk
  | some k => exact refMake_some op fl ns vs vn vv k w hk hfl hn hv hln hlv
end Go.Proofs.YtffdlchoaaakdaaGreatDoor
