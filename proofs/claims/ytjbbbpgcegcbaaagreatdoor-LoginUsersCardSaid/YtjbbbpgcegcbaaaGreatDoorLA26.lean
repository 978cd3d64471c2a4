/- LA26: several texts in one. -/
import Derived.LoopN
import Derived.Test.YtjbbbpgcegcbaaaGreatDoorLA08
import Derived.Test.YtjbbbpgcegcbaaaGreatDoorLA15
import Derived.Test.YtjbbbpgcegcbaaaGreatDoorLA21
namespace Go.Proofs.YtjbbbpgcegcbaaaGreatDoor
open Go Go.RowKit Go.Shelf Go.Maps
attribute [local go_sem] Oper.semAt_some
theorem seq_world (w : World) (s : List UInt8) : ∃ W0, ((w.alloc (.cells #[.string (S s)] 9)).alloc (.cells #[.string (S [44])] 9)).alloc (.cells #[.int .i64 0] 3) = W0 ∧ W0.heap.size = w.heap.size + 3 ∧ Below w.heap.size w W0 ∧ Blk W0 w.heap.size #[.string (S s)] 9 ∧ Blk W0 (w.heap.size + 1) #[.string (S [44])] 9 ∧ Blk W0 (w.heap.size + 2) #[.int .i64 0] 3 := by
 have f0 := ((Blk.new w #[.string (S s)] 9).alloc (.cells #[.string (S [44])] 9)).alloc (.cells #[.int .i64 0] 3)
 have f1 := (Blk.new (w.alloc (.cells #[.string (S s)] 9)) #[.string (S [44])] 9).alloc (.cells #[.int .i64 0] 3)
 have f2 := Blk.new ((w.alloc (.cells #[.string (S s)] 9)).alloc (.cells #[.string (S [44])] 9)) #[.int .i64 0] 3
 simp only [World.size_alloc] at f1 f2
 exact ⟨_, rfl, by simp, (((Below.refl _ w).alloc (Nat.le_refl _) _).alloc (by simp) _).alloc (by simp; omega) _, f0, f1, f2⟩
theorem first_world (w : World) (s : List UInt8) : ∃ W0, (((((((w.alloc (.cells #[.string (S [])] 9)).alloc (.cells #[.nilIface] 43)).alloc (.map #[] 0)).alloc (.cells #[.map (some (w.heap.size + 1 + 1))] 244)).alloc (.cells #[.string (S s)] 9)).alloc (.cells #[.string (S [44])] 9)).alloc (.cells #[.int .i64 0] 3)) = W0 ∧ W0.heap.size = w.heap.size + 7 ∧ Below w.heap.size w W0 ∧ Blk W0 (w.heap.size) #[.string (S [])] 9 ∧ Blk W0 (w.heap.size + 1) #[.nilIface] 43 ∧ BMap 9 W0 (w.heap.size + 1 + 1) 0 (fun _ => False) ∧ Blk W0 (w.heap.size + 1 + 1 + 1) #[.map (some (w.heap.size + 1 + 1))] 244 ∧ Blk W0 (w.heap.size + 1 + 1 + 1 + 1) #[.string (S s)] 9 ∧ Blk W0 (w.heap.size + 1 + 1 + 1 + 1 + 1) #[.string (S [44])] 9 ∧ Blk W0 (w.heap.size + 1 + 1 + 1 + 1 + 1 + 1) #[.int .i64 0] 3 := by
 obtain ⟨w1, h1⟩ : ∃ w1, w.alloc (.cells #[.string (S [])] 9) = w1 := ⟨_, rfl⟩
 have z1 : w1.heap.size = w.heap.size + 1 := by rw [← h1, World.size_alloc]
 have b1 : Below w.heap.size w w1 := by rw [← h1]; exact (Below.refl _ w).alloc (by omega) _
 have f0_1 : Blk w1 (w.heap.size) #[.string (S [])] 9 := by have := Blk.new w #[.string (S [])] 9; rw [h1] at this; exact this
 obtain ⟨w2, h2⟩ : ∃ w2, w1.alloc (.cells #[.nilIface] 43) = w2 := ⟨_, rfl⟩
 have z2 : w2.heap.size = w.heap.size + 1 + 1 := by rw [← h2, World.size_alloc, z1]
 have b2 : Below w.heap.size w w2 := by rw [← h2]; exact (b1).alloc (by omega) _
 have f1_2 : Blk w2 (w.heap.size + 1) #[.nilIface] 43 := by have := Blk.new w1 #[.nilIface] 43; rw [h2, z1] at this; exact this
 have f0_2 := f0_1.alloc (.cells #[.nilIface] 43)
 rw [h2] at f0_2
 obtain ⟨w3, h3⟩ : ∃ w3, w2.alloc (.map #[] 0) = w3 := ⟨_, rfl⟩
 have z3 : w3.heap.size = w.heap.size + 1 + 1 + 1 := by rw [← h3, World.size_alloc, z2]
 have b3 : Below w.heap.size w w3 := by rw [← h3]; exact (b2).alloc (by omega) _
 have f2_3 : BMap 9 w3 (w.heap.size + 1 + 1) 0 (fun _ => False) := by have := BMap.made 9 w2; rw [h3, z2] at this; exact this
 have f0_3 := f0_2.alloc (.map #[] 0)
 rw [h3] at f0_3
 have f1_3 := f1_2.alloc (.map #[] 0)
 rw [h3] at f1_3
 obtain ⟨w4, h4⟩ : ∃ w4, w3.alloc (.cells #[.map (some (w.heap.size + 1 + 1))] 244) = w4 := ⟨_, rfl⟩
 have z4 : w4.heap.size = w.heap.size + 1 + 1 + 1 + 1 := by rw [← h4, World.size_alloc, z3]
 have b4 : Below w.heap.size w w4 := by rw [← h4]; exact (b3).alloc (by omega) _
 have f3_4 : Blk w4 (w.heap.size + 1 + 1 + 1) #[.map (some (w.heap.size + 1 + 1))] 244 := by have := Blk.new w3 #[.map (some (w.heap.size + 1 + 1))] 244; rw [h4, z3] at this; exact this
 have f0_4 := f0_3.alloc (.cells #[.map (some (w.heap.size + 1 + 1))] 244)
 rw [h4] at f0_4
 have f1_4 := f1_3.alloc (.cells #[.map (some (w.heap.size + 1 + 1))] 244)
 rw [h4] at f1_4
 have f2_4 := f2_3.alloc (.cells #[.map (some (w.heap.size + 1 + 1))] 244)
 rw [h4] at f2_4
 obtain ⟨w5, h5⟩ : ∃ w5, w4.alloc (.cells #[.string (S s)] 9) = w5 := ⟨_, rfl⟩
 have z5 : w5.heap.size = w.heap.size + 1 + 1 + 1 + 1 + 1 := by rw [← h5, World.size_alloc, z4]
 have b5 : Below w.heap.size w w5 := by rw [← h5]; exact (b4).alloc (by omega) _
 have f4_5 : Blk w5 (w.heap.size + 1 + 1 + 1 + 1) #[.string (S s)] 9 := by have := Blk.new w4 #[.string (S s)] 9; rw [h5, z4] at this; exact this
 have f0_5 := f0_4.alloc (.cells #[.string (S s)] 9)
 rw [h5] at f0_5
 have f1_5 := f1_4.alloc (.cells #[.string (S s)] 9)
 rw [h5] at f1_5
 have f2_5 := f2_4.alloc (.cells #[.string (S s)] 9)
 rw [h5] at f2_5
 have f3_5 := f3_4.alloc (.cells #[.string (S s)] 9)
 rw [h5] at f3_5
 obtain ⟨w6, h6⟩ : ∃ w6, w5.alloc (.cells #[.string (S [44])] 9) = w6 := ⟨_, rfl⟩
 have z6 : w6.heap.size = w.heap.size + 1 + 1 + 1 + 1 + 1 + 1 := by rw [← h6, World.size_alloc, z5]
 have b6 : Below w.heap.size w w6 := by rw [← h6]; exact (b5).alloc (by omega) _
 have f5_6 : Blk w6 (w.heap.size + 1 + 1 + 1 + 1 + 1) #[.string (S [44])] 9 := by have := Blk.new w5 #[.string (S [44])] 9; rw [h6, z5] at this; exact this
 have f0_6 := f0_5.alloc (.cells #[.string (S [44])] 9)
 rw [h6] at f0_6
 have f1_6 := f1_5.alloc (.cells #[.string (S [44])] 9)
 rw [h6] at f1_6
 have f2_6 := f2_5.alloc (.cells #[.string (S [44])] 9)
 rw [h6] at f2_6
 have f3_6 := f3_5.alloc (.cells #[.string (S [44])] 9)
 rw [h6] at f3_6
 have f4_6 := f4_5.alloc (.cells #[.string (S [44])] 9)
 rw [h6] at f4_6
 obtain ⟨w7, h7⟩ : ∃ w7, w6.alloc (.cells #[.int .i64 0] 3) = w7 := ⟨_, rfl⟩
 have z7 : w7.heap.size = w.heap.size + 1 + 1 + 1 + 1 + 1 + 1 + 1 := by rw [← h7, World.size_alloc, z6]
 have b7 : Below w.heap.size w w7 := by rw [← h7]; exact (b6).alloc (by omega) _
 have f6_7 : Blk w7 (w.heap.size + 1 + 1 + 1 + 1 + 1 + 1) #[.int .i64 0] 3 := by have := Blk.new w6 #[.int .i64 0] 3; rw [h7, z6] at this; exact this
 have f0_7 := f0_6.alloc (.cells #[.int .i64 0] 3)
 rw [h7] at f0_7
 have f1_7 := f1_6.alloc (.cells #[.int .i64 0] 3)
 rw [h7] at f1_7
 have f2_7 := f2_6.alloc (.cells #[.int .i64 0] 3)
 rw [h7] at f2_7
 have f3_7 := f3_6.alloc (.cells #[.int .i64 0] 3)
 rw [h7] at f3_7
 have f4_7 := f4_6.alloc (.cells #[.int .i64 0] 3)
 rw [h7] at f4_7
 have f5_7 := f5_6.alloc (.cells #[.int .i64 0] 3)
 rw [h7] at f5_7
 exact ⟨w7, by rw [h1, h2, h3, h4, h5, h6, h7], by omega, b7, f0_7, f1_7, f2_7, f3_7, f4_7, f5_7, f6_7⟩
def RetSN (w : World) (r : List UInt8 × Nat) (e : Ending) (w' : World) : Prop := e = .returned (.tuple #[.string (S r.1), errV (r.2 : Int)]) ∧ Below w.heap.size w w'
def firstN (r : Option (List UInt8)) : List UInt8 × Nat := match r with | some x => (x, 0) | none => ([], 8)
theorem find_prefix {q : List (List UInt8)} {y : List UInt8} {l m : List (List UInt8)} (hp : q ++ [y] <+: l) (hq : ∀ z ∈ q, z ∉ m) (hy : y ∈ m) : l.find? (fun x => decide (x ∈ m)) = some y := by
 obtain ⟨r, hr⟩ := hp
 rw [← hr, List.append_assoc, List.find?_append, List.find?_eq_none.2 (fun x hx => by simpa using hq x hx)]
 simp [hy]
set_option maxRecDepth 100000 in
set_option maxHeartbeats 2000000 in
theorem first_in (a s : List UInt8) (w : World) (hla : a.length ≤ 1000) (hl : s.length ≤ 1000) (hm : MaxCell w) :
  CallsIn Fence.wide 6 Tryz.prog 155 #[.string (S a), .string (S s)] w (RetSN w (firstN (firstR a s))) := by
 have hmm := @run_makeMap Tryz.prog
 refine callsIn_of_wp_marks Tryz.func155 rfl trivial ?_ rfl
 simp only [Tryz.ntmps155, List.size_toArray, List.length_cons, List.length_nil, Nat.reduceAdd, Nat.reduceSub, Array.replicate_succ, Array.replicate_zero, List.push_toArray, List.append_toArray, List.nil_append, List.cons_append]
 gi_wp2_with fail
 refine ⟨trivial, (callsIn_wide.2 (splitSeq_any 44 s _)).mono ?_⟩
 rintro e w' ⟨rfl, rfl⟩
 unfold seqV
 simp only [World.size_alloc]
 clear hmm
 obtain ⟨W0, hW0, hsz, hB0, b0, b1, bM, bP, s0, s1, s2⟩ := first_world w s
 gi_wp2_with fail
 rw [hW0]
 clear hW0
 have hm0 := hm.later hB0
 have hg := hm.lt
 have hsplit := split1_sum 44 s.length s (Nat.le_refl _)
 have hsplita := split1_sum 44 a.length a (Nat.le_refl _)
 refine wpIn_rangeFunc_cell rfl (by decide) (gf := 192) rfl trivial (enters_of Tryz.func192 (by kernel_rfl) rfl)
  (splitSeq_stops 5 (by decide) w.heap.size (w.heap.size + 4) 44 s (by omega) W0 s0 s1 s2 hm0 hg (by omega)) (by omega) (by omega) (fun _ => rfl)
  (fun pre W => (Blk W w.heap.size #[.string (S [])] 9 ∧ Blk W (w.heap.size + 1) #[.nilIface] 43 ∧ Blk W (w.heap.size + 1 + 1 + 1) #[.map (some (w.heap.size + 1 + 1))] 244 ∧ BMap 9 W (w.heap.size + 1 + 1) pre.length (fun x => ∃ y ∈ pre, x = .string y)) ∧ w.heap.size + 7 ≤ W.heap.size ∧ Below w.heap.size w W)
  (fun _ _ _ => False)
  (by
   rintro pre W W' ⟨⟨h2, h3, h4, h5⟩, hz, h7⟩ hk
   exact ⟨⟨h2.off hk (by omega), h3.off hk (by omega), h4.off hk (by omega), h5.off hk (by omega) (by omega)⟩, Nat.le_trans hz hk.size, abOff_below (β := Unit) (by omega) (by omega) (Nat.le_refl _) () W W' h7 hk⟩)
  (fun _ _ _ _ h _ => h)
  ⟨⟨b0, b1, bP, bM.as (fun x => by simp)⟩, by omega, hB0⟩
  (fun x => { tmps := #[.string (S a), .string (S s), undef, undef, .pointer (some ⟨w.heap.size, 0, none⟩), .pointer (some ⟨w.heap.size + 1, 0, none⟩), .pointer (some ⟨w.heap.size + 1 + 1 + 1, 0, none⟩), .string (S x), undef, .map (some (w.heap.size + 1 + 1)), .string (S s), seqV (w.heap.size + 4), .string (S x), undef, undef, undef, undef, undef, undef, undef, undef, undef, undef], defers := [] })
  ?assign ?body ?done ?stop
 case assign =>
  intro l x W K hK
  gi_wp2
  exact hK
 case stop =>
  rintro D c pre W hD hp h hK
  exact h.elim
 case body =>
  rintro l pre x W ⟨⟨b0, b1, bP, bM⟩, hz, hB⟩ hpx
  have hpl := hpx.length_le
  rw [List.length_append, List.length_singleton] at hpl
  have hxl : x.length ≤ 1000 := Nat.le_trans (hsplit.1 x (hpx.subset (by simp))) hl
  have hkx := keyW x (by omega)
  have cP := bP.one
  obtain ⟨wm, hrun, bM', hgm⟩ := bM.put keyedS Tryz.underlying244 (by omega) hkx (by trivial)
  have hgmr : ∀ j, some (w.heap.size + 1 + 1) = some j → w.heap.size + 1 + 1 = j := fun j e => Option.some.inj e
  have b0m := b0.grown hgm (fun k e => by have := hgmr k e; omega)
  have b1m := b1.grown hgm (fun k e => by have := hgmr k e; omega)
  have bPm := bP.grown hgm (fun k e => by have := hgmr k e; omega)
  have K1 : KeptIn w.heap.size (w.heap.size + 4) (w.heap.size + 4 + 3) W wm := (KeptIn.refl _ _ _ _).grown hgm (by omega) (by omega) (fun k e => by have := hgmr k e; omega)
  have F1 : KeepsFrom W0.heap.size W wm := KeepsFrom.of_grownBy hgm (fun j e => by have := hgmr j e; omega)
  have B1 := hB.grown hgm hB.size (fun k e => by have := hgmr k e; omega)
  gi_wp2_with (gi_at_mapUpdate; refine wpListIn_mapUpdate_b rfl _ _ _ _ rfl wm hrun ?_)
  refine ⟨F1, K1, ⟨b0m, b1m, bPm, ?_⟩, Nat.le_trans hz hgm.size, B1⟩
  rw [List.length_append]
  exact bM'.as (fun y => ⟨fun h => by
   rcases h with rfl | ⟨z, hz, rfl⟩
   ·exact ⟨x, by simp, rfl⟩
   ·exact ⟨z, List.mem_append_left _ hz, rfl⟩, fun ⟨z, hz, e⟩ => by
   rcases List.mem_append.1 hz with hz | hz
   ·exact .inr ⟨z, hz, e⟩
   ·rw [List.mem_singleton.1 hz] at e; exact .inl e⟩)
 case done =>
  rintro D xs W hD rfl ⟨⟨b0, b1, bP, bM⟩, hz, hB⟩ hK
  have hDW : D < W.heap.size := (Array.getElem?_eq_some_iff.1 hK).1
  gi_wp2_with fail
  refine ⟨trivial, (callsIn_wide.2 (splitSeq_any 44 a _)).mono ?_⟩
  rintro e w' ⟨rfl, rfl⟩
  unfold seqV
  obtain ⟨W1, hW1, hsz1, hB1, t0, t1, t2⟩ := seq_world W a
  gi_wp2_with fail
  clear hW1
  have hb1' : Below w.heap.size w W1 := below_then hB hB1
  have hm1 := hm.later hb1'
  have hKl : W1.heap[D]? = some (.deferred (some [])) := (hB1.block D hDW).trans hK
  refine wpIn_rangeFunc_cell rfl (by decide) (gf := 192) rfl trivial (enters_of Tryz.func192 (by kernel_rfl) rfl)
   (splitSeq_stops 5 (by decide) w.heap.size W.heap.size 44 a (by omega) W1 t0 t1 t2 hm1 hg (by omega)) (by omega) (by omega) (fun _ => rfl)
   (fun pre V => (Blk V w.heap.size #[.string (S [])] 9 ∧ Blk V (w.heap.size + 1) #[.nilIface] 43 ∧ Blk V (w.heap.size + 1 + 1 + 1) #[.map (some (w.heap.size + 1 + 1))] 244 ∧ BMap 9 V (w.heap.size + 1 + 1) (split1 44 s).length (fun x => ∃ y ∈ split1 44 s, x = .string y)) ∧ V.heap[D]? = some (.deferred (some [])) ∧ (∀ z ∈ pre, z ∉ split1 44 s) ∧ Below w.heap.size w V)
   (fun c pre V => (c = .ret ∧ ∃ q y, pre = q ++ [y] ∧ (∀ z ∈ q, z ∉ split1 44 s) ∧ y ∈ split1 44 s ∧ Blk V w.heap.size #[.string (S y)] 9 ∧ Blk V (w.heap.size + 1) #[.nilIface] 43) ∧ V.heap[D]? = some (.deferred (some [])) ∧ Below w.heap.size w V)
   (by
    rintro pre V V' ⟨⟨h2, h3, h4, h5⟩, hd, hn, h7⟩ hk
    exact ⟨⟨h2.off hk (by omega), h3.off hk (by omega), h4.off hk (by omega), h5.off hk (by omega) (by omega)⟩, hk.same D _ hd (by omega) (.inr (by omega)), hn, abOff_below (β := Unit) (by omega) (by omega) (Nat.le_refl _) () V V' h7 hk⟩)
   (by
    rintro c pre V V' ⟨⟨h1, q, y, h2, h3, h4, h5, h6⟩, hd, h7⟩ hk
    exact ⟨⟨h1, q, y, h2, h3, h4, h5.off hk (by omega), h6.off hk (by omega)⟩, hk.same D _ hd (by omega) (.inr (by omega)), abOff_below (β := Unit) (by omega) (by omega) (Nat.le_refl _) () V V' h7 hk⟩)
   ⟨⟨b0.later hB1, b1.later hB1, bP.later hB1, bM.later hB1⟩, hKl, (fun z h => by cases h), hb1'⟩
   (fun x => { tmps := #[.string (S a), .string (S s), undef, undef, .pointer (some ⟨w.heap.size, 0, none⟩), .pointer (some ⟨w.heap.size + 1, 0, none⟩), .pointer (some ⟨w.heap.size + 1 + 1 + 1, 0, none⟩), undef, .string (S x), .map (some (w.heap.size + 1 + 1)), .string (S s), seqV (w.heap.size + 4), undef, undef, undef, .string (S a), seqV W.heap.size, .string (S x), undef, undef, undef, undef, undef], defers := [] })
   ?assign2 ?body2 ?done2 ?stop2
  case assign2 =>
   intro l x V K hK
   gi_wp2
   exact hK
  case body2 =>
   rintro l pre x V ⟨⟨b0, b1, bP, bM⟩, hd, hn, hB⟩ hpx
   have hxl : x.length ≤ 1000 := Nat.le_trans (hsplita.1 x (hpx.subset (by simp))) hla
   have hkx := keyW x (by omega)
   have cP := bP.one
   have c0 := b0.one
   have f0 := b0.frozen 0
   have c1 := b1.one
   have f1 := b1.frozen 0
   by_cases hmem : x ∈ split1 44 s
   ·have hlook := (bM.look keyedS Tryz.underlying244 hkx).1 ⟨x, hmem, rfl⟩
    gi_wp2_with fail
    refine ⟨((KeepsOthers.setCell _ _ _).trans (KeepsOthers.setCell _ _ _)).from _, ⟨rfl, pre, x, rfl, hn, hmem, ?_, ?_⟩, ?_, ?_⟩
    ·exact (b0.set 0 _).other (by omega) _
    ·exact (b1.other (by omega) _).set 0 _
    ·exact ((KeepsOthers.setCell _ _ _).trans (KeepsOthers.setCell _ _ _)).same D _ hd rfl
    ·exact (hB.setCell (p := ⟨w.heap.size, 0, none⟩) (Nat.le_refl _) _).setCell (p := ⟨w.heap.size + 1, 0, none⟩) (Nat.le_succ _) _
   ·have hlook := (bM.look keyedS Tryz.underlying244 hkx).2 (fun ⟨y, hy, e⟩ => hmem (by cases e; exact hy))
    gi_wp2_with fail
    exact ⟨KeepsFrom.refl _ _, KeptIn.refl _ _ _ _, ⟨b0, b1, bP, bM⟩, hd, (fun z hz => by
     rcases List.mem_append.1 hz with h | h
     ·exact hn z h
     ·rw [List.mem_singleton.1 h]; exact hmem), hB⟩
  case done2 =>
   rintro D2 xs V hD2 rfl ⟨⟨b0, b1, bP, bM⟩, hd, hn, hB⟩ hK2
   have c0 := b0.one
   have f0 := b0.frozen 0
   have c1 := b1.one
   have f1 := b1.frozen 0
   gi_wp2
   have k1 : KeepsOthers V ((V.setCell ⟨w.heap.size, 0, none⟩ (.string (S []))).setCell ⟨w.heap.size + 1, 0, none⟩ (.iface 56 (.int .i64 8))) := (KeepsOthers.setCell _ _ _).trans (KeepsOthers.setCell _ _ _)
   have g1 : Blk ((V.setCell ⟨w.heap.size, 0, none⟩ (.string (S []))).setCell ⟨w.heap.size + 1, 0, none⟩ (.iface 56 (.int .i64 8))) w.heap.size #[.string (S [])] 9 := (b0.set 0 _).other (by omega) _
   have g2 : Blk ((V.setCell ⟨w.heap.size, 0, none⟩ (.string (S []))).setCell ⟨w.heap.size + 1, 0, none⟩ (.iface 56 (.int .i64 8))) (w.heap.size + 1) #[.iface 56 (.int .i64 8)] 43 := (b1.other (by omega) _).set 0 _
   have hb2 := (hB.setCell (p := ⟨w.heap.size, 0, none⟩) (Nat.le_refl _) (.string (S []))).setCell (p := ⟨w.heap.size + 1, 0, none⟩) (Nat.le_succ _) (.iface 56 (.int .i64 8))
   have hK2' := k1.same D2 _ hK2 rfl
   have hd' : (World.putObj ((V.setCell ⟨w.heap.size, 0, none⟩ (.string (S []))).setCell ⟨w.heap.size + 1, 0, none⟩ (.iface 56 (.int .i64 8))) D2 (.deferred none)).heap[D]? = some (.deferred (some [])) := (World.putObj_heap_other (by omega)).trans (k1.same D _ hd rfl)
   have q0 := ((g1.put (.deferred none) (show w.heap.size ≠ D2 by omega)).put (.deferred none) (show w.heap.size ≠ D by omega)).one
   have q1 := ((g2.put (.deferred none) (show w.heap.size + 1 ≠ D2 by omega)).put (.deferred none) (show w.heap.size + 1 ≠ D by omega)).one
   have hb3 := (hb2.trans (belowK_b (w := w) (Nat.le_refl _) _ D2 _ (.deferred none) (by omega) hK2' rfl rfl)).trans (belowK_b (w := w) (Nat.le_refl _) _ D _ (.deferred none) (by omega) hd' rfl rfl)
   refine ⟨by simp, .inl ⟨_, _, rfl, run_takeDeferred hK2', by simp, .inl ⟨_, _, rfl, run_takeDeferred hd', ?_⟩⟩⟩
   have hf : firstR a s = none := by
    unfold firstR
    exact List.find?_eq_none.2 (fun x hx => by simpa using hn x hx)
   refine ⟨.tuple #[.string (S []), .iface 56 (.int .i64 8)], ?_, ?_, hb3⟩
   ·clear hb3 hb2 g1 g2 k1 hK2' hd' c0 c1 f0 f1
    simp [results, Tryz.results155, go_sem, q0, q1]
   ·rw [hf]
    rfl
  case stop2 =>
   rintro D2 c pre V hD2 hp ⟨⟨rfl, q, y, rfl, hq, hy, b0, b1⟩, hd, hB⟩ hK2
   gi_wp2
   have hd' : (World.putObj V D2 (.deferred none)).heap[D]? = some (.deferred (some [])) := (World.putObj_heap_other (by omega)).trans hd
   have q0 := ((b0.put (.deferred none) (show w.heap.size ≠ D2 by omega)).put (.deferred none) (show w.heap.size ≠ D by omega)).one
   have q1 := ((b1.put (.deferred none) (show w.heap.size + 1 ≠ D2 by omega)).put (.deferred none) (show w.heap.size + 1 ≠ D by omega)).one
   have hb3 := (hB.trans (belowK_b (w := w) (Nat.le_refl _) _ D2 _ (.deferred none) (by omega) hK2 rfl rfl)).trans (belowK_b (w := w) (Nat.le_refl _) _ D _ (.deferred none) (by omega) hd' rfl rfl)
   refine ⟨by simp, .inl ⟨_, _, rfl, run_takeDeferred hK2, by simp, .inl ⟨_, _, rfl, run_takeDeferred hd', ?_⟩⟩⟩
   have hf : firstR a s = some y := find_prefix hp hq hy
   refine ⟨.tuple #[.string (S y), .nilIface], ?_, ?_, hb3⟩
   ·simp [results, Tryz.results155, go_sem, q0, q1]
   ·rw [hf]
    rfl
theorem first_any (a s : List UInt8) (w : World) (hla : a.length ≤ 1000) (hl : s.length ≤ 1000) (hm : MaxCell w) : Calls Tryz.prog 155 #[.string (S a), .string (S s)] w (RetSN w (firstN (firstR a s))) :=
 (callsIn_wide (n := 6)).1 (first_in a s w hla hl hm)
end Go.Proofs.YtjbbbpgcegcbaaaGreatDoor
namespace Go.Proofs.YtjbbbpgcegcbaaaGreatDoor
open Go.RowKit
theorem numbers_world (w : World) (a b kn df : List UInt8) (lo hi K : Int) (no lg : Bool) : ∃ W0, ((((w.alloc (.cells #[.string (S a), .string (S b)] 256)).alloc (.cells #[.string (S kn), .int .i64 K, .int .i64 lo, .int .i64 hi, .string (S df), .bool no, .bool lg] 202)).alloc (.cells #[.int .i64 0, .int .i64 0] 258)).alloc (.cells #[.int .i64 0, .int .i64 0] 258)) = W0 ∧ Below w.heap.size w W0 ∧
  Blk W0 w.heap.size #[.string (S a), .string (S b)] 256 ∧ Blk W0 (w.heap.size + 1) #[.string (S kn), .int .i64 K, .int .i64 lo, .int .i64 hi, .string (S df), .bool no, .bool lg] 202 ∧ Blk W0 (w.heap.size + 1 + 1) #[.int .i64 0, .int .i64 0] 258 ∧ Blk W0 (w.heap.size + 1 + 1 + 1) #[.int .i64 0, .int .i64 0] 258 := by
 have f0 := Blk.new w #[.string (S a), .string (S b)] 256
 obtain ⟨w1, h1⟩ : ∃ w1, w.alloc (.cells #[.string (S a), .string (S b)] 256) = w1 := ⟨_, rfl⟩
 have z1 : w1.heap.size = w.heap.size + 1 := by rw [← h1, World.size_alloc]
 have b1 : Below w.heap.size w w1 := by rw [← h1]; exact (Below.refl _ w).alloc (Nat.le_refl _) _
 rw [h1] at f0 ⊢
 have f1 := Blk.new w1 #[.string (S kn), .int .i64 K, .int .i64 lo, .int .i64 hi, .string (S df), .bool no, .bool lg] 202
 have f0 := f0.alloc (.cells #[.string (S kn), .int .i64 K, .int .i64 lo, .int .i64 hi, .string (S df), .bool no, .bool lg] 202)
 obtain ⟨w2, h2⟩ : ∃ w2, w1.alloc (.cells #[.string (S kn), .int .i64 K, .int .i64 lo, .int .i64 hi, .string (S df), .bool no, .bool lg] 202) = w2 := ⟨_, rfl⟩
 have z2 : w2.heap.size = w.heap.size + 1 + 1 := by rw [← h2, World.size_alloc, z1]
 have b2 : Below w.heap.size w w2 := by rw [← h2]; exact b1.alloc b1.size _
 rw [h2] at f0 f1 ⊢
 rw [z1] at f1
 have f2 := Blk.new w2 #[.int .i64 0, .int .i64 0] 258
 have f0 := f0.alloc (.cells #[.int .i64 0, .int .i64 0] 258)
 have f1 := f1.alloc (.cells #[.int .i64 0, .int .i64 0] 258)
 obtain ⟨w3, h3⟩ : ∃ w3, w2.alloc (.cells #[.int .i64 0, .int .i64 0] 258) = w3 := ⟨_, rfl⟩
 have z3 : w3.heap.size = w.heap.size + 1 + 1 + 1 := by rw [← h3, World.size_alloc, z2]
 have b3 : Below w.heap.size w w3 := by rw [← h3]; exact b2.alloc b2.size _
 rw [h3] at f0 f1 f2 ⊢
 rw [z2] at f2
 have f3 := Blk.new w3 #[.int .i64 0, .int .i64 0] 258
 rw [z3] at f3
 exact ⟨_, rfl, b3.alloc b3.size _, f0.alloc _, f1.alloc _, f2.alloc _, f3⟩
theorem two_index0 (a b : List UInt8) (w : World) : (Instr.index 256 (.agg #[.string (S a), .string (S b)]) (.int .i64 0)).run Tryz.prog w = .ok (.string (S a)) w := by kernel_rfl
theorem two_index1 (a b : List UInt8) (w : World) : (Instr.index 256 (.agg #[.string (S a), .string (S b)]) (.int .i64 1)).run Tryz.prog w = .ok (.string (S b)) w := by kernel_rfl
set_option maxRecDepth 100000 in
set_option maxHeartbeats 1000000 in
theorem numbers_any (a b kn df : List UInt8) (lo hi K : Int) (no lg : Bool) (na nb : Int) (w : World) (ha : a.length ≤ 1000) (hb : b.length ≤ 1000) (hE : Env w) (h1 : numE a lo hi = (na, 0)) (h2 : numE b lo hi = (nb, 0)) :
  Calls Tryz.prog 153 #[.agg #[.string (S a), .string (S b)], .agg #[.string (S kn), .int .i64 K, .int .i64 lo, .int .i64 hi, .string (S df), .bool no, .bool lg]] w fun e w' => e = .returned (.agg #[.int .i64 na, .int .i64 nb]) ∧ Below w.heap.size w w' := by
 obtain ⟨W0, hW0, hB0, bV, bK, bR, bN⟩ := numbers_world w a b kn df lo hi K no lg
 have Hb0 := Lib.hid hB0
 have NA := Lib.hid (numeral_any a lo hi W0 (by omega) (hE.later hB0))
 rw [h1] at NA
 have NB := Lib.hid (fun W (h : Below w.heap.size w W) => show Calls Tryz.prog 114 #[.string (S b), .int .i64 lo, .int .i64 hi] W (RetNI W (nb, 0)) from by
  have := numeral_any b lo hi W (by omega) (hE.later h)
  rwa [h2] at this)
 obtain ⟨v0, v1⟩ := bV.two
 have HK := Lib.hid bK
 have HR := Lib.hid bR
 have HN := Lib.hid bN
 obtain ⟨_, _, k2, k3, _, _, _⟩ := bK.seven
 clear hB0 bV bK bR bN hE h1 h2
 have i0 := two_index0 a b
 have i1 := two_index1 a b
 go_enter Tryz.func153, Tryz.ntmps153
 go_wp2_with fail
 refine wp_loop_rounds 3 ?_
 rw [rounds_succ]
 go_wp2_with fail
 refine NA.out.mono ?_
 rintro e w1 ⟨rfl, hb1⟩
 have K1 := HK.out.later hb1
 have R1 := HR.out.later hb1
 have N1 := HN.out.later hb1
 obtain ⟨w2, hw2⟩ : ∃ w2, w1.setCell ⟨w.heap.size + 1 + 1 + 1, 0, none⟩ (.int .i64 na) = w2 := ⟨_, rfl⟩
 have Hb2 := Lib.hid (show Below w.heap.size w w2 by rw [← hw2]; exact (below_then Hb0.out hb1).setCell (p := ⟨w.heap.size + 1 + 1 + 1, 0, none⟩) (by show w.heap.size ≤ w.heap.size + 1 + 1 + 1; omega) _)
 have HK2 := Lib.hid (show Blk w2 (w.heap.size + 1) #[.string (S kn), .int .i64 K, .int .i64 lo, .int .i64 hi, .string (S df), .bool no, .bool lg] 202 by rw [← hw2]; exact K1.other (by omega) _)
 have HR2 := Lib.hid (show Blk w2 (w.heap.size + 1 + 1) #[.int .i64 0, .int .i64 0] 258 by rw [← hw2]; exact R1.other (by omega) _)
 have HN2 := Lib.hid (show Blk w2 (w.heap.size + 1 + 1 + 1) #[.int .i64 na, .int .i64 0] 258 by rw [← hw2]; exact N1.set 0 _)
 obtain ⟨p0, p1⟩ := N1.two
 have f0 := N1.frozen 0
 have f1 := N1.frozen 1
 obtain ⟨_, _, k2', k3', _, _, _⟩ := HK2.out.seven
 have NB2 := Lib.hid (NB.out w2 Hb2.out)
 clear hb1 K1 R1 N1 NA NB v0 v1 k2 k3
 go_wp2_with fail
 rw [rounds_succ]
 go_wp2_with fail
 refine NB2.out.mono ?_
 rintro e w3 ⟨rfl, hb3⟩
 have R3 := HR2.out.later hb3
 have N3 := HN2.out.later hb3
 obtain ⟨w4, hw4⟩ : ∃ w4, w3.setCell ⟨w.heap.size + 1 + 1 + 1, 1, none⟩ (.int .i64 nb) = w4 := ⟨_, rfl⟩
 have Hb4 := Lib.hid (show Below w.heap.size w w4 by rw [← hw4]; exact (below_then Hb2.out hb3).setCell (p := ⟨w.heap.size + 1 + 1 + 1, 1, none⟩) (by show w.heap.size ≤ w.heap.size + 1 + 1 + 1; omega) _)
 have HR4 := Lib.hid (show Blk w4 (w.heap.size + 1 + 1) #[.int .i64 0, .int .i64 0] 258 by rw [← hw4]; exact R3.other (by omega) _)
 have N4 : Blk w4 (w.heap.size + 1 + 1 + 1) #[.int .i64 na, .int .i64 nb] 258 := by rw [← hw4]; exact N3.set 1 _
 obtain ⟨s0, s1⟩ := N3.two
 have g0 := N3.frozen 0
 have g1 := N3.frozen 1
 obtain ⟨t0, t1⟩ := N4.two
 obtain ⟨r0, r1⟩ := HR4.out.two
 have u0 := HR4.out.frozen 0
 have u1 := HR4.out.frozen 1
 have HRf := Lib.hid ((HR4.out.set 0 (.int .i64 na)).set 1 (.int .i64 nb))
 clear hb3 R3 N3 N4 NB2 p0 p1 f0 f1 k2' k3'
 go_wp2_with fail
 rw [rounds_succ]
 go_wp2_with fail
 obtain ⟨q0, q1⟩ := Blk.two (HRf.out : Blk _ (w.heap.size + 1 + 1) #[.int .i64 na, .int .i64 nb] 258)
 refine bodyPost_ret (v := .agg #[.int .i64 na, .int .i64 nb]) (by simp [results, Tryz.results153, go_sem, q0, q1]) rfl ?_
 exact ⟨rfl, (Hb4.out.setCell (p := ⟨w.heap.size + 1 + 1, 0, none⟩) (by show w.heap.size ≤ w.heap.size + 1 + 1; omega) _).setCell (p := ⟨w.heap.size + 1 + 1, 1, none⟩) (by show w.heap.size ≤ w.heap.size + 1 + 1; omega) _⟩
end Go.Proofs.YtjbbbpgcegcbaaaGreatDoor
