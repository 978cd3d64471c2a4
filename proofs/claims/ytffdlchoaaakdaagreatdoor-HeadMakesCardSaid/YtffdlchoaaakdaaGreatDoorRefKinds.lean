/- ref.kinds: 5.1's rows, as the reference has them (made by gen_kinds.py). -/
import Derived.Test.YtffdlchoaaakdaaGreatDoorHeadMath
import Derived.Test.YtffdlchoaaakdaaGreatDoorBlk
import Derived.Test.YtffdlchoaaakdaaGreatDoorList
import Derived.Test.YtffdlchoaaakdaaGreatDoorKindsStep
import Derived.BigRegion
import Derived.LoopN
import Derived.Deep.CutBlock
import Derived.Deep.CutRange
namespace Go.Proofs.YtffdlchoaaakdaaGreatDoor
open Go.RowKit
/-- what the walk carries: the variables' blocks, the rows' blocks, what was there -/
def KSt (w0 W : World) (vs : List (Nat × List UInt8 × Int × Int)) (l : List (Nat × Array Value)) : Prop :=
  (∀ x ∈ vs, Blk W x.1 #[.string (S x.2.1), .int .i64 x.2.2.1, .int .i64 x.2.2.2] 45) ∧ (∀ x ∈ l, Blk W x.1 x.2 45) ∧ Below w0.heap.size w0 W
theorem KSt.later {w0 W W' : World} {vs : List (Nat × List UInt8 × Int × Int)} {l : List (Nat × Array Value)} (h : KSt w0 W vs l) (hb : Below W.heap.size W W') : KSt w0 W' vs l :=
  ⟨fun x hx => (h.1 x hx).later hb, fun x hx => (h.2.1 x hx).later hb, below_then h.2.2 hb⟩
theorem KSt.var {w0 W : World} {vs : List (Nat × List UInt8 × Int × Int)} {l : List (Nat × Array Value)} (h : KSt w0 W vs l) {b : Nat} {nm : List UInt8} {p s : Int} (hb : Blk W b #[.string (S nm), .int .i64 p, .int .i64 s] 45) : KSt w0 W ((b, nm, p, s) :: vs) l :=
  ⟨fun x hx => by rcases List.mem_cons.1 hx with rfl | hx; exact hb; exact h.1 x hx, h.2.1, h.2.2⟩
theorem KSt.row {w0 W : World} {vs : List (Nat × List UInt8 × Int × Int)} {l : List (Nat × Array Value)} (h : KSt w0 W vs l) {b : Nat} {C : Array Value} (hb : Blk W b C 45) : KSt w0 W vs ((b, C) :: l) :=
  ⟨h.1, fun x hx => by rcases List.mem_cons.1 hx with rfl | hx; exact hb; exact h.2.1 x hx, h.2.2⟩
theorem KSt.at {w0 W : World} {vs : List (Nat × List UInt8 × Int × Int)} {l : List (Nat × Array Value)} (h : KSt w0 W vs l) {b : Nat} {nm : List UInt8} {p s : Int} (hm : (b, nm, p, s) ∈ vs) :
    W.cell? ⟨b, 0, none⟩ = some (.string (S nm)) ∧ W.cell? ⟨b, 1, none⟩ = some (.int .i64 p) ∧ W.cell? ⟨b, 2, none⟩ = some (.int .i64 s) := Blk.three (h.1 _ hm)
theorem alloc3 (W : World) (A B C : Array Value) (t : TypeId) : Blk (((W.alloc (.cells A t)).alloc (.cells B t)).alloc (.cells C t)) W.heap.size A t ∧ Blk (((W.alloc (.cells A t)).alloc (.cells B t)).alloc (.cells C t)) (W.heap.size + 1) B t ∧
    Blk (((W.alloc (.cells A t)).alloc (.cells B t)).alloc (.cells C t)) (W.heap.size + 1 + 1) C t ∧ Below W.heap.size W (((W.alloc (.cells A t)).alloc (.cells B t)).alloc (.cells C t)) := by
  have h1 := Blk.new (W.alloc (.cells A t)) B t
  have h2 := Blk.new ((W.alloc (.cells A t)).alloc (.cells B t)) C t
  rw [World.size_alloc] at h1
  rw [World.size_alloc, World.size_alloc] at h2
  exact ⟨((Blk.new W A t).alloc _).alloc _, h1.alloc _, h2, (((Below.refl W.heap.size W).alloc (Nat.le_refl _) _).alloc (by simp) _).alloc (by simp; omega) _⟩
theorem alloc2 (W : World) (A B : Array Value) (t : TypeId) : Blk ((W.alloc (.cells A t)).alloc (.cells B t)) W.heap.size A t ∧ Blk ((W.alloc (.cells A t)).alloc (.cells B t)) (W.heap.size + 1) B t ∧
    Below W.heap.size W ((W.alloc (.cells A t)).alloc (.cells B t)) := by
  have h1 := Blk.new (W.alloc (.cells A t)) B t
  rw [World.size_alloc] at h1
  exact ⟨(Blk.new W A t).alloc _, h1, ((Below.refl W.heap.size W).alloc (Nat.le_refl _) _).alloc (by simp) _⟩
def rkOf (k : Kd) : Rk := ⟨k.op, k.nm, k.fl, k.fs⟩
def RetKinds (w : World) (e : Ending) (w' : World) : Prop :=
  ∃ b, ∃ bs : List Nat, e = .returned (.slice (some ⟨b, 0, none⟩) 18 18) ∧ bs.length = 18 ∧ Blk w' b (cellsRk (kinds.map rkOf) bs) 66 ∧ (∀ x ∈ (kinds.map rkOf).zip bs, Flds w' x.2 x.1.fs) ∧ Below w.heap.size w w'
theorem kSpecs_last : kSpecs[200]? = some (.all (kinds.map rkOf)) := by kernel_rfl
set_option maxRecDepth 100000 in
set_option maxHeartbeats 4000000 in
theorem kinds_any (w : World) : Calls Tryz.prog 22 #[] w (RetKinds w) := by
  have HK := Lib.hid (show KSt w w [] [] from ⟨fun _ h => absurd h List.not_mem_nil, fun _ h => absurd h List.not_mem_nil, Below.refl _ _⟩)
  go_enter Tryz.func22, Tryz.ntmps22
  go_wp2_with fail
  refine (at_any _ _ _ _).mono ?_
  rintro e w1 ⟨rfl, hb⟩
  replace HK := Lib.hid (HK.out.later hb)
  clear hb
  go_wp2_with fail
  refine (at_any _ _ _ _).mono ?_
  rintro e w2 ⟨rfl, hb⟩
  replace HK := Lib.hid (HK.out.later hb)
  clear hb
  go_wp2_with fail
  refine (at_any _ _ _ _).mono ?_
  rintro e w3 ⟨rfl, hb⟩
  replace HK := Lib.hid (HK.out.later hb)
  clear hb
  go_upto_region 2 with (fail)
  obtain ⟨G1, G2, G3, G4⟩ := alloc3 w3 #[.string (S [76, 85, 78]), .int .i64 8, .int .i64 8] #[.string (S [73, 84, 84]), .int .i64 16, .int .i64 4] #[.string (S [84, 84, 84]), .int .i64 20, .int .i64 4] 45
  generalize (((w3.alloc (.cells #[.string (S [76, 85, 78]), .int .i64 8, .int .i64 8] 45)).alloc (.cells #[.string (S [73, 84, 84]), .int .i64 16, .int .i64 4] 45)).alloc (.cells #[.string (S [84, 84, 84]), .int .i64 20, .int .i64 4] 45)) = v0 at G1 G2 G3 G4 ⊢
  replace HK := Lib.hid ((((HK.out.later G4).var G1).var G2).var G3)
  clear G1 G2 G3 G4
  go_wp2_with fail
  refine (at_any _ _ _ _).mono ?_
  rintro e w4 ⟨rfl, hb⟩
  replace HK := Lib.hid (HK.out.later hb)
  clear hb
  go_wp2_with fail
  refine (at_any _ _ _ _).mono ?_
  rintro e w5 ⟨rfl, hb⟩
  replace HK := Lib.hid (HK.out.later hb)
  clear hb
  go_upto_region 3 with (fail)
  obtain ⟨G1, G2, G4⟩ := alloc2 w5 #[.string (S [67, 109, 100, 83, 78]), .int .i64 24, .int .i64 4] #[.string (S [69, 120, 112, 83, 116, 97, 116, 83, 78]), .int .i64 28, .int .i64 4] 45
  generalize ((w5.alloc (.cells #[.string (S [67, 109, 100, 83, 78]), .int .i64 24, .int .i64 4] 45)).alloc (.cells #[.string (S [69, 120, 112, 83, 116, 97, 116, 83, 78]), .int .i64 28, .int .i64 4] 45)) = v1 at G1 G2 G4 ⊢
  replace HK := Lib.hid (((HK.out.later G4).var G1).var G2)
  clear G1 G2 G4
  go_wp2_with fail
  refine (at_any _ _ _ _).mono ?_
  rintro e w6 ⟨rfl, hb⟩
  replace HK := Lib.hid (HK.out.later hb)
  clear hb
  go_wp2_with fail
  refine (at_any _ _ _ _).mono ?_
  rintro e w7 ⟨rfl, hb⟩
  replace HK := Lib.hid (HK.out.later hb)
  clear hb
  go_wp2_with fail
  refine (at_any _ _ _ _).mono ?_
  rintro e w8 ⟨rfl, hb⟩
  replace HK := Lib.hid (HK.out.later hb)
  clear hb
  go_upto_region 4 with (fail)
  obtain ⟨G1, G2, G3, G4⟩ := alloc3 w8 #[.string (S [83, 116, 97, 116, 83, 78]), .int .i64 24, .int .i64 4] #[.string (S [69, 120, 112, 67, 109, 100, 83, 78]), .int .i64 28, .int .i64 4] #[.string (S [77, 97, 120, 67, 109, 100, 83, 78]), .int .i64 32, .int .i64 4] 45
  generalize (((w8.alloc (.cells #[.string (S [83, 116, 97, 116, 83, 78]), .int .i64 24, .int .i64 4] 45)).alloc (.cells #[.string (S [69, 120, 112, 67, 109, 100, 83, 78]), .int .i64 28, .int .i64 4] 45)).alloc (.cells #[.string (S [77, 97, 120, 67, 109, 100, 83, 78]), .int .i64 32, .int .i64 4] 45)) = v2 at G1 G2 G3 G4 ⊢
  replace HK := Lib.hid ((((HK.out.later G4).var G1).var G2).var G3)
  clear G1 G2 G3 G4
  go_wp2_with fail
  refine (at_any _ _ _ _).mono ?_
  rintro e w9 ⟨rfl, hb⟩
  replace HK := Lib.hid (HK.out.later hb)
  clear hb
  go_wp2_with fail
  refine (at_any _ _ _ _).mono ?_
  rintro e w10 ⟨rfl, hb⟩
  replace HK := Lib.hid (HK.out.later hb)
  clear hb
  go_upto_region 5 with (fail)
  obtain ⟨G1, G2, G4⟩ := alloc2 w10 #[.string (S [73, 83, 73, 68]), .int .i64 8, .int .i64 6] #[.string (S [84, 83, 73, 72]), .int .i64 14, .int .i64 2] 45
  generalize ((w10.alloc (.cells #[.string (S [73, 83, 73, 68]), .int .i64 8, .int .i64 6] 45)).alloc (.cells #[.string (S [84, 83, 73, 72]), .int .i64 14, .int .i64 2] 45)) = v3 at G1 G2 G4 ⊢
  replace HK := Lib.hid (((HK.out.later G4).var G1).var G2)
  clear G1 G2 G4
  go_upto_region 6 with (fail)
  refine wp_region_flow (ops := kOps) (by kernel_rfl) kOps_back kPv kPv_later (fun i o h => ⟨_, (kOps_dst i o h).2, ?_⟩) kOps_inj kOps_guard (fun i o ho listed a w hI hall => k_step (Q := _) ⟨(fun n f h => match n, f, h with
      | 0, f, h => by cases h; exact ⟨_, rfl, HK.out.1 _ (.tail _ (.tail _ (.tail _ (.tail _ (.tail _ (.tail _ (.tail _ (.tail _ (.tail _ (.head _))))))))))⟩
      | 1, f, h => by cases h; exact ⟨_, rfl, HK.out.1 _ (.tail _ (.tail _ (.tail _ (.tail _ (.tail _ (.tail _ (.tail _ (.tail _ (.head _)))))))))⟩
      | 2, f, h => by cases h; exact ⟨_, rfl, HK.out.1 _ (.tail _ (.tail _ (.tail _ (.tail _ (.tail _ (.tail _ (.tail _ (.head _))))))))⟩
      | 3, f, h => by cases h; exact ⟨_, rfl, HK.out.1 _ (.tail _ (.tail _ (.tail _ (.tail _ (.tail _ (.tail _ (.head _)))))))⟩
      | 4, f, h => by cases h; exact ⟨_, rfl, HK.out.1 _ (.tail _ (.tail _ (.tail _ (.tail _ (.tail _ (.head _))))))⟩
      | 5, f, h => by cases h; exact ⟨_, rfl, HK.out.1 _ (.tail _ (.tail _ (.tail _ (.tail _ (.head _)))))⟩
      | 6, f, h => by cases h; exact ⟨_, rfl, HK.out.1 _ (.tail _ (.tail _ (.tail _ (.head _))))⟩
      | 7, f, h => by cases h; exact ⟨_, rfl, HK.out.1 _ (.tail _ (.tail _ (.head _)))⟩
      | 8, f, h => by cases h; exact ⟨_, rfl, HK.out.1 _ (.tail _ (.head _))⟩
      | 9, f, h => by cases h; exact ⟨_, rfl, HK.out.1 _ (.head _)⟩
      | _ + 10, f, h => (by cases h)), rfl⟩ i o ho listed a w hI hall) ?_
  · have hi := (kOps_dst i o h).1
    show (if i < 200 then 22 + i else 0) < 222
    split <;> omega
  · intro listed a wz hI hall
    obtain ⟨o, ho⟩ : ∃ o, kOps[200]? = some o := ⟨kOps[200]'(by rw [kOps_size]; decide), Array.getElem?_eq_getElem _⟩
    obtain ⟨b, bs, hv, hl, hB, hF⟩ := hI.vals 200 o 0 ho (by rw [(kOps_dst 200 o ho).2]; rfl) (hall 200 (by rw [kOps_size]; decide)) _ kSpecs_last
    have hlow := below_then HK.out.2.2 hI.low
    have hd : a.defers = [] := hI.defers
    obtain ⟨T, D⟩ := a
    obtain rfl : D = [] := hd
    have hT : T.getD 0 undef = .slice (some ⟨b, 0, none⟩) 18 18 := hv
    have HR : RetKinds w (.returned (.slice (some ⟨b, 0, none⟩) 18 18)) wz := ⟨b, bs, rfl, hl, hB, hF, hlow⟩
    have HR' := Lib.hid HR
    have HT := Lib.hid hT
    clear hI ho hall HK o hv hl hB hF hlow hT HR
    go_wp2_with fail
    exact bodyPost_ret (v := .slice (some ⟨b, 0, none⟩) 18 18) (by have hT := HT.out; simp [results, Tryz.results22, go_sem]; simpa using hT) rfl HR'.out
end Go.Proofs.YtffdlchoaaakdaaGreatDoor
