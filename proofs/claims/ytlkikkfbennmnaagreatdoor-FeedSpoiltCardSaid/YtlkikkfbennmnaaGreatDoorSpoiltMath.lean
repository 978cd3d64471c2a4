/- A PDU's bytes with a byte of its data spoilt. No program stands in it. -/
import Derived.Test.YtlkikkfbennmnaaGreatDoorFeedMath2
namespace Go.Proofs.YtlkikkfbennmnaaGreatDoor
open Go.RowKit
theorem padded_set (d : List UInt8) (k : Nat) (x : UInt8) (hk : k < d.length) : padded (d.set k x) = (padded d).set k x := by
  unfold padded
  rw [List.length_set, List.set_append_left _ _ hk]
theorem bytes2_get {p : Pd} (h : RightP p) (hne : p.d ≠ []) {k : Nat} (hk : k < p.d.length) : (bytesP p 2)[48 + (wrL p.a).length + k]? = some p.d[k] := by
  have hl := hdrs_len h
  rw [bytes2 hne]
  unfold spoiltP padded
  rw [List.append_assoc, List.append_assoc, List.getElem?_append_right (by omega), hl, Nat.add_sub_cancel_left, List.getElem?_append_left hk, List.getElem?_eq_getElem hk]
theorem bytes2_set {p : Pd} (h : RightP p) (hne : p.d ≠ []) {k : Nat} (hk : k < p.d.length) (x : UInt8) : (bytesP p 2).set (48 + (wrL p.a).length + k) x = spoiltP p (p.d.set k x) := by
  have hl := hdrs_len h
  rw [bytes2 hne]
  unfold spoiltP
  rw [padded_set _ _ _ hk, List.append_assoc, List.set_append_right _ _ (by omega), hl, Nat.add_sub_cancel_left, List.set_append_left _ _ (by rw [padded_length]; omega), List.append_assoc]
theorem spoilt_digest (d : List UInt8) {k : Nat} (hk : k < d.length) {b : UInt8} (hb : b ≠ 0) : digest (padded (d.set k (d[k] ^^^ b))) ≠ digest (padded d) := by
  have hk2 : k < (padded d).length := by rw [padded_length]; omega
  have h := digest_other (padded d) k b hk2 hb
  have e : (padded d)[k] = d[k] := by
    have h1 : (padded d)[k]? = d[k]? := by unfold padded; rw [List.getElem?_append_left hk]
    rw [List.getElem?_eq_getElem hk2, List.getElem?_eq_getElem hk] at h1
    exact Option.some.inj h1
  rw [e] at h
  rw [padded_set _ _ _ hk]
  exact h
theorem all_spoilt {p q : Pd} (hp : rightP p = 0) (hq : rightP q = 0) (hne : p.d ≠ []) {d : List UInt8} (hl : d.length = p.d.length) (hd : digest (padded d) ≠ digest (padded p.d)) :
    allF ⟨100000, 2, spoiltP p d ++ bytesP q 2, false⟩ = ([⟨pd0, (bytesP p 2).take 48⟩, pcOf q], 0, ⟨100000, 2, [], false⟩) := by
  have hP := (rightP_is hp).d
  have hQ := (rightP_is hq).d
  have e1 := next_spoilt (F := ⟨100000, 2, spoiltP p d ++ bytesP q 2, false⟩) hp hl hne hd rfl hP rfl
  have e2 := next_bytes (F := ⟨100000, 2, bytesP q 2, false⟩) ⟨Nat.le_refl _, Nat.le_succ 2⟩ hq hQ (t := []) (by simp)
  have e3 := next_short (F := ⟨100000, 2, [], false⟩) (by decide)
  rw [all_more (by rw [e1]), e1]
  simp only
  rw [all_more (by rw [e2]), e2]
  simp only
  rw [all_end (by rw [e3]), e3]
end Go.Proofs.YtlkikkfbennmnaaGreatDoor
