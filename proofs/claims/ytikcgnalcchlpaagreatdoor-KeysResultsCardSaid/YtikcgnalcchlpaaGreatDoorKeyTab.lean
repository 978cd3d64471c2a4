/- What is known of all keys, as plain data. No program stands in it. -/
import Derived.Test.YtikcgnalcchlpaaGreatDoorBase
namespace Go.Proofs.YtikcgnalcchlpaaGreatDoor
open Go.RowKit
/-- a key: its name, its kind, from where to where it goes, what it is where nobody says so, whether it counts for nothing in a discovery, whether a login alone has it -/
structure Ke where
  nm : List UInt8
  kd : Nat
  lo : Nat
  hi : Nat
  df : List UInt8
  no : Bool
  lg : Bool
def ke0 : Ke := ⟨[72, 101, 97, 100, 101, 114, 68, 105, 103, 101, 115, 116], 5, 0, 0, [78, 111, 110, 101], false, true⟩
def ke1 : Ke := ⟨[68, 97, 116, 97, 68, 105, 103, 101, 115, 116], 5, 0, 0, [78, 111, 110, 101], false, true⟩
def ke2 : Ke := ⟨[77, 97, 120, 67, 111, 110, 110, 101, 99, 116, 105, 111, 110, 115], 3, 1, 65535, [49], true, true⟩
def ke3 : Ke := ⟨[69, 114, 114, 111, 114, 82, 101, 99, 111, 118, 101, 114, 121, 76, 101, 118, 101, 108], 3, 0, 2, [48], false, true⟩
def ke4 : Ke := ⟨[73, 110, 105, 116, 105, 97, 108, 82, 50, 84], 2, 0, 0, [89, 101, 115], true, true⟩
def ke5 : Ke := ⟨[73, 109, 109, 101, 100, 105, 97, 116, 101, 68, 97, 116, 97], 1, 0, 0, [89, 101, 115], true, true⟩
def ke6 : Ke := ⟨[77, 97, 120, 82, 101, 99, 118, 68, 97, 116, 97, 83, 101, 103, 109, 101, 110, 116, 76, 101, 110, 103, 116, 104], 7, 512, 16777215, [56, 49, 57, 50], false, false⟩
def ke7 : Ke := ⟨[77, 97, 120, 66, 117, 114, 115, 116, 76, 101, 110, 103, 116, 104], 3, 512, 16777215, [50, 54, 50, 49, 52, 52], true, true⟩
def ke8 : Ke := ⟨[70, 105, 114, 115, 116, 66, 117, 114, 115, 116, 76, 101, 110, 103, 116, 104], 3, 512, 16777215, [54, 53, 53, 51, 54], true, true⟩
def ke9 : Ke := ⟨[68, 101, 102, 97, 117, 108, 116, 84, 105, 109, 101, 50, 87, 97, 105, 116], 4, 0, 3600, [50], false, true⟩
def ke10 : Ke := ⟨[68, 101, 102, 97, 117, 108, 116, 84, 105, 109, 101, 50, 82, 101, 116, 97, 105, 110], 3, 0, 3600, [50, 48], false, true⟩
def ke11 : Ke := ⟨[77, 97, 120, 79, 117, 116, 115, 116, 97, 110, 100, 105, 110, 103, 82, 50, 84], 3, 1, 65535, [49], true, true⟩
def ke12 : Ke := ⟨[68, 97, 116, 97, 80, 68, 85, 73, 110, 79, 114, 100, 101, 114], 2, 0, 0, [89, 101, 115], true, true⟩
def ke13 : Ke := ⟨[68, 97, 116, 97, 83, 101, 113, 117, 101, 110, 99, 101, 73, 110, 79, 114, 100, 101, 114], 2, 0, 0, [89, 101, 115], true, true⟩
def ke14 : Ke := ⟨[73, 110, 105, 116, 105, 97, 116, 111, 114, 78, 97, 109, 101], 6, 0, 0, [], false, true⟩
def ke15 : Ke := ⟨[73, 110, 105, 116, 105, 97, 116, 111, 114, 65, 108, 105, 97, 115], 6, 0, 0, [], false, false⟩
def ke16 : Ke := ⟨[84, 97, 114, 103, 101, 116, 78, 97, 109, 101], 6, 0, 0, [], false, true⟩
def ke17 : Ke := ⟨[83, 101, 115, 115, 105, 111, 110, 84, 121, 112, 101], 6, 0, 0, [78, 111, 114, 109, 97, 108], false, true⟩
def keRows : List Ke := [ke0, ke1, ke2, ke3, ke4, ke5, ke6, ke7, ke8, ke9, ke10, ke11, ke12, ke13, ke14, ke15, ke16, ke17]
def keAt (k : Nat) : Ke := keRows.getD k ke0
def keNames : List (List UInt8) := keRows.map (·.nm)
def keC (k : Ke) : List Value := [.string (S k.nm), .int .i64 (k.kd : Int), .int .i64 (k.lo : Int), .int .i64 (k.hi : Int), .string (S k.df), .bool k.no, .bool k.lg]
def keV (k : Ke) : Value := .agg (keC k).toArray
def keRowsC : Array Value := (keRows.flatMap keC).toArray
def keZero : Ke := ⟨[], 0, 0, 0, [], false, false⟩
def rowOf (s : List UInt8) : Option Ke := keRows.find? (fun k => decide (k.nm = s))
theorem ke_take (k : Nat) (h : k < 18) : keRows.take k ++ [keAt k] = keRows.take (k + 1) := by
  rw [List.take_succ_eq_append_getElem (show k < keRows.length from h)]
  congr 2
  unfold keAt
  rw [List.getD_eq_getElem?_getD, List.getElem?_eq_getElem (show k < keRows.length from h)]
  rfl
theorem ke_take_len (k : Nat) (h : k ≤ 18) : (keRows.take k).length = k := by rw [List.length_take]; exact Nat.min_eq_left h
theorem rowOf_prefix {s : List UInt8} {q : List Ke} {k : Ke} (hp : q ++ [k] <+: keRows) (hq : ∀ k ∈ q, k.nm ≠ s) (hk : k.nm = s) : rowOf s = some k := by
  obtain ⟨r, hr⟩ := hp
  unfold rowOf
  rw [← hr, List.append_assoc, List.find?_append, List.find?_eq_none.2 (fun x hx => by simpa using hq x hx)]
  simp [hk]
theorem rowOf_none {s : List UInt8} (hq : ∀ k ∈ keRows, k.nm ≠ s) : rowOf s = none := by
  unfold rowOf
  exact List.find?_eq_none.2 (fun x hx => by simpa using hq x hx)
theorem rowOf_mem {s : List UInt8} {k : Ke} (h : rowOf s = some k) : k ∈ keRows ∧ k.nm = s := by
  unfold rowOf at h
  exact ⟨List.mem_of_find?_eq_some h, by simpa using List.find?_some h⟩
theorem rowOf_each (k : Nat) (hk : k < 18) : rowOf (keAt k).nm = some (keAt k) := by
  have h : k = 0 ∨ k = 1 ∨ k = 2 ∨ k = 3 ∨ k = 4 ∨ k = 5 ∨ k = 6 ∨ k = 7 ∨ k = 8 ∨ k = 9 ∨ k = 10 ∨ k = 11 ∨ k = 12 ∨ k = 13 ∨ k = 14 ∨ k = 15 ∨ k = 16 ∨ k = 17 := by omega
  rcases h with rfl | rfl | rfl | rfl | rfl | rfl | rfl | rfl | rfl | rfl | rfl | rfl | rfl | rfl | rfl | rfl | rfl | rfl
  all_goals rfl
/-- every key's bounds, kind and sizes -/
def keOk (k : Ke) : Bool := decide (k.lo ≤ k.hi ∧ k.hi ≤ 16777215 ∧ 1 ≤ k.kd ∧ k.kd ≤ 7 ∧ k.nm.length ≤ 63 ∧ k.df.length ≤ 63 ∧ k.nm ≠ [])
theorem ke_ok : ∀ k ∈ keRows, keOk k = true := by decide +kernel
theorem rowOf_ok {s : List UInt8} {k : Ke} (h : rowOf s = some k) : k.lo ≤ k.hi ∧ k.hi ≤ 16777215 ∧ 1 ≤ k.kd ∧ k.kd ≤ 7 ∧ k.nm.length ≤ 63 ∧ k.df.length ≤ 63 ∧ k.nm ≠ [] := by
  have := ke_ok k (rowOf_mem h).1
  unfold keOk at this
  exact of_decide_eq_true this
end Go.Proofs.YtikcgnalcchlpaaGreatDoor
