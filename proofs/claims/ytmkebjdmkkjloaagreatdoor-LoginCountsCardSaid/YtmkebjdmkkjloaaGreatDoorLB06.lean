/- LB06: several texts in one. -/
import Derived.ShapedOpen
import Derived.Shelf.Vars
import Derived.Test.YtmkebjdmkkjloaaGreatDoorRows
import Derived.Test.YtmkebjdmkkjloaaGreatDoorLB01
namespace Go.Proofs.YtmkebjdmkkjloaaGreatDoor
structure Fd where
 nm : List UInt8
 pos : Nat
 sz : Nat
 deriving DecidableEq
structure Kd where
 op : Nat
 nm : List UInt8
 fl : Nat
 fs : List Fd
 tx : List UInt8
def kd0 : Kd := ⟨0, [78, 111, 112, 79, 117, 116], 128,
 [⟨[76, 85, 78], 8, 8⟩, ⟨[73, 84, 84], 16, 4⟩, ⟨[84, 84, 84], 20, 4⟩, ⟨[67, 109, 100, 83, 78], 24, 4⟩, ⟨[69, 120, 112, 83, 116, 97, 116, 83, 78], 28, 4⟩],
 [76, 85, 78, 32, 56, 32, 56, 44, 32, 73, 84, 84, 32, 49, 54, 32, 52, 44, 32, 84, 84, 84, 32, 50, 48, 32, 52, 44, 32, 67, 109, 100, 83, 78, 32, 50, 52, 32, 52, 44, 32, 69, 120, 112, 83, 116, 97, 116, 83, 78, 32, 50, 56, 32, 52]⟩
def kd1 : Kd := ⟨1, [83, 99, 115, 105, 67, 111, 109, 109, 97, 110, 100], 231,
 [⟨[76, 85, 78], 8, 8⟩, ⟨[73, 84, 84], 16, 4⟩, ⟨[76, 101, 110, 103, 116, 104], 20, 4⟩, ⟨[67, 109, 100, 83, 78], 24, 4⟩, ⟨[69, 120, 112, 83, 116, 97, 116, 83, 78], 28, 4⟩, ⟨[67, 100, 98, 65], 32, 8⟩, ⟨[67, 100, 98, 66], 40, 8⟩],
 [76, 85, 78, 32, 56, 32, 56, 44, 32, 73, 84, 84, 32, 49, 54, 32, 52, 44, 32, 76, 101, 110, 103, 116, 104, 32, 50, 48, 32, 52, 44, 32, 67, 109, 100, 83, 78, 32, 50, 52, 32, 52, 44, 32, 69, 120, 112, 83, 116, 97, 116, 83, 78, 32, 50, 56, 32, 52, 44, 32, 67, 100, 98, 65, 32, 51, 50, 32, 56, 44, 32, 67, 100, 98, 66, 32, 52, 48, 32, 56]⟩
def kd2 : Kd := ⟨2, [84, 97, 115, 107, 82, 101, 113, 117, 101, 115, 116], 255,
 [⟨[76, 85, 78], 8, 8⟩, ⟨[73, 84, 84], 16, 4⟩, ⟨[82, 101, 102, 84, 97, 103], 20, 4⟩, ⟨[67, 109, 100, 83, 78], 24, 4⟩, ⟨[69, 120, 112, 83, 116, 97, 116, 83, 78], 28, 4⟩, ⟨[82, 101, 102, 67, 109, 100, 83, 78], 32, 4⟩, ⟨[69, 120, 112, 68, 97, 116, 97, 83, 78], 36, 4⟩],
 [76, 85, 78, 32, 56, 32, 56, 44, 32, 73, 84, 84, 32, 49, 54, 32, 52, 44, 32, 82, 101, 102, 84, 97, 103, 32, 50, 48, 32, 52, 44, 32, 67, 109, 100, 83, 78, 32, 50, 52, 32, 52, 44, 32, 69, 120, 112, 83, 116, 97, 116, 83, 78, 32, 50, 56, 32, 52, 44, 32, 82, 101, 102, 67, 109, 100, 83, 78, 32, 51, 50, 32, 52, 44, 32, 69, 120, 112, 68, 97, 116, 97, 83, 78, 32, 51, 54, 32, 52]⟩
def kd3 : Kd := ⟨3, [76, 111, 103, 105, 110, 82, 101, 113, 117, 101, 115, 116], 207,
 [⟨[86, 101, 114, 115, 105, 111, 110, 77, 97, 120], 2, 1⟩, ⟨[86, 101, 114, 115, 105, 111, 110, 77, 105, 110], 3, 1⟩, ⟨[73, 83, 73, 68], 8, 6⟩, ⟨[84, 83, 73, 72], 14, 2⟩, ⟨[73, 84, 84], 16, 4⟩, ⟨[67, 73, 68], 20, 2⟩, ⟨[67, 109, 100, 83, 78], 24, 4⟩, ⟨[69, 120, 112, 83, 116, 97, 116, 83, 78], 28, 4⟩],
 [86, 101, 114, 115, 105, 111, 110, 77, 97, 120, 32, 50, 32, 49, 44, 32, 86, 101, 114, 115, 105, 111, 110, 77, 105, 110, 32, 51, 32, 49, 44, 32, 73, 83, 73, 68, 32, 56, 32, 54, 44, 32, 84, 83, 73, 72, 32, 49, 52, 32, 50, 44, 32, 73, 84, 84, 32, 49, 54, 32, 52, 44, 32, 67, 73, 68, 32, 50, 48, 32, 50, 44, 32, 67, 109, 100, 83, 78, 32, 50, 52, 32, 52, 44, 32, 69, 120, 112, 83, 116, 97, 116, 83, 78, 32, 50, 56, 32, 52]⟩
def kd4 : Kd := ⟨4, [84, 101, 120, 116, 82, 101, 113, 117, 101, 115, 116], 192,
 [⟨[76, 85, 78], 8, 8⟩, ⟨[73, 84, 84], 16, 4⟩, ⟨[84, 84, 84], 20, 4⟩, ⟨[67, 109, 100, 83, 78], 24, 4⟩, ⟨[69, 120, 112, 83, 116, 97, 116, 83, 78], 28, 4⟩],
 [76, 85, 78, 32, 56, 32, 56, 44, 32, 73, 84, 84, 32, 49, 54, 32, 52, 44, 32, 84, 84, 84, 32, 50, 48, 32, 52, 44, 32, 67, 109, 100, 83, 78, 32, 50, 52, 32, 52, 44, 32, 69, 120, 112, 83, 116, 97, 116, 83, 78, 32, 50, 56, 32, 52]⟩
def kd5 : Kd := ⟨5, [68, 97, 116, 97, 79, 117, 116], 128,
 [⟨[76, 85, 78], 8, 8⟩, ⟨[73, 84, 84], 16, 4⟩, ⟨[84, 84, 84], 20, 4⟩, ⟨[69, 120, 112, 83, 116, 97, 116, 83, 78], 28, 4⟩, ⟨[68, 97, 116, 97, 83, 78], 36, 4⟩, ⟨[79, 102, 102, 115, 101, 116], 40, 4⟩],
 [76, 85, 78, 32, 56, 32, 56, 44, 32, 73, 84, 84, 32, 49, 54, 32, 52, 44, 32, 84, 84, 84, 32, 50, 48, 32, 52, 44, 32, 69, 120, 112, 83, 116, 97, 116, 83, 78, 32, 50, 56, 32, 52, 44, 32, 68, 97, 116, 97, 83, 78, 32, 51, 54, 32, 52, 44, 32, 79, 102, 102, 115, 101, 116, 32, 52, 48, 32, 52]⟩
def kd6 : Kd := ⟨6, [76, 111, 103, 111, 117, 116, 82, 101, 113, 117, 101, 115, 116], 255,
 [⟨[73, 84, 84], 16, 4⟩, ⟨[67, 73, 68], 20, 2⟩, ⟨[67, 109, 100, 83, 78], 24, 4⟩, ⟨[69, 120, 112, 83, 116, 97, 116, 83, 78], 28, 4⟩],
 [73, 84, 84, 32, 49, 54, 32, 52, 44, 32, 67, 73, 68, 32, 50, 48, 32, 50, 44, 32, 67, 109, 100, 83, 78, 32, 50, 52, 32, 52, 44, 32, 69, 120, 112, 83, 116, 97, 116, 83, 78, 32, 50, 56, 32, 52]⟩
def kd7 : Kd := ⟨16, [83, 110, 97, 99, 107], 143,
 [⟨[76, 85, 78], 8, 8⟩, ⟨[73, 84, 84], 16, 4⟩, ⟨[84, 84, 84], 20, 4⟩, ⟨[69, 120, 112, 83, 116, 97, 116, 83, 78], 28, 4⟩, ⟨[66, 101, 103, 82, 117, 110], 40, 4⟩, ⟨[82, 117, 110, 76, 101, 110, 103, 116, 104], 44, 4⟩],
 [76, 85, 78, 32, 56, 32, 56, 44, 32, 73, 84, 84, 32, 49, 54, 32, 52, 44, 32, 84, 84, 84, 32, 50, 48, 32, 52, 44, 32, 69, 120, 112, 83, 116, 97, 116, 83, 78, 32, 50, 56, 32, 52, 44, 32, 66, 101, 103, 82, 117, 110, 32, 52, 48, 32, 52, 44, 32, 82, 117, 110, 76, 101, 110, 103, 116, 104, 32, 52, 52, 32, 52]⟩
def kd8 : Kd := ⟨32, [78, 111, 112, 73, 110], 128,
 [⟨[76, 85, 78], 8, 8⟩, ⟨[73, 84, 84], 16, 4⟩, ⟨[84, 84, 84], 20, 4⟩, ⟨[83, 116, 97, 116, 83, 78], 24, 4⟩, ⟨[69, 120, 112, 67, 109, 100, 83, 78], 28, 4⟩, ⟨[77, 97, 120, 67, 109, 100, 83, 78], 32, 4⟩],
 [76, 85, 78, 32, 56, 32, 56, 44, 32, 73, 84, 84, 32, 49, 54, 32, 52, 44, 32, 84, 84, 84, 32, 50, 48, 32, 52, 44, 32, 83, 116, 97, 116, 83, 78, 32, 50, 52, 32, 52, 44, 32, 69, 120, 112, 67, 109, 100, 83, 78, 32, 50, 56, 32, 52, 44, 32, 77, 97, 120, 67, 109, 100, 83, 78, 32, 51, 50, 32, 52]⟩
def kd9 : Kd := ⟨33, [83, 99, 115, 105, 82, 101, 115, 112, 111, 110, 115, 101], 158,
 [⟨[82, 101, 115, 112, 111, 110, 115, 101], 2, 1⟩, ⟨[83, 116, 97, 116, 117, 115], 3, 1⟩, ⟨[73, 84, 84], 16, 4⟩, ⟨[83, 110, 97, 99, 107, 84, 97, 103], 20, 4⟩, ⟨[83, 116, 97, 116, 83, 78], 24, 4⟩, ⟨[69, 120, 112, 67, 109, 100, 83, 78], 28, 4⟩, ⟨[77, 97, 120, 67, 109, 100, 83, 78], 32, 4⟩, ⟨[69, 120, 112, 68, 97, 116, 97, 83, 78], 36, 4⟩, ⟨[66, 105, 100, 105, 82, 101, 115, 105, 100, 117, 97, 108], 40, 4⟩, ⟨[82, 101, 115, 105, 100, 117, 97, 108], 44, 4⟩],
 [82, 101, 115, 112, 111, 110, 115, 101, 32, 50, 32, 49, 44, 32, 83, 116, 97, 116, 117, 115, 32, 51, 32, 49, 44, 32, 73, 84, 84, 32, 49, 54, 32, 52, 44, 32, 83, 110, 97, 99, 107, 84, 97, 103, 32, 50, 48, 32, 52, 44, 32, 83, 116, 97, 116, 83, 78, 32, 50, 52, 32, 52, 44, 32, 69, 120, 112, 67, 109, 100, 83, 78, 32, 50, 56, 32, 52, 44, 32, 77, 97, 120, 67, 109, 100, 83, 78, 32, 51, 50, 32, 52, 44, 32, 69, 120, 112, 68, 97, 116, 97, 83, 78, 32, 51, 54, 32, 52, 44, 32, 66, 105, 100, 105, 82, 101, 115, 105, 100, 117, 97, 108, 32, 52, 48, 32, 52, 44, 32, 82, 101, 115, 105, 100, 117, 97, 108, 32, 52, 52, 32, 52]⟩
def kd10 : Kd := ⟨34, [84, 97, 115, 107, 82, 101, 115, 112, 111, 110, 115, 101], 128,
 [⟨[82, 101, 115, 112, 111, 110, 115, 101], 2, 1⟩, ⟨[73, 84, 84], 16, 4⟩, ⟨[83, 116, 97, 116, 83, 78], 24, 4⟩, ⟨[69, 120, 112, 67, 109, 100, 83, 78], 28, 4⟩, ⟨[77, 97, 120, 67, 109, 100, 83, 78], 32, 4⟩],
 [82, 101, 115, 112, 111, 110, 115, 101, 32, 50, 32, 49, 44, 32, 73, 84, 84, 32, 49, 54, 32, 52, 44, 32, 83, 116, 97, 116, 83, 78, 32, 50, 52, 32, 52, 44, 32, 69, 120, 112, 67, 109, 100, 83, 78, 32, 50, 56, 32, 52, 44, 32, 77, 97, 120, 67, 109, 100, 83, 78, 32, 51, 50, 32, 52]⟩
def kd11 : Kd := ⟨35, [76, 111, 103, 105, 110, 82, 101, 115, 112, 111, 110, 115, 101], 207,
 [⟨[86, 101, 114, 115, 105, 111, 110, 77, 97, 120], 2, 1⟩, ⟨[86, 101, 114, 115, 105, 111, 110, 65, 99, 116, 105, 118, 101], 3, 1⟩, ⟨[73, 83, 73, 68], 8, 6⟩, ⟨[84, 83, 73, 72], 14, 2⟩, ⟨[73, 84, 84], 16, 4⟩, ⟨[83, 116, 97, 116, 83, 78], 24, 4⟩, ⟨[69, 120, 112, 67, 109, 100, 83, 78], 28, 4⟩, ⟨[77, 97, 120, 67, 109, 100, 83, 78], 32, 4⟩, ⟨[83, 116, 97, 116, 117, 115, 67, 108, 97, 115, 115], 36, 1⟩, ⟨[83, 116, 97, 116, 117, 115, 68, 101, 116, 97, 105, 108], 37, 1⟩],
 [86, 101, 114, 115, 105, 111, 110, 77, 97, 120, 32, 50, 32, 49, 44, 32, 86, 101, 114, 115, 105, 111, 110, 65, 99, 116, 105, 118, 101, 32, 51, 32, 49, 44, 32, 73, 83, 73, 68, 32, 56, 32, 54, 44, 32, 84, 83, 73, 72, 32, 49, 52, 32, 50, 44, 32, 73, 84, 84, 32, 49, 54, 32, 52, 44, 32, 83, 116, 97, 116, 83, 78, 32, 50, 52, 32, 52, 44, 32, 69, 120, 112, 67, 109, 100, 83, 78, 32, 50, 56, 32, 52, 44, 32, 77, 97, 120, 67, 109, 100, 83, 78, 32, 51, 50, 32, 52, 44, 32, 83, 116, 97, 116, 117, 115, 67, 108, 97, 115, 115, 32, 51, 54, 32, 49, 44, 32, 83, 116, 97, 116, 117, 115, 68, 101, 116, 97, 105, 108, 32, 51, 55, 32, 49]⟩
def kd12 : Kd := ⟨36, [84, 101, 120, 116, 82, 101, 115, 112, 111, 110, 115, 101], 192,
 [⟨[76, 85, 78], 8, 8⟩, ⟨[73, 84, 84], 16, 4⟩, ⟨[84, 84, 84], 20, 4⟩, ⟨[83, 116, 97, 116, 83, 78], 24, 4⟩, ⟨[69, 120, 112, 67, 109, 100, 83, 78], 28, 4⟩, ⟨[77, 97, 120, 67, 109, 100, 83, 78], 32, 4⟩],
 [76, 85, 78, 32, 56, 32, 56, 44, 32, 73, 84, 84, 32, 49, 54, 32, 52, 44, 32, 84, 84, 84, 32, 50, 48, 32, 52, 44, 32, 83, 116, 97, 116, 83, 78, 32, 50, 52, 32, 52, 44, 32, 69, 120, 112, 67, 109, 100, 83, 78, 32, 50, 56, 32, 52, 44, 32, 77, 97, 120, 67, 109, 100, 83, 78, 32, 51, 50, 32, 52]⟩
def kd13 : Kd := ⟨37, [68, 97, 116, 97, 73, 110], 199,
 [⟨[83, 116, 97, 116, 117, 115], 3, 1⟩, ⟨[76, 85, 78], 8, 8⟩, ⟨[73, 84, 84], 16, 4⟩, ⟨[84, 84, 84], 20, 4⟩, ⟨[83, 116, 97, 116, 83, 78], 24, 4⟩, ⟨[69, 120, 112, 67, 109, 100, 83, 78], 28, 4⟩, ⟨[77, 97, 120, 67, 109, 100, 83, 78], 32, 4⟩, ⟨[68, 97, 116, 97, 83, 78], 36, 4⟩, ⟨[79, 102, 102, 115, 101, 116], 40, 4⟩, ⟨[82, 101, 115, 105, 100, 117, 97, 108], 44, 4⟩],
 [83, 116, 97, 116, 117, 115, 32, 51, 32, 49, 44, 32, 76, 85, 78, 32, 56, 32, 56, 44, 32, 73, 84, 84, 32, 49, 54, 32, 52, 44, 32, 84, 84, 84, 32, 50, 48, 32, 52, 44, 32, 83, 116, 97, 116, 83, 78, 32, 50, 52, 32, 52, 44, 32, 69, 120, 112, 67, 109, 100, 83, 78, 32, 50, 56, 32, 52, 44, 32, 77, 97, 120, 67, 109, 100, 83, 78, 32, 51, 50, 32, 52, 44, 32, 68, 97, 116, 97, 83, 78, 32, 51, 54, 32, 52, 44, 32, 79, 102, 102, 115, 101, 116, 32, 52, 48, 32, 52, 44, 32, 82, 101, 115, 105, 100, 117, 97, 108, 32, 52, 52, 32, 52]⟩
def kd14 : Kd := ⟨38, [76, 111, 103, 111, 117, 116, 82, 101, 115, 112, 111, 110, 115, 101], 128,
 [⟨[82, 101, 115, 112, 111, 110, 115, 101], 2, 1⟩, ⟨[73, 84, 84], 16, 4⟩, ⟨[83, 116, 97, 116, 83, 78], 24, 4⟩, ⟨[69, 120, 112, 67, 109, 100, 83, 78], 28, 4⟩, ⟨[77, 97, 120, 67, 109, 100, 83, 78], 32, 4⟩, ⟨[84, 105, 109, 101, 50, 87, 97, 105, 116], 40, 2⟩, ⟨[84, 105, 109, 101, 50, 82, 101, 116, 97, 105, 110], 42, 2⟩],
 [82, 101, 115, 112, 111, 110, 115, 101, 32, 50, 32, 49, 44, 32, 73, 84, 84, 32, 49, 54, 32, 52, 44, 32, 83, 116, 97, 116, 83, 78, 32, 50, 52, 32, 52, 44, 32, 69, 120, 112, 67, 109, 100, 83, 78, 32, 50, 56, 32, 52, 44, 32, 77, 97, 120, 67, 109, 100, 83, 78, 32, 51, 50, 32, 52, 44, 32, 84, 105, 109, 101, 50, 87, 97, 105, 116, 32, 52, 48, 32, 50, 44, 32, 84, 105, 109, 101, 50, 82, 101, 116, 97, 105, 110, 32, 52, 50, 32, 50]⟩
def kd15 : Kd := ⟨49, [82, 50, 84], 128,
 [⟨[76, 85, 78], 8, 8⟩, ⟨[73, 84, 84], 16, 4⟩, ⟨[84, 84, 84], 20, 4⟩, ⟨[83, 116, 97, 116, 83, 78], 24, 4⟩, ⟨[69, 120, 112, 67, 109, 100, 83, 78], 28, 4⟩, ⟨[77, 97, 120, 67, 109, 100, 83, 78], 32, 4⟩, ⟨[82, 50, 84, 83, 78], 36, 4⟩, ⟨[79, 102, 102, 115, 101, 116], 40, 4⟩, ⟨[76, 101, 110, 103, 116, 104], 44, 4⟩],
 [76, 85, 78, 32, 56, 32, 56, 44, 32, 73, 84, 84, 32, 49, 54, 32, 52, 44, 32, 84, 84, 84, 32, 50, 48, 32, 52, 44, 32, 83, 116, 97, 116, 83, 78, 32, 50, 52, 32, 52, 44, 32, 69, 120, 112, 67, 109, 100, 83, 78, 32, 50, 56, 32, 52, 44, 32, 77, 97, 120, 67, 109, 100, 83, 78, 32, 51, 50, 32, 52, 44, 32, 82, 50, 84, 83, 78, 32, 51, 54, 32, 52, 44, 32, 79, 102, 102, 115, 101, 116, 32, 52, 48, 32, 52, 44, 32, 76, 101, 110, 103, 116, 104, 32, 52, 52, 32, 52]⟩
def kd16 : Kd := ⟨50, [65, 115, 121, 110, 99], 128,
 [⟨[76, 85, 78], 8, 8⟩, ⟨[73, 84, 84], 16, 4⟩, ⟨[83, 116, 97, 116, 83, 78], 24, 4⟩, ⟨[69, 120, 112, 67, 109, 100, 83, 78], 28, 4⟩, ⟨[77, 97, 120, 67, 109, 100, 83, 78], 32, 4⟩, ⟨[69, 118, 101, 110, 116], 36, 1⟩, ⟨[86, 67, 111, 100, 101], 37, 1⟩, ⟨[80, 97, 114, 97, 109, 101, 116, 101, 114, 49], 38, 2⟩, ⟨[80, 97, 114, 97, 109, 101, 116, 101, 114, 50], 40, 2⟩, ⟨[80, 97, 114, 97, 109, 101, 116, 101, 114, 51], 42, 2⟩],
 [76, 85, 78, 32, 56, 32, 56, 44, 32, 73, 84, 84, 32, 49, 54, 32, 52, 44, 32, 83, 116, 97, 116, 83, 78, 32, 50, 52, 32, 52, 44, 32, 69, 120, 112, 67, 109, 100, 83, 78, 32, 50, 56, 32, 52, 44, 32, 77, 97, 120, 67, 109, 100, 83, 78, 32, 51, 50, 32, 52, 44, 32, 69, 118, 101, 110, 116, 32, 51, 54, 32, 49, 44, 32, 86, 67, 111, 100, 101, 32, 51, 55, 32, 49, 44, 32, 80, 97, 114, 97, 109, 101, 116, 101, 114, 49, 32, 51, 56, 32, 50, 44, 32, 80, 97, 114, 97, 109, 101, 116, 101, 114, 50, 32, 52, 48, 32, 50, 44, 32, 80, 97, 114, 97, 109, 101, 116, 101, 114, 51, 32, 52, 50, 32, 50]⟩
def kd17 : Kd := ⟨63, [82, 101, 106, 101, 99, 116], 128,
 [⟨[82, 101, 97, 115, 111, 110], 2, 1⟩, ⟨[73, 84, 84], 16, 4⟩, ⟨[83, 116, 97, 116, 83, 78], 24, 4⟩, ⟨[69, 120, 112, 67, 109, 100, 83, 78], 28, 4⟩, ⟨[77, 97, 120, 67, 109, 100, 83, 78], 32, 4⟩, ⟨[68, 97, 116, 97, 83, 78], 36, 4⟩],
 [82, 101, 97, 115, 111, 110, 32, 50, 32, 49, 44, 32, 73, 84, 84, 32, 49, 54, 32, 52, 44, 32, 83, 116, 97, 116, 83, 78, 32, 50, 52, 32, 52, 44, 32, 69, 120, 112, 67, 109, 100, 83, 78, 32, 50, 56, 32, 52, 44, 32, 77, 97, 120, 67, 109, 100, 83, 78, 32, 51, 50, 32, 52, 44, 32, 68, 97, 116, 97, 83, 78, 32, 51, 54, 32, 52]⟩
def kinds : List Kd := [kd0, kd1, kd2, kd3, kd4, kd5, kd6, kd7, kd8, kd9, kd10, kd11, kd12, kd13, kd14, kd15, kd16, kd17]
def kindOf (op : Int) : Option Kd := kinds.find? fun k => decide ((k.op : Int) = op)
end Go.Proofs.YtmkebjdmkkjloaaGreatDoor
namespace Go.Proofs.YtmkebjdmkkjloaaGreatDoor
open Go.RowKit
def zs (n : Nat) : List UInt8 := List.replicate n 0
@[go_sem] theorem zs_len (n : Nat) : (zs n).length = n := by simp [zs]
def be (n : Nat) : Nat → List UInt8
 | 0 => []
 | k + 1 => UInt8.ofNat (n / 2 ^ (8 * k) % 256) :: be n k
theorem be_len (n k : Nat) : (be n k).length = k := by induction k <;> simp [be, *]
def val (l : List UInt8) : Nat := l.foldl (fun n b => n * 256 + b.toNat) 0
structure Hd where
 op : Int
 now : Bool
 fl : Int
 vs : List Nat
def hd0 : Hd := ⟨0, false, 0, []⟩
def idxName : List Fd → List UInt8 → Option Nat
 | [], _ => none
 | f :: fs, n => if f.nm = n then some 0 else (idxName fs n).map (· + 1)
def flOk (fl : Int) (mask : Nat) : Bool := decide (0 ≤ fl) && (fl.toNat &&& mask == fl.toNat)
def badVal : List Fd → List Nat → Option Nat
 | f :: fs, v :: vs => if v / 2 ^ (8 * f.sz) = 0 then (badVal fs vs).map (· + 1) else some 0
 | _, _ => none
def rightK (k : Kd) (now : Bool) (op : Int) (fl : Int) (vs : List Nat) : Int × Int :=
 if (now && decide (32 ≤ op)) || !flOk fl k.fl then (3, -1)
 else if vs.length ≠ k.fs.length then (7, -1)
 else match badVal k.fs vs with
  | some i => (2, (i : Int))
  | none => (0, -1)
def rightR (h : Hd) : Int × Int :=
 match kindOf h.op with
 | none => (1, -1)
 | some k => rightK k h.now h.op h.fl h.vs
def valueK (k : Kd) (vs : List Nat) (n : List UInt8) : Nat × Int :=
 match idxName k.fs n with
 | none => (0, 5)
 | some i => if i < vs.length then (vs.getD i 0, 0) else (0, 7)
def valueR (h : Hd) (n : List UInt8) : Nat × Int :=
 match kindOf h.op with
 | none => (0, 1)
 | some k => valueK k h.vs n
def fill (fs : List Fd) : List (List UInt8) → List Nat → List Nat → List Nat × Int
 | [], _, acc => (acc, 0)
 | n :: ns, vs, acc => match idxName fs n with
  | none => (acc, 5)
  | some j => match vs with
   | [] => (acc, 7)
   | v :: vs => fill fs ns vs (acc.set j v)
def makeR (op fl : Int) (ns : List (List UInt8)) (vs : List Nat) : Hd × Int × Int :=
 match kindOf op with
 | none => (hd0, 1, -1)
 | some k =>
  let r := fill k.fs ns vs (List.replicate k.fs.length 0)
  if r.2 ≠ 0 then (hd0, r.2, -1)
  else
   let e := rightR ⟨op, false, fl, r.1⟩
   if e.1 ≠ 0 then (hd0, e) else (⟨op, false, fl, r.1⟩, 0, -1)
def cutB (l : List UInt8) (o n : Nat) : List UInt8 := (l.drop o).take n
def readW (s : List UInt8) : Nat := val (cutB s 4 1)
def readD (s : List UInt8) : Nat := val (cutB s 5 3)
def apartF : List Fd → Bool
 | [] => true
 | f :: fs => fs.all (fun g => decide (f.pos + f.sz ≤ g.pos ∨ g.pos + g.sz ≤ f.pos) && decide (f.nm ≠ g.nm)) && apartF fs
def fieldOk (f : Fd) : Bool := decide (2 ≤ f.pos) && decide (f.pos + f.sz ≤ 48) && decide (1 ≤ f.sz) && decide (f.sz ≤ 8) && decide (f.pos + f.sz ≤ 4 ∨ 8 ≤ f.pos) && decide (0 < f.nm.length) && decide (f.nm.length < 50)
def kindOk (k : Kd) : Bool := decide (k.op < 64) && decide (0 < k.fl) && decide (k.fl < 256) && decide (1 ≤ k.fs.length) && decide (k.fs.length ≤ 10) && k.fs.all fieldOk && apartF k.fs && decide (0 < k.nm.length) && decide (k.nm.length < 50) && (idxName k.fs [73, 84, 84]).isSome
theorem kinds_ok : kinds.all kindOk = true := by decide +kernel
theorem kindOf_mem {op : Int} {k : Kd} (h : kindOf op = some k) : k ∈ kinds ∧ (k.op : Int) = op := by
 unfold kindOf at h
 exact ⟨List.mem_of_find?_eq_some h, by have := List.find?_some h; simpa using this⟩
theorem kindOf_ok {op : Int} {k : Kd} (h : kindOf op = some k) : kindOk k = true := List.all_eq_true.1 kinds_ok k (kindOf_mem h).1
structure KindFacts (k : Kd) : Prop where
 op : k.op < 64
 fl0 : 0 < k.fl
 fl : k.fl < 256
 len0 : 1 ≤ k.fs.length
 len : k.fs.length ≤ 10
 fok : ∀ f ∈ k.fs, 2 ≤ f.pos ∧ f.pos + f.sz ≤ 48 ∧ 1 ≤ f.sz ∧ f.sz ≤ 8 ∧ (f.pos + f.sz ≤ 4 ∨ 8 ≤ f.pos) ∧ 0 < f.nm.length ∧ f.nm.length < 50
 apart : apartF k.fs = true
 nm0 : 0 < k.nm.length
 nm : k.nm.length < 50
 itt : ∃ i, idxName k.fs [73, 84, 84] = some i
theorem kindFacts {op : Int} {k : Kd} (h : kindOf op = some k) : KindFacts k := by
 have hk := kindOf_ok h
 unfold kindOk at hk
 simp only [Bool.and_eq_true, decide_eq_true_eq] at hk
 obtain ⟨⟨⟨⟨⟨⟨⟨⟨⟨h1, h2⟩, h3⟩, h4⟩, h5⟩, h6⟩, h7⟩, h8⟩, h9⟩, h10⟩ := hk
 refine ⟨h1, h2, h3, h4, h5, fun f hf => ?_, h7, h8, h9, Option.isSome_iff_exists.1 h10⟩
 have := List.all_eq_true.1 h6 f hf
 unfold fieldOk at this
 simp only [Bool.and_eq_true, decide_eq_true_eq] at this
 obtain ⟨⟨⟨⟨⟨⟨a, b⟩, c⟩, d⟩, e⟩, f1⟩, f2⟩ := this
 exact ⟨a, b, c, d, e, f1, f2⟩
theorem idxName_lt {fs : List Fd} {n : List UInt8} {i : Nat} : idxName fs n = some i → i < fs.length := by
 induction fs generalizing i with
 | nil => intro h; cases h
 | cons f fs ih =>
  intro h
  unfold idxName at h
  split at h
  ·cases h; simp
  ·cases hx : idxName fs n with
   | none => rw [hx] at h; cases h
   | some j => rw [hx] at h; cases h; have := ih hx; simp; omega
theorem idxName_at {fs : List Fd} {n : List UInt8} {i : Nat} (h : idxName fs n = some i) : (fs[i]'(idxName_lt h)).nm = n := by
 induction fs generalizing i with
 | nil => cases h
 | cons f fs ih =>
  have h' := h
  unfold idxName at h
  split at h
  ·cases h; assumption
  ·cases hx : idxName fs n with
   | none => rw [hx] at h; cases h
   | some j => rw [hx] at h; cases h; simpa using ih hx
theorem idxName_first {fs : List Fd} {n : List UInt8} {k : Nat} (hk : k < fs.length) (h0 : ∀ j (hj : j < k), (fs[j]'(by omega)).nm ≠ n) (h1 : (fs[k]'hk).nm = n) : idxName fs n = some k := by
 induction fs generalizing k with
 | nil => simp at hk
 | cons f fs ih =>
  unfold idxName
  cases k with
  | zero => rw [if_pos (by simpa using h1)]
  | succ k =>
   rw [if_neg (by simpa using h0 0 (by omega))]
   rw [ih (k := k) (by simpa using hk) (fun j hj => by have := h0 (j + 1) (by omega); simpa using this) (by simpa using h1)]
   rfl
theorem idxName_all {fs : List Fd} {n : List UInt8} (h0 : ∀ j (hj : j < fs.length), (fs[j]'hj).nm ≠ n) : idxName fs n = none := by
 cases h : idxName fs n with
 | none => rfl
 | some i => exact absurd (idxName_at h) (h0 i (idxName_lt h))
theorem badVal_first {fs : List Fd} {vs : List Nat} {k : Nat} (hk : k < fs.length) (hv : k < vs.length) (h0 : ∀ j (hj : j < k), (vs[j]'(by omega)) / 2 ^ (8 * (fs[j]'(by omega)).sz) = 0) (h1 : vs[k] / 2 ^ (8 * fs[k].sz) ≠ 0) : badVal fs vs = some k := by
 induction fs generalizing k vs with
 | nil => simp at hk
 | cons f fs ih =>
  cases vs with
  | nil => simp at hv
  | cons v vs =>
   unfold badVal
   cases k with
   | zero => rw [if_neg (by simpa using h1)]
   | succ k =>
    rw [if_pos (by simpa using h0 0 (by omega))]
    rw [ih (k := k) (vs := vs) (by simpa using hk) (by simpa using hv) (fun j hj => by have := h0 (j + 1) (by omega); simpa using this) (by simpa using h1)]
    rfl
theorem badVal_none {fs : List Fd} {vs : List Nat} (hl : vs.length = fs.length) (h0 : ∀ j (hj : j < fs.length), (vs[j]'(by omega)) / 2 ^ (8 * (fs[j]'hj).sz) = 0) : badVal fs vs = none := by
 induction fs generalizing vs with
 | nil => rfl
 | cons f fs ih =>
  cases vs with
  | nil => rfl
  | cons v vs =>
   unfold badVal
   have h00 : v / 2 ^ (8 * f.sz) = 0 := h0 0 (by simp)
   rw [if_pos h00, ih (by simpa using hl) (fun j hj => by have := h0 (j + 1) (by simpa using hj); simpa using this)]
   rfl
theorem badVal_good {fs : List Fd} {vs : List Nat} (h : badVal fs vs = none) : ∀ j (hj : j < fs.length) (hv : j < vs.length), vs[j] / 2 ^ (8 * fs[j].sz) = 0 := by
 induction fs generalizing vs with
 | nil => intro j hj; simp at hj
 | cons f fs ih =>
  cases vs with
  | nil => intro j _ hv; simp at hv
  | cons v vs =>
   unfold badVal at h
   split at h
   ·rename_i h0
    have hx : badVal fs vs = none := by cases hx : badVal fs vs with | none => rfl | some j => rw [hx] at h; cases h
    intro j hj hv
    cases j with
    | zero => simpa using h0
    | succ j => simpa using ih hx j (by simpa using hj) (by simpa using hv)
   ·cases h
def inF (f : Fd) (i : Nat) : Prop := f.pos ≤ i ∧ i < f.pos + f.sz
instance (f : Fd) (i : Nat) : Decidable (inF f i) := by unfold inF; infer_instance
def freeK (k : Kd) (i : Nat) : Prop := i = 0 ∨ i = 1 ∨ (4 ≤ i ∧ i < 8) ∨ ∃ f ∈ k.fs, inF f i
instance (k : Kd) (i : Nat) : Decidable (freeK k i) := by unfold freeK; infer_instance
theorem getD_some {l : List UInt8} {i : Nat} {b : UInt8} (h : l[i]? = some b) : l.getD i 0 = b := by rw [List.getD_eq_getElem?_getD, h]; rfl
theorem flOk_bd {fl : Int} {m : Nat} (hm : m < 256) (h : flOk fl m = true) : 0 ≤ fl ∧ fl < 256 := by
 unfold flOk at h
 simp only [Bool.and_eq_true, decide_eq_true_eq, beq_iff_eq] at h
 have := Nat.and_le_right (n := fl.toNat) (m := m)
 omega
theorem rightR_good {h : Hd} (hr : rightR h = (0, -1)) : ∃ k, kindOf h.op = some k ∧ (h.now = true → h.op < 32) ∧ flOk h.fl k.fl = true ∧ h.vs.length = k.fs.length ∧ badVal k.fs h.vs = none := by
 unfold rightR at hr
 cases hk : kindOf h.op with
 | none => rw [hk] at hr; simp at hr
 | some k =>
  rw [hk] at hr
  simp only [rightK] at hr
  split at hr
  ·simp at hr
  ·rename_i h1
   split at hr
   ·simp at hr
   ·rename_i h2
    split at hr
    ·simp at hr
    ·rename_i h3
     simp only [Bool.or_eq_true, Bool.and_eq_true, decide_eq_true_eq, Bool.not_eq_true', not_or, not_and] at h1
     exact ⟨k, rfl, fun hn => by have := h1.1 hn; omega, by simpa using h1.2, by omega, h3⟩
theorem rightR_mk {h : Hd} {k : Kd} (hk : kindOf h.op = some k) (h1 : h.now = true → h.op < 32) (h2 : flOk h.fl k.fl = true) (h3 : h.vs.length = k.fs.length) (h4 : badVal k.fs h.vs = none) : rightR h = (0, -1) := by
 unfold rightR
 rw [hk]
 simp only [rightK]
 rw [if_neg, if_neg (by omega), h4]
 simp only [Bool.or_eq_true, Bool.and_eq_true, decide_eq_true_eq, Bool.not_eq_true', not_or, not_and]
 exact ⟨fun hn => by have := h1 hn; omega, by simp [h2]⟩
theorem rightR_0 {h : Hd} : (rightR h).1 = 0 → rightR h = (0, -1) := by
 unfold rightR
 cases kindOf h.op with
 | none => intro h; simp at h
 | some k =>
  simp only [rightK]
  split
  ·intro h; simp at h
  ·split
   ·intro h; simp at h
   ·split
    ·intro h; simp at h
    ·intro _; rfl
end Go.Proofs.YtmkebjdmkkjloaaGreatDoor
namespace Go.Proofs.YtmkebjdmkkjloaaGreatDoor
open Go.RowKit
set_option linter.unusedVariables false
def padI (n : Int) : Int := if n < 0 then 0 else (4 - n % 4) % 4
theorem padI_nat (n : Nat) : padI n = (((4 - n % 4) % 4 : Nat) : Int) := by unfold padI; rw [if_neg (by omega)]; omega
theorem padI_bd (n : Int) : 0 ≤ padI n ∧ padI n ≤ 3 := by unfold padI; split <;> omega
def pad (n : Nat) : Nat := (4 - n % 4) % 4
theorem padI_pad (n : Nat) : padI n = (pad n : Int) := padI_nat n
theorem pad_le (n : Nat) : pad n ≤ 3 := by unfold pad; omega
def padded (l : List UInt8) : List UInt8 := l ++ zs (pad l.length)
end Go.Proofs.YtmkebjdmkkjloaaGreatDoor
namespace Go.Proofs.YtmkebjdmkkjloaaGreatDoor
open Go.RowKit
structure Ah where
 k : Int
 d : List UInt8
def sizeA (a : Ah) : Nat := 3 + a.d.length + pad (3 + a.d.length)
def wrA (a : Ah) : List UInt8 := padded (be a.d.length 2 ++ be a.k.toNat 1 ++ a.d)
theorem wrA_len (a : Ah) : (wrA a).length = sizeA a := by
 have e : (be a.d.length 2 ++ be a.k.toNat 1 ++ a.d).length = 3 + a.d.length := by
  simp only [List.length_append, be_len]
 unfold wrA padded sizeA
 rw [List.length_append, zs_len, e]
def wrL (l : List Ah) : List UInt8 := l.flatMap wrA
theorem wrL_nil : wrL [] = [] := rfl
theorem wrL_cons (a : Ah) (l : List Ah) : wrL (a :: l) = wrA a ++ wrL l := rfl
def rightF : Nat → Nat → List Ah → Int × Int
 | _, _, [] => (0, -1)
 | all, i, a :: l => if a.k < 0 ∨ 255 < a.k then (2, (i : Int)) else if 1020 < all + sizeA a then (4, (i : Int)) else rightF (all + sizeA a) (i + 1) l
theorem rightF_cons (all i : Nat) (a : Ah) (l : List Ah) : rightF all i (a :: l) = if a.k < 0 ∨ 255 < a.k then (2, (i : Int)) else if 1020 < all + sizeA a then (4, (i : Int)) else rightF (all + sizeA a) (i + 1) l := rfl
def rightA (l : List Ah) : Int × Int := rightF 0 0 l
def okK (l : List Ah) : Prop := ∀ a ∈ l, 0 ≤ a.k ∧ a.k ≤ 255
theorem rightF_is : ∀ (l : List Ah) (all i : Nat), (rightF all i l).1 = 0 → okK l ∧ (l ≠ [] → all + (wrL l).length ≤ 1020) ∧ rightF all i l = (0, -1)
 | [], _, _, _ => ⟨fun _ h => absurd h List.not_mem_nil, fun h => absurd rfl h, rfl⟩
 | a :: l, all, i, h => by
  unfold rightF at h ⊢
  by_cases h1 : a.k < 0 ∨ 255 < a.k
  ·rw [if_pos h1] at h; exact absurd h (by simp)
  ·rw [if_neg h1] at h ⊢
   by_cases h2 : 1020 < all + sizeA a
   ·rw [if_pos h2] at h; exact absurd h (by simp)
   ·rw [if_neg h2] at h ⊢
    obtain ⟨k1, k2, k3⟩ := rightF_is l _ _ h
    refine ⟨fun b hb => ?_, fun _ => ?_, k3⟩
    ·rcases List.mem_cons.1 hb with rfl | hb
     ·omega
     ·exact k1 b hb
    ·rw [wrL_cons, List.length_append, wrA_len]
     by_cases hl : l = []
     ·subst hl; simp [wrL_nil]; omega
     ·have := k2 hl; omega
theorem rightA_is (l : List Ah) (h : (rightA l).1 = 0) : okK l ∧ (wrL l).length ≤ 1020 ∧ rightA l = (0, -1) := by
 obtain ⟨k1, k2, k3⟩ := rightF_is l 0 0 h
 refine ⟨k1, ?_, k3⟩
 by_cases hl : l = []
 ·subst hl; simp [wrL_nil]
 ·have := k2 hl; omega
end Go.Proofs.YtmkebjdmkkjloaaGreatDoor
namespace Go.Proofs.YtmkebjdmkkjloaaGreatDoor
def le (n : Nat) : Nat → List UInt8
 | 0 => []
 | k + 1 => le n k ++ [UInt8.ofNat (n / 2 ^ (8 * k) % 256)]
end Go.Proofs.YtmkebjdmkkjloaaGreatDoor
namespace Go.Proofs.YtmkebjdmkkjloaaGreatDoor
open Go.RowKit
structure Pd where
 h : Hd
 a : List Ah
 d : List UInt8
def pd0 : Pd := ⟨hd0, [], []⟩
def onM (m w : Nat) : Bool := decide (m / w % 2 = 1)
def okM (m : Int) : Prop := 0 ≤ m ∧ m ≤ 3
instance (m : Int) : Decidable (okM m) := by unfold okM; infer_instance
def room (m w n : Nat) : Nat := if onM m w = true ∧ n ≠ 0 then 4 else 0
def rightP (p : Pd) : Int := if (rightR p.h).1 ≠ 0 then (rightR p.h).1 else if (rightA p.a).1 ≠ 0 then (rightA p.a).1 else if 100000 < p.d.length then 4 else 0
def eh (s : List UInt8) : Nat := 48 + 4 * readW s
def eg (s : List UInt8) (m : Nat) : Nat := eh s + room m 1 (eh s)
def ed (s : List UInt8) (m : Nat) : Nat := eg s m + readD s + pad (readD s)
def ea (s : List UInt8) (m : Nat) : Nat := ed s m + room m 2 (readD s)
structure RightP (p : Pd) : Prop where
 h : rightR p.h = (0, -1)
 k : okK p.a
 a : (wrL p.a).length ≤ 1020
 r : rightA p.a = (0, -1)
 d : p.d.length ≤ 100000
theorem rightP_is {p : Pd} (h : rightP p = 0) : RightP p := by
 unfold rightP at h
 by_cases h1 : (rightR p.h).1 = 0
 ·rw [if_neg (by simp [h1])] at h
  by_cases h2 : (rightA p.a).1 = 0
  ·rw [if_neg (by simp [h2])] at h
   obtain ⟨k1, k2, k3⟩ := rightA_is _ h2
   refine ⟨rightR_0 h1, k1, k2, k3, ?_⟩
   by_cases h3 : 100000 < p.d.length
   ·rw [if_pos h3] at h; exact absurd h (by decide)
   ·omega
  ·rw [if_pos h2] at h; exact absurd h h2
 ·rw [if_pos h1] at h; exact absurd h h1
def MaxCell (w : World) : Prop := ∃ m : Int, w.cell? ⟨5, 0, none⟩ = some (.int .i64 m)
theorem MaxCell.later {w w' : World} (h : MaxCell w) (hb : Below w.heap.size w w') : MaxCell w' := by
 obtain ⟨m, hm⟩ := h
 exact ⟨m, by rw [(bcell hb).1 _ 0 (block_lt_of_cell (w := w) (a := ⟨_, 0, none⟩) hm)]; exact hm⟩
theorem maxCell_of_shaped {W : World} (h : W.ShapedOpen Tryz.prog) : MaxCell W :=
 Go.Proofs.cell_of_shapedOpen_int (zero := #[.int .i64 0]) (t := 3) h (of_decide_eq_true (by kernel_rfl)) (by kernel_rfl) rfl (by kernel_rfl) (by kernel_rfl) Tryz.underlying3
end Go.Proofs.YtmkebjdmkkjloaaGreatDoor
