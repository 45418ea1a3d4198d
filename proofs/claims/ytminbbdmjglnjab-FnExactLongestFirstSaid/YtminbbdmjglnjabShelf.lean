/-
  Layings of the shelf at this translation, in plain words: the numbers of the library's functions, types and variables here.
-/
import Derived.Shelf.Small.Bits
import Derived.Shelf.Strconv.Itoa0
import Derived.Ground.GgsProg
import Derived.Shelf.GgSortFunc.Insertion
import Derived.Shelf.GgSortFunc.Small
import Derived.Shelf.GgSortFunc.Compose
import Derived.Shelf.GgSortFunc.LotD
import Derived.Shelf.GgSortFunc.Pivot
import Derived.Shelf.GgSortFunc.Partition
import Derived.Shelf.GgSortFunc.Pdq
import Derived.Shelf.GgSortFunc.Whole
import Derived.Shelf.SlSortFunc.Xorshift
import Derived.Shelf.SlSortFunc.SiftDown
import Derived.Shelf.SlSortFunc.HeapSort
import Derived.Shelf.SlSortFunc.PartialInsertion
import Derived.Test.YtminbbdmjglnjabProg
namespace Go.Proofs
open Go.Shelf
def Try.laysGg6_ren : Go.Shelf.Ren := ⟨fun | 6 => 42 | 10 => 52 | 11 => 53 | 12 => 54 | 13 => 55 | 14 => 56 | 24 => 69 | 25 => 70 | 26 => 71 | 27 => 72 | 28 => 73 | 29 => 74 | 30 => 75 | 31 => 76 | 32 => 77 | 33 => 78 | 34 => 80 | 35 => 81 | 36 => 82 | 37 => 83 | 38 => 84 | 39 => 85 | n => n, fun | 20 => 20 | 26 => 63 | 35 => 73 | 0 => 0 | 37 => 75 | 3 => 3 | 41 => 79 | 44 => 82 | 49 => 93 | 51 => 85 | 4 => 4 | 54 => 97 | 53 => 96 | 58 => 101 | 5 => 5 | 9 => 9 | 60 => 104 | 64 => 108 | 66 => 110 | 67 => 111 | 17 => 17 | 32 => 70 | 33 => 71 | 82 => 126 | 12 => 12 | 75 => 119 | 76 => 120 | 77 => 121 | 78 => 122 | 79 => 123 | 80 => 124 | n => n, fun | n => n⟩
theorem Try.laysGg6 : Go.Proofs.LaysGg.n6 Try.prog Try.laysGg6_ren := {
  mixed := by kernel_rfl
  f6 := Try.func42.trans (congrArg some (by kernel_rfl))
  f10 := Try.func52.trans (congrArg some (by kernel_rfl))
  f11 := Try.func53.trans (congrArg some (by kernel_rfl))
  f12 := Try.func54.trans (congrArg some (by kernel_rfl))
  f13 := Try.func55.trans (congrArg some (by kernel_rfl))
  f14 := Try.func56.trans (congrArg some (by kernel_rfl))
  f24 := Try.func69.trans (congrArg some (by kernel_rfl))
  f25 := Try.func70.trans (congrArg some (by kernel_rfl))
  f26 := Try.func71.trans (congrArg some (by kernel_rfl))
  f27 := Try.func72.trans (congrArg some (by kernel_rfl))
  f28 := Try.func73.trans (congrArg some (by kernel_rfl))
  f29 := Try.func74.trans (congrArg some (by kernel_rfl))
  f30 := Try.func75.trans (congrArg some (by kernel_rfl))
  f31 := Try.func76.trans (congrArg some (by kernel_rfl))
  f32 := Try.func77.trans (congrArg some (by kernel_rfl))
  f33 := Try.func78.trans (congrArg some (by kernel_rfl))
  f34 := Try.func80.trans (congrArg some (by kernel_rfl))
  f35 := Try.func81.trans (congrArg some (by kernel_rfl))
  f36 := Try.func82.trans (congrArg some (by kernel_rfl))
  f37 := Try.func83.trans (congrArg some (by kernel_rfl))
  f38 := Try.func84.trans (congrArg some (by kernel_rfl))
  f39 := Try.func85.trans (congrArg some (by kernel_rfl))
  t0 := Try.underlying0
  a0 := Try.isAgg0
  z0 := Try.sizeOf0
  v0 := Try.zeroValue0
  i0 := by kernel_rfl
  t3 := Try.underlying3
  a3 := Try.isAgg3
  z3 := Try.sizeOf3
  v3 := Try.zeroValue3
  i3 := by kernel_rfl
  t4 := Try.underlying4
  a4 := Try.isAgg4
  z4 := Try.sizeOf4
  v4 := Try.zeroValue4
  i4 := by kernel_rfl
  t5 := Try.underlying5
  a5 := Try.isAgg5
  z5 := Try.sizeOf5
  v5 := Try.zeroValue5
  i5 := by kernel_rfl
  t9 := Try.underlying9
  a9 := Try.isAgg9
  z9 := Try.sizeOf9
  v9 := Try.zeroValue9
  i9 := by kernel_rfl
  t12 := Try.underlying12
  a12 := Try.isAgg12
  z12 := Try.sizeOf12
  v12 := Try.zeroValue12
  i12 := by kernel_rfl
  t17 := Try.underlying17
  a17 := Try.isAgg17
  z17 := Try.sizeOf17
  v17 := Try.zeroValue17
  i17 := by kernel_rfl
  t20 := Try.underlying20
  a20 := Try.isAgg20
  z20 := Try.sizeOf20
  v20 := Try.zeroValue20
  i20 := by kernel_rfl
  t26 := Try.underlying63
  a26 := Try.isAgg63
  z26 := Try.sizeOf63
  v26 := Try.zeroValue63
  i26 := by kernel_rfl
  t32 := Try.underlying70
  a32 := Try.isAgg70
  z32 := Try.sizeOf70
  v32 := Try.zeroValue70
  i32 := by kernel_rfl
  t33 := Try.underlying71
  a33 := Try.isAgg71
  z33 := Try.sizeOf71
  v33 := Try.zeroValue71
  i33 := by kernel_rfl
  t35 := Try.underlying73
  a35 := Try.isAgg73
  z35 := Try.sizeOf73
  v35 := Try.zeroValue73
  i35 := by kernel_rfl
  t37 := Try.underlying75
  a37 := Try.isAgg75
  z37 := Try.sizeOf75
  v37 := Try.zeroValue75
  i37 := by kernel_rfl
  t41 := Try.underlying79
  a41 := Try.isAgg79
  z41 := Try.sizeOf79
  v41 := Try.zeroValue79
  i41 := by kernel_rfl
  t44 := Try.underlying82
  a44 := Try.isAgg82
  z44 := Try.sizeOf82
  v44 := Try.zeroValue82
  i44 := by kernel_rfl
  t49 := Try.underlying93
  a49 := Try.isAgg93
  z49 := Try.sizeOf93
  v49 := Try.zeroValue93
  i49 := by kernel_rfl
  t51 := Try.underlying85
  a51 := Try.isAgg85
  z51 := Try.sizeOf85
  v51 := Try.zeroValue85
  i51 := by kernel_rfl
  t53 := Try.underlying96
  a53 := Try.isAgg96
  z53 := Try.sizeOf96
  v53 := Try.zeroValue96
  i53 := by kernel_rfl
  t54 := Try.underlying97
  a54 := Try.isAgg97
  z54 := Try.sizeOf97
  v54 := Try.zeroValue97
  i54 := by kernel_rfl
  t58 := Try.underlying101
  a58 := Try.isAgg101
  z58 := Try.sizeOf101
  v58 := Try.zeroValue101
  i58 := by kernel_rfl
  t60 := Try.underlying104
  a60 := Try.isAgg104
  z60 := Try.sizeOf104
  v60 := Try.zeroValue104
  i60 := by kernel_rfl
  t64 := Try.underlying108
  a64 := Try.isAgg108
  z64 := Try.sizeOf108
  v64 := Try.zeroValue108
  i64 := by kernel_rfl
  t66 := Try.underlying110
  a66 := Try.isAgg110
  z66 := Try.sizeOf110
  v66 := Try.zeroValue110
  i66 := by kernel_rfl
  t67 := Try.underlying111
  a67 := Try.isAgg111
  z67 := Try.sizeOf111
  v67 := Try.zeroValue111
  i67 := by kernel_rfl
  t75 := Try.underlying119
  a75 := Try.isAgg119
  z75 := Try.sizeOf119
  v75 := Try.zeroValue119
  i75 := by kernel_rfl
  t76 := Try.underlying120
  a76 := Try.isAgg120
  z76 := Try.sizeOf120
  v76 := Try.zeroValue120
  i76 := by kernel_rfl
  t77 := Try.underlying121
  a77 := Try.isAgg121
  z77 := Try.sizeOf121
  v77 := Try.zeroValue121
  i77 := by kernel_rfl
  t78 := Try.underlying122
  a78 := Try.isAgg122
  z78 := Try.sizeOf122
  v78 := Try.zeroValue122
  i78 := by kernel_rfl
  t79 := Try.underlying123
  a79 := Try.isAgg123
  z79 := Try.sizeOf123
  v79 := Try.zeroValue123
  i79 := by kernel_rfl
  t80 := Try.underlying124
  a80 := Try.isAgg124
  z80 := Try.sizeOf124
  v80 := Try.zeroValue124
  i80 := by kernel_rfl
  t82 := Try.underlying126
  a82 := Try.isAgg126
  z82 := Try.sizeOf126
  v82 := Try.zeroValue126
  i82 := by kernel_rfl }
end Go.Proofs
