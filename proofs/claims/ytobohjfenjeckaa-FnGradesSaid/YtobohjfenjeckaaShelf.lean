/-
  Layings of the shelf at this translation, in plain words: the numbers of the library's functions, types and variables here.
-/
import Derived.Shelf.Small.Bits
import Derived.Shelf.Strconv.Itoa0
import Derived.Ground.GgsProg
import Derived.Shelf.GgSortFunc.Insertion
import Derived.Shelf.GgSortFunc.Small
import Derived.Shelf.GgSortFunc.Tiny
import Derived.Shelf.GgSortFunc.Compose
import Derived.Shelf.GgSortFunc.LotD
import Derived.Shelf.GgSortFunc.Pivot
import Derived.Shelf.GgSortFunc.Partition
import Derived.Shelf.GgSortFunc.Pdq
import Derived.Shelf.GgSortFunc.Whole
import Derived.Shelf.SlSortFunc.Xorshift
import Derived.Shelf.SlSortFunc.SiftDown
import Derived.Shelf.SlSortFunc.HeapSort
import Derived.Shelf.SlSortFunc.PartialInsertion
import Derived.Test.YtobohjfenjeckaaProg
namespace Go.Proofs
open Go.Shelf
def Try.laysGg6_ren : Go.Shelf.Ren := ⟨fun | 6 => 78 | 10 => 90 | 11 => 91 | 12 => 92 | 13 => 93 | 14 => 94 | 24 => 108 | 25 => 109 | 26 => 110 | 27 => 111 | 28 => 112 | 29 => 113 | 30 => 114 | 31 => 115 | 32 => 116 | 33 => 117 | 34 => 118 | 35 => 119 | 36 => 120 | 37 => 121 | 38 => 122 | 39 => 123 | n => n, fun | 20 => 20 | 26 => 87 | 35 => 107 | 0 => 0 | 37 => 109 | 3 => 3 | 41 => 112 | 44 => 115 | 49 => 128 | 51 => 99 | 4 => 4 | 54 => 132 | 53 => 131 | 58 => 136 | 5 => 5 | 9 => 9 | 60 => 138 | 64 => 142 | 66 => 144 | 67 => 145 | 17 => 17 | 32 => 104 | 33 => 105 | 82 => 160 | 12 => 12 | 75 => 153 | 76 => 154 | 77 => 155 | 78 => 156 | 79 => 157 | 80 => 158 | n => n, fun | n => n⟩
theorem Try.laysGg6 : Go.Proofs.LaysGg.n6 Try.prog Try.laysGg6_ren := {
  mixed := by kernel_rfl
  f6 := Try.func78.trans (congrArg some (by kernel_rfl))
  f10 := Try.func90.trans (congrArg some (by kernel_rfl))
  f11 := Try.func91.trans (congrArg some (by kernel_rfl))
  f12 := Try.func92.trans (congrArg some (by kernel_rfl))
  f13 := Try.func93.trans (congrArg some (by kernel_rfl))
  f14 := Try.func94.trans (congrArg some (by kernel_rfl))
  f24 := Try.func108.trans (congrArg some (by kernel_rfl))
  f25 := Try.func109.trans (congrArg some (by kernel_rfl))
  f26 := Try.func110.trans (congrArg some (by kernel_rfl))
  f27 := Try.func111.trans (congrArg some (by kernel_rfl))
  f28 := Try.func112.trans (congrArg some (by kernel_rfl))
  f29 := Try.func113.trans (congrArg some (by kernel_rfl))
  f30 := Try.func114.trans (congrArg some (by kernel_rfl))
  f31 := Try.func115.trans (congrArg some (by kernel_rfl))
  f32 := Try.func116.trans (congrArg some (by kernel_rfl))
  f33 := Try.func117.trans (congrArg some (by kernel_rfl))
  f34 := Try.func118.trans (congrArg some (by kernel_rfl))
  f35 := Try.func119.trans (congrArg some (by kernel_rfl))
  f36 := Try.func120.trans (congrArg some (by kernel_rfl))
  f37 := Try.func121.trans (congrArg some (by kernel_rfl))
  f38 := Try.func122.trans (congrArg some (by kernel_rfl))
  f39 := Try.func123.trans (congrArg some (by kernel_rfl))
  t0 := Try.underlying0
  a0 := Try.isAgg0
  z0 := Try.sizeOf0
  v0 := Try.zeroValue0
  i0 := by kernel_rfl
  t3 := Try.underlying3
  a3 := Try.isAgg3
  z3 := Try.sizeOf3
  v3 := Try.zeroValue3
  i3 := by kernel_rfl
  t4 := Try.underlying4
  a4 := Try.isAgg4
  z4 := Try.sizeOf4
  v4 := Try.zeroValue4
  i4 := by kernel_rfl
  t5 := Try.underlying5
  a5 := Try.isAgg5
  z5 := Try.sizeOf5
  v5 := Try.zeroValue5
  i5 := by kernel_rfl
  t9 := Try.underlying9
  a9 := Try.isAgg9
  z9 := Try.sizeOf9
  v9 := Try.zeroValue9
  i9 := by kernel_rfl
  t12 := Try.underlying12
  a12 := Try.isAgg12
  z12 := Try.sizeOf12
  v12 := Try.zeroValue12
  i12 := by kernel_rfl
  t17 := Try.underlying17
  a17 := Try.isAgg17
  z17 := Try.sizeOf17
  v17 := Try.zeroValue17
  i17 := by kernel_rfl
  t20 := Try.underlying20
  a20 := Try.isAgg20
  z20 := Try.sizeOf20
  v20 := Try.zeroValue20
  i20 := by kernel_rfl
  t26 := Try.underlying87
  a26 := Try.isAgg87
  z26 := Try.sizeOf87
  v26 := Try.zeroValue87
  i26 := by kernel_rfl
  t32 := Try.underlying104
  a32 := Try.isAgg104
  z32 := Try.sizeOf104
  v32 := Try.zeroValue104
  i32 := by kernel_rfl
  t33 := Try.underlying105
  a33 := Try.isAgg105
  z33 := Try.sizeOf105
  v33 := Try.zeroValue105
  i33 := by kernel_rfl
  t35 := Try.underlying107
  a35 := Try.isAgg107
  z35 := Try.sizeOf107
  v35 := Try.zeroValue107
  i35 := by kernel_rfl
  t37 := Try.underlying109
  a37 := Try.isAgg109
  z37 := Try.sizeOf109
  v37 := Try.zeroValue109
  i37 := by kernel_rfl
  t41 := Try.underlying112
  a41 := Try.isAgg112
  z41 := Try.sizeOf112
  v41 := Try.zeroValue112
  i41 := by kernel_rfl
  t44 := Try.underlying115
  a44 := Try.isAgg115
  z44 := Try.sizeOf115
  v44 := Try.zeroValue115
  i44 := by kernel_rfl
  t49 := Try.underlying128
  a49 := Try.isAgg128
  z49 := Try.sizeOf128
  v49 := Try.zeroValue128
  i49 := by kernel_rfl
  t51 := Try.underlying99
  a51 := Try.isAgg99
  z51 := Try.sizeOf99
  v51 := Try.zeroValue99
  i51 := by kernel_rfl
  t53 := Try.underlying131
  a53 := Try.isAgg131
  z53 := Try.sizeOf131
  v53 := Try.zeroValue131
  i53 := by kernel_rfl
  t54 := Try.underlying132
  a54 := Try.isAgg132
  z54 := Try.sizeOf132
  v54 := Try.zeroValue132
  i54 := by kernel_rfl
  t58 := Try.underlying136
  a58 := Try.isAgg136
  z58 := Try.sizeOf136
  v58 := Try.zeroValue136
  i58 := by kernel_rfl
  t60 := Try.underlying138
  a60 := Try.isAgg138
  z60 := Try.sizeOf138
  v60 := Try.zeroValue138
  i60 := by kernel_rfl
  t64 := Try.underlying142
  a64 := Try.isAgg142
  z64 := Try.sizeOf142
  v64 := Try.zeroValue142
  i64 := by kernel_rfl
  t66 := Try.underlying144
  a66 := Try.isAgg144
  z66 := Try.sizeOf144
  v66 := Try.zeroValue144
  i66 := by kernel_rfl
  t67 := Try.underlying145
  a67 := Try.isAgg145
  z67 := Try.sizeOf145
  v67 := Try.zeroValue145
  i67 := by kernel_rfl
  t75 := Try.underlying153
  a75 := Try.isAgg153
  z75 := Try.sizeOf153
  v75 := Try.zeroValue153
  i75 := by kernel_rfl
  t76 := Try.underlying154
  a76 := Try.isAgg154
  z76 := Try.sizeOf154
  v76 := Try.zeroValue154
  i76 := by kernel_rfl
  t77 := Try.underlying155
  a77 := Try.isAgg155
  z77 := Try.sizeOf155
  v77 := Try.zeroValue155
  i77 := by kernel_rfl
  t78 := Try.underlying156
  a78 := Try.isAgg156
  z78 := Try.sizeOf156
  v78 := Try.zeroValue156
  i78 := by kernel_rfl
  t79 := Try.underlying157
  a79 := Try.isAgg157
  z79 := Try.sizeOf157
  v79 := Try.zeroValue157
  i79 := by kernel_rfl
  t80 := Try.underlying158
  a80 := Try.isAgg158
  z80 := Try.sizeOf158
  v80 := Try.zeroValue158
  i80 := by kernel_rfl
  t82 := Try.underlying160
  a82 := Try.isAgg160
  z82 := Try.sizeOf160
  v82 := Try.zeroValue160
  i82 := by kernel_rfl }
end Go.Proofs
