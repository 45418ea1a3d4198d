/-
  Layings of the shelf at this translation, in plain words: the numbers of the library's functions, types and variables here.
-/
import Derived.Shelf.Small.Bits
import Derived.Shelf.Strconv.Itoa0
import Derived.Ground.GgsProg
import Derived.Shelf.GgSortFunc.Insertion
import Derived.Shelf.GgSortFunc.Small
import Derived.Shelf.GgSortFunc.Tiny
import Derived.Shelf.GgSortFunc.Compose
import Derived.Shelf.GgSortFunc.LotD
import Derived.Shelf.GgSortFunc.Pivot
import Derived.Shelf.GgSortFunc.Partition
import Derived.Shelf.GgSortFunc.Pdq
import Derived.Shelf.GgSortFunc.Whole
import Derived.Shelf.SlSortFunc.Xorshift
import Derived.Shelf.SlSortFunc.SiftDown
import Derived.Shelf.SlSortFunc.HeapSort
import Derived.Shelf.SlSortFunc.PartialInsertion
import Derived.Ground.SlgnProg
import Derived.Shelf.SlicesE.Clone
import Derived.Test.YtcpaenmhnoagdabProg
namespace Go.Proofs
open Go.Shelf
def Try.laysGg6_ren : Go.Shelf.Ren := ⟨fun | 6 => 82 | 10 => 124 | 11 => 125 | 12 => 126 | 13 => 127 | 14 => 128 | 24 => 134 | 25 => 152 | 26 => 153 | 27 => 154 | 28 => 155 | 29 => 156 | 30 => 157 | 31 => 158 | 32 => 159 | 33 => 160 | 34 => 162 | 35 => 163 | 36 => 164 | 37 => 165 | 38 => 166 | 39 => 168 | n => n, fun | 20 => 20 | 26 => 97 | 35 => 141 | 0 => 0 | 37 => 143 | 3 => 3 | 41 => 109 | 44 => 149 | 49 => 112 | 51 => 151 | 4 => 4 | 54 => 168 | 53 => 167 | 58 => 172 | 5 => 5 | 9 => 9 | 60 => 174 | 64 => 178 | 66 => 180 | 67 => 181 | 17 => 17 | 32 => 138 | 33 => 139 | 82 => 196 | 12 => 12 | 75 => 189 | 76 => 190 | 77 => 191 | 78 => 192 | 79 => 193 | 80 => 194 | n => n, fun | n => n⟩
theorem Try.laysGg6 : Go.Proofs.LaysGg.n6 Try.prog Try.laysGg6_ren := {
  mixed := by kernel_rfl
  f6 := Try.func82.trans (congrArg some (by kernel_rfl))
  f10 := Try.func124.trans (congrArg some (by kernel_rfl))
  f11 := Try.func125.trans (congrArg some (by kernel_rfl))
  f12 := Try.func126.trans (congrArg some (by kernel_rfl))
  f13 := Try.func127.trans (congrArg some (by kernel_rfl))
  f14 := Try.func128.trans (congrArg some (by kernel_rfl))
  f24 := Try.func134.trans (congrArg some (by kernel_rfl))
  f25 := Try.func152.trans (congrArg some (by kernel_rfl))
  f26 := Try.func153.trans (congrArg some (by kernel_rfl))
  f27 := Try.func154.trans (congrArg some (by kernel_rfl))
  f28 := Try.func155.trans (congrArg some (by kernel_rfl))
  f29 := Try.func156.trans (congrArg some (by kernel_rfl))
  f30 := Try.func157.trans (congrArg some (by kernel_rfl))
  f31 := Try.func158.trans (congrArg some (by kernel_rfl))
  f32 := Try.func159.trans (congrArg some (by kernel_rfl))
  f33 := Try.func160.trans (congrArg some (by kernel_rfl))
  f34 := Try.func162.trans (congrArg some (by kernel_rfl))
  f35 := Try.func163.trans (congrArg some (by kernel_rfl))
  f36 := Try.func164.trans (congrArg some (by kernel_rfl))
  f37 := Try.func165.trans (congrArg some (by kernel_rfl))
  f38 := Try.func166.trans (congrArg some (by kernel_rfl))
  f39 := Try.func168.trans (congrArg some (by kernel_rfl))
  t0 := Try.underlying0
  a0 := Try.isAgg0
  z0 := Try.sizeOf0
  v0 := Try.zeroValue0
  i0 := by kernel_rfl
  t3 := Try.underlying3
  a3 := Try.isAgg3
  z3 := Try.sizeOf3
  v3 := Try.zeroValue3
  i3 := by kernel_rfl
  t4 := Try.underlying4
  a4 := Try.isAgg4
  z4 := Try.sizeOf4
  v4 := Try.zeroValue4
  i4 := by kernel_rfl
  t5 := Try.underlying5
  a5 := Try.isAgg5
  z5 := Try.sizeOf5
  v5 := Try.zeroValue5
  i5 := by kernel_rfl
  t9 := Try.underlying9
  a9 := Try.isAgg9
  z9 := Try.sizeOf9
  v9 := Try.zeroValue9
  i9 := by kernel_rfl
  t12 := Try.underlying12
  a12 := Try.isAgg12
  z12 := Try.sizeOf12
  v12 := Try.zeroValue12
  i12 := by kernel_rfl
  t17 := Try.underlying17
  a17 := Try.isAgg17
  z17 := Try.sizeOf17
  v17 := Try.zeroValue17
  i17 := by kernel_rfl
  t20 := Try.underlying20
  a20 := Try.isAgg20
  z20 := Try.sizeOf20
  v20 := Try.zeroValue20
  i20 := by kernel_rfl
  t26 := Try.underlying97
  a26 := Try.isAgg97
  z26 := Try.sizeOf97
  v26 := Try.zeroValue97
  i26 := by kernel_rfl
  t32 := Try.underlying138
  a32 := Try.isAgg138
  z32 := Try.sizeOf138
  v32 := Try.zeroValue138
  i32 := by kernel_rfl
  t33 := Try.underlying139
  a33 := Try.isAgg139
  z33 := Try.sizeOf139
  v33 := Try.zeroValue139
  i33 := by kernel_rfl
  t35 := Try.underlying141
  a35 := Try.isAgg141
  z35 := Try.sizeOf141
  v35 := Try.zeroValue141
  i35 := by kernel_rfl
  t37 := Try.underlying143
  a37 := Try.isAgg143
  z37 := Try.sizeOf143
  v37 := Try.zeroValue143
  i37 := by kernel_rfl
  t41 := Try.underlying109
  a41 := Try.isAgg109
  z41 := Try.sizeOf109
  v41 := Try.zeroValue109
  i41 := by kernel_rfl
  t44 := Try.underlying149
  a44 := Try.isAgg149
  z44 := Try.sizeOf149
  v44 := Try.zeroValue149
  i44 := by kernel_rfl
  t49 := Try.underlying112
  a49 := Try.isAgg112
  z49 := Try.sizeOf112
  v49 := Try.zeroValue112
  i49 := by kernel_rfl
  t51 := Try.underlying151
  a51 := Try.isAgg151
  z51 := Try.sizeOf151
  v51 := Try.zeroValue151
  i51 := by kernel_rfl
  t53 := Try.underlying167
  a53 := Try.isAgg167
  z53 := Try.sizeOf167
  v53 := Try.zeroValue167
  i53 := by kernel_rfl
  t54 := Try.underlying168
  a54 := Try.isAgg168
  z54 := Try.sizeOf168
  v54 := Try.zeroValue168
  i54 := by kernel_rfl
  t58 := Try.underlying172
  a58 := Try.isAgg172
  z58 := Try.sizeOf172
  v58 := Try.zeroValue172
  i58 := by kernel_rfl
  t60 := Try.underlying174
  a60 := Try.isAgg174
  z60 := Try.sizeOf174
  v60 := Try.zeroValue174
  i60 := by kernel_rfl
  t64 := Try.underlying178
  a64 := Try.isAgg178
  z64 := Try.sizeOf178
  v64 := Try.zeroValue178
  i64 := by kernel_rfl
  t66 := Try.underlying180
  a66 := Try.isAgg180
  z66 := Try.sizeOf180
  v66 := Try.zeroValue180
  i66 := by kernel_rfl
  t67 := Try.underlying181
  a67 := Try.isAgg181
  z67 := Try.sizeOf181
  v67 := Try.zeroValue181
  i67 := by kernel_rfl
  t75 := Try.underlying189
  a75 := Try.isAgg189
  z75 := Try.sizeOf189
  v75 := Try.zeroValue189
  i75 := by kernel_rfl
  t76 := Try.underlying190
  a76 := Try.isAgg190
  z76 := Try.sizeOf190
  v76 := Try.zeroValue190
  i76 := by kernel_rfl
  t77 := Try.underlying191
  a77 := Try.isAgg191
  z77 := Try.sizeOf191
  v77 := Try.zeroValue191
  i77 := by kernel_rfl
  t78 := Try.underlying192
  a78 := Try.isAgg192
  z78 := Try.sizeOf192
  v78 := Try.zeroValue192
  i78 := by kernel_rfl
  t79 := Try.underlying193
  a79 := Try.isAgg193
  z79 := Try.sizeOf193
  v79 := Try.zeroValue193
  i79 := by kernel_rfl
  t80 := Try.underlying194
  a80 := Try.isAgg194
  z80 := Try.sizeOf194
  v80 := Try.zeroValue194
  i80 := by kernel_rfl
  t82 := Try.underlying196
  a82 := Try.isAgg196
  z82 := Try.sizeOf196
  v82 := Try.zeroValue196
  i82 := by kernel_rfl }
end Go.Proofs
