/-
  Texts that the laws stand on: Shelf, LibV, CspV, UrlV, UrlP1, UrlP2.
-/
import Derived.Shelf.Small.Wraps
import Derived.Shelf.Strconv.Itoa0
import Derived.Shelf.Strconv.Itoa1
import Derived.Shelf.LaysM
import Derived.Shelf.Strconv.Itoa2
import Derived.Shelf.Strconv.Itoa3
import Derived.Shelf.Strconv.Clone
import Derived.Ground.MpProg
import Derived.Shelf.Pu.ParseUintPublic10
import Derived.Shelf.Pu.ErrVarParseUint
import Derived.Shelf.Strings.Search1
import Derived.Shelf.Strings.Search2
import Derived.Shelf.Strings.Search3
import Derived.Shelf.Strings.Cut
import Derived.Shelf.Strings.Count
import Derived.Shelf.Strings.Shaped
import Derived.Shelf.Strings.Prefix
import Derived.Shelf.Strings.Split
import Derived.Shelf.Strings.SplitShaped
import Derived.Shelf.Strings.FieldsFuncAny
import Derived.Test.YtfgaikacijdodaaGreatDoorProg
import Derived.Test.YtfgaikacijdodaaGreatDoorM1
import Derived.Lib.LaidTab
import Derived.Test.YtfgaikacijdodaaGreatDoorM6
import Derived.Test.YtfgaikacijdodaaGreatDoorM3
import Derived.Test.YtfgaikacijdodaaGreatDoorM4
import Derived.Lib.AtoiErrMem
import Derived.Lib.ParseIntBCases
import Derived.Shelf.GgClosure.GivesRunes
import Derived.Test.YtfgaikacijdodaaGreatDoorM5

/-
  The library's contracts that the landed program's calls want, laid at this seat's program (by the kit's commands).
-/
set_option linter.unusedVariables false
set_option maxRecDepth 100000
namespace Go.Proofs
open Go.Shelf Go.RowKit Go.Sort Go.Lib
def Tryz.lays103_ren : Go.Shelf.Ren := ⟨fun | 103 => 53 | 210 => 68 | 206 => 76 | n => n, fun | 9 => 9 | 4 => 4 | 24 => 61 | 3 => 3 | n => n, fun | n => n⟩
theorem Tryz.lays103 : Go.Proofs.Lays.n103 Tryz.prog Tryz.lays103_ren := {
  mixed := by kernel_rfl
  f103 := Tryz.func53.trans (congrArg some (by kernel_rfl))
  f206 := Tryz.func76.trans (congrArg some (by kernel_rfl))
  f210 := Tryz.func68.trans (congrArg some (by kernel_rfl))
  t3 := Tryz.underlying3
  a3 := Tryz.isAgg3
  z3 := Tryz.sizeOf3
  v3 := Tryz.zeroValue3
  t4 := Tryz.underlying4
  a4 := Tryz.isAgg4
  z4 := Tryz.sizeOf4
  v4 := Tryz.zeroValue4
  t9 := Tryz.underlying9
  a9 := Tryz.isAgg9
  z9 := Tryz.sizeOf9
  v9 := Tryz.zeroValue9
  t24 := Tryz.underlying61
  a24 := Tryz.isAgg61
  z24 := Tryz.sizeOf61
  v24 := Tryz.zeroValue61 }
theorem Tryz.strings_CutPrefix (s p : ByteArray) (w : World) :
    Calls Tryz.prog 53 #[.string s, .string p] w fun e w' => e = .returned (.tuple #[.string ⟨(Lib.trimPrefix s.data.toList p.data.toList).toArray⟩, .bool (Lib.hasPrefix s.data.toList p.data.toList)]) ∧ w' = w := Any.strings_CutPrefix Tryz.lays103 s p w
def Tryz.laysM171_ren : Go.Shelf.Ren := ⟨fun | 171 => 66 | 243 => 75 | 246 => 87 | 283 => 99 | 284 => 100 | 285 => 101 | 286 => 102 | 129 => 106 | 317 => 105 | 318 => 107 | 319 => 108 | 320 => 109 | 337 => 110 | 338 => 111 | n => n, fun | 3 => 3 | 9 => 9 | 2 => 2 | 4 => 4 | 171 => 103 | 0 => 0 | 53 => 79 | 37 => 67 | 5 => 5 | 173 => 106 | 212 => 112 | 51 => 92 | 20 => 20 | 213 => 113 | 46 => 86 | 232 => 124 | 233 => 125 | n => n, fun | 17 => 3 | 18 => 6 | 19 => 7 | n => n⟩
theorem Tryz.laysM171 : Go.Proofs.LaysM.n171 Tryz.prog Tryz.laysM171_ren := {
  mixed := by kernel_rfl
  f129 := Tryz.func106.trans (congrArg some (by kernel_rfl))
  f171 := Tryz.func66.trans (congrArg some (by kernel_rfl))
  f243 := Tryz.func75.trans (congrArg some (by kernel_rfl))
  f246 := Tryz.func87.trans (congrArg some (by kernel_rfl))
  f283 := Tryz.func99.trans (congrArg some (by kernel_rfl))
  f284 := Tryz.func100.trans (congrArg some (by kernel_rfl))
  f285 := Tryz.func101.trans (congrArg some (by kernel_rfl))
  f286 := Tryz.func102.trans (congrArg some (by kernel_rfl))
  f317 := Tryz.func105.trans (congrArg some (by kernel_rfl))
  f318 := Tryz.func107.trans (congrArg some (by kernel_rfl))
  f319 := Tryz.func108.trans (congrArg some (by kernel_rfl))
  f320 := Tryz.func109.trans (congrArg some (by kernel_rfl))
  f337 := Tryz.func110.trans (congrArg some (by kernel_rfl))
  f338 := Tryz.func111.trans (congrArg some (by kernel_rfl))
  t0 := Tryz.underlying0
  a0 := Tryz.isAgg0
  z0 := Tryz.sizeOf0
  v0 := Tryz.zeroValue0
  t2 := Tryz.underlying2
  a2 := Tryz.isAgg2
  z2 := Tryz.sizeOf2
  v2 := Tryz.zeroValue2
  t3 := Tryz.underlying3
  a3 := Tryz.isAgg3
  z3 := Tryz.sizeOf3
  v3 := Tryz.zeroValue3
  t4 := Tryz.underlying4
  a4 := Tryz.isAgg4
  z4 := Tryz.sizeOf4
  v4 := Tryz.zeroValue4
  t5 := Tryz.underlying5
  a5 := Tryz.isAgg5
  z5 := Tryz.sizeOf5
  v5 := Tryz.zeroValue5
  t9 := Tryz.underlying9
  a9 := Tryz.isAgg9
  z9 := Tryz.sizeOf9
  v9 := Tryz.zeroValue9
  t20 := Tryz.underlying20
  a20 := Tryz.isAgg20
  z20 := Tryz.sizeOf20
  v20 := Tryz.zeroValue20
  t37 := Tryz.underlying67
  a37 := Tryz.isAgg67
  z37 := Tryz.sizeOf67
  v37 := Tryz.zeroValue67
  t46 := Tryz.underlying86
  a46 := Tryz.isAgg86
  z46 := Tryz.sizeOf86
  v46 := Tryz.zeroValue86
  t51 := Tryz.underlying92
  a51 := Tryz.isAgg92
  z51 := Tryz.sizeOf92
  v51 := Tryz.zeroValue92
  t53 := Tryz.underlying79
  a53 := Tryz.isAgg79
  z53 := Tryz.sizeOf79
  v53 := Tryz.zeroValue79
  t171 := Tryz.underlying103
  a171 := Tryz.isAgg103
  z171 := Tryz.sizeOf103
  v171 := Tryz.zeroValue103
  t173 := Tryz.underlying106
  a173 := Tryz.isAgg106
  z173 := Tryz.sizeOf106
  v173 := Tryz.zeroValue106
  t212 := Tryz.underlying112
  a212 := Tryz.isAgg112
  z212 := Tryz.sizeOf112
  v212 := Tryz.zeroValue112
  t213 := Tryz.underlying113
  a213 := Tryz.isAgg113
  z213 := Tryz.sizeOf113
  t232 := Tryz.underlying124
  a232 := Tryz.isAgg124
  z232 := Tryz.sizeOf124
  v232 := Tryz.zeroValue124
  t233 := Tryz.underlying125
  a233 := Tryz.isAgg125
  z233 := Tryz.sizeOf125
  v233 := Tryz.zeroValue125
  g17 := by kernel_rfl
  g18 := by kernel_rfl
  g19 := by kernel_rfl
  i0 := by kernel_rfl
  i2 := by kernel_rfl
  i3 := by kernel_rfl
  i4 := by kernel_rfl
  i5 := by kernel_rfl
  i9 := by kernel_rfl
  i20 := by kernel_rfl
  i37 := by kernel_rfl
  i46 := by kernel_rfl
  i51 := by kernel_rfl
  i53 := by kernel_rfl
  i171 := by kernel_rfl
  i173 := by kernel_rfl
  i212 := by kernel_rfl
  i232 := by kernel_rfl
  i233 := by kernel_rfl
  m17 := by kernel_rfl
  m18 := by kernel_rfl
  m19 := by kernel_rfl }
theorem Tryz.strconv_Itoa (n : Int) (h0 : -9223372036854775808 ≤ n) (h1 : n ≤ 9223372036854775807) (w : World) (htab : Lib.TabIs Tryz.prog w "internal/strconv.uint64pow10" .u64 Lib.pow10Tab) :
    Calls Tryz.prog 66 #[.int .i64 n] w fun e w' => e = .returned (.string ⟨(Lib.itoa n).toArray⟩) ∧ ∃ k os, w' = grow (w.drewN k) os := Any.strconv_Itoa Tryz.laysM171 n h0 h1 w htab
def Tryz.laysPu14_ren : Go.Shelf.Ren := ⟨fun | 14 => 69 | 16 => 77 | 17 => 78 | 19 => 88 | 20 => 89 | 21 => 90 | 22 => 91 | 23 => 92 | 24 => 93 | 25 => 65 | 27 => 66 | 26 => 103 | 28 => 75 | 29 => 87 | 30 => 99 | 31 => 100 | 32 => 101 | 33 => 102 | 35 => 106 | 34 => 105 | 36 => 107 | 37 => 108 | 38 => 109 | 39 => 110 | 40 => 111 | n => n, fun | 9 => 9 | 3 => 3 | 22 => 79 | 24 => 81 | 25 => 82 | 4 => 4 | 34 => 94 | 5 => 5 | 36 => 86 | 37 => 67 | 0 => 0 | 39 => 96 | 21 => 21 | 44 => 109 | 47 => 87 | 50 => 118 | 48 => 116 | 2 => 2 | 52 => 103 | 55 => 106 | 59 => 112 | 60 => 92 | 20 => 20 | 61 => 113 | 65 => 124 | 66 => 125 | 67 => 126 | n => n, fun | 0 => 1 | 1 => 2 | 2 => 3 | 3 => 6 | 4 => 7 | n => n⟩
theorem Tryz.laysPu14 : Go.Proofs.LaysPu.n14 Tryz.prog Tryz.laysPu14_ren := {
  mixed := by kernel_rfl
  f14 := Tryz.func69.trans (congrArg some (by kernel_rfl))
  f16 := Tryz.func77.trans (congrArg some (by kernel_rfl))
  f17 := Tryz.func78.trans (congrArg some (by kernel_rfl))
  f19 := Tryz.func88.trans (congrArg some (by kernel_rfl))
  f20 := Tryz.func89.trans (congrArg some (by kernel_rfl))
  f21 := Tryz.func90.trans (congrArg some (by kernel_rfl))
  f22 := Tryz.func91.trans (congrArg some (by kernel_rfl))
  f23 := Tryz.func92.trans (congrArg some (by kernel_rfl))
  f24 := Tryz.func93.trans (congrArg some (by kernel_rfl))
  f25 := Tryz.func65.trans (congrArg some (by kernel_rfl))
  f26 := Tryz.func103.trans (congrArg some (by kernel_rfl))
  f27 := Tryz.func66.trans (congrArg some (by kernel_rfl))
  f28 := Tryz.func75.trans (congrArg some (by kernel_rfl))
  f29 := Tryz.func87.trans (congrArg some (by kernel_rfl))
  f30 := Tryz.func99.trans (congrArg some (by kernel_rfl))
  f31 := Tryz.func100.trans (congrArg some (by kernel_rfl))
  f32 := Tryz.func101.trans (congrArg some (by kernel_rfl))
  f33 := Tryz.func102.trans (congrArg some (by kernel_rfl))
  f34 := Tryz.func105.trans (congrArg some (by kernel_rfl))
  f35 := Tryz.func106.trans (congrArg some (by kernel_rfl))
  f36 := Tryz.func107.trans (congrArg some (by kernel_rfl))
  f37 := Tryz.func108.trans (congrArg some (by kernel_rfl))
  f38 := Tryz.func109.trans (congrArg some (by kernel_rfl))
  f39 := Tryz.func110.trans (congrArg some (by kernel_rfl))
  f40 := Tryz.func111.trans (congrArg some (by kernel_rfl))
  t0 := Tryz.underlying0
  a0 := Tryz.isAgg0
  z0 := Tryz.sizeOf0
  v0 := Tryz.zeroValue0
  i0 := by kernel_rfl
  t2 := Tryz.underlying2
  a2 := Tryz.isAgg2
  z2 := Tryz.sizeOf2
  v2 := Tryz.zeroValue2
  i2 := by kernel_rfl
  t3 := Tryz.underlying3
  a3 := Tryz.isAgg3
  z3 := Tryz.sizeOf3
  v3 := Tryz.zeroValue3
  i3 := by kernel_rfl
  t4 := Tryz.underlying4
  a4 := Tryz.isAgg4
  z4 := Tryz.sizeOf4
  v4 := Tryz.zeroValue4
  i4 := by kernel_rfl
  t5 := Tryz.underlying5
  a5 := Tryz.isAgg5
  z5 := Tryz.sizeOf5
  v5 := Tryz.zeroValue5
  i5 := by kernel_rfl
  t9 := Tryz.underlying9
  a9 := Tryz.isAgg9
  z9 := Tryz.sizeOf9
  v9 := Tryz.zeroValue9
  i9 := by kernel_rfl
  t20 := Tryz.underlying20
  a20 := Tryz.isAgg20
  z20 := Tryz.sizeOf20
  v20 := Tryz.zeroValue20
  i20 := by kernel_rfl
  t21 := Tryz.underlying21
  a21 := Tryz.isAgg21
  z21 := Tryz.sizeOf21
  v21 := Tryz.zeroValue21
  i21 := by kernel_rfl
  t22 := Tryz.underlying79
  a22 := Tryz.isAgg79
  z22 := Tryz.sizeOf79
  v22 := Tryz.zeroValue79
  i22 := by kernel_rfl
  t24 := Tryz.underlying81
  a24 := Tryz.isAgg81
  z24 := Tryz.sizeOf81
  v24 := Tryz.zeroValue81
  i24 := by kernel_rfl
  t25 := Tryz.underlying82
  a25 := Tryz.isAgg82
  z25 := Tryz.sizeOf82
  v25 := Tryz.zeroValue82
  i25 := by kernel_rfl
  t34 := Tryz.underlying94
  a34 := Tryz.isAgg94
  z34 := Tryz.sizeOf94
  v34 := Tryz.zeroValue94
  i34 := by kernel_rfl
  c34 := by kernel_rfl
  t36 := Tryz.underlying86
  a36 := Tryz.isAgg86
  z36 := Tryz.sizeOf86
  v36 := Tryz.zeroValue86
  i36 := by kernel_rfl
  t37 := Tryz.underlying67
  a37 := Tryz.isAgg67
  z37 := Tryz.sizeOf67
  v37 := Tryz.zeroValue67
  i37 := by kernel_rfl
  t39 := Tryz.underlying96
  a39 := Tryz.isAgg96
  z39 := Tryz.sizeOf96
  v39 := Tryz.zeroValue96
  i39 := by kernel_rfl
  t44 := Tryz.underlying109
  a44 := Tryz.isAgg109
  z44 := Tryz.sizeOf109
  v44 := Tryz.zeroValue109
  i44 := by kernel_rfl
  t47 := Tryz.underlying87
  a47 := Tryz.isAgg87
  z47 := Tryz.sizeOf87
  v47 := Tryz.zeroValue87
  i47 := by kernel_rfl
  t48 := Tryz.underlying116
  a48 := Tryz.isAgg116
  z48 := Tryz.sizeOf116
  v48 := Tryz.zeroValue116
  i48 := by kernel_rfl
  t50 := Tryz.underlying118
  a50 := Tryz.isAgg118
  z50 := Tryz.sizeOf118
  v50 := Tryz.zeroValue118
  i50 := by kernel_rfl
  t52 := Tryz.underlying103
  a52 := Tryz.isAgg103
  z52 := Tryz.sizeOf103
  v52 := Tryz.zeroValue103
  i52 := by kernel_rfl
  t55 := Tryz.underlying106
  a55 := Tryz.isAgg106
  z55 := Tryz.sizeOf106
  v55 := Tryz.zeroValue106
  i55 := by kernel_rfl
  t59 := Tryz.underlying112
  a59 := Tryz.isAgg112
  z59 := Tryz.sizeOf112
  v59 := Tryz.zeroValue112
  i59 := by kernel_rfl
  t60 := Tryz.underlying92
  a60 := Tryz.isAgg92
  z60 := Tryz.sizeOf92
  v60 := Tryz.zeroValue92
  i60 := by kernel_rfl
  t61 := Tryz.underlying113
  a61 := Tryz.isAgg113
  z61 := Tryz.sizeOf113
  t65 := Tryz.underlying124
  a65 := Tryz.isAgg124
  z65 := Tryz.sizeOf124
  v65 := Tryz.zeroValue124
  i65 := by kernel_rfl
  t66 := Tryz.underlying125
  a66 := Tryz.isAgg125
  z66 := Tryz.sizeOf125
  v66 := Tryz.zeroValue125
  i66 := by kernel_rfl
  t67 := Tryz.underlying126
  a67 := Tryz.isAgg126
  z67 := Tryz.sizeOf126
  v67 := Tryz.zeroValue126
  i67 := by kernel_rfl
  g0 := by kernel_rfl
  m0 := by kernel_rfl
  g1 := by kernel_rfl
  m1 := by kernel_rfl
  g2 := by kernel_rfl
  m2 := by kernel_rfl
  g3 := by kernel_rfl
  m3 := by kernel_rfl
  g4 := by kernel_rfl
  m4 := by kernel_rfl }
theorem Tryz.strconv_ParseUint_10_at16_ok (s : ByteArray) (hmax : s.size ≤ 9223372036854775806) (u : Nat) (h : Lib.parseUintB 16 s.data.toList = .ok u) (w : World) :
    Calls Tryz.prog 69 #[.string s, .int .i64 10, .int .i64 16] w fun e w' => e = .returned (.tuple #[.int .u64 u, .nilIface]) ∧ (w' = w ∨ w' = Lib.bytesWorld w 5 s) := Any.strconv_ParseUint_10_at16_ok Tryz.laysPu14 s hmax u h w
theorem Tryz.strconv_ParseUint_10_at16_syntax (s : ByteArray) (hlim : s.size ≤ 281474976710656) (h : Lib.parseUintB 16 s.data.toList = .«syntax») (ev : Value) (w : World) (hv : w.cell? ⟨1, 0, none⟩ = some ev) (hev : ev = .nilIface ∨ ∃ te pe, ev = .iface te pe) :
    Calls Tryz.prog 69 #[.string s, .int .i64 10, .int .i64 16] w fun e w' => ∃ N, e = .returned (.tuple #[.int .u64 0, .iface 96 (.pointer (some ⟨N, 0, none⟩))]) ∧ w.heap.size ≤ N ∧ w'.heap[N]? = some (.cells #[.string ⟨#[80, 97, 114, 115, 101, 85, 105, 110, 116]⟩, .string s, ev] 109 (0, 0)) ∧ Below w.heap.size w w' := Any.strconv_ParseUint_10_at16_syntax Tryz.laysPu14 s hlim h ev w hv hev
theorem Tryz.strconv_ParseUint_10_at16_range (s : ByteArray) (hlim : s.size ≤ 281474976710656) (h : Lib.parseUintB 16 s.data.toList = .range) (ev : Value) (w : World) (hv : w.cell? ⟨2, 0, none⟩ = some ev) (hev : ev = .nilIface ∨ ∃ te pe, ev = .iface te pe) :
    Calls Tryz.prog 69 #[.string s, .int .i64 10, .int .i64 16] w fun e w' => ∃ N, e = .returned (.tuple #[.int .u64 65535, .iface 96 (.pointer (some ⟨N, 0, none⟩))]) ∧ w.heap.size ≤ N ∧ w'.heap[N]? = some (.cells #[.string ⟨#[80, 97, 114, 115, 101, 85, 105, 110, 116]⟩, .string s, ev] 109 (0, 0)) ∧ Below w.heap.size w w' := Any.strconv_ParseUint_10_at16_range Tryz.laysPu14 s hlim h ev w hv hev
def Tryz.lays145_ren : Go.Shelf.Ren := ⟨fun | 145 => 38 | 220 => 59 | 219 => 71 | 217 => 79 | 225 => 80 | 224 => 81 | 267 => 82 | 266 => 94 | 314 => 95 | n => n, fun | 9 => 9 | 4 => 4 | 59 => 59 | 3 => 3 | 5 => 5 | 46 => 86 | 146 => 99 | 51 => 92 | n => n, fun | 1 => 0 | n => n⟩
theorem Tryz.lays145 : Go.Proofs.Lays.n145 Tryz.prog Tryz.lays145_ren := {
  mixed := by kernel_rfl
  f145 := Tryz.func38.trans (congrArg some (by kernel_rfl))
  f217 := Tryz.func79.trans (congrArg some (by kernel_rfl))
  f219 := Tryz.func71.trans (congrArg some (by kernel_rfl))
  f220 := Tryz.func59.trans (congrArg some (by kernel_rfl))
  f224 := Tryz.func81.trans (congrArg some (by kernel_rfl))
  f225 := Tryz.func80.trans (congrArg some (by kernel_rfl))
  f266 := Tryz.func94.trans (congrArg some (by kernel_rfl))
  f267 := Tryz.func82.trans (congrArg some (by kernel_rfl))
  f314 := Tryz.func95.trans (congrArg some (by kernel_rfl))
  t3 := Tryz.underlying3
  a3 := Tryz.isAgg3
  z3 := Tryz.sizeOf3
  v3 := Tryz.zeroValue3
  t4 := Tryz.underlying4
  a4 := Tryz.isAgg4
  z4 := Tryz.sizeOf4
  v4 := Tryz.zeroValue4
  t5 := Tryz.underlying5
  a5 := Tryz.isAgg5
  z5 := Tryz.sizeOf5
  v5 := Tryz.zeroValue5
  t9 := Tryz.underlying9
  a9 := Tryz.isAgg9
  z9 := Tryz.sizeOf9
  v9 := Tryz.zeroValue9
  t46 := Tryz.underlying86
  a46 := Tryz.isAgg86
  z46 := Tryz.sizeOf86
  v46 := Tryz.zeroValue86
  t51 := Tryz.underlying92
  a51 := Tryz.isAgg92
  z51 := Tryz.sizeOf92
  v51 := Tryz.zeroValue92
  t59 := Tryz.underlying59
  a59 := Tryz.isAgg59
  z59 := Tryz.sizeOf59
  v59 := Tryz.zeroValue59
  t146 := Tryz.underlying99
  a146 := Tryz.isAgg99
  z146 := Tryz.sizeOf99
  v146 := Tryz.zeroValue99
  g1 := by kernel_rfl }
theorem Tryz.strings_Cut (s sep : ByteArray) (m : Int) (w : World) (hs : s.size < 4294967281) (hm : w.cell? ⟨0, 0, none⟩ = some (.int .i64 m)) :
    Calls Tryz.prog 38 #[.string s, .string sep] w fun e w' => e = .returned (.tuple #[.string ⟨(Lib.cut s.data.toList sep.data.toList).1.toArray⟩, .string ⟨(Lib.cut s.data.toList sep.data.toList).2.1.toArray⟩, .bool (Lib.cut s.data.toList sep.data.toList).2.2]) ∧ ∃ n, w' = w.drewN n := Any.strings_Cut Tryz.lays145 s sep m w hs hm
def Tryz.laysM145_ren : Go.Shelf.Ren := ⟨fun | 145 => 38 | 220 => 59 | 219 => 71 | 217 => 79 | 225 => 80 | 224 => 81 | 267 => 82 | 266 => 94 | 314 => 95 | n => n, fun | 9 => 9 | 4 => 4 | 59 => 59 | 3 => 3 | 5 => 5 | 46 => 86 | 146 => 99 | 51 => 92 | n => n, fun | 1 => 0 | n => n⟩
theorem Tryz.laysM145 : Go.Proofs.LaysM.n145 Tryz.prog Tryz.laysM145_ren := {
  mixed := by kernel_rfl
  f145 := Tryz.func38.trans (congrArg some (by kernel_rfl))
  f217 := Tryz.func79.trans (congrArg some (by kernel_rfl))
  f219 := Tryz.func71.trans (congrArg some (by kernel_rfl))
  f220 := Tryz.func59.trans (congrArg some (by kernel_rfl))
  f224 := Tryz.func81.trans (congrArg some (by kernel_rfl))
  f225 := Tryz.func80.trans (congrArg some (by kernel_rfl))
  f266 := Tryz.func94.trans (congrArg some (by kernel_rfl))
  f267 := Tryz.func82.trans (congrArg some (by kernel_rfl))
  f314 := Tryz.func95.trans (congrArg some (by kernel_rfl))
  t3 := Tryz.underlying3
  a3 := Tryz.isAgg3
  z3 := Tryz.sizeOf3
  v3 := Tryz.zeroValue3
  t4 := Tryz.underlying4
  a4 := Tryz.isAgg4
  z4 := Tryz.sizeOf4
  v4 := Tryz.zeroValue4
  t5 := Tryz.underlying5
  a5 := Tryz.isAgg5
  z5 := Tryz.sizeOf5
  v5 := Tryz.zeroValue5
  t9 := Tryz.underlying9
  a9 := Tryz.isAgg9
  z9 := Tryz.sizeOf9
  v9 := Tryz.zeroValue9
  t46 := Tryz.underlying86
  a46 := Tryz.isAgg86
  z46 := Tryz.sizeOf86
  v46 := Tryz.zeroValue86
  t51 := Tryz.underlying92
  a51 := Tryz.isAgg92
  z51 := Tryz.sizeOf92
  v51 := Tryz.zeroValue92
  t59 := Tryz.underlying59
  a59 := Tryz.isAgg59
  z59 := Tryz.sizeOf59
  v59 := Tryz.zeroValue59
  t146 := Tryz.underlying99
  a146 := Tryz.isAgg99
  z146 := Tryz.sizeOf99
  v146 := Tryz.zeroValue99
  g1 := by kernel_rfl
  i3 := by kernel_rfl
  i4 := by kernel_rfl
  i5 := by kernel_rfl
  i9 := by kernel_rfl
  i46 := by kernel_rfl
  i51 := by kernel_rfl
  i59 := by kernel_rfl
  i146 := by kernel_rfl
  m1 := by kernel_rfl
  s1_3 := fun w h => Go.Proofs.cell_of_shapedOpen_int (zero := #[.int .i64 0]) (t := 3) h (of_decide_eq_true (by kernel_rfl)) (by kernel_rfl) rfl (by kernel_rfl) (by kernel_rfl) Tryz.underlying3 }
theorem Tryz.strings_Cut_shaped (s sep : ByteArray) (w : World) (h : w.ShapedOpen Tryz.prog) (hs : s.size < 4294967281) :
    Calls Tryz.prog 38 #[.string s, .string sep] w fun e w' => e = .returned (.tuple #[.string ⟨(Lib.cut s.data.toList sep.data.toList).1.toArray⟩, .string ⟨(Lib.cut s.data.toList sep.data.toList).2.1.toArray⟩, .bool (Lib.cut s.data.toList sep.data.toList).2.2]) ∧ ∃ n, w' = w.drewN n := Any.strings_Cut_shaped Tryz.laysM145 s sep w h hs
def Tryz.lays100_ren : Go.Shelf.Ren := ⟨fun | 100 => 56 | 207 => 67 | n => n, fun | 9 => 9 | 4 => 4 | 3 => 3 | n => n, fun | n => n⟩
theorem Tryz.lays100 : Go.Proofs.Lays.n100 Tryz.prog Tryz.lays100_ren := {
  mixed := by kernel_rfl
  f100 := Tryz.func56.trans (congrArg some (by kernel_rfl))
  f207 := Tryz.func67.trans (congrArg some (by kernel_rfl))
  t3 := Tryz.underlying3
  a3 := Tryz.isAgg3
  z3 := Tryz.sizeOf3
  v3 := Tryz.zeroValue3
  t4 := Tryz.underlying4
  a4 := Tryz.isAgg4
  z4 := Tryz.sizeOf4
  v4 := Tryz.zeroValue4
  t9 := Tryz.underlying9
  a9 := Tryz.isAgg9
  z9 := Tryz.sizeOf9
  v9 := Tryz.zeroValue9 }
theorem Tryz.strings_HasSuffix (s p : ByteArray) (w : World) (hs : s.size ≤ 9223372036854775807) :
    Calls Tryz.prog 56 #[.string s, .string p] w fun e w' => e = .returned (.bool (Lib.hasSuffix s.data.toList p.data.toList)) ∧ w' = w := Any.strings_HasSuffix Tryz.lays100 s p w hs
def Tryz.lays102_ren : Go.Shelf.Ren := ⟨fun | 102 => 27 | 209 => 52 | 207 => 67 | n => n, fun | 9 => 9 | 4 => 4 | 3 => 3 | n => n, fun | n => n⟩
theorem Tryz.lays102 : Go.Proofs.Lays.n102 Tryz.prog Tryz.lays102_ren := {
  mixed := by kernel_rfl
  f102 := Tryz.func27.trans (congrArg some (by kernel_rfl))
  f207 := Tryz.func67.trans (congrArg some (by kernel_rfl))
  f209 := Tryz.func52.trans (congrArg some (by kernel_rfl))
  t3 := Tryz.underlying3
  a3 := Tryz.isAgg3
  z3 := Tryz.sizeOf3
  v3 := Tryz.zeroValue3
  t4 := Tryz.underlying4
  a4 := Tryz.isAgg4
  z4 := Tryz.sizeOf4
  v4 := Tryz.zeroValue4
  t9 := Tryz.underlying9
  a9 := Tryz.isAgg9
  z9 := Tryz.sizeOf9
  v9 := Tryz.zeroValue9 }
theorem Tryz.strings_TrimSuffix (s p : ByteArray) (w : World) (hs : s.size ≤ 9223372036854775807) :
    Calls Tryz.prog 27 #[.string s, .string p] w fun e w' => e = .returned (.string ⟨(Lib.trimSuffix s.data.toList p.data.toList).toArray⟩) ∧ w' = w := Any.strings_TrimSuffix Tryz.lays102 s p w hs
def Tryz.lays146_ren : Go.Shelf.Ren := ⟨fun | 146 => 60 | 221 => 72 | 268 => 83 | 138 => 84 | 143 => 85 | 195 => 96 | 197 => 97 | 218 => 98 | 219 => 71 | 260 => 104 | 217 => 79 | 225 => 80 | 224 => 81 | 267 => 82 | 266 => 94 | 314 => 95 | n => n, fun | 9 => 9 | 31 => 36 | 3 => 3 | 4 => 4 | 0 => 0 | 105 => 101 | 21 => 21 | 5 => 5 | 46 => 86 | 119 => 119 | 139 => 122 | 138 => 121 | 146 => 99 | 51 => 92 | n => n, fun | 1 => 0 | 3 => 4 | 4 => 5 | n => n⟩
theorem Tryz.lays146 : Go.Proofs.Lays.n146 Tryz.prog Tryz.lays146_ren := {
  mixed := by kernel_rfl
  f138 := Tryz.func84.trans (congrArg some (by kernel_rfl))
  f143 := Tryz.func85.trans (congrArg some (by kernel_rfl))
  f146 := Tryz.func60.trans (congrArg some (by kernel_rfl))
  f195 := Tryz.func96.trans (congrArg some (by kernel_rfl))
  f197 := Tryz.func97.trans (congrArg some (by kernel_rfl))
  f217 := Tryz.func79.trans (congrArg some (by kernel_rfl))
  f218 := Tryz.func98.trans (congrArg some (by kernel_rfl))
  f219 := Tryz.func71.trans (congrArg some (by kernel_rfl))
  f221 := Tryz.func72.trans (congrArg some (by kernel_rfl))
  f224 := Tryz.func81.trans (congrArg some (by kernel_rfl))
  f225 := Tryz.func80.trans (congrArg some (by kernel_rfl))
  f260 := Tryz.func104.trans (congrArg some (by kernel_rfl))
  f266 := Tryz.func94.trans (congrArg some (by kernel_rfl))
  f267 := Tryz.func82.trans (congrArg some (by kernel_rfl))
  f268 := Tryz.func83.trans (congrArg some (by kernel_rfl))
  f314 := Tryz.func95.trans (congrArg some (by kernel_rfl))
  t0 := Tryz.underlying0
  a0 := Tryz.isAgg0
  z0 := Tryz.sizeOf0
  v0 := Tryz.zeroValue0
  t3 := Tryz.underlying3
  a3 := Tryz.isAgg3
  z3 := Tryz.sizeOf3
  v3 := Tryz.zeroValue3
  t4 := Tryz.underlying4
  a4 := Tryz.isAgg4
  z4 := Tryz.sizeOf4
  v4 := Tryz.zeroValue4
  t5 := Tryz.underlying5
  a5 := Tryz.isAgg5
  z5 := Tryz.sizeOf5
  v5 := Tryz.zeroValue5
  t9 := Tryz.underlying9
  a9 := Tryz.isAgg9
  z9 := Tryz.sizeOf9
  v9 := Tryz.zeroValue9
  t21 := Tryz.underlying21
  a21 := Tryz.isAgg21
  z21 := Tryz.sizeOf21
  v21 := Tryz.zeroValue21
  t31 := Tryz.underlying36
  a31 := Tryz.isAgg36
  z31 := Tryz.sizeOf36
  v31 := Tryz.zeroValue36
  t46 := Tryz.underlying86
  a46 := Tryz.isAgg86
  z46 := Tryz.sizeOf86
  v46 := Tryz.zeroValue86
  t51 := Tryz.underlying92
  a51 := Tryz.isAgg92
  z51 := Tryz.sizeOf92
  v51 := Tryz.zeroValue92
  t105 := Tryz.underlying101
  a105 := Tryz.isAgg101
  z105 := Tryz.sizeOf101
  v105 := Tryz.zeroValue101
  t119 := Tryz.underlying119
  a119 := Tryz.isAgg119
  z119 := Tryz.sizeOf119
  t138 := Tryz.underlying121
  a138 := Tryz.isAgg121
  z138 := Tryz.sizeOf121
  v138 := Tryz.zeroValue121
  t139 := Tryz.underlying122
  a139 := Tryz.isAgg122
  z139 := Tryz.sizeOf122
  v139 := Tryz.zeroValue122
  t146 := Tryz.underlying99
  a146 := Tryz.isAgg99
  z146 := Tryz.sizeOf99
  v146 := Tryz.zeroValue99
  g1 := by kernel_rfl
  g3 := by kernel_rfl
  g4 := by kernel_rfl }
theorem Tryz.strings_Split (s sep : ByteArray) (m : Int) (w : World) (hs : s.size < 4294967281) (hm : w.cell? ⟨0, 0, none⟩ = some (.int .i64 m)) (h1 : 1 ≤ sep.size) :
    Calls Tryz.prog 60 #[.string s, .string sep] w fun e w' =>
      e = .returned (.slice (some ⟨w.heap.size, 0, none⟩) (Lib.countB s sep + 1) (Lib.countB s sep + 1)) ∧ w' = w.alloc (.cells ((Lib.splitB sep 0 (Lib.countB s sep) s).map Value.string).toArray 9) := Any.strings_Split Tryz.lays146 (by kernel_rfl) s sep m w hs hm h1
def Tryz.lays229_ren : Go.Shelf.Ren := ⟨fun | 229 => 48 | n => n, fun | 9 => 9 | 40 => 66 | 31 => 36 | 152 => 76 | 3 => 3 | 0 => 0 | 4 => 4 | 21 => 21 | 154 => 78 | n => n, fun | n => n⟩
theorem Tryz.lays229 : Go.Proofs.Lays.n229 Tryz.prog Tryz.lays229_ren := {
  mixed := by kernel_rfl
  f229 := Tryz.func48.trans (congrArg some (by kernel_rfl))
  t0 := Tryz.underlying0
  a0 := Tryz.isAgg0
  z0 := Tryz.sizeOf0
  v0 := Tryz.zeroValue0
  t3 := Tryz.underlying3
  a3 := Tryz.isAgg3
  z3 := Tryz.sizeOf3
  v3 := Tryz.zeroValue3
  t4 := Tryz.underlying4
  a4 := Tryz.isAgg4
  z4 := Tryz.sizeOf4
  v4 := Tryz.zeroValue4
  t9 := Tryz.underlying9
  a9 := Tryz.isAgg9
  z9 := Tryz.sizeOf9
  v9 := Tryz.zeroValue9
  t21 := Tryz.underlying21
  a21 := Tryz.isAgg21
  z21 := Tryz.sizeOf21
  v21 := Tryz.zeroValue21
  t31 := Tryz.underlying36
  a31 := Tryz.isAgg36
  z31 := Tryz.sizeOf36
  v31 := Tryz.zeroValue36
  t40 := Tryz.underlying66
  a40 := Tryz.isAgg66
  z40 := Tryz.sizeOf66
  v40 := Tryz.zeroValue66
  t152 := Tryz.underlying76
  a152 := Tryz.isAgg76
  z152 := Tryz.sizeOf76
  v152 := Tryz.zeroValue76
  t154 := Tryz.underlying78
  a154 := Tryz.isAgg78
  z154 := Tryz.sizeOf78
  v154 := Tryz.zeroValue78 }
theorem Tryz.strings_FieldsFunc_runes (g : Nat) (lb : Array Value) (eg : ∀ args w, (callFunc g args).run Tryz.prog w = .ok (.enter g args) w) (p : Nat → Bool) (s : ByteArray) (w : World) (hs : s.size ≤ 4294967296) (hp : PredAtRunes Tryz.prog g lb p w) :
    Calls Tryz.prog 48 #[.string s, .func (.func g) #[] lb] w fun e w' => ∃ A, e = .returned (.slice (some ⟨A, 0, none⟩) (Lib.goFieldsP p s).length (Lib.goFieldsP p s).length) ∧ w.heap.size ≤ A ∧
      w'.ownsRow w.heap.size 9 1 (.slice (some ⟨A, 0, none⟩) (Lib.goFieldsP p s).length (Lib.goFieldsP p s).length) (Lib.goFieldsP p s).length ((Lib.goFieldsP p s).map Value.string) ∧ Below w.heap.size w w' := Any.strings_FieldsFunc_runes Tryz.lays229 g lb eg p s w hs hp (by kernel_rfl) (by kernel_rfl)
end Go.Proofs
/-
  What package-level variables of the library's hold ahead of a call (the seat's Shelf names them).
-/
namespace Go.Proofs.YtfgaikacijdodaaGreatDoor
set_option linter.unusedVariables false
set_option linter.unusedSimpArgs false
set_option maxRecDepth 20000
open Go.RowKit

/-- What package-level variables of the library's hold ahead of the call: a number. -/
structure MostOk (w : World) : Prop where
  most : ∃ m, w.cell? ⟨Tryz.lays145_ren.g 1, 0, none⟩ = some (.int .i64 m)
theorem MostOk.on {w0 w : World} (h : MostOk w0) (hb : Below w0.heap.size w0 w) : MostOk w where
  most := by
    obtain ⟨m, hm⟩ := h.most
    have hlt := block_lt_of_cell hm
    exact ⟨m, by rw [hb.cell (p := ⟨Tryz.lays145_ren.g 1, 0, none⟩) hlt]; exact hm⟩
/-- .. and the powers of ten. -/
structure VarsOk (w : World) : Prop extends MostOk w where
  tens : Lib.TabIs Tryz.prog w "internal/strconv.uint64pow10" .u64 Lib.pow10Tab
  synt : ∃ ev, w.cell? ⟨1, 0, none⟩ = some ev ∧ (ev = .nilIface ∨ ∃ te pe, ev = .iface te pe)
  rang : ∃ ev, w.cell? ⟨2, 0, none⟩ = some ev ∧ (ev = .nilIface ∨ ∃ te pe, ev = .iface te pe)
theorem VarsOk.on {w0 w : World} (h : VarsOk w0) (hb : Below w0.heap.size w0 w) : VarsOk w where
  toMostOk := h.toMostOk.on hb
  tens := by
    have h := h.tens
    unfold Lib.TabIs World.var? at *
    cases hg : Tryz.prog.globalNamed "internal/strconv.uint64pow10" with
    | none => simp [hg] at h
    | some g =>
      simp only [hg, Option.bind_some] at h ⊢
      have hlt : g < w0.heap.size := by
        rcases Nat.lt_or_ge g w0.heap.size with h' | h'
        · exact h'
        · rw [Array.getElem?_eq_none h'] at h; simp at h
      rw [hb.block g hlt]
      exact h
  synt := by
    obtain ⟨ev, h1, h2⟩ := h.synt
    exact ⟨ev, by rw [hb.cell (p := ⟨1, 0, none⟩) (block_lt_of_cell h1)]; exact h1, h2⟩
  rang := by
    obtain ⟨ev, h1, h2⟩ := h.rang
    exact ⟨ev, by rw [hb.cell (p := ⟨2, 0, none⟩) (block_lt_of_cell h1)]; exact h1, h2⟩
end Go.Proofs.YtfgaikacijdodaaGreatDoor
/-
  The library's calls (cuts, ends, words, ports) in the words of these texts: what package csp calls.
-/
namespace Go.Proofs.YtfgaikacijdodaaGreatDoor
set_option linter.unusedVariables false
set_option linter.unusedSimpArgs false
set_option maxRecDepth 20000
open Go.RowKit

section
variable {w0 w : World} {R : Blks}
/-- A cut at whatever sign. -/
theorem ccut_c (hV : MostOk w0) (hO : Own w0 w R) (s : ByteArray) (hs : s.size ≤ 1073741824) (p : ByteArray) (hp : p.data.toList ≠ []) :
    Calls Tryz.prog 38 #[.string s, .string p] w fun e w' => e = .returned (.tuple #[.string (strOfNums (cutS (sb p) (sb s)).1), .string (strOfNums (cutS (sb p) (sb s)).2.1), .bool (cutS (sb p) (sb s)).2.2]) ∧ Own w0 w' R := by
  obtain ⟨m, hm⟩ := (hV.on hO.below).most
  refine (Tryz.strings_Cut s p m w (by omega) hm).mono fun e w' ⟨he, n, hw⟩ => ?_
  have h := cut_nb hp s.data.toList
  refine ⟨?_, hw ▸ hO.drewN n⟩
  rw [he, sb_nb s, sb_nb p]
  show Ending.returned (.tuple #[.string ⟨(Lib.cut s.data.toList p.data.toList).1.toArray⟩, .string ⟨(Lib.cut s.data.toList p.data.toList).2.1.toArray⟩, .bool (Lib.cut s.data.toList p.data.toList).2.2]) = _
  rw [nb_str (Lib.cut s.data.toList p.data.toList).1, nb_str (Lib.cut s.data.toList p.data.toList).2.1]
  rw [h.1, h.2.1, h.2.2]
/-- A cut at one sign: ahead, behind. -/
theorem ccut1_c (hV : MostOk w0) (hO : Own w0 w R) (s : ByteArray) (hs : s.size ≤ 1073741824) (c : UInt8) (k : Int) (hk : (c.toNat : Int) = k) :
    Calls Tryz.prog 38 #[.string s, .string ⟨#[c]⟩] w fun e w' => e = .returned (.tuple #[.string (strOfNums (ahead [k] (sb s))), .string (strOfNums ((behind [k] (sb s)).drop 1)), .bool (decide (behind [k] (sb s) ≠ []))]) ∧ Own w0 w' R := by
  obtain ⟨m, hm⟩ := (hV.on hO.below).most
  refine (Tryz.strings_Cut s ⟨#[c]⟩ m w (by omega) hm).mono fun e w' ⟨he, n, hw⟩ => ?_
  have h := cut_one c s.data.toList
  rw [hk] at h
  refine ⟨?_, hw ▸ hO.drewN n⟩
  rw [he, sb_nb s]
  show Ending.returned (.tuple #[.string ⟨(Lib.cut s.data.toList [c]).1.toArray⟩, .string ⟨(Lib.cut s.data.toList [c]).2.1.toArray⟩, .bool (Lib.cut s.data.toList [c]).2.2]) = _
  rw [nb_str (Lib.cut s.data.toList [c]).1, nb_str (Lib.cut s.data.toList [c]).2.1]
  rw [h.1, h.2.1, h.2.2]
/-- A prefix cut off. -/
theorem cpre_c (s p : ByteArray) :
    Calls Tryz.prog 53 #[.string s, .string p] w fun e w' => e = .returned (.tuple #[.string (strOfNums (trimP (sb p) (sb s))), .bool (begI (sb p) (sb s))]) ∧ w = w' := by
  refine (Tryz.strings_CutPrefix s p w).mono fun e w' ⟨he, hw⟩ => ⟨?_, hw.symm⟩
  have h1 : Lib.hasPrefix s.data.toList p.data.toList = begI (sb p) (sb s) := by rw [sb_nb, sb_nb, ← pre_begI]; rfl
  rw [he, nb_str, trim_pre, h1]
  rfl
theorem ctrims_c (s p : ByteArray) (hs : s.size ≤ 1073741824) :
    Calls Tryz.prog 27 #[.string s, .string p] w fun e w' => e = .returned (.string (strOfNums (trimS (sb p) (sb s)))) ∧ w = w' := by
  refine (Tryz.strings_TrimSuffix s p w (by omega)).mono fun e w' ⟨he, hw⟩ => ⟨?_, hw.symm⟩
  rw [he, nb_str, trim_suf]
  rfl
theorem csuf_c (s p : ByteArray) (hs : s.size ≤ 1073741824) :
    Calls Tryz.prog 56 #[.string s, .string p] w fun e w' => e = .returned (.bool (endI (sb p) (sb s))) ∧ w = w' := by
  refine (Tryz.strings_HasSuffix s p w (by omega)).mono fun e w' ⟨he, hw⟩ => ⟨?_, hw.symm⟩
  have h1 : Lib.hasSuffix s.data.toList p.data.toList = endI (sb p) (sb s) := by rw [sb_nb, sb_nb, ← suf_endI]; rfl
  rw [he, h1]
/-- The function that is handed to FieldsFunc. -/
theorem cblank_c (W : World) (x : Nat) : Calls Tryz.prog 49 #[.int .i32 x] W fun e w' => e = .returned (.bool (blankR x)) ∧ w' = W := by
  have t : ((x : Int) == 32) = blankR x := by
    unfold blankR
    rw [Bool.eq_iff_iff, beq_iff_eq, decide_eq_true_iff]
    omega
  generalize blankR x = b at *
  go_enter Tryz.func49, Tryz.ntmps49
  go_wp2
  go_ret
  exact ⟨rfl, rfl⟩
theorem cfields_c (hO : Own w0 w R) (s : ByteArray) (hs : s.size ≤ 1073741824) :
    Calls Tryz.prog 48 #[.string s, .func (.func 49) #[] #[]] w fun e w' => ∃ v L, e = .returned v ∧ IsStrs v ((wordsI (sb s)).map strOfNums) L ∧ Own w0 w' (L ++ R) := by
  have hp : PredAtRunes Tryz.prog 49 #[] blankR w := fun W x _ _ => (cblank_c W x).mono fun e w' ⟨he, hw⟩ => ⟨he, 0, by rw [hw]; rfl⟩
  refine (Tryz.strings_FieldsFunc_runes 49 #[] (enters_of Tryz.func49 (by kernel_rfl) rfl) blankR s w (by omega) hp).mono fun e w' ⟨A, he, hA, hrow, hb⟩ => ?_
  rw [fields_words, List.length_map] at he
  rw [fields_words, List.length_map] at hrow
  obtain ⟨L, hr, hL, h1⟩ := IsRow.of_owns hrow
  refine ⟨_, L, he, ?_, ?_⟩
  · refine IsStrs.cast (xs := (wordsI (sb s)).map strOfNums) ?_ rfl
    unfold IsStrs
    rw [List.length_map]
    exact hr
  · have hO' := hO.same hb
    refine ⟨hO'.below, fun g o hm => ?_, ?_⟩
    · rcases List.mem_append.1 hm with hm | hm
      · have := hL g o hm
        exact ⟨Nat.le_trans hO.below.size this.1, this.2.1⟩
      · exact hO'.at_ g o hm
    · rw [List.map_append, List.nodup_append]
      refine ⟨?_, hO'.nodup, ?_⟩
      · match L, h1 with
        | [], _ => exact List.nodup_nil
        | [x], _ => simp
      · intro a ha b hb' e
        obtain ⟨⟨g, o⟩, hm, rfl⟩ := List.mem_map.1 ha
        subst e
        obtain ⟨⟨g2, o2⟩, hm2, e2⟩ := List.mem_map.1 hb'
        have h3 := (hL g o hm).1
        have h4 := hO.lt hm2
        simp only at e2
        omega
/-- What ParseUint tells at sixteen bits. -/
theorem cuint_c (hV : VarsOk w0) (hO : Own w0 w R) (s : ByteArray) (hs : s.size ≤ 1073741824) :
    Calls Tryz.prog 69 #[.string s, .int .i64 10, .int .i64 16] w fun e w' => ∃ (n : Nat) (er : Value), e = .returned (.tuple #[.int .u64 n, er]) ∧
      ((er = .nilIface ∧ n ≤ 65535 ∧ Lib.parseUintB 16 s.data.toList = .ok n) ∨ ((∃ t v, er = .iface t v) ∧ ∀ u, Lib.parseUintB 16 s.data.toList ≠ .ok u)) ∧ Own w0 w' R := by
  have hV2 := hV.on hO.below
  cases h : Lib.parseUintB 16 s.data.toList with
  | ok u =>
    refine (Tryz.strconv_ParseUint_10_at16_ok s (by omega) u h w).mono fun e w' ⟨he, hw⟩ => ⟨u, .nilIface, he, .inl ⟨rfl, Lib.parseUintB_le h, rfl⟩, ?_⟩
    rcases hw with rfl | rfl
    · exact hO
    · exact hO.same (Lib.bytesWorld_below _ _ _)
  | «syntax» =>
    obtain ⟨ev, h1, h2⟩ := hV2.synt
    refine (Tryz.strconv_ParseUint_10_at16_syntax s (by omega) h ev w h1 h2).mono fun e w' ⟨N, he, _, _, hb⟩ => ⟨0, _, he, .inr ⟨⟨_, _, rfl⟩, fun u e => by cases e⟩, hO.same hb⟩
  | range =>
    obtain ⟨ev, h1, h2⟩ := hV2.rang
    refine (Tryz.strconv_ParseUint_10_at16_range s (by omega) h ev w h1 h2).mono fun e w' ⟨N, he, _, _, hb⟩ => ⟨65535, _, he, .inr ⟨⟨_, _, rfl⟩, fun u e => by cases e⟩, hO.same hb⟩
end
end Go.Proofs.YtfgaikacijdodaaGreatDoor
/-
  Package-level variables; the library's calls (cuts, parts, digits) in the words of these texts.
-/
namespace Go.Proofs.YtfgaikacijdodaaGreatDoor
set_option linter.unusedVariables false
set_option linter.unusedSimpArgs false
set_option maxRecDepth 20000
open Go.RowKit

section
variable {w0 w : World} {R : Blks}
/-- A cut at a byte. -/
theorem lcut_c (hV : VarsOk w0) (hO : Own w0 w R) (s : ByteArray) (hs : s.size ≤ 1073741824) (c : UInt8) (k : Int) (hk : (c.toNat : Int) = k) :
    Calls Tryz.prog 38 #[.string s, .string ⟨#[c]⟩] w fun e w' => e = .returned (.tuple #[.string (strOfNums (ahead [k] (sb s))), .string (strOfNums ((behind [k] (sb s)).drop 1)), .bool (decide (behind [k] (sb s) ≠ []))]) ∧ Own w0 w' R := by
  obtain ⟨m, hm⟩ := (hV.on hO.below).most
  refine (Tryz.strings_Cut s ⟨#[c]⟩ m w (by omega) hm).mono fun e w' ⟨he, n, hw⟩ => ?_
  have h := cut_one c s.data.toList
  rw [hk] at h
  refine ⟨?_, hw ▸ hO.drewN n⟩
  rw [he, sb_nb s]
  show Ending.returned (.tuple #[.string ⟨(Lib.cut s.data.toList [c]).1.toArray⟩, .string ⟨(Lib.cut s.data.toList [c]).2.1.toArray⟩, .bool (Lib.cut s.data.toList [c]).2.2]) = _
  rw [nb_str (Lib.cut s.data.toList [c]).1, nb_str (Lib.cut s.data.toList [c]).2.1]
  rw [h.1, h.2.1, h.2.2]
/-- A cut at the mark behind a scheme. -/
theorem lcut3_c (hV : VarsOk w0) (hO : Own w0 w R) (s : ByteArray) (hs : s.size ≤ 1073741824) :
    Calls Tryz.prog 38 #[.string s, .string ⟨#[58, 47, 47]⟩] w fun e w' => e = .returned (.tuple #[.string (strOfNums (cut3 (sb s)).1), .string (strOfNums (cut3 (sb s)).2), .bool (Lib.cut s.data.toList [58, 47, 47]).2.2]) ∧ Own w0 w' R := by
  obtain ⟨m, hm⟩ := (hV.on hO.below).most
  refine (Tryz.strings_Cut s ⟨#[58, 47, 47]⟩ m w (by omega) hm).mono fun e w' ⟨he, n, hw⟩ => ?_
  have h := cut_mark s.data.toList
  refine ⟨?_, hw ▸ hO.drewN n⟩
  rw [he, sb_nb s]
  show Ending.returned (.tuple #[.string ⟨(Lib.cut s.data.toList [58, 47, 47]).1.toArray⟩, .string ⟨(Lib.cut s.data.toList [58, 47, 47]).2.1.toArray⟩, .bool (Lib.cut s.data.toList [58, 47, 47]).2.2]) = _
  rw [nb_str (Lib.cut s.data.toList [58, 47, 47]).1, nb_str (Lib.cut s.data.toList [58, 47, 47]).2.1]
  rw [h.1, h.2]
/-- The parts between points. -/
theorem lsplit_c (hV : VarsOk w0) (hO : Own w0 w R) (s : ByteArray) (hs : s.size ≤ 1073741824) :
    Calls Tryz.prog 60 #[.string s, .string ⟨#[46]⟩] w fun e w' => ∃ v L, e = .returned v ∧ IsStrs v ((splI 46 (sb s)).map strOfNums) L ∧ Own w0 w' (L ++ R) := by
  obtain ⟨m, hm⟩ := (hV.on hO.below).most
  refine (Tryz.strings_Split s ⟨#[46]⟩ m w (by omega) hm (Nat.le_refl 1)).mono fun e w' ⟨he, hw⟩ => ?_
  have hl := splI_len 46 (sb s)
  rw [length_sb] at hl
  rw [countB_splI] at he
  rw [splitB_sb] at hw
  rw [show ((46 : UInt8).toNat : Int) = 46 from rfl] at he hw
  refine ⟨_, [(w.heap.size, .cells (sv ((splI 46 (sb s)).map strOfNums)).toArray 9)], he, ?_, ?_⟩
  · refine ⟨by simp, .inr ⟨w.heap.size, (splI 46 (sb s)).length, [], by rw [List.length_map], by rw [List.append_nil], by rw [List.append_nil]; simp, by simp, by unfold maxLen; omega⟩⟩
  · rw [hw]; exact hO.alloc _
/-- The digits of a number. -/
theorem litoa_c (hV : VarsOk w0) (hO : Own w0 w R) (n : Int) (h0 : 0 ≤ n) (h1 : n < 1000000000000000000) :
    Calls Tryz.prog 66 #[.int .i64 n] w fun e w' => e = .returned (.string (strOfNums (digs n.toNat))) ∧ Own w0 w' R := by
  have ht := (hV.on hO.below).tens
  refine (Tryz.strconv_Itoa n (by omega) (by omega) w ht).mono fun e w' ⟨he, k, os, hw⟩ => ?_
  obtain ⟨m, rfl⟩ : ∃ m : Nat, n = m := ⟨n.toNat, by omega⟩
  rw [itoa_digs m (by omega)] at he
  refine ⟨he, hO.same ?_⟩
  subst hw
  refine ⟨rfl, rfl, rfl, ?_, fun j hj => ?_⟩
  · show w.heap.size ≤ (w.heap ++ os).size
    rw [Array.size_append]; omega
  · show (w.heap ++ os)[j]? = w.heap[j]?
    rw [Array.getElem?_append_left hj]
end
end Go.Proofs.YtfgaikacijdodaaGreatDoor
/-
  Package url: the parts of a host, a port, a scheme (inner functions of the landed program).
-/
namespace Go.Proofs.YtfgaikacijdodaaGreatDoor
set_option linter.unusedVariables false
set_option linter.unusedSimpArgs false
set_option maxRecDepth 20000
open Go.RowKit

set_option maxHeartbeats 4000000 in
theorem isHostPart_c {w : World} (s : ByteArray) (hs : s.size ≤ 1073741824) : Calls Tryz.prog 61 #[.string s] w fun e w' => e = .returned (.bool (decide (∀ x ∈ sb s, HB0 x))) ∧ w = w' := by
  obtain ⟨l, hl⟩ : ∃ l, sb s = l := ⟨_, rfl⟩
  obtain ⟨n, hn⟩ : ∃ n, s.size = n := ⟨_, rfl⟩
  have hln : l.length = n := by rw [← hl, ← hn]; exact length_sb s
  have HL := Lib.hid hl; have HN := Lib.hid hn; have HLN := Lib.hid hln
  obtain ⟨o, ho⟩ : ∃ o, decide (∀ x ∈ l, HB0 x) = o := ⟨_, rfl⟩
  have HO := Lib.hid ho
  have hfail : ¬ (∀ x ∈ l, HB0 x) → o = false := fun h => by rw [← HO.out]; exact decide_eq_false h
  have HF := Lib.hid hfail
  rw [hl, ho]
  rw [hn] at hs
  clear hl hln ho hfail
  go_enter Tryz.func61, Tryz.ntmps61
  go_wp2
  go_loopw [7] (fun t w' => ∃ i : Nat, i ≤ n ∧ t = .int .i64 i ∧ Hid (∀ j, j < i → HB0 (l.getD j 0)) ∧ w' = w) (fun t _ => n - (intOf t).toNat)
  case atStart => exact ⟨0, Nat.zero_le _, rfl, Lib.hid (fun j hj => by omega), rfl⟩
  case round =>
    obtain ⟨i, hi, rfl, HAT, rfl⟩ := hrel
    by_cases hlt : i < n
    · have hix : i < l.length := by rw [HLN.out]; exact hlt
      have h5 := index_at wr s i i rfl (by rw [hn]; exact hlt)
      rw [HL.out] at h5
      have hin : (i : Int) < n := by omega
      have hmem : l.getD i 0 ∈ l := by rw [List.getD_eq_getElem?_getD, List.getElem?_eq_getElem hix]; exact List.getElem_mem hix
      have hbad : ¬ HB0 (l.getD i 0) → o = false := fun e => HF.out (fun h => e (h _ hmem))
      have hgood : HB0 (l.getD i 0) → ∀ j, j < i + 1 → HB0 (l.getD j 0) := fun e j hj => by
        rcases (by omega : j < i ∨ j = i) with h | rfl
        · exact HAT.out j h
        · exact e
      have HBAD := Lib.hid hbad; have HG := Lib.hid hgood
      clear hbad hgood hix hmem
      generalize l.getD i 0 = x at *
      rcases (by omega : (97 ≤ x ∧ x ≤ 122) ∨ (48 ≤ x ∧ x ≤ 57) ∨ x = 45 ∨ (x < 48 ∧ x ≠ 45) ∨ (57 < x ∧ x < 97) ∨ 122 < x) with ⟨c1, c2⟩ | ⟨c1, c2⟩ | rfl | ⟨c1, c0⟩ | ⟨c1, c2⟩ | c1
      · have hg := HG.out (.inl ⟨c1, c2⟩)
        have HGG := Lib.hid hg
        have t45 : (x == 45) = false := beq_eq_false_iff_ne.2 (by omega)
        clear hg
        go_wp2
        go_roundw
        case rel => exact ⟨i + 1, by omega, by go_num, HGG, trivial⟩
        case measure => simp [intOf]; omega
      · have hg := HG.out (.inr (.inl ⟨c1, c2⟩))
        have HGG := Lib.hid hg
        have c3 : ¬ (97 ≤ x) := by omega
        have t45 : (x == 45) = false := beq_eq_false_iff_ne.2 (by omega)
        clear hg
        go_wp2
        go_roundw
        case rel => exact ⟨i + 1, by omega, by go_num, HGG, trivial⟩
        case measure => simp [intOf]; omega
      · have hg := HG.out (.inr (.inr rfl))
        have HGG := Lib.hid hg
        clear hg
        go_wp2
        go_roundw
        case rel => exact ⟨i + 1, by omega, by go_num, HGG, trivial⟩
        case measure => simp [intOf]; omega
      · have hno := HBAD.out (fun h => by unfold HB0 at h; omega)
        have HNO := Lib.hid hno
        have c3 : ¬ (97 ≤ x) := by omega
        have c4 : ¬ (48 ≤ x) := by omega
        have t45 : (x == 45) = false := beq_eq_false_iff_ne.2 c0
        clear hno c0
        go_wp2
        go_ret
        exact ⟨by rw [HNO.out]; rfl, rfl⟩
      · have hno := HBAD.out (fun h => by unfold HB0 at h; omega)
        have HNO := Lib.hid hno
        have c3 : ¬ (97 ≤ x) := by omega
        have c4 : ¬ (x ≤ 57) := by omega
        have c5 : 48 ≤ x := by omega
        have t45 : (x == 45) = false := beq_eq_false_iff_ne.2 (by omega)
        clear hno
        go_wp2
        go_ret
        exact ⟨by rw [HNO.out]; rfl, rfl⟩
      · have hno := HBAD.out (fun h => by unfold HB0 at h; omega)
        have HNO := Lib.hid hno
        have c3 : ¬ (x ≤ 122) := by omega
        have c4 : ¬ (x ≤ 57) := by omega
        have c5 : 48 ≤ x := by omega
        have c6 : 97 ≤ x := by omega
        have t45 : (x == 45) = false := beq_eq_false_iff_ne.2 (by omega)
        clear hno
        go_wp2
        go_ret
        exact ⟨by rw [HNO.out]; rfl, rfl⟩
    · obtain rfl : i = n := by omega
      have hyes : o = true := by
        rw [← HO.out]
        refine decide_eq_true (fun x hx => ?_)
        obtain ⟨j, hj, rfl⟩ := List.mem_iff_getElem.1 hx
        have := HAT.out j (by rw [HLN.out] at hj; exact hj)
        rwa [List.getD_eq_getElem?_getD, List.getElem?_eq_getElem hj] at this
      have HY := Lib.hid hyes
      clear hyes
      go_wp2
      go_ret
      exact ⟨by rw [HY.out]; rfl, rfl⟩
theorem ownPort_c {w : World} (s : ByteArray) : Calls Tryz.prog 42 #[.string s] w fun e w' => e = .returned (.int .i64 (ownI (sb s))) ∧ w = w' := by
  have hb : (s.toList == [104, 116, 116, 112, 115]) = decide (sb s = httpsI) := beq_lit s _
  unfold ownI
  by_cases h : sb s = httpsI
  · rw [if_pos h]
    rw [decide_eq_true h] at hb
    clear h
    go_enter Tryz.func42, Tryz.ntmps42
    go_wp2
    go_ret
    exact ⟨rfl, rfl⟩
  · rw [if_neg h]
    rw [decide_eq_false h] at hb
    clear h
    go_enter Tryz.func42, Tryz.ntmps42
    go_wp2
    go_ret
    exact ⟨rfl, rfl⟩
theorem readScheme_c {w0 w : World} {R : Blks} (hO : Own w0 w R) (s : ByteArray) (hs : s.size ≤ 1073741824) :
    Calls Tryz.prog 39 #[.string s] w fun e w' => e = .returned (.tuple #[.string (strOfNums ((schI (sb s)).getD [])), .bool (schI (sb s)).isSome]) ∧ Own w0 w' R := by
  have hc := lower_c hO s hs
  have hB : Byt (lowL (sb s)) := lowL_byt (byt_sb s)
  have hb1 : ((strOfNums (lowL (sb s))).toList == [104, 116, 116, 112]) = decide (lowL (sb s) = httpI) := by rw [beq_lit, sb_str hB]; rfl
  have hb2 : ((strOfNums (lowL (sb s))).toList == [104, 116, 116, 112, 115]) = decide (lowL (sb s) = httpsI) := by rw [beq_lit, sb_str hB]; rfl
  have HC := Lib.hid hc
  unfold schI
  generalize lowL (sb s) = l at *
  clear hc hO hB
  have s1 : strOfNums httpI = ⟨#[104, 116, 116, 112]⟩ := by decide +kernel
  have s2 : strOfNums httpsI = ⟨#[104, 116, 116, 112, 115]⟩ := by decide +kernel
  have S1 := Lib.hid s1; have S2 := Lib.hid s2
  clear s1 s2
  by_cases h1 : l = httpI
  · rw [if_pos h1]
    rw [decide_eq_true h1] at hb1
    clear h1 hb2
    generalize strOfNums l = x at *
    go_enter Tryz.func39, Tryz.ntmps39
    go_wp2_with fail
    with_reducible refine HC.out.mono ?_
    rintro e w1 ⟨rfl, hO1⟩
    have HO1 := Lib.hid hO1
    clear hO1 HC
    go_wp2
    go_ret2
    exact ⟨by simp only [Option.getD_some, Option.isSome_some]; rw [S1.out]; rfl, HO1.out⟩
  · rw [if_neg h1]
    rw [decide_eq_false h1] at hb1
    clear h1
    by_cases h2 : l = httpsI
    · rw [if_pos h2]
      rw [decide_eq_true h2] at hb2
      clear h2
      generalize strOfNums l = x at *
      go_enter Tryz.func39, Tryz.ntmps39
      go_wp2_with fail
      with_reducible refine HC.out.mono ?_
      rintro e w1 ⟨rfl, hO1⟩
      have HO1 := Lib.hid hO1
      clear hO1 HC
      go_wp2
      go_ret2
      exact ⟨by simp only [Option.getD_some, Option.isSome_some]; rw [S2.out]; rfl, HO1.out⟩
    · rw [if_neg h2]
      rw [decide_eq_false h2] at hb2
      clear h2
      generalize strOfNums l = x at *
      go_enter Tryz.func39, Tryz.ntmps39
      go_wp2_with fail
      with_reducible refine HC.out.mono ?_
      rintro e w1 ⟨rfl, hO1⟩
      have HO1 := Lib.hid hO1
      clear hO1 HC
      go_wp2
      go_ret2
      exact ⟨rfl, HO1.out⟩
set_option maxHeartbeats 4000000 in
theorem readPort_c {w : World} (s : ByteArray) : Calls Tryz.prog 41 #[.string s] w fun e w' => e = .returned (.tuple #[.int .i64 ((figI (sb s) 1 5).getD 0), .bool (prtI (sb s)).isSome]) ∧ w = w' := by
  unfold prtI
  obtain ⟨l, hl⟩ : ∃ l, sb s = l := ⟨_, rfl⟩
  obtain ⟨n, hn⟩ : ∃ n, s.size = n := ⟨_, rfl⟩
  have hln : l.length = n := by rw [← hl, ← hn]; exact length_sb s
  have HL := Lib.hid hl; have HN := Lib.hid hn; have HLN := Lib.hid hln
  obtain ⟨o, ho⟩ : ∃ o, figI l 1 5 = o := ⟨_, rfl⟩
  have HO := Lib.hid ho
  rw [hl, ho]
  clear hl hln ho
  by_cases h1 : (n : Int) < 1
  · have hno : o = none := by rw [← HO.out]; unfold figI; rw [if_neg]; intro h; have := h.1; rw [HLN.out] at this; omega
    have HNO := Lib.hid hno
    have h1' : n < 1 := by omega
    clear hno
    go_enter Tryz.func41, Tryz.ntmps41
    go_wp2
    go_ret2
    exact ⟨by rw [HNO.out]; rfl, rfl⟩
  · by_cases h2 : 5 < (n : Int)
    · have hno : o = none := by rw [← HO.out]; unfold figI; rw [if_neg]; intro h; have := h.2.1; rw [HLN.out] at this; omega
      have HNO := Lib.hid hno
      have h1' : ¬ n < 1 := by omega
      have h2' : 5 < n := by omega
      clear hno
      go_enter Tryz.func41, Tryz.ntmps41
      go_wp2
      go_ret2
      exact ⟨by rw [HNO.out]; rfl, rfl⟩
    · have h1' : ¬ n < 1 := by omega
      have h2' : ¬ 5 < n := by omega
      go_enter Tryz.func41, Tryz.ntmps41
      go_wp2
      have hn5 : n ≤ 5 := by omega
      go_loopw [4, 17] (fun u t w' => ∃ i : Nat, i ≤ n ∧ t = .int .i64 i ∧ Hid (u = .int .i64 (figN (l.take i))) ∧ Hid (∀ x ∈ l.take i, 48 ≤ x ∧ x ≤ 57) ∧ w' = w) (fun _ t _ => n - (intOf t).toNat)
      case atStart => exact ⟨0, Nat.zero_le _, rfl, rfl, Lib.hid (by simp), rfl⟩
      case round =>
        obtain ⟨i, hi, rfl, HU, HA, rfl⟩ := hrel
        have hu := HU.out
        subst hu
        have hb := figN_bound (l.take i) HA.out
        have hp : (10 : Int) ^ (l.take i).length ≤ 10 ^ 5 := by
          have : (l.take i).length ≤ 5 := by rw [List.length_take]; omega
          have hall : ∀ k, k < 6 → (10 : Int) ^ k ≤ 10 ^ 5 := by decide
          exact hall _ (by omega)
        have hf0 : 0 ≤ figN (l.take i) := hb.1
        have hf1 : figN (l.take i) < 100000 := Int.lt_of_lt_of_le hb.2 hp
        clear hb hp
        by_cases hlt : i < n
        · have hix : i < l.length := by rw [HLN.out]; exact hlt
          have h3 := index_at wr s i i rfl (by rw [hn]; exact hlt)
          rw [HL.out] at h3
          have hin : (i : Int) < n := by omega
          have hts : l.take (i + 1) = l.take i ++ [l.getD i 0] := by rw [List.take_succ_eq_append_getElem hix, List.getD_eq_getElem?_getD, List.getElem?_eq_getElem hix]; rfl
          have hmem : l.getD i 0 ∈ l := by rw [List.getD_eq_getElem?_getD, List.getElem?_eq_getElem hix]; exact List.getElem_mem hix
          have hsn := figN_snoc (l.take i) (l.getD i 0)
          rw [← hts] at hsn
          have HSN := Lib.hid hsn; have HMEM := Lib.hid hmem; have HTS := Lib.hid hts
          clear hts hsn hmem hix
          generalize figN (l.take i) = f at *
          generalize l.getD i 0 = x at *
          by_cases h4 : x < 48
          · have hno : o = none := by rw [← HO.out]; unfold figI; rw [if_neg]; intro h; have := h.2.2 x HMEM.out; omega
            have HNO := Lib.hid hno
            clear hno
            go_wp2
            go_ret2
            exact ⟨by rw [HNO.out]; rfl, rfl⟩
          · by_cases h5 : 57 < x
            · have hno : o = none := by rw [← HO.out]; unfold figI; rw [if_neg]; intro h; have := h.2.2 x HMEM.out; omega
              have HNO := Lib.hid hno
              clear hno
              go_wp2
              go_ret2
              exact ⟨by rw [HNO.out]; rfl, rfl⟩
            · have hA2 : ∀ y ∈ l.take (i + 1), 48 ≤ y ∧ y ≤ 57 := by
                rw [HTS.out]
                intro y hy
                rcases List.mem_append.1 hy with hy | hy
                · exact HA.out y hy
                · rw [List.mem_singleton] at hy; omega
              have HA2 := Lib.hid hA2
              clear hA2
              go_wp2
              go_roundw
              case rel => exact ⟨i + 1, by omega, by go_num, Lib.hid (by rw [HSN.out, Int.mul_comm]), HA2, trivial⟩
              case measure => simp [intOf]; omega
        · obtain rfl : i = n := by omega
          have hta : l.take i = l := List.take_of_length_le (by rw [HLN.out]; exact Nat.le_refl _)
          have hal := HA.out
          rw [hta] at hal hf0 hf1
          rw [hta]
          have hyes : o = some (figN l) := by rw [← HO.out]; unfold figI; rw [if_pos ⟨by rw [HLN.out]; omega, by rw [HLN.out]; omega, hal⟩]
          have HY := Lib.hid hyes
          clear hyes hta hal
          generalize figN l = f at *
          by_cases h6 : 65535 < f
          · have h6' : ¬ f ≤ 65535 := by omega
            go_wp2
            go_ret2
            exact ⟨by rw [HY.out]; simp only [Option.bind_some, Option.getD_some]; rw [if_pos (by omega)]; simp, rfl⟩
          · have h6' : f ≤ 65535 := by omega
            go_wp2
            go_ret2
            exact ⟨by rw [HY.out]; simp only [Option.bind_some, Option.getD_some]; rw [if_neg (by omega)]; simp, rfl⟩
end Go.Proofs.YtfgaikacijdodaaGreatDoor
/-
  Package url: a host, a path (inner functions of the landed program).
-/
namespace Go.Proofs.YtfgaikacijdodaaGreatDoor
set_option linter.unusedVariables false
set_option linter.unusedSimpArgs false
set_option maxRecDepth 20000
open Go.RowKit

set_option maxHeartbeats 4000000 in
theorem isHost_c {w0 w : World} {R : Blks} (hV : VarsOk w0) (hO : Own w0 w R) (s : ByteArray) (hs : s.size ≤ 1073741824) :
    Calls Tryz.prog 40 #[.string s] w fun e w' => e = .returned (.bool (decide (HostOk (sb s)))) ∧ Own w0 w' R := by
  rw [hostP_dec]
  obtain ⟨o, ho⟩ : ∃ o, decide (HostP (sb s)) = o := ⟨_, rfl⟩
  obtain ⟨n, hn⟩ : ∃ n, s.size = n := ⟨_, rfl⟩
  have hln : (sb s).length = n := by rw [← hn]; exact length_sb s
  have hsp := lsplit_c hV hO s hs
  have hlen := splI_len 46 (sb s)
  have hmem := splI_mem 46 (sb s)
  have hne := splI_ne 46 (sb s)
  have hBy := byt_sb s
  have hdef : o = decide (n ≤ 20 ∧ ∀ p ∈ splI 46 (sb s), PartH p) := by rw [← ho, ← hln]; rfl
  rw [ho]
  rw [hln] at hlen
  generalize sb s = l at *
  have HO := Lib.hid hO; have HD := Lib.hid hdef
  clear hO hdef ho
  by_cases h1 : 20 < n
  · have hno : o = false := by rw [HD.out]; exact decide_eq_false (fun h => by omega)
    have HNO := Lib.hid hno
    clear hno hsp hlen hmem hne hBy hln
    go_enter Tryz.func40, Tryz.ntmps40
    go_wp2
    go_ret
    exact ⟨by rw [HNO.out]; rfl, HO.out⟩
  · have h1' : ¬ 20 < n := h1
    have hpl : ∀ p ∈ splI 46 l, p.length ≤ 20 ∧ Byt p := fun p hp => ⟨by have := (hmem p hp).1; omega, fun x hx => hBy x ((hmem p hp).2 x hx)⟩
    generalize splI 46 l = ps at *
    have HSP := Lib.hid hsp; have HNE := Lib.hid hne; have HPL := Lib.hid hpl
    obtain ⟨k, hk⟩ : ∃ k, ps.length = k := ⟨_, rfl⟩
    have hk2 : k ≤ 21 := by omega
    have hk0 : 0 < k := by have := List.length_pos_iff.2 hne; omega
    have HK := Lib.hid hk
    clear hsp hlen hmem hne hBy hln hpl hk
    go_enter Tryz.func40, Tryz.ntmps40
    go_wp2_with fail
    with_reducible refine HSP.out.mono ?_
    rintro e w1 ⟨v, L, rfl, hrow, hO1⟩
    have HO1 := Lib.hid hO1
    rcases hrow.2 with ⟨_, h0, _⟩ | ⟨g, cap, sp, rfl, rfl, hl, hc, hm⟩
    · exfalso; rw [List.length_map] at h0; have := HK.out; omega
    have hcell : ∀ j, j < k → w1.cell? ⟨g, j, none⟩ = some (.string (strOfNums (ps.getD j []))) := by
      intro j hj
      have hj' : j < ps.length := by rw [HK.out]; exact hj
      rw [hO1.cell (.head _) j]
      simp only [List.getElem?_toArray]
      rw [List.getElem?_append_left (by simp; exact hj')]
      simp [sv, List.getD_eq_getElem?_getD, List.getElem?_eq_getElem hj']
    have HCELL := Lib.hid hcell
    rw [List.length_map, HK.out] at hc ⊢
    clear hO1 hrow hl hcell HO HSP HNE
    go_wp2
    go_loopw [11] (fun t w' => ∃ i : Nat, i ≤ k ∧ t = .int .i64 i ∧ Hid (∀ j, j < i → PartH (ps.getD j [])) ∧ w' = w1) (fun t _ => k - (intOf t).toNat)
    case atStart => exact ⟨0, Nat.zero_le _, rfl, Lib.hid (fun j hj => by omega), rfl⟩
    case round =>
      obtain ⟨i, hi, rfl, HAT, rfl⟩ := hrel
      by_cases hlt : i < k
      · have hcl := HCELL.out i hlt
        have hix : i < ps.length := by rw [HK.out]; exact hlt
        have hin : (i : Int) < k := by omega
        have hpm : ps.getD i [] ∈ ps := by rw [List.getD_eq_getElem?_getD, List.getElem?_eq_getElem hix]; exact List.getElem_mem hix
        have hp := HPL.out _ hpm
        have hbad : ¬ PartH (ps.getD i []) → o = false := fun e => by rw [HD.out]; exact decide_eq_false (fun h => e (h.2 _ hpm))
        have hgood : PartH (ps.getD i []) → ∀ j, j < i + 1 → PartH (ps.getD j []) := fun e j hj => by
          rcases (by omega : j < i ∨ j = i) with h | rfl
          · exact HAT.out j h
          · exact e
        have hcall := isHostPart_c (w := wr) (strOfNums (ps.getD i [])) (by rw [strOfNums_size]; have := hp.1; omega)
        rw [sb_str hp.2] at hcall
        have hb0 : ((strOfNums (ps.getD i [])).toList == []) = decide (ps.getD i [] = []) := by rw [beq_lit, sb_str hp.2]; rfl
        have hdp : PartH (ps.getD i []) ↔ (ps.getD i [] ≠ [] ∧ ∀ x ∈ ps.getD i [], HB0 x) := Iff.rfl
        have HBAD := Lib.hid hbad; have HG := Lib.hid hgood; have HC := Lib.hid hcall; have HDP := Lib.hid hdp
        clear hbad hgood hcall hdp hpm hix hp
        generalize ps.getD i [] = p at *
        by_cases hpe : p = []
        · have hno := HBAD.out (fun h => (HDP.out.1 h).1 hpe)
          have HNO := Lib.hid hno
          rw [decide_eq_true hpe] at hb0
          clear hno hpe
          generalize strOfNums p = x at *
          go_wp2
          go_ret
          exact ⟨by rw [HNO.out]; rfl, (HO1.out).tail⟩
        · rw [decide_eq_false hpe] at hb0
          by_cases hall : ∀ x ∈ p, HB0 x
          · have hg := HG.out (HDP.out.2 ⟨hpe, hall⟩)
            have HGG := Lib.hid hg
            have HC2 := Lib.hid (by have := HC.out; rwa [decide_eq_true hall] at this)
            clear hg hall hpe HC
            generalize strOfNums p = x at *
            go_wp2_with fail
            with_reducible refine HC2.out.mono ?_
            rintro e w2 ⟨rfl, rfl⟩
            go_wp2
            go_roundw
            case rel => exact ⟨i + 1, by omega, by go_num, HGG, trivial⟩
            case measure => simp [intOf]; omega
          · have hno := HBAD.out (fun h => hall (HDP.out.1 h).2)
            have HNO := Lib.hid hno
            have HC2 := Lib.hid (by have := HC.out; rwa [decide_eq_false hall] at this)
            clear hno hall hpe HC
            generalize strOfNums p = x at *
            go_wp2_with fail
            with_reducible refine HC2.out.mono ?_
            rintro e w2 ⟨rfl, rfl⟩
            go_wp2
            go_ret
            exact ⟨by rw [HNO.out]; rfl, (HO1.out).tail⟩
      · obtain rfl : i = k := by omega
        have hyes : o = true := by
          rw [HD.out]
          refine decide_eq_true ⟨by omega, fun p hp => ?_⟩
          obtain ⟨j, hj, rfl⟩ := List.mem_iff_getElem.1 hp
          have := HAT.out j (by rw [HK.out] at hj; exact hj)
          rwa [List.getD_eq_getElem?_getD, List.getElem?_eq_getElem hj] at this
        have HY := Lib.hid hyes
        clear hyes
        go_wp2
        go_ret
        exact ⟨by rw [HY.out]; rfl, (HO1.out).tail⟩
end Go.Proofs.YtfgaikacijdodaaGreatDoor
