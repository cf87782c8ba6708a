/-
  Part 4 of the texts that the proof leans on.
-/
import Derived.Shelf.Strings.FieldsAny
import Derived.Shelf.Strings.SlTrimAscii
import Derived.Shelf.Small.Strs
import Derived.Test.YtnohnkcijomdjaaGreatDoorProg
import Derived.Shelf.Strconv.AtoiAll
import Derived.Shelf.Strconv.ErrVarAll
import Derived.Shelf.Strconv.Itoa3
import Derived.Shelf.Strings.OnBuilder
import Derived.Test.YtnohnkcijomdjaaGreatDoorCur0
import Derived.Test.YtnohnkcijomdjaaGreatDoorCur2
import Derived.Lib.ItoaNum
import Derived.Lib.Join
import Derived.Laws.BytesArg
import Derived.Test.YtnohnkcijomdjaaGreatDoorRows
import Derived.Test.YtnohnkcijomdjaaGreatDoorChecked
import Derived.Lib.ConvBytes
import Derived.Test.YtnohnkcijomdjaaGreatDoorCur1
import Derived.Maps.AppendAt
set_option linter.unusedVariables false
set_option linter.unusedSimpArgs false
set_option maxRecDepth 10000

namespace Go.Proofs.YtnohnkcijomdjaaGreatDoor
open Go.Proofs Go.Shelf

def layFields_ren : Go.Shelf.Ren := ⟨fun | 157 => 21 | 229 => 42 | 199 => 43 | 261 => 67 | 311 => 86 | 312 => 87 | n => n, fun | 9 => 9 | 31 => 44 | 3 => 3 | 5 => 5 | 4 => 4 | 119 => 73 | 0 => 0 | 40 => 75 | 152 => 102 | 21 => 21 | 154 => 104 | 51 => 105 | 141 => 107 | 196 => 135 | 193 => 132 | 198 => 138 | 49 => 136 | 194 => 133 | 201 => 141 | 226 => 153 | 46 => 101 | 227 => 154 | n => n, fun | 0 => 0 | 6 => 1 | n => n⟩
theorem layFields : Go.Proofs.Lays.n157 Tryz.prog layFields_ren := {
  mixed := by kernel_rfl
  f157 := Tryz.func21.trans (congrArg some (by kernel_rfl))
  f199 := Tryz.func43.trans (congrArg some (by kernel_rfl))
  f229 := Tryz.func42.trans (congrArg some (by kernel_rfl))
  f261 := Tryz.func67.trans (congrArg some (by kernel_rfl))
  f311 := Tryz.func86.trans (congrArg some (by kernel_rfl))
  f312 := Tryz.func87.trans (congrArg some (by kernel_rfl))
  t0 := Tryz.underlying0
  a0 := Tryz.isAgg0
  z0 := Tryz.sizeOf0
  v0 := Tryz.zeroValue0
  t3 := Tryz.underlying3
  a3 := Tryz.isAgg3
  z3 := Tryz.sizeOf3
  v3 := Tryz.zeroValue3
  t4 := Tryz.underlying4
  a4 := Tryz.isAgg4
  z4 := Tryz.sizeOf4
  v4 := Tryz.zeroValue4
  t5 := Tryz.underlying5
  a5 := Tryz.isAgg5
  z5 := Tryz.sizeOf5
  v5 := Tryz.zeroValue5
  t9 := Tryz.underlying9
  a9 := Tryz.isAgg9
  z9 := Tryz.sizeOf9
  v9 := Tryz.zeroValue9
  t21 := Tryz.underlying21
  a21 := Tryz.isAgg21
  z21 := Tryz.sizeOf21
  v21 := Tryz.zeroValue21
  t31 := Tryz.underlying44
  a31 := Tryz.isAgg44
  z31 := Tryz.sizeOf44
  v31 := Tryz.zeroValue44
  t40 := Tryz.underlying75
  a40 := Tryz.isAgg75
  z40 := Tryz.sizeOf75
  v40 := Tryz.zeroValue75
  t46 := Tryz.underlying101
  a46 := Tryz.isAgg101
  z46 := Tryz.sizeOf101
  v46 := Tryz.zeroValue101
  t49 := Tryz.underlying136
  a49 := Tryz.isAgg136
  z49 := Tryz.sizeOf136
  v49 := Tryz.zeroValue136
  t51 := Tryz.underlying105
  a51 := Tryz.isAgg105
  z51 := Tryz.sizeOf105
  v51 := Tryz.zeroValue105
  t119 := Tryz.underlying73
  a119 := Tryz.isAgg73
  z119 := Tryz.sizeOf73
  t141 := Tryz.underlying107
  a141 := Tryz.isAgg107
  z141 := Tryz.sizeOf107
  v141 := Tryz.zeroValue107
  t152 := Tryz.underlying102
  a152 := Tryz.isAgg102
  z152 := Tryz.sizeOf102
  v152 := Tryz.zeroValue102
  t154 := Tryz.underlying104
  a154 := Tryz.isAgg104
  z154 := Tryz.sizeOf104
  v154 := Tryz.zeroValue104
  t193 := Tryz.underlying132
  a193 := Tryz.isAgg132
  z193 := Tryz.sizeOf132
  v193 := Tryz.zeroValue132
  t194 := Tryz.underlying133
  a194 := Tryz.isAgg133
  z194 := Tryz.sizeOf133
  v194 := Tryz.zeroValue133
  t196 := Tryz.underlying135
  a196 := Tryz.isAgg135
  z196 := Tryz.sizeOf135
  v196 := Tryz.zeroValue135
  t198 := Tryz.underlying138
  a198 := Tryz.isAgg138
  z198 := Tryz.sizeOf138
  v198 := Tryz.zeroValue138
  t201 := Tryz.underlying141
  a201 := Tryz.isAgg141
  z201 := Tryz.sizeOf141
  v201 := Tryz.zeroValue141
  t226 := Tryz.underlying153
  a226 := Tryz.isAgg153
  z226 := Tryz.sizeOf153
  v226 := Tryz.zeroValue153
  t227 := Tryz.underlying154
  a227 := Tryz.isAgg154
  z227 := Tryz.sizeOf154
  v227 := Tryz.zeroValue154
  g0 := by kernel_rfl
  g6 := by kernel_rfl }
def layTrim_ren : Go.Shelf.Ren := ⟨fun | 160 => 104 | 232 => 122 | 231 => 121 | 227 => 123 | 234 => 125 | 233 => 124 | 236 => 127 | 235 => 126 | 228 => 136 | 271 => 139 | 151 => 138 | 197 => 137 | 120 => 146 | 152 => 145 | 260 => 144 | 137 => 70 | 119 => 147 | 224 => 148 | 225 => 149 | 217 => 91 | 266 => 110 | n => n, fun | 9 => 9 | 4 => 4 | 3 => 3 | 5 => 5 | 117 => 178 | 116 => 177 | 0 => 0 | 124 => 181 | 21 => 21 | 105 => 194 | 46 => 101 | 119 => 73 | 139 => 207 | 138 => 206 | n => n, fun | 3 => 8 | 4 => 9 | n => n⟩
theorem layTrim : Go.Proofs.Lays.n160 Tryz.prog layTrim_ren := {
  mixed := by kernel_rfl
  f119 := Tryz.func147.trans (congrArg some (by kernel_rfl))
  f120 := Tryz.func146.trans (congrArg some (by kernel_rfl))
  f137 := Tryz.func70.trans (congrArg some (by kernel_rfl))
  f151 := Tryz.func138.trans (congrArg some (by kernel_rfl))
  f152 := Tryz.func145.trans (congrArg some (by kernel_rfl))
  f160 := Tryz.func104.trans (congrArg some (by kernel_rfl))
  f197 := Tryz.func137.trans (congrArg some (by kernel_rfl))
  f217 := Tryz.func91.trans (congrArg some (by kernel_rfl))
  f224 := Tryz.func148.trans (congrArg some (by kernel_rfl))
  f225 := Tryz.func149.trans (congrArg some (by kernel_rfl))
  f227 := Tryz.func123.trans (congrArg some (by kernel_rfl))
  f228 := Tryz.func136.trans (congrArg some (by kernel_rfl))
  f231 := Tryz.func121.trans (congrArg some (by kernel_rfl))
  f232 := Tryz.func122.trans (congrArg some (by kernel_rfl))
  f233 := Tryz.func124.trans (congrArg some (by kernel_rfl))
  f234 := Tryz.func125.trans (congrArg some (by kernel_rfl))
  f235 := Tryz.func126.trans (congrArg some (by kernel_rfl))
  f236 := Tryz.func127.trans (congrArg some (by kernel_rfl))
  f260 := Tryz.func144.trans (congrArg some (by kernel_rfl))
  f266 := Tryz.func110.trans (congrArg some (by kernel_rfl))
  f271 := Tryz.func139.trans (congrArg some (by kernel_rfl))
  t0 := Tryz.underlying0
  a0 := Tryz.isAgg0
  z0 := Tryz.sizeOf0
  v0 := Tryz.zeroValue0
  t3 := Tryz.underlying3
  a3 := Tryz.isAgg3
  z3 := Tryz.sizeOf3
  v3 := Tryz.zeroValue3
  t4 := Tryz.underlying4
  a4 := Tryz.isAgg4
  z4 := Tryz.sizeOf4
  v4 := Tryz.zeroValue4
  t5 := Tryz.underlying5
  a5 := Tryz.isAgg5
  z5 := Tryz.sizeOf5
  v5 := Tryz.zeroValue5
  t9 := Tryz.underlying9
  a9 := Tryz.isAgg9
  z9 := Tryz.sizeOf9
  v9 := Tryz.zeroValue9
  t21 := Tryz.underlying21
  a21 := Tryz.isAgg21
  z21 := Tryz.sizeOf21
  v21 := Tryz.zeroValue21
  t46 := Tryz.underlying101
  a46 := Tryz.isAgg101
  z46 := Tryz.sizeOf101
  v46 := Tryz.zeroValue101
  t105 := Tryz.underlying194
  a105 := Tryz.isAgg194
  z105 := Tryz.sizeOf194
  v105 := Tryz.zeroValue194
  t116 := Tryz.underlying177
  a116 := Tryz.isAgg177
  z116 := Tryz.sizeOf177
  t117 := Tryz.underlying178
  a117 := Tryz.isAgg178
  z117 := Tryz.sizeOf178
  v117 := Tryz.zeroValue178
  t119 := Tryz.underlying73
  a119 := Tryz.isAgg73
  z119 := Tryz.sizeOf73
  t124 := Tryz.underlying181
  a124 := Tryz.isAgg181
  z124 := Tryz.sizeOf181
  v124 := Tryz.zeroValue181
  t138 := Tryz.underlying206
  a138 := Tryz.isAgg206
  z138 := Tryz.sizeOf206
  v138 := Tryz.zeroValue206
  t139 := Tryz.underlying207
  a139 := Tryz.isAgg207
  z139 := Tryz.sizeOf207
  v139 := Tryz.zeroValue207
  g3 := by kernel_rfl
  g4 := by kernel_rfl }
def layIndexByte_ren : Go.Shelf.Ren := ⟨fun | 137 => 70 | 217 => 91 | 266 => 110 | n => n, fun | 9 => 9 | 5 => 5 | 3 => 3 | n => n, fun | n => n⟩
theorem layIndexByte : Go.Proofs.Lays.n137 Tryz.prog layIndexByte_ren := {
  mixed := by kernel_rfl
  f137 := Tryz.func70.trans (congrArg some (by kernel_rfl))
  f217 := Tryz.func91.trans (congrArg some (by kernel_rfl))
  f266 := Tryz.func110.trans (congrArg some (by kernel_rfl))
  t3 := Tryz.underlying3
  a3 := Tryz.isAgg3
  z3 := Tryz.sizeOf3
  v3 := Tryz.zeroValue3
  t5 := Tryz.underlying5
  a5 := Tryz.isAgg5
  z5 := Tryz.sizeOf5
  v5 := Tryz.zeroValue5
  t9 := Tryz.underlying9
  a9 := Tryz.isAgg9
  z9 := Tryz.sizeOf9
  v9 := Tryz.zeroValue9 }


def layAtoi_ren : Go.Shelf.Ren := ⟨fun | 172 => 69 | 244 => 89 | 245 => 90 | 247 => 105 | 279 => 106 | 280 => 107 | 281 => 108 | 282 => 109 | 287 => 128 | 316 => 129 | 171 => 49 | 205 => 130 | 321 => 140 | 322 => 141 | 243 => 73 | 246 => 94 | 283 => 111 | 284 => 112 | 285 => 113 | 286 => 114 | 129 => 132 | 317 => 131 | 318 => 133 | 319 => 134 | 320 => 135 | 337 => 142 | 338 => 143 | n => n, fun | 9 => 9 | 3 => 3 | 75 => 114 | 76 => 115 | 4 => 4 | 5 => 5 | 167 => 156 | 37 => 60 | 0 => 0 | 85 => 157 | 2 => 2 | 168 => 159 | 53 => 163 | 175 => 182 | 46 => 101 | 210 => 185 | 127 => 147 | 145 => 200 | 143 => 198 | 21 => 21 | 171 => 162 | 173 => 166 | 212 => 189 | 51 => 105 | 20 => 20 | 213 => 190 | 232 => 203 | 233 => 204 | 80 => 78 | n => n, fun | 15 => 2 | 16 => 3 | 17 => 5 | 18 => 6 | 19 => 7 | n => n⟩
theorem layAtoi : Go.Proofs.LaysC.n172 Tryz.prog layAtoi_ren := {
  mixed := by kernel_rfl
  f129 := Tryz.func132.trans (congrArg some (by kernel_rfl))
  f171 := Tryz.func49.trans (congrArg some (by kernel_rfl))
  f172 := Tryz.func69.trans (congrArg some (by kernel_rfl))
  f205 := Tryz.func130.trans (congrArg some (by kernel_rfl))
  f243 := Tryz.func73.trans (congrArg some (by kernel_rfl))
  f244 := Tryz.func89.trans (congrArg some (by kernel_rfl))
  f245 := Tryz.func90.trans (congrArg some (by kernel_rfl))
  f246 := Tryz.func94.trans (congrArg some (by kernel_rfl))
  f247 := Tryz.func105.trans (congrArg some (by kernel_rfl))
  f279 := Tryz.func106.trans (congrArg some (by kernel_rfl))
  f280 := Tryz.func107.trans (congrArg some (by kernel_rfl))
  f281 := Tryz.func108.trans (congrArg some (by kernel_rfl))
  f282 := Tryz.func109.trans (congrArg some (by kernel_rfl))
  f283 := Tryz.func111.trans (congrArg some (by kernel_rfl))
  f284 := Tryz.func112.trans (congrArg some (by kernel_rfl))
  f285 := Tryz.func113.trans (congrArg some (by kernel_rfl))
  f286 := Tryz.func114.trans (congrArg some (by kernel_rfl))
  f287 := Tryz.func128.trans (congrArg some (by kernel_rfl))
  f316 := Tryz.func129.trans (congrArg some (by kernel_rfl))
  f317 := Tryz.func131.trans (congrArg some (by kernel_rfl))
  f318 := Tryz.func133.trans (congrArg some (by kernel_rfl))
  f319 := Tryz.func134.trans (congrArg some (by kernel_rfl))
  f320 := Tryz.func135.trans (congrArg some (by kernel_rfl))
  f321 := Tryz.func140.trans (congrArg some (by kernel_rfl))
  f322 := Tryz.func141.trans (congrArg some (by kernel_rfl))
  f337 := Tryz.func142.trans (congrArg some (by kernel_rfl))
  f338 := Tryz.func143.trans (congrArg some (by kernel_rfl))
  t0 := Tryz.underlying0
  a0 := Tryz.isAgg0
  z0 := Tryz.sizeOf0
  v0 := Tryz.zeroValue0
  t2 := Tryz.underlying2
  a2 := Tryz.isAgg2
  z2 := Tryz.sizeOf2
  v2 := Tryz.zeroValue2
  t3 := Tryz.underlying3
  a3 := Tryz.isAgg3
  z3 := Tryz.sizeOf3
  v3 := Tryz.zeroValue3
  t4 := Tryz.underlying4
  a4 := Tryz.isAgg4
  z4 := Tryz.sizeOf4
  v4 := Tryz.zeroValue4
  t5 := Tryz.underlying5
  a5 := Tryz.isAgg5
  z5 := Tryz.sizeOf5
  v5 := Tryz.zeroValue5
  t9 := Tryz.underlying9
  a9 := Tryz.isAgg9
  z9 := Tryz.sizeOf9
  v9 := Tryz.zeroValue9
  t20 := Tryz.underlying20
  a20 := Tryz.isAgg20
  z20 := Tryz.sizeOf20
  v20 := Tryz.zeroValue20
  t21 := Tryz.underlying21
  a21 := Tryz.isAgg21
  z21 := Tryz.sizeOf21
  v21 := Tryz.zeroValue21
  t37 := Tryz.underlying60
  a37 := Tryz.isAgg60
  z37 := Tryz.sizeOf60
  v37 := Tryz.zeroValue60
  t46 := Tryz.underlying101
  a46 := Tryz.isAgg101
  z46 := Tryz.sizeOf101
  v46 := Tryz.zeroValue101
  t51 := Tryz.underlying105
  a51 := Tryz.isAgg105
  z51 := Tryz.sizeOf105
  v51 := Tryz.zeroValue105
  t53 := Tryz.underlying163
  a53 := Tryz.isAgg163
  z53 := Tryz.sizeOf163
  v53 := Tryz.zeroValue163
  t75 := Tryz.underlying114
  a75 := Tryz.isAgg114
  z75 := Tryz.sizeOf114
  v75 := Tryz.zeroValue114
  t76 := Tryz.underlying115
  a76 := Tryz.isAgg115
  z76 := Tryz.sizeOf115
  v76 := Tryz.zeroValue115
  t85 := Tryz.underlying157
  a85 := Tryz.isAgg157
  z85 := Tryz.sizeOf157
  v85 := Tryz.zeroValue157
  t127 := Tryz.underlying147
  a127 := Tryz.isAgg147
  z127 := Tryz.sizeOf147
  v127 := Tryz.zeroValue147
  t143 := Tryz.underlying198
  a143 := Tryz.isAgg198
  z143 := Tryz.sizeOf198
  v143 := Tryz.zeroValue198
  t145 := Tryz.underlying200
  a145 := Tryz.isAgg200
  z145 := Tryz.sizeOf200
  v145 := Tryz.zeroValue200
  t167 := Tryz.underlying156
  a167 := Tryz.isAgg156
  z167 := Tryz.sizeOf156
  v167 := Tryz.zeroValue156
  t168 := Tryz.underlying159
  a168 := Tryz.isAgg159
  z168 := Tryz.sizeOf159
  v168 := Tryz.zeroValue159
  t171 := Tryz.underlying162
  a171 := Tryz.isAgg162
  z171 := Tryz.sizeOf162
  v171 := Tryz.zeroValue162
  t173 := Tryz.underlying166
  a173 := Tryz.isAgg166
  z173 := Tryz.sizeOf166
  v173 := Tryz.zeroValue166
  t175 := Tryz.underlying182
  a175 := Tryz.isAgg182
  z175 := Tryz.sizeOf182
  v175 := Tryz.zeroValue182
  t210 := Tryz.underlying185
  a210 := Tryz.isAgg185
  z210 := Tryz.sizeOf185
  v210 := Tryz.zeroValue185
  t212 := Tryz.underlying189
  a212 := Tryz.isAgg189
  z212 := Tryz.sizeOf189
  v212 := Tryz.zeroValue189
  t213 := Tryz.underlying190
  a213 := Tryz.isAgg190
  z213 := Tryz.sizeOf190
  t232 := Tryz.underlying203
  a232 := Tryz.isAgg203
  z232 := Tryz.sizeOf203
  v232 := Tryz.zeroValue203
  t233 := Tryz.underlying204
  a233 := Tryz.isAgg204
  z233 := Tryz.sizeOf204
  v233 := Tryz.zeroValue204
  g15 := by kernel_rfl
  g16 := by kernel_rfl
  g17 := by kernel_rfl
  g18 := by kernel_rfl
  g19 := by kernel_rfl
  t80 := Tryz.underlying78
  a80 := Tryz.isAgg78
  z80 := Tryz.sizeOf78
  v80 := Tryz.zeroValue78
  i0 := by kernel_rfl
  i2 := by kernel_rfl
  i3 := by kernel_rfl
  i4 := by kernel_rfl
  i5 := by kernel_rfl
  i9 := by kernel_rfl
  i20 := by kernel_rfl
  i21 := by kernel_rfl
  i37 := by kernel_rfl
  i46 := by kernel_rfl
  i51 := by kernel_rfl
  i53 := by kernel_rfl
  i75 := by kernel_rfl
  i76 := by kernel_rfl
  i80 := by kernel_rfl
  i85 := by kernel_rfl
  i127 := by kernel_rfl
  i143 := by kernel_rfl
  i145 := by kernel_rfl
  i167 := by kernel_rfl
  i168 := by kernel_rfl
  i171 := by kernel_rfl
  i173 := by kernel_rfl
  i175 := by kernel_rfl
  i210 := by kernel_rfl
  i212 := by kernel_rfl
  i232 := by kernel_rfl
  i233 := by kernel_rfl
  m15 := by kernel_rfl
  m16 := by kernel_rfl
  m17 := by kernel_rfl
  m18 := by kernel_rfl
  m19 := by kernel_rfl
  c0 := by kernel_rfl
  c2 := by kernel_rfl
  c3 := by kernel_rfl
  c4 := by kernel_rfl
  c5 := by kernel_rfl
  c9 := by kernel_rfl
  c20 := by kernel_rfl
  c21 := by kernel_rfl
  c37 := by kernel_rfl
  c46 := by kernel_rfl
  c51 := by kernel_rfl
  c53 := by kernel_rfl
  c75 := by kernel_rfl
  c76 := by kernel_rfl
  c80 := by kernel_rfl
  c85 := by kernel_rfl
  c127 := by kernel_rfl
  c143 := by kernel_rfl
  c145 := by kernel_rfl
  c167 := by kernel_rfl
  c168 := by kernel_rfl
  c171 := by kernel_rfl
  c173 := by kernel_rfl
  c175 := by kernel_rfl
  c210 := by kernel_rfl
  c212 := by kernel_rfl
  c213 := by kernel_rfl
  c232 := by kernel_rfl
  c233 := by kernel_rfl }


def layItoa_ren : Go.Shelf.Ren := ⟨fun | 171 => 49 | 243 => 73 | 246 => 94 | 283 => 111 | 284 => 112 | 285 => 113 | 286 => 114 | 129 => 132 | 317 => 131 | 318 => 133 | 319 => 134 | 320 => 135 | 337 => 142 | 338 => 143 | n => n, fun | 3 => 3 | 9 => 9 | 2 => 2 | 4 => 4 | 171 => 162 | 0 => 0 | 53 => 163 | 37 => 60 | 5 => 5 | 173 => 166 | 212 => 189 | 51 => 105 | 20 => 20 | 213 => 190 | 46 => 101 | 232 => 203 | 233 => 204 | n => n, fun | 17 => 5 | 18 => 6 | 19 => 7 | n => n⟩
theorem layItoa : Go.Proofs.LaysM.n171 Tryz.prog layItoa_ren := {
  mixed := by kernel_rfl
  f129 := Tryz.func132.trans (congrArg some (by kernel_rfl))
  f171 := Tryz.func49.trans (congrArg some (by kernel_rfl))
  f243 := Tryz.func73.trans (congrArg some (by kernel_rfl))
  f246 := Tryz.func94.trans (congrArg some (by kernel_rfl))
  f283 := Tryz.func111.trans (congrArg some (by kernel_rfl))
  f284 := Tryz.func112.trans (congrArg some (by kernel_rfl))
  f285 := Tryz.func113.trans (congrArg some (by kernel_rfl))
  f286 := Tryz.func114.trans (congrArg some (by kernel_rfl))
  f317 := Tryz.func131.trans (congrArg some (by kernel_rfl))
  f318 := Tryz.func133.trans (congrArg some (by kernel_rfl))
  f319 := Tryz.func134.trans (congrArg some (by kernel_rfl))
  f320 := Tryz.func135.trans (congrArg some (by kernel_rfl))
  f337 := Tryz.func142.trans (congrArg some (by kernel_rfl))
  f338 := Tryz.func143.trans (congrArg some (by kernel_rfl))
  t0 := Tryz.underlying0
  a0 := Tryz.isAgg0
  z0 := Tryz.sizeOf0
  v0 := Tryz.zeroValue0
  t2 := Tryz.underlying2
  a2 := Tryz.isAgg2
  z2 := Tryz.sizeOf2
  v2 := Tryz.zeroValue2
  t3 := Tryz.underlying3
  a3 := Tryz.isAgg3
  z3 := Tryz.sizeOf3
  v3 := Tryz.zeroValue3
  t4 := Tryz.underlying4
  a4 := Tryz.isAgg4
  z4 := Tryz.sizeOf4
  v4 := Tryz.zeroValue4
  t5 := Tryz.underlying5
  a5 := Tryz.isAgg5
  z5 := Tryz.sizeOf5
  v5 := Tryz.zeroValue5
  t9 := Tryz.underlying9
  a9 := Tryz.isAgg9
  z9 := Tryz.sizeOf9
  v9 := Tryz.zeroValue9
  t20 := Tryz.underlying20
  a20 := Tryz.isAgg20
  z20 := Tryz.sizeOf20
  v20 := Tryz.zeroValue20
  t37 := Tryz.underlying60
  a37 := Tryz.isAgg60
  z37 := Tryz.sizeOf60
  v37 := Tryz.zeroValue60
  t46 := Tryz.underlying101
  a46 := Tryz.isAgg101
  z46 := Tryz.sizeOf101
  v46 := Tryz.zeroValue101
  t51 := Tryz.underlying105
  a51 := Tryz.isAgg105
  z51 := Tryz.sizeOf105
  v51 := Tryz.zeroValue105
  t53 := Tryz.underlying163
  a53 := Tryz.isAgg163
  z53 := Tryz.sizeOf163
  v53 := Tryz.zeroValue163
  t171 := Tryz.underlying162
  a171 := Tryz.isAgg162
  z171 := Tryz.sizeOf162
  v171 := Tryz.zeroValue162
  t173 := Tryz.underlying166
  a173 := Tryz.isAgg166
  z173 := Tryz.sizeOf166
  v173 := Tryz.zeroValue166
  t212 := Tryz.underlying189
  a212 := Tryz.isAgg189
  z212 := Tryz.sizeOf189
  v212 := Tryz.zeroValue189
  t213 := Tryz.underlying190
  a213 := Tryz.isAgg190
  z213 := Tryz.sizeOf190
  t232 := Tryz.underlying203
  a232 := Tryz.isAgg203
  z232 := Tryz.sizeOf203
  v232 := Tryz.zeroValue203
  t233 := Tryz.underlying204
  a233 := Tryz.isAgg204
  z233 := Tryz.sizeOf204
  v233 := Tryz.zeroValue204
  g17 := by kernel_rfl
  g18 := by kernel_rfl
  g19 := by kernel_rfl
  i0 := by kernel_rfl
  i2 := by kernel_rfl
  i3 := by kernel_rfl
  i4 := by kernel_rfl
  i5 := by kernel_rfl
  i9 := by kernel_rfl
  i20 := by kernel_rfl
  i37 := by kernel_rfl
  i46 := by kernel_rfl
  i51 := by kernel_rfl
  i53 := by kernel_rfl
  i171 := by kernel_rfl
  i173 := by kernel_rfl
  i212 := by kernel_rfl
  i232 := by kernel_rfl
  i233 := by kernel_rfl
  m17 := by kernel_rfl
  m18 := by kernel_rfl
  m19 := by kernel_rfl }
def layJoin_ren : Go.Shelf.Ren := ⟨fun | 156 => 51 | 165 => 75 | 166 => 76 | 169 => 77 | 240 => 95 | 241 => 96 | 276 => 115 | 277 => 116 | n => n, fun | 31 => 44 | 9 => 9 | 3 => 3 | 4 => 4 | 0 => 0 | 20 => 20 | 72 => 122 | 76 => 115 | 70 => 120 | 37 => 60 | 75 => 114 | 127 => 147 | 164 => 168 | 5 => 5 | 80 => 78 | n => n, fun | n => n⟩
theorem layJoin : Go.Proofs.Lays.n156 Tryz.prog layJoin_ren := {
  mixed := by kernel_rfl
  f156 := Tryz.func51.trans (congrArg some (by kernel_rfl))
  f165 := Tryz.func75.trans (congrArg some (by kernel_rfl))
  f166 := Tryz.func76.trans (congrArg some (by kernel_rfl))
  f169 := Tryz.func77.trans (congrArg some (by kernel_rfl))
  f240 := Tryz.func95.trans (congrArg some (by kernel_rfl))
  f241 := Tryz.func96.trans (congrArg some (by kernel_rfl))
  f276 := Tryz.func115.trans (congrArg some (by kernel_rfl))
  f277 := Tryz.func116.trans (congrArg some (by kernel_rfl))
  t0 := Tryz.underlying0
  a0 := Tryz.isAgg0
  z0 := Tryz.sizeOf0
  v0 := Tryz.zeroValue0
  t3 := Tryz.underlying3
  a3 := Tryz.isAgg3
  z3 := Tryz.sizeOf3
  v3 := Tryz.zeroValue3
  t4 := Tryz.underlying4
  a4 := Tryz.isAgg4
  z4 := Tryz.sizeOf4
  v4 := Tryz.zeroValue4
  t9 := Tryz.underlying9
  a9 := Tryz.isAgg9
  z9 := Tryz.sizeOf9
  v9 := Tryz.zeroValue9
  t20 := Tryz.underlying20
  a20 := Tryz.isAgg20
  z20 := Tryz.sizeOf20
  v20 := Tryz.zeroValue20
  t31 := Tryz.underlying44
  a31 := Tryz.isAgg44
  z31 := Tryz.sizeOf44
  v31 := Tryz.zeroValue44
  t37 := Tryz.underlying60
  a37 := Tryz.isAgg60
  z37 := Tryz.sizeOf60
  v37 := Tryz.zeroValue60
  t70 := Tryz.underlying120
  a70 := Tryz.isAgg120
  z70 := Tryz.sizeOf120
  v70 := Tryz.zeroValue120
  t72 := Tryz.underlying122
  a72 := Tryz.isAgg122
  z72 := Tryz.sizeOf122
  v72 := Tryz.zeroValue122
  t75 := Tryz.underlying114
  a75 := Tryz.isAgg114
  z75 := Tryz.sizeOf114
  v75 := Tryz.zeroValue114
  t76 := Tryz.underlying115
  a76 := Tryz.isAgg115
  z76 := Tryz.sizeOf115
  v76 := Tryz.zeroValue115
  t127 := Tryz.underlying147
  a127 := Tryz.isAgg147
  z127 := Tryz.sizeOf147
  v127 := Tryz.zeroValue147
  t164 := Tryz.underlying168
  a164 := Tryz.isAgg168
  z164 := Tryz.sizeOf168
  v164 := Tryz.zeroValue168 }

end Go.Proofs.YtnohnkcijomdjaaGreatDoor

namespace Go.Proofs.YtnohnkcijomdjaaGreatDoor
open Go.RowKit

def kLt (a b : ByteArray) : Bool := Op.bytesLess a.toList b.toList
theorem kl_asymm : ∀ {x y : List UInt8}, Op.bytesLess x y = true → Op.bytesLess y x = false
  | _, [], h => by simp [Op.bytesLess] at h
  | [], _ :: _, _ => by simp [Op.bytesLess]
  | a :: x, b :: y, h => by
    simp only [Op.bytesLess, Bool.or_eq_true, Bool.and_eq_true, decide_eq_true_eq, beq_iff_eq, Bool.or_eq_false_iff, Bool.and_eq_false_iff, decide_eq_false_iff_not, beq_eq_false_iff_ne] at h ⊢
    rcases h with h | ⟨rfl, h⟩
    · exact ⟨fun h2 => absurd (UInt8.lt_trans h h2) (UInt8.lt_irrefl _), .inl (fun e => by subst e; exact UInt8.lt_irrefl _ h)⟩
    · exact ⟨UInt8.lt_irrefl _, .inr (kl_asymm h)⟩
theorem kl_irrefl (x : List UInt8) : Op.bytesLess x x = false := by
  cases h : Op.bytesLess x x with
  | false => rfl
  | true => have := kl_asymm h; rw [h] at this; cases this
theorem kl_total : ∀ {x y : List UInt8}, Op.bytesLess x y = false → x ≠ y → Op.bytesLess y x = true
  | [], [], _, hn => absurd rfl hn
  | _ :: _, [], _, _ => by simp [Op.bytesLess]
  | [], _ :: _, h, _ => by simp [Op.bytesLess] at h
  | a :: x, b :: y, h, hn => by
    simp only [Op.bytesLess, Bool.or_eq_true, Bool.and_eq_true, decide_eq_true_eq, beq_iff_eq, Bool.or_eq_false_iff, Bool.and_eq_false_iff, decide_eq_false_iff_not, beq_eq_false_iff_ne] at h ⊢
    by_cases hab : a = b
    · subst hab
      right
      refine ⟨rfl, kl_total ?_ (fun e => hn (by rw [e]))⟩
      rcases h.2 with h2 | h2
      · exact absurd rfl h2
      · exact h2
    · left
      rcases UInt8.lt_or_lt_of_ne hab with h1 | h1
      · exact absurd h1 h.1
      · exact h1
theorem kl_trans : ∀ {x y z : List UInt8}, Op.bytesLess x y = true → Op.bytesLess y z = true → Op.bytesLess x z = true
  | _, [], _, h, _ => by simp [Op.bytesLess] at h
  | _, _ :: _, [], _, h => by simp [Op.bytesLess] at h
  | [], _ :: _, _ :: _, _, _ => by simp [Op.bytesLess]
  | a :: x, b :: y, c :: z, h1, h2 => by
    simp only [Op.bytesLess, Bool.or_eq_true, Bool.and_eq_true, decide_eq_true_eq, beq_iff_eq] at h1 h2 ⊢
    rcases h1 with h1 | ⟨rfl, h1⟩
    · rcases h2 with h2 | ⟨rfl, h2⟩
      · exact .inl (UInt8.lt_trans h1 h2)
      · exact .inl h1
    · rcases h2 with h2 | ⟨rfl, h2⟩
      · exact .inl h2
      · exact .inr ⟨rfl, kl_trans h1 h2⟩
theorem k_eq {a b : ByteArray} : (a.toList == b.toList) = true ↔ a = b := by
  rw [beq_iff_eq, ByteArray.toList_eq, ByteArray.toList_eq]
  constructor
  · intro h
    cases a; cases b
    simpa using Array.toList_inj.1 h
  · intro h; rw [h]

theorem k_ne {a b : ByteArray} (h : a ≠ b) : (a.toList == b.toList) = false := by
  rw [Bool.eq_false_iff]
  exact fun e => h (k_eq.1 e)
theorem k_same {a b : ByteArray} (h : a = b) : (a.toList == b.toList) = true := k_eq.2 h


theorem kLt_irrefl (s : ByteArray) : kLt s s = false := kl_irrefl _
theorem kLt_asymm {a b : ByteArray} (h : kLt a b = true) : kLt b a = false := kl_asymm h
theorem kLt_trans {a b c : ByteArray} (h1 : kLt a b = true) (h2 : kLt b c = true) : kLt a c = true := kl_trans h1 h2
theorem kLt_tri {a b : ByteArray} (h1 : kLt a b = false) (h2 : a ≠ b) : kLt b a = true := kl_total h1 (fun e => h2 (k_eq.1 (by rw [e]; simp)))
theorem k_len (s : ByteArray) : s.toList.length = s.size := by
  rw [ByteArray.toList_eq]
  simp
theorem k_emp {s : ByteArray} (h : s.size = 0) : s.toList.isEmpty = true := by
  rw [List.isEmpty_iff]
  apply List.eq_nil_of_length_eq_zero
  rw [k_len]
  exact h
theorem k_nemp {s : ByteArray} (h : s.size ≠ 0) : s.toList.isEmpty = false := by
  rw [List.isEmpty_eq_false_iff]
  intro e
  have := k_len s
  rw [e] at this
  exact h this.symm

/-- A key of a table's range: 1 to 20 bytes. -/
def mKeyP (s : ByteArray) : Bool := decide (1 ≤ s.size ∧ s.size ≤ 20)
/-- A text is not above another. -/
def kLe (a b : ByteArray) : Bool := !kLt b a
theorem kLe_trans {a b c : ByteArray} (h1 : kLe a b = true) (h2 : kLe b c = true) : kLe a c = true := by
  unfold kLe at *
  cases h : kLt c a with
  | false => rfl
  | true =>
    exfalso
    by_cases hab : a = b
    · subst hab; rw [h] at h2; cases h2
    · have h3 : kLt b a = false := by cases hx : kLt b a with | false => rfl | true => rw [hx] at h1; cases h1
      have h4 := kLt_trans h (kLt_tri h3 (fun e => hab e.symm))
      rw [h4] at h2; cases h2
/-- What stands in a table's own line is right, below this number. -/
def metaP (next : Int) (t : MMeta) : Bool :=
  decide (1 ≤ t.fNo ∧ t.fNo ≤ next - 1) && decide (0 ≤ t.fLevel ∧ t.fLevel ≤ 3) && mKeyP t.fLo && mKeyP t.fHi && kLe t.fLo t.fHi
/-- Two tables of one level of 1 or more with a place in common. -/
def meetP (t u : MMeta) : Bool := decide (0 < t.fLevel) && decide (u.fLevel = t.fLevel) && kLe u.fLo t.fHi && kLe t.fLo u.fHi
def lastNo (l : List MMeta) : Int := (l.getLast?.map MMeta.fNo).getD 0
theorem lastNo_snoc (l : List MMeta) (t : MMeta) : lastNo (l ++ [t]) = t.fNo := by simp [lastNo]
/-- The tables from here on, behind those that were seen. -/
def tabsFrom (next : Int) : List MMeta → List MMeta → Bool
  | _, [] => true
  | seen, t :: r => metaP next t && decide (lastNo seen < t.fNo) && seen.all (fun u => !meetP t u) && tabsFrom next (seen ++ [t]) r
def manOkP (m : MManifest) : Bool :=
  decide (1 ≤ m.fNext ∧ m.fNext ≤ 100000) && decide (0 ≤ m.fLog ∧ m.fLog ≤ m.fNext - 1) && decide (m.fTables.length ≤ 20) && tabsFrom m.fNext [] m.fTables
/-- One table behind those ahead of it. -/
def tabAt (next : Int) (l : List MMeta) (k : Nat) (t : MMeta) : Bool := metaP next t && decide (lastNo (l.take k) < t.fNo) && (l.take k).all (fun u => !meetP t u)
theorem tabs_step {next : Int} {l : List MMeta} {k : Nat} (h : k < l.length) : tabsFrom next (l.take k) (l.drop k) = (tabAt next l k l[k] && tabsFrom next (l.take (k + 1)) (l.drop (k + 1))) := by
  rw [List.drop_eq_getElem_cons h, List.take_succ_eq_append_getElem h]
  rfl
theorem tabs_end {next : Int} {l : List MMeta} {k : Nat} (h : l.length ≤ k) : tabsFrom next (l.take k) (l.drop k) = true := by
  rw [List.drop_eq_nil_of_le h]
  rfl
theorem tabs_bad {next : Int} {l : List MMeta} {k : Nat} (h : k < l.length) (hb : tabAt next l k l[k] = false) : tabsFrom next (l.take k) (l.drop k) = false := by
  rw [tabs_step h, hb, Bool.false_and]
theorem tabs_good {next : Int} {l : List MMeta} {k : Nat} (h : k < l.length) (hb : tabAt next l k l[k] = true) : tabsFrom next (l.take k) (l.drop k) = tabsFrom next (l.take (k + 1)) (l.drop (k + 1)) := by
  rw [tabs_step h, hb, Bool.true_and]
theorem tabAt_bad1 {next : Int} {l : List MMeta} {k : Nat} {t : MMeta} (h : metaP next t = false) : tabAt next l k t = false := by
  unfold tabAt; rw [h, Bool.false_and, Bool.false_and]
theorem tabAt_bad2 {next : Int} {l : List MMeta} {k : Nat} {t : MMeta} (h : t.fNo ≤ lastNo (l.take k)) : tabAt next l k t = false := by
  unfold tabAt; rw [decide_eq_false (by omega), Bool.and_false, Bool.false_and]
theorem tabAt_bad3 {next : Int} {l : List MMeta} {k j : Nat} {t : MMeta} (hj : j < k) (hjl : j < l.length) (h : meetP t l[j] = true) : tabAt next l k t = false := by
  unfold tabAt
  have : (l.take k).all (fun u => !meetP t u) = false := by
    rw [List.all_eq_false]
    refine ⟨l[j], ?_, by rw [h]; simp⟩
    rw [List.mem_iff_getElem]
    exact ⟨j, by simp; omega, by simp⟩
  rw [this, Bool.and_false]
theorem tabAt_good {next : Int} {l : List MMeta} {k : Nat} {t : MMeta} (h1 : metaP next t = true) (h2 : lastNo (l.take k) < t.fNo) (h3 : ∀ j, (hj : j < l.length) → j < k → meetP t l[j] = false) : tabAt next l k t = true := by
  unfold tabAt
  rw [h1, decide_eq_true h2, Bool.true_and, Bool.true_and, List.all_eq_true]
  intro u hu
  obtain ⟨j, hj, rfl⟩ := List.mem_iff_getElem.1 hu
  have hjl : j < l.length ∧ j < k := by simp at hj; omega
  have := h3 j hjl.1 hjl.2
  simp [this]
theorem lastNo_take {l : List MMeta} {k : Nat} (h : k < l.length) : lastNo (l.take (k + 1)) = l[k].fNo := by
  rw [List.take_succ_eq_append_getElem h, lastNo_snoc]
theorem metaP_no {next : Int} {t : MMeta} (h : ¬ (1 ≤ t.fNo ∧ t.fNo ≤ next - 1)) : metaP next t = false := by unfold metaP; rw [decide_eq_false h]; simp
/-- The range's own part. -/
def spanP (t : MMeta) : Bool := decide (0 ≤ t.fLevel ∧ t.fLevel ≤ 3) && mKeyP t.fLo && mKeyP t.fHi && kLe t.fLo t.fHi
theorem metaP_range {next : Int} {t : MMeta} (h : 1 ≤ t.fNo ∧ t.fNo ≤ next - 1) : metaP next t = spanP t := by unfold metaP spanP; rw [decide_eq_true h]; simp

def maxK (a b : ByteArray) : ByteArray := if kLt a b then b else a
def minK (a b : ByteArray) : ByteArray := if kLt b a then b else a
theorem kLe_of_lt {a b : ByteArray} (h : kLt a b = true) : kLe a b = true := by unfold kLe; rw [kLt_asymm h]; rfl
theorem kLe_max (a c x : ByteArray) : kLe (maxK a c) x = (kLe a x && kLe c x) := by
  unfold maxK
  by_cases h : kLt a c = true
  · rw [if_pos h]
    cases hc : kLe c x with
    | false => simp
    | true => rw [kLe_trans (kLe_of_lt h) hc]; rfl
  · rw [if_neg h]
    have h2 : kLe c a = true := by unfold kLe; rw [Bool.eq_false_iff.2 h]; rfl
    cases ha : kLe a x with
    | false => simp
    | true => rw [kLe_trans h2 ha]; rfl
theorem kLe_min (x b d : ByteArray) : kLe x (minK b d) = (kLe x b && kLe x d) := by
  unfold minK
  by_cases h : kLt d b = true
  · rw [if_pos h]
    cases hc : kLe x d with
    | false => simp
    | true => rw [kLe_trans hc (kLe_of_lt h)]; rfl
  · rw [if_neg h]
    have h2 : kLe b d = true := by unfold kLe; rw [Bool.eq_false_iff.2 h]; rfl
    cases ha : kLe x b with
    | false => simp
    | true => rw [kLe_trans ha h2]; rfl
theorem kLe_or (a b : ByteArray) : (Op.bytesLess a.toList b.toList || a.toList == b.toList) = kLe a b := by
  unfold kLe
  by_cases h : kLt a b = true
  · rw [kLt_asymm h, show Op.bytesLess a.toList b.toList = true from h]; rfl
  · have h' : Op.bytesLess a.toList b.toList = false := Bool.eq_false_iff.2 h
    rw [h', Bool.false_or]
    by_cases he : a = b
    · rw [he, kLt_irrefl]; simp
    · rw [k_ne he, kLt_tri h' he]; rfl
theorem kLe_yes {a b : ByteArray} (h : kLe a b = true) : Op.bytesLess a.toList b.toList = true ∨ (a.toList == b.toList) = true := by
  rw [← kLe_or, Bool.or_eq_true] at h; exact h
theorem kLe_no {a b : ByteArray} (h : kLe a b = false) : Op.bytesLess a.toList b.toList = false ∧ (a.toList == b.toList) = false := by
  rw [← kLe_or, Bool.or_eq_false_iff] at h; exact h
theorem run_max_k {P : Program} {w : World} (ts : Array TypeId) (t : TypeId) (x y : ByteArray) : (Builtin.max_ ts t #[.string x, .string y]).run P w = .ok (.string (maxK x y)) w := by
  cases h : Op.bytesLess x.toList y.toList <;> simp [Builtin.max_, Builtin.max2, Op.stringOp, asBool, maxK, kLt, h]
theorem run_min_k {P : Program} {w : World} (ts : Array TypeId) (t : TypeId) (x y : ByteArray) : (Builtin.min_ ts t #[.string x, .string y]).run P w = .ok (.string (minK x y)) w := by
  have hx : (kLe x y = true ∧ minK x y = x) ∨ (kLe x y = false ∧ minK x y = y) := by
    unfold kLe minK
    cases h : kLt y x <;> simp
  rcases hx with ⟨h1, h2⟩ | ⟨h1, h2⟩
  · rw [h2]
    rcases kLe_yes h1 with h | h
    · simp [Builtin.min_, Builtin.min2, Op.stringOp, asBool, h]
    · simp only [beq_iff_eq] at h
      simp [Builtin.min_, Builtin.min2, Op.stringOp, asBool, h]
  · rw [h2]
    obtain ⟨h3, h4⟩ := kLe_no h1
    simp only [beq_eq_false_iff_ne, ne_eq] at h4
    simp [Builtin.min_, Builtin.min2, Op.stringOp, asBool, h3, h4]
/-- A range has a place in common with what lies from lo to hi, as the program asks it. -/
def reachP (t : MMeta) (lo hi : ByteArray) : Bool := kLe (maxK t.fLo lo) (minK t.fHi hi)
theorem reach_meet {t u : MMeta} (ht : kLe t.fLo t.fHi = true) (hu : kLe u.fLo u.fHi = true) : reachP u t.fLo t.fHi = (kLe u.fLo t.fHi && kLe t.fLo u.fHi) := by
  unfold reachP
  rw [kLe_max, kLe_min, kLe_min, ht, hu]
  simp
/-- The program's question of one table against those ahead. -/
def apartI (t : MMeta) (l : List MMeta) : Bool := decide (t.fLevel = 0) || l.all (fun o => !(decide (o.fLevel = t.fLevel) && reachP o t.fLo t.fHi))
theorem apart_all {t : MMeta} {l : List MMeta} (ht : kLe t.fLo t.fHi = true) (hl : 0 ≤ t.fLevel) (hu : ∀ u, u ∈ l → kLe u.fLo u.fHi = true) : apartI t l = l.all (fun u => !meetP t u) := by
  unfold apartI
  by_cases h0 : t.fLevel = 0
  · rw [decide_eq_true h0, Bool.true_or]
    symm
    rw [List.all_eq_true]
    intro u _
    simp [meetP, h0]
  · rw [decide_eq_false h0, Bool.false_or, Bool.eq_iff_iff, List.all_eq_true, List.all_eq_true]
    have h1 : decide (0 < t.fLevel) = true := decide_eq_true (by omega)
    constructor
    · intro h u hm
      have := h u hm
      rw [reach_meet ht (hu u hm)] at this
      unfold meetP
      rw [h1, Bool.true_and, Bool.and_assoc]
      exact this
    · intro h u hm
      have := h u hm
      unfold meetP at this
      rw [h1, Bool.true_and, Bool.and_assoc] at this
      rw [reach_meet ht (hu u hm)]
      exact this
theorem spanP_le {t : MMeta} (h : spanP t = true) : kLe t.fLo t.fHi = true ∧ 0 ≤ t.fLevel := by
  simp only [spanP, Bool.and_eq_true, decide_eq_true_eq] at h
  exact ⟨h.2, h.1.1.1.1⟩
/-- One table, as the program asks. -/
theorem tabAt_impl {next : Int} {l : List MMeta} {k : Nat} {t : MMeta} (h0 : 0 ≤ lastNo (l.take k)) (hu : ∀ u, u ∈ l.take k → kLe u.fLo u.fHi = true) :
    tabAt next l k t = (decide (lastNo (l.take k) < t.fNo) && decide (t.fNo < next) && spanP t && apartI t (l.take k)) := by
  unfold tabAt
  by_cases h1 : lastNo (l.take k) < t.fNo
  · by_cases h2 : t.fNo < next
    · rw [metaP_range ⟨by omega, by omega⟩, decide_eq_true h1, decide_eq_true h2]
      cases hr : spanP t with
      | false => simp
      | true =>
        obtain ⟨h3, h4⟩ := spanP_le hr
        rw [apart_all h3 h4 hu]
        simp
    · rw [metaP_no (by omega), decide_eq_false h2]; simp
  · rw [decide_eq_false h1]; simp


/-- A text of these bytes. -/
def strB (l : List UInt8) : ByteArray := ⟨l.toArray⟩
theorem strB_data (l : List UInt8) : (strB l).data.toList = l := by simp [strB]
theorem strB_of (s : ByteArray) : strB s.data.toList = s := by cases s; simp [strB]
theorem strB_size (l : List UInt8) : (strB l).size = l.length := by simp [strB, ByteArray.size]
theorem strB_app (a b : List UInt8) : strB a ++ strB b = strB (a ++ b) := by
  apply ByteArray.ext
  rw [ByteArray.data_append]
  simp [strB]
theorem strB_nums (l : List Int) : strOfNums l = strB (l.map fun n => UInt8.ofNat n.toNat) := rfl
theorem strB_inj {a b : List UInt8} (h : a = b) : strB a = strB b := by rw [h]

def decD (n : Int) : List UInt8 := Lib.decDigits n.toNat
theorem decD_itoa {n : Int} (h : 0 ≤ n) : Lib.itoa n = decD n := by unfold Lib.itoa decD; rw [if_neg (by omega)]
theorem dec_len (n : Nat) : (Lib.decDigits n).length ≤ n + 1 := by
  induction n using Nat.strongRecOn with
  | _ n ih =>
    rw [Lib.decDigits]
    split
    · simp
    · rw [List.length_append]
      have := ih (n / 10) (by omega)
      simp
      omega
theorem decD_len {n : Int} (h : n ≤ 100000) : (decD n).length ≤ 100001 := by
  have := dec_len n.toNat
  unfold decD
  omega
theorem decD_small {n : Int} (h0 : 0 ≤ n) (h : n < 10) : decD n = [UInt8.ofNat (48 + n.toNat)] := by
  unfold decD
  rw [Lib.decDigits, dif_pos (by omega)]
theorem decD_big {n : Int} (h : 10 ≤ n) : decD n = decD (n / 10) ++ [UInt8.ofNat (48 + (n % 10).toNat)] := by
  unfold decD
  rw [Lib.decDigits, dif_neg (by omega), show (n / 10).toNat = n.toNat / 10 by omega, show (n % 10).toNat = n.toNat % 10 by omega]

def hexL : List UInt8 := [48, 49, 50, 51, 52, 53, 54, 55, 56, 57, 97, 98, 99, 100, 101, 102]
def hexD (x : Nat) : UInt8 := hexL.getD x 0
def hexB (b : UInt8) : List UInt8 := [hexD (b.toNat / 16), hexD (b.toNat % 16)]
def hexT (s : ByteArray) : List UInt8 := s.data.toList.flatMap hexB
theorem hexT_len (s : ByteArray) : (hexT s).length = 2 * s.size := by
  unfold hexT
  have h : ∀ l : List UInt8, (l.flatMap hexB).length = 2 * l.length := by
    intro l
    induction l with
    | nil => rfl
    | cons x r ih => rw [List.flatMap_cons, List.length_append, ih]; simp [hexB]; omega
  rw [h, Array.length_toList]
  rfl

def tabW : List UInt8 := [116, 97, 98]
def endW : List UInt8 := [101, 110, 100]
def nextW : List UInt8 := [110, 101, 120, 116, 32]
def logW : List UInt8 := [32, 108, 111, 103, 32]
def lineT (t : MMeta) : List UInt8 := tabW ++ [32] ++ decD t.fNo ++ [32] ++ decD t.fLevel ++ [32] ++ hexT t.fLo ++ [32] ++ hexT t.fHi
def headT (m : MManifest) : List UInt8 := nextW ++ decD m.fNext ++ logW ++ decD m.fLog
def linesT (l : List MMeta) : List UInt8 := l.flatMap fun t => lineT t ++ [10]
def manTextL (m : MManifest) : List UInt8 := headT m ++ [10] ++ linesT m.fTables ++ endW ++ [10]
def manTextP (m : MManifest) : ByteArray := if manOkP m = true then strB (manTextL m) else ⟨#[]⟩
theorem manTextP_yes {m : MManifest} (h : manOkP m = true) : manTextP m = strB (manTextL m) := if_pos h
theorem manTextP_no {m : MManifest} (h : manOkP m = false) : manTextP m = ⟨#[]⟩ := if_neg (by rw [h]; simp)
theorem linesT_take {l : List MMeta} {k : Nat} (h : k < l.length) : linesT (l.take (k + 1)) = linesT (l.take k) ++ lineT l[k] ++ [10] := by
  unfold linesT
  rw [List.take_succ_eq_append_getElem h, List.flatMap_append]
  simp
/-- What a right table's numbers and keys may be. -/
theorem tabs_all {next : Int} : ∀ {seen l : List MMeta}, tabsFrom next seen l = true → ∀ t, t ∈ l → metaP next t = true
  | _, [], _, t, ht => by cases ht
  | seen, x :: r, h, t, ht => by
    simp only [tabsFrom, Bool.and_eq_true] at h
    rcases List.mem_cons.1 ht with rfl | ht
    · exact h.1.1.1
    · exact tabs_all h.2 t ht
structure MetaOk (next : Int) (t : MMeta) : Prop where
  no0 : 1 ≤ t.fNo
  no1 : t.fNo ≤ next - 1
  lv0 : 0 ≤ t.fLevel
  lv1 : t.fLevel ≤ 3
  lo : t.fLo.size ≤ 20
  hi : t.fHi.size ≤ 20
  le : kLe t.fLo t.fHi = true
theorem metaP_facts {next : Int} {t : MMeta} (h : metaP next t = true) : MetaOk next t := by
  simp only [metaP, mKeyP, Bool.and_eq_true, decide_eq_true_eq] at h
  exact ⟨h.1.1.1.1.1, h.1.1.1.1.2, h.1.1.1.2.1, h.1.1.1.2.2, h.1.1.2.2, h.1.2.2, h.2⟩
structure ManFacts (m : MManifest) : Prop where
  nx0 : 1 ≤ m.fNext
  nx1 : m.fNext ≤ 100000
  lg0 : 0 ≤ m.fLog
  lg1 : m.fLog ≤ m.fNext - 1
  len : m.fTables.length ≤ 20
  each : ∀ t, t ∈ m.fTables → MetaOk m.fNext t
theorem manOkP_facts {m : MManifest} (h : manOkP m = true) : ManFacts m := by
  simp only [manOkP, Bool.and_eq_true, decide_eq_true_eq] at h
  exact ⟨h.1.1.1.1, h.1.1.1.2, h.1.1.2.1, h.1.1.2.2, h.1.2, fun t ht => metaP_facts (tabs_all h.2 t ht)⟩
theorem lineT_len {next : Int} {t : MMeta} (h : MetaOk next t) (hn : next ≤ 100000) : (lineT t).length ≤ 300000 := by
  have h1 := decD_len (n := t.fNo) (by have := h.no1; omega)
  have h2 := decD_len (n := t.fLevel) (by have := h.lv1; omega)
  have h3 := hexT_len t.fLo
  have h4 := hexT_len t.fHi
  have h5 := h.lo
  have h6 := h.hi
  simp only [lineT, tabW, List.length_append, List.length_cons, List.length_nil]
  omega
theorem linesT_len {next : Int} {l : List MMeta} (h : ∀ t, t ∈ l → MetaOk next t) (hn : next ≤ 100000) : (linesT l).length ≤ l.length * 300001 := by
  induction l with
  | nil => simp [linesT]
  | cons x r ih =>
    have h1 := lineT_len (h x (List.mem_cons_self ..)) hn
    have h2 := ih (fun t ht => h t (List.mem_cons_of_mem _ ht))
    unfold linesT at h2 ⊢
    rw [List.flatMap_cons]
    simp only [List.length_append, List.length_cons, List.length_nil]
    omega
theorem headT_len {m : MManifest} (h : ManFacts m) : (headT m).length ≤ 300000 := by
  have h1 := decD_len h.nx1
  have h2 := decD_len (n := m.fLog) (by have := h.lg1; have := h.nx1; omega)
  simp only [headT, nextW, logW, List.length_append, List.length_cons, List.length_nil]
  omega

/-- The same text out of lines, joined by the byte 10: 'end' and an empty line behind them. -/
def lineS (m : MManifest) (l : List MMeta) : List (List UInt8) := headT m :: l.map lineT
theorem joinTail_lines (l : List MMeta) : Lib.joinTail [10] (l.map lineT ++ [endW, []]) = (l.flatMap fun t => [10] ++ lineT t) ++ [10] ++ endW ++ [10] := by
  unfold Lib.joinTail
  induction l with
  | nil => rfl
  | cons x r ih => rw [List.map_cons, List.cons_append, List.map_cons, List.flatten_cons, ih, List.flatMap_cons]; simp only [List.append_assoc]
theorem lines_shift (l : List MMeta) : (l.flatMap fun t => [10] ++ lineT t) ++ [(10 : UInt8)] = [10] ++ linesT l := by
  unfold linesT
  induction l with
  | nil => rfl
  | cons x r ih => simp only [List.flatMap_cons, List.append_assoc, ih]
theorem join_lines (m : MManifest) (l : List MMeta) : Lib.join (lineS m l ++ [endW, []]) [10] = headT m ++ [10] ++ linesT l ++ endW ++ [10] := by
  unfold lineS
  rw [List.cons_append, Lib.join_cons, joinTail_lines, lines_shift]
  simp only [List.append_assoc]
theorem join_line (t : MMeta) : Lib.join [tabW, decD t.fNo, decD t.fLevel, hexT t.fLo, hexT t.fHi] [32] = lineT t := by
  rw [Lib.join_cons]
  simp [Lib.joinTail, lineT]
theorem lineS_take {m : MManifest} {l : List MMeta} {k : Nat} (h : k < l.length) : lineS m (l.take (k + 1)) = lineS m (l.take k) ++ [lineT l[k]] := by
  unfold lineS
  rw [List.take_succ_eq_append_getElem h, List.map_append]
  rfl


theorem bytesWorld_below (w : World) (e : TypeId) (s : ByteArray) : Below w.heap.size w (Lib.bytesWorld w e s) := by
  refine ⟨?_, ?_, ?_, by rw [Lib.bytesWorld_size]; omega, fun k hk => Lib.bytesWorld_at_old w e s k hk⟩
  all_goals (unfold Lib.bytesWorld World.freeze; rfl)

theorem byteInts_at {s : ByteArray} {j : Nat} (h : j < (byteInts s).length) : ((s.data.toList.getD j 0).toNat : Int) = (byteInts s)[j] := by
  have hj : j < s.data.toList.length := by simpa [byteInts] using h
  rw [List.getD_eq_getElem?_getD, List.getElem?_eq_getElem hj]
  simp [byteInts]

theorem strBytes (s : ByteArray) (w : World) : ∃ (w1 : World) (cap : Nat), (convert 9 60 (.string s)).run Tryz.prog w = .ok (.slice (some ⟨w.heap.size, 0, none⟩) s.size cap) w1 ∧ Below w.heap.size w w1 ∧ w.heap.size < w1.heap.size ∧
    ∀ j, (h : j < (byteInts s).length) → w1.cell? ⟨w.heap.size, j, none⟩ = some (.int .u8 (byteInts s)[j]) := by
  refine ⟨_, _, Lib.run_convert_string_bytes w 9 60 5 s Tryz.underlying9 Tryz.underlying60 Tryz.underlying5, bytesWorld_below w _ s, by rw [Lib.bytesWorld_size]; omega, fun j h => ?_⟩
  rw [Lib.bytesWorld_cell w _ s j (by rw [← byteInts_length]; exact h), byteInts_at h]

theorem byteInts_ok (s : ByteArray) : BytesOk (byteInts s) := by
  intro z hz
  simp only [byteInts, List.mem_map] at hz
  obtain ⟨b, _, rfl⟩ := hz
  have := b.toNat_lt
  omega

/-- The conversion, as a reading. -/
theorem strRd (s : ByteArray) (w : World) : ∃ (w1 : World) (cap : Nat), (convert 9 60 (.string s)).run Tryz.prog w = .ok (.slice (some ⟨w.heap.size, 0, none⟩) s.size cap) w1 ∧ Below w.heap.size w w1 ∧ Rd .u8 w1.heap.size w1 (some ⟨w.heap.size, 0, none⟩) (byteInts s) := by
  obtain ⟨w1, cap, hcv, hb1, hz1, hcl⟩ := strBytes s w
  refine ⟨w1, cap, hcv, hb1, fun j hj => ⟨w.heap.size, 0, rfl, hz1, ?_⟩⟩
  rw [Nat.zero_add, hcl j hj, List.getD_eq_getElem?_getD, List.getElem?_eq_getElem hj]
  rfl


theorem flatten_at {size : Nat} : ∀ {css : List (List Value)}, (∀ c, c ∈ css → c.length = size) → ∀ {j i : Nat}, i < size → css.flatten[j * size + i]? = (css[j]?).bind (fun c => c[i]?)
  | [], _, j, i, _ => by simp
  | c :: r, h, 0, i, hi => by
    have hc := h c (by simp)
    simp only [List.flatten_cons, Nat.zero_mul, Nat.zero_add, List.getElem?_cons_zero, Option.bind_some]
    rw [List.getElem?_append_left (by omega)]
  | c :: r, h, j + 1, i, hi => by
    have hc := h c (by simp)
    have ih := flatten_at (css := r) (fun x hx => h x (by simp [hx])) (j := j) hi
    simp only [List.flatten_cons, List.getElem?_cons_succ]
    rw [List.getElem?_append_right (by rw [Nat.succ_mul]; omega), ← ih]
    congr 1
    rw [Nat.succ_mul]
    omega

/-- A row of one's own whose elements read, below block B, as l. -/
def RowR {α : Type} (size : Nat) (e : TypeId) (R : Rep α) (B : Nat) (w : World) (base : Nat) (v : Value) (l : List α) : Prop :=
  ∃ css : List (List Value), css.length = l.length ∧ (∀ c, c ∈ css → c.length = size) ∧ (∀ j, (h : j < l.length) → (h2 : j < css.length) → R B w css[j] l[j]) ∧ w.ownsRow base e size v l.length css.flatten

theorem RowR.start {α : Type} {size : Nat} {e : TypeId} {R : Rep α} {B : Nat} {w : World} {base : Nat} : RowR size e R B w base (.slice none 0 0) [] :=
  ⟨[], rfl, (fun _ h => by cases h), (fun _ h => by simp at h), by simp, .inl ⟨rfl, rfl⟩⟩

theorem RowR.leaf {α : Type} {size : Nat} {e : TypeId} {R : Rep α} (hR : R.Good) {B : Nat} {w : World} {base : Nat} {v : Value} {l : List α} (h : RowR size e R B w base v l) (hB : B ≤ w.heap.size) :
    ∃ a c, v = .slice a l.length c ∧ LeafL size R w.heap.size w a c l := by
  obtain ⟨css, h1, h2, h3, h4⟩ := h
  rcases h4.2 with ⟨rfl, h0⟩ | ⟨g, cap, cur, rfl, hb, hg, hnc, hm, hs, ht⟩
  · have : l = [] := List.eq_nil_of_length_eq_zero h0
    subst this
    exact ⟨none, 0, rfl, by simp, by omega, fun j hj => by simp at hj⟩
  · refine ⟨_, cap, rfl, hnc, by simpa [maxLen] using hm, fun j hj => ?_⟩
    have hj2 : j < css.length := by omega
    refine ⟨g, 0, rfl, (Array.getElem?_eq_some_iff.1 hg).1, css[j], h2 _ (List.getElem_mem hj2), fun i u hu => ?_, hR.mono (h3 j hj hj2) hB⟩
    have hi : i < size := by
      have := (List.getElem?_eq_some_iff.1 hu).1
      rw [h2 _ (List.getElem_mem hj2)] at this
      exact this
    have hf := flatten_at h2 (j := j) hi
    rw [List.getElem?_eq_getElem hj2, Option.bind_some, hu, ← ht, List.getElem?_take] at hf
    split at hf
    · rw [Nat.zero_add, cell_of_row w g _ cur e (0, 0) hg]
      simpa using hf
    · cases hf

theorem RowR.push {α : Type} {size : Nat} {e : TypeId} {R : Rep α} (hR : R.Good) {B : Nat} {w w' : World} {base : Nat} {v' : Value} {l : List α} {m : α} {cs : List Value} {css : List (List Value)}
    (h1 : css.length = l.length) (h2 : ∀ c, c ∈ css → c.length = size) (h3 : ∀ j, (h : j < l.length) → (h2 : j < css.length) → R B w css[j] l[j]) (hb : Below B w w') (hc : cs.length = size) (hr : R B w' cs m)
    (ho : w'.ownsRow base e size v' (l.length + 1) (css.flatten ++ cs)) : RowR size e R B w' base v' (l ++ [m]) := by
  refine ⟨css ++ [cs], by simp [h1], ?_, ?_, by simpa using ho⟩
  · intro c hcm
    rcases List.mem_append.1 hcm with h | h
    · exact h2 c h
    · simp at h; subst h; exact hc
  · intro j hj hj2
    by_cases hjl : j < l.length
    · rw [List.getElem_append_left (by omega), List.getElem_append_left hjl]
      exact hR.below (h3 j hjl (by omega)) hb
    · have hje : j = l.length := by simp at hj; omega
      subst hje
      rw [List.getElem_append_right (by omega), List.getElem_append_right (Nat.le_refl _)]
      simp [h1, hr]

theorem bx_news {w : World} {b : Nat} {vs : List Value} (h : Bx w b vs) : ∀ j u, vs[j]? = some u → w.cell? ((⟨b, 0, none⟩ : Addr).add j) = some u := by
  intro j u hu
  have h2 := h.2 j u hu
  have e : ((⟨b, 0, none⟩ : Addr).add j) = ⟨b, j, none⟩ := by
    unfold Addr.add
    split
    · next h0 => subst h0; rfl
    · simp
  rw [e]
  exact h2

theorem RowR.lt {α : Type} {size : Nat} {e : TypeId} {R : Rep α} {B : Nat} {w : World} {base : Nat} {v : Value} {l : List α} (h : RowR size e R B w base v l) : ∀ k, v.ownBlock = some k → base ≤ k ∧ k < w.heap.size := by
  obtain ⟨css, h1, h2, h3, h4⟩ := h
  exact fun k hk => h4.lt k hk

theorem RowR.base {α : Type} {size : Nat} {e : TypeId} {R : Rep α} {B : Nat} {w : World} {base base' : Nat} {v : Value} {l : List α} (h : RowR size e R B w base v l) (hb : base' ≤ base) : RowR size e R B w base' v l := by
  obtain ⟨css, h1, h2, h3, h4⟩ := h
  exact ⟨css, h1, h2, h3, own_base h4 hb⟩

theorem RowR.keep {α : Type} {size : Nat} {e : TypeId} {R : Rep α} (hR : R.Good) {B : Nat} {w w' : World} {base : Nat} {v : Value} {l : List α} (h : RowR size e R B w base v l) (hb : Below w.heap.size w w') (hB : B ≤ w.heap.size) : RowR size e R B w' base v l := by
  obtain ⟨css, h1, h2, h3, h4⟩ := h
  exact ⟨css, h1, h2, fun j hj hj2 => hR.below (h3 j hj hj2) (hb.mono hB), own_below h4 hb⟩


theorem flatten_nodup_iff : ∀ {Fs : List (List Nat)}, Fs.flatten.Nodup ↔ (∀ F, F ∈ Fs → F.Nodup) ∧ Fs.Pairwise (fun F G => ∀ x, x ∈ F → x ∉ G)
  | [] => by simp
  | F :: r => by
    rw [List.flatten_cons, List.nodup_append, flatten_nodup_iff, List.pairwise_cons]
    constructor
    · rintro ⟨h1, ⟨h2, h3⟩, h4⟩
      refine ⟨?_, fun G hG x hx hxG => h4 x hx x (List.mem_flatten.2 ⟨G, hG, hxG⟩) rfl, h3⟩
      intro G hG
      rcases List.mem_cons.1 hG with rfl | hG
      · exact h1
      · exact h2 G hG
    · rintro ⟨h1, h2, h3⟩
      refine ⟨h1 F (by simp), ⟨fun G hG => h1 G (by simp [hG]), h3⟩, ?_⟩
      intro x hx y hy hxy
      subst hxy
      obtain ⟨G, hG, hxG⟩ := List.mem_flatten.1 hy
      exact h2 G hG x hx hxG

/-- What one element's cells are. -/
theorem ownS.cells {α : Type} {size : Nat} {e : TypeId} {O : ORep α} {R : Rep α} (hO : O.Good R size) {w : World} {g cap : Nat} {l : List α} {F : List Nat} (h : ownS size e O w (.slice (some ⟨g, 0, none⟩) l.length cap) l F) {k : Nat} (hk : k < l.length) :
    ∃ cs Fk, O w cs l[k] Fk ∧ (∀ b, b ∈ Fk → b ∈ F) ∧ (F.Nodup → Fk.Nodup) ∧ (∀ i u, cs[i]? = some u → w.cell? ⟨g, k * size + i, none⟩ = some u) ∧ ∀ i, w.frozen? ⟨g, i, none⟩ = false := by
  rcases h with ⟨h0, _, _⟩ | ⟨g', cap', cur, Fs, h1, h2, h3, h4, h5, h6, h7, rfl⟩
  · cases h0
  · simp only [Value.slice.injEq, Option.some.injEq, Addr.mk.injEq, and_true, true_and] at h1
    obtain ⟨rfl, rfl⟩ := h1
    have hkF : k < Fs.length := by omega
    have hgk : Fs.getD k [] = Fs[k] := by rw [List.getD_eq_getElem?_getD, List.getElem?_eq_getElem hkF]; rfl
    refine ⟨_, _, h7 k hk, fun b hb => List.mem_cons_of_mem _ (mem_flatten_getD hkF hb), fun hN => ?_, fun i u hu => ?_, fun i => frozen_of_row w g i cur e h2⟩
    · rw [hgk]
      exact (flatten_nodup_iff.1 (List.nodup_cons.1 hN).2).1 _ (List.getElem_mem hkF)
    · rw [cell_of_row w g _ cur e (0, 0) h2]
      rw [List.getElem?_take] at hu
      split at hu
      · rw [List.getElem?_drop] at hu
        simpa using hu
      · cases hu

end Go.Proofs.YtnohnkcijomdjaaGreatDoor
