/- Facts and walks for the statement. -/
import Derived.Shelf.Strings.Builder1
import Derived.Shelf.Strings.Builder2
import Derived.Shelf.Strings.OnBuilder
import Derived.Shelf.Strings.Trim
import Derived.Shelf.Small.Utf8
import Derived.Shelf.Small.Strs
import Derived.Shelf.Small.Wraps
import Derived.Shelf.Strings.BuilderF
import Derived.Shelf.Strings.BuilderK
import Derived.Shelf.Strconv.Itoa0
import Derived.Shelf.Strconv.Itoa1
import Derived.Shelf.LaysM
import Derived.Shelf.Strconv.Itoa2
import Derived.Shelf.Strconv.Itoa3
import Derived.Shelf.Strconv.Itoa4
import Derived.Shelf.Strconv.ParseIntEmpty
import Derived.Shelf.Strconv.Clone
import Derived.Shelf.Strconv.SyntaxError
import Derived.Shelf.LaysC
import Derived.Shelf.Strconv.ToError
import Derived.Shelf.Strconv.Lower
import Derived.Shelf.Strconv.ParseUint10
import Derived.Shelf.Strconv.ParseUint10Empty
import Derived.Shelf.Strconv.ParseUint10Any
import Derived.Shelf.Strconv.ParseInt10
import Derived.Shelf.Strconv.RangeError
import Derived.Shelf.Strconv.ToErrorRange
import Derived.Shelf.Strconv.ParseUintEmpty
import Derived.Shelf.Strconv.ParseUint10b64
import Derived.Shelf.Strconv.ParseUint10b32
import Derived.Shelf.Strconv.ParseUint10b16
import Derived.Shelf.Strconv.ParseUint10b8
import Derived.Shelf.Strconv.ParseUint10At
import Derived.Shelf.Strconv.ParseInt10At64
import Derived.Shelf.Strconv.ParseInt10At32
import Derived.Shelf.Strconv.ParseInt10At16
import Derived.Shelf.Strconv.ParseInt10At8
import Derived.Shelf.Strconv.ParseInt10All
import Derived.Shelf.Strconv.ParseIntPublic10
import Derived.Shelf.Strconv.ErrVarParseInt
import Derived.Shelf.Strings.Search1
import Derived.Shelf.Strings.Prefix
import Derived.Shelf.Strings.Runes
import Derived.Shelf.Strings.AsciiSet
import Derived.Shelf.Unicode.DecodeSlow
import Derived.Test.YtdcjpinbflmikaaGreatDoorProg
import Derived.Test.YtdcjpinbflmikaaGreatDoorChecked
import Derived.Test.YtdcjpinbflmikaaGreatDoorPzT00
import Derived.WalkKit
import Derived.WalkLawsBesides
import Derived.Outline
import Derived.Handy
import Derived.Lib.OthersKept
import Derived.Lib.Hide
import Derived.WalkSmall
import Derived.Deep.DeepFit
import Derived.Deep.QuietTactic
import Derived.BigQuiet
import Derived.WalkSpells
import Derived.IntWalk
namespace Go.Proofs
open Go.Shelf
def Tryz.lays161_ren : Go.Shelf.Ren := ⟨fun | 161 => 216 | 231 => 231 | 227 => 232 | 233 => 233 | 235 => 234 | 228 => 250 | 197 => 251 | 151 => 252 | 260 => 265 | 152 => 266 | 137 => 212 | 119 => 275 | 224 => 276 | 225 => 277 | 217 => 230 | 266 => 249 | n => n, fun | 9 => 9 | 4 => 4 | 3 => 3 | 5 => 5 | 117 => 296 | 116 => 295 | 0 => 0 | 124 => 299 | 105 => 314 | 21 => 21 | 119 => 350 | 46 => 329 | 139 => 353 | 138 => 352 | n => n, fun | 3 => 6 | 4 => 7 | n => n⟩
theorem Tryz.lays161 : Go.Proofs.Lays.n161 Tryz.prog Tryz.lays161_ren := {
  mixed := by kernel_rfl
  f119 := Tryz.func275.trans (congrArg some (by kernel_rfl))
  f137 := Tryz.func212.trans (congrArg some (by kernel_rfl))
  f151 := Tryz.func252.trans (congrArg some (by kernel_rfl))
  f152 := Tryz.func266.trans (congrArg some (by kernel_rfl))
  f161 := Tryz.func216.trans (congrArg some (by kernel_rfl))
  f197 := Tryz.func251.trans (congrArg some (by kernel_rfl))
  f217 := Tryz.func230.trans (congrArg some (by kernel_rfl))
  f224 := Tryz.func276.trans (congrArg some (by kernel_rfl))
  f225 := Tryz.func277.trans (congrArg some (by kernel_rfl))
  f227 := Tryz.func232.trans (congrArg some (by kernel_rfl))
  f228 := Tryz.func250.trans (congrArg some (by kernel_rfl))
  f231 := Tryz.func231.trans (congrArg some (by kernel_rfl))
  f233 := Tryz.func233.trans (congrArg some (by kernel_rfl))
  f235 := Tryz.func234.trans (congrArg some (by kernel_rfl))
  f260 := Tryz.func265.trans (congrArg some (by kernel_rfl))
  f266 := Tryz.func249.trans (congrArg some (by kernel_rfl))
  t0 := Tryz.underlying0
  a0 := Tryz.isAgg0
  z0 := Tryz.sizeOf0
  v0 := Tryz.zeroValue0
  t3 := Tryz.underlying3
  a3 := Tryz.isAgg3
  z3 := Tryz.sizeOf3
  v3 := Tryz.zeroValue3
  t4 := Tryz.underlying4
  a4 := Tryz.isAgg4
  z4 := Tryz.sizeOf4
  v4 := Tryz.zeroValue4
  t5 := Tryz.underlying5
  a5 := Tryz.isAgg5
  z5 := Tryz.sizeOf5
  v5 := Tryz.zeroValue5
  t9 := Tryz.underlying9
  a9 := Tryz.isAgg9
  z9 := Tryz.sizeOf9
  v9 := Tryz.zeroValue9
  t21 := Tryz.underlying21
  a21 := Tryz.isAgg21
  z21 := Tryz.sizeOf21
  v21 := Tryz.zeroValue21
  t46 := Tryz.underlying329
  a46 := Tryz.isAgg329
  z46 := Tryz.sizeOf329
  v46 := Tryz.zeroValue329
  t105 := Tryz.underlying314
  a105 := Tryz.isAgg314
  z105 := Tryz.sizeOf314
  v105 := Tryz.zeroValue314
  t116 := Tryz.underlying295
  a116 := Tryz.isAgg295
  z116 := Tryz.sizeOf295
  t117 := Tryz.underlying296
  a117 := Tryz.isAgg296
  z117 := Tryz.sizeOf296
  v117 := Tryz.zeroValue296
  t119 := Tryz.underlying350
  a119 := Tryz.isAgg350
  z119 := Tryz.sizeOf350
  t124 := Tryz.underlying299
  a124 := Tryz.isAgg299
  z124 := Tryz.sizeOf299
  v124 := Tryz.zeroValue299
  t138 := Tryz.underlying352
  a138 := Tryz.isAgg352
  z138 := Tryz.sizeOf352
  v138 := Tryz.zeroValue352
  t139 := Tryz.underlying353
  a139 := Tryz.isAgg353
  z139 := Tryz.sizeOf353
  v139 := Tryz.zeroValue353
  g3 := by kernel_rfl
  g4 := by kernel_rfl }
open Go.RowKit in
theorem Tryz.strings_TrimLeft_one (s : ByteArray) (c : UInt8) (hc : c.toNat < 128) (w : World) :
    Calls Tryz.prog 216 #[.string s, .string ⟨#[c]⟩] w fun e w' => e = .returned (.string ⟨(Lib.trimLeftB s.data.toList c).toArray⟩) ∧ w' = w := Any.strings_TrimLeft_one Tryz.lays161 s c hc w
def Tryz.lays137_ren : Go.Shelf.Ren := ⟨fun | 137 => 212 | 217 => 230 | 266 => 249 | n => n, fun | 9 => 9 | 5 => 5 | 3 => 3 | n => n, fun | n => n⟩
theorem Tryz.lays137 : Go.Proofs.Lays.n137 Tryz.prog Tryz.lays137_ren := {
  mixed := by kernel_rfl
  f137 := Tryz.func212.trans (congrArg some (by kernel_rfl))
  f217 := Tryz.func230.trans (congrArg some (by kernel_rfl))
  f266 := Tryz.func249.trans (congrArg some (by kernel_rfl))
  t3 := Tryz.underlying3
  a3 := Tryz.isAgg3
  z3 := Tryz.sizeOf3
  v3 := Tryz.zeroValue3
  t5 := Tryz.underlying5
  a5 := Tryz.isAgg5
  z5 := Tryz.sizeOf5
  v5 := Tryz.zeroValue5
  t9 := Tryz.underlying9
  a9 := Tryz.isAgg9
  z9 := Tryz.sizeOf9
  v9 := Tryz.zeroValue9 }
open Go.RowKit in
theorem Tryz.strings_IndexByte (s : ByteArray) (c : Int) (w : World) :
    Calls Tryz.prog 212 #[.string s, .int .u8 c] w fun e w' => e = .returned (.int .i64 (Lib.indexByte s.data.toList c.toNat.toUInt8)) ∧ w' = w := Any.strings_IndexByte Tryz.lays137 s c w
def Tryz.lays103_ren : Go.Shelf.Ren := ⟨fun | 103 => 253 | 210 => 267 | 206 => 213 | n => n, fun | 9 => 9 | 4 => 4 | 24 => 288 | 3 => 3 | n => n, fun | n => n⟩
theorem Tryz.lays103 : Go.Proofs.Lays.n103 Tryz.prog Tryz.lays103_ren := {
  mixed := by kernel_rfl
  f103 := Tryz.func253.trans (congrArg some (by kernel_rfl))
  f206 := Tryz.func213.trans (congrArg some (by kernel_rfl))
  f210 := Tryz.func267.trans (congrArg some (by kernel_rfl))
  t3 := Tryz.underlying3
  a3 := Tryz.isAgg3
  z3 := Tryz.sizeOf3
  v3 := Tryz.zeroValue3
  t4 := Tryz.underlying4
  a4 := Tryz.isAgg4
  z4 := Tryz.sizeOf4
  v4 := Tryz.zeroValue4
  t9 := Tryz.underlying9
  a9 := Tryz.isAgg9
  z9 := Tryz.sizeOf9
  v9 := Tryz.zeroValue9
  t24 := Tryz.underlying288
  a24 := Tryz.isAgg288
  z24 := Tryz.sizeOf288
  v24 := Tryz.zeroValue288 }
open Go.RowKit in
theorem Tryz.strings_CutPrefix (s p : ByteArray) (w : World) :
    Calls Tryz.prog 253 #[.string s, .string p] w fun e w' => e = .returned (.tuple #[.string ⟨(Lib.trimPrefix s.data.toList p.data.toList).toArray⟩, .bool (Lib.hasPrefix s.data.toList p.data.toList)]) ∧ w' = w := Any.strings_CutPrefix Tryz.lays103 s p w
def Tryz.laysM316_ren : Go.Shelf.Ren := ⟨fun | 316 => 120 | n => n, fun | 9 => 9 | 3 => 3 | 4 => 4 | 37 => 46 | 0 => 0 | 127 => 248 | 5 => 5 | n => n, fun | n => n⟩
theorem Tryz.laysM316 : Go.Proofs.LaysM.n316 Tryz.prog Tryz.laysM316_ren := {
  mixed := by kernel_rfl
  f316 := Tryz.func120.trans (congrArg some (by kernel_rfl))
  t0 := Tryz.underlying0
  a0 := Tryz.isAgg0
  z0 := Tryz.sizeOf0
  v0 := Tryz.zeroValue0
  t3 := Tryz.underlying3
  a3 := Tryz.isAgg3
  z3 := Tryz.sizeOf3
  v3 := Tryz.zeroValue3
  t4 := Tryz.underlying4
  a4 := Tryz.isAgg4
  z4 := Tryz.sizeOf4
  v4 := Tryz.zeroValue4
  t9 := Tryz.underlying9
  a9 := Tryz.isAgg9
  z9 := Tryz.sizeOf9
  v9 := Tryz.zeroValue9
  t37 := Tryz.underlying46
  a37 := Tryz.isAgg46
  z37 := Tryz.sizeOf46
  v37 := Tryz.zeroValue46
  t127 := Tryz.underlying248
  a127 := Tryz.isAgg248
  z127 := Tryz.sizeOf248
  v127 := Tryz.zeroValue248
  t5 := Tryz.underlying5
  a5 := Tryz.isAgg5
  z5 := Tryz.sizeOf5
  v5 := Tryz.zeroValue5
  i0 := by kernel_rfl
  i3 := by kernel_rfl
  i4 := by kernel_rfl
  i5 := by kernel_rfl
  i9 := by kernel_rfl
  i37 := by kernel_rfl
  i127 := by kernel_rfl }
open Go.RowKit in
theorem Tryz.stringslite_Clone (s : ByteArray) (w : World) (hlim : s.size ≤ 281474976710656) :
    Calls Tryz.prog 120 #[.string s] w fun e w' => e = .returned (.string s) ∧ Below w.heap.size w w' := Any.stringslite_Clone Tryz.laysM316 s w hlim
def Tryz.laysC174_ren : Go.Shelf.Ren := ⟨fun | 174 => 236 | 247 => 255 | 245 => 256 | 287 => 268 | 279 => 269 | 280 => 270 | 281 => 271 | 282 => 272 | 321 => 278 | 322 => 279 | 316 => 120 | 171 => 281 | 205 => 280 | 243 => 282 | 246 => 229 | 283 => 245 | 284 => 246 | 285 => 247 | 286 => 248 | 129 => 261 | 317 => 260 | 318 => 262 | 319 => 263 | 320 => 264 | 337 => 273 | 338 => 274 | n => n, fun | 9 => 9 | 3 => 3 | 2 => 2 | 75 => 237 | 85 => 300 | 4 => 4 | 167 => 332 | 5 => 5 | 53 => 309 | 175 => 333 | 46 => 329 | 168 => 335 | 37 => 46 | 0 => 0 | 210 => 357 | 21 => 21 | 127 => 248 | 145 => 363 | 143 => 361 | 171 => 308 | 173 => 312 | 212 => 326 | 51 => 327 | 20 => 20 | 213 => 328 | 232 => 359 | 233 => 360 | 80 => 197 | n => n, fun | 15 => 8 | 16 => 3 | 17 => 5 | 18 => 9 | 19 => 10 | n => n⟩
theorem Tryz.laysC174 : Go.Proofs.LaysC.n174 Tryz.prog Tryz.laysC174_ren := {
  mixed := by kernel_rfl
  f129 := Tryz.func261.trans (congrArg some (by kernel_rfl))
  f171 := Tryz.func281.trans (congrArg some (by kernel_rfl))
  f174 := Tryz.func236.trans (congrArg some (by kernel_rfl))
  f205 := Tryz.func280.trans (congrArg some (by kernel_rfl))
  f243 := Tryz.func282.trans (congrArg some (by kernel_rfl))
  f245 := Tryz.func256.trans (congrArg some (by kernel_rfl))
  f246 := Tryz.func229.trans (congrArg some (by kernel_rfl))
  f247 := Tryz.func255.trans (congrArg some (by kernel_rfl))
  f279 := Tryz.func269.trans (congrArg some (by kernel_rfl))
  f280 := Tryz.func270.trans (congrArg some (by kernel_rfl))
  f281 := Tryz.func271.trans (congrArg some (by kernel_rfl))
  f282 := Tryz.func272.trans (congrArg some (by kernel_rfl))
  f283 := Tryz.func245.trans (congrArg some (by kernel_rfl))
  f284 := Tryz.func246.trans (congrArg some (by kernel_rfl))
  f285 := Tryz.func247.trans (congrArg some (by kernel_rfl))
  f286 := Tryz.func248.trans (congrArg some (by kernel_rfl))
  f287 := Tryz.func268.trans (congrArg some (by kernel_rfl))
  f316 := Tryz.func120.trans (congrArg some (by kernel_rfl))
  f317 := Tryz.func260.trans (congrArg some (by kernel_rfl))
  f318 := Tryz.func262.trans (congrArg some (by kernel_rfl))
  f319 := Tryz.func263.trans (congrArg some (by kernel_rfl))
  f320 := Tryz.func264.trans (congrArg some (by kernel_rfl))
  f321 := Tryz.func278.trans (congrArg some (by kernel_rfl))
  f322 := Tryz.func279.trans (congrArg some (by kernel_rfl))
  f337 := Tryz.func273.trans (congrArg some (by kernel_rfl))
  f338 := Tryz.func274.trans (congrArg some (by kernel_rfl))
  t0 := Tryz.underlying0
  a0 := Tryz.isAgg0
  z0 := Tryz.sizeOf0
  v0 := Tryz.zeroValue0
  t2 := Tryz.underlying2
  a2 := Tryz.isAgg2
  z2 := Tryz.sizeOf2
  v2 := Tryz.zeroValue2
  t3 := Tryz.underlying3
  a3 := Tryz.isAgg3
  z3 := Tryz.sizeOf3
  v3 := Tryz.zeroValue3
  t4 := Tryz.underlying4
  a4 := Tryz.isAgg4
  z4 := Tryz.sizeOf4
  v4 := Tryz.zeroValue4
  t5 := Tryz.underlying5
  a5 := Tryz.isAgg5
  z5 := Tryz.sizeOf5
  v5 := Tryz.zeroValue5
  t9 := Tryz.underlying9
  a9 := Tryz.isAgg9
  z9 := Tryz.sizeOf9
  v9 := Tryz.zeroValue9
  t20 := Tryz.underlying20
  a20 := Tryz.isAgg20
  z20 := Tryz.sizeOf20
  v20 := Tryz.zeroValue20
  t21 := Tryz.underlying21
  a21 := Tryz.isAgg21
  z21 := Tryz.sizeOf21
  v21 := Tryz.zeroValue21
  t37 := Tryz.underlying46
  a37 := Tryz.isAgg46
  z37 := Tryz.sizeOf46
  v37 := Tryz.zeroValue46
  t46 := Tryz.underlying329
  a46 := Tryz.isAgg329
  z46 := Tryz.sizeOf329
  v46 := Tryz.zeroValue329
  t51 := Tryz.underlying327
  a51 := Tryz.isAgg327
  z51 := Tryz.sizeOf327
  v51 := Tryz.zeroValue327
  t53 := Tryz.underlying309
  a53 := Tryz.isAgg309
  z53 := Tryz.sizeOf309
  v53 := Tryz.zeroValue309
  t75 := Tryz.underlying237
  a75 := Tryz.isAgg237
  z75 := Tryz.sizeOf237
  v75 := Tryz.zeroValue237
  t85 := Tryz.underlying300
  a85 := Tryz.isAgg300
  z85 := Tryz.sizeOf300
  v85 := Tryz.zeroValue300
  t127 := Tryz.underlying248
  a127 := Tryz.isAgg248
  z127 := Tryz.sizeOf248
  v127 := Tryz.zeroValue248
  t143 := Tryz.underlying361
  a143 := Tryz.isAgg361
  z143 := Tryz.sizeOf361
  v143 := Tryz.zeroValue361
  t145 := Tryz.underlying363
  a145 := Tryz.isAgg363
  z145 := Tryz.sizeOf363
  v145 := Tryz.zeroValue363
  t167 := Tryz.underlying332
  a167 := Tryz.isAgg332
  z167 := Tryz.sizeOf332
  v167 := Tryz.zeroValue332
  t168 := Tryz.underlying335
  a168 := Tryz.isAgg335
  z168 := Tryz.sizeOf335
  v168 := Tryz.zeroValue335
  t171 := Tryz.underlying308
  a171 := Tryz.isAgg308
  z171 := Tryz.sizeOf308
  v171 := Tryz.zeroValue308
  t173 := Tryz.underlying312
  a173 := Tryz.isAgg312
  z173 := Tryz.sizeOf312
  v173 := Tryz.zeroValue312
  t175 := Tryz.underlying333
  a175 := Tryz.isAgg333
  z175 := Tryz.sizeOf333
  v175 := Tryz.zeroValue333
  t210 := Tryz.underlying357
  a210 := Tryz.isAgg357
  z210 := Tryz.sizeOf357
  v210 := Tryz.zeroValue357
  t212 := Tryz.underlying326
  a212 := Tryz.isAgg326
  z212 := Tryz.sizeOf326
  v212 := Tryz.zeroValue326
  t213 := Tryz.underlying328
  a213 := Tryz.isAgg328
  z213 := Tryz.sizeOf328
  t232 := Tryz.underlying359
  a232 := Tryz.isAgg359
  z232 := Tryz.sizeOf359
  v232 := Tryz.zeroValue359
  t233 := Tryz.underlying360
  a233 := Tryz.isAgg360
  z233 := Tryz.sizeOf360
  v233 := Tryz.zeroValue360
  g15 := by kernel_rfl
  g16 := by kernel_rfl
  g17 := by kernel_rfl
  g18 := by kernel_rfl
  g19 := by kernel_rfl
  t80 := Tryz.underlying197
  a80 := Tryz.isAgg197
  z80 := Tryz.sizeOf197
  v80 := Tryz.zeroValue197
  i0 := by kernel_rfl
  i2 := by kernel_rfl
  i3 := by kernel_rfl
  i4 := by kernel_rfl
  i5 := by kernel_rfl
  i9 := by kernel_rfl
  i20 := by kernel_rfl
  i21 := by kernel_rfl
  i37 := by kernel_rfl
  i46 := by kernel_rfl
  i51 := by kernel_rfl
  i53 := by kernel_rfl
  i75 := by kernel_rfl
  i80 := by kernel_rfl
  i85 := by kernel_rfl
  i127 := by kernel_rfl
  i143 := by kernel_rfl
  i145 := by kernel_rfl
  i167 := by kernel_rfl
  i168 := by kernel_rfl
  i171 := by kernel_rfl
  i173 := by kernel_rfl
  i175 := by kernel_rfl
  i210 := by kernel_rfl
  i212 := by kernel_rfl
  i232 := by kernel_rfl
  i233 := by kernel_rfl
  m15 := by kernel_rfl
  m16 := by kernel_rfl
  m17 := by kernel_rfl
  m18 := by kernel_rfl
  m19 := by kernel_rfl
  c0 := by kernel_rfl
  c2 := by kernel_rfl
  c3 := by kernel_rfl
  c4 := by kernel_rfl
  c5 := by kernel_rfl
  c9 := by kernel_rfl
  c20 := by kernel_rfl
  c21 := by kernel_rfl
  c37 := by kernel_rfl
  c46 := by kernel_rfl
  c51 := by kernel_rfl
  c53 := by kernel_rfl
  c75 := by kernel_rfl
  c80 := by kernel_rfl
  c85 := by kernel_rfl
  c127 := by kernel_rfl
  c143 := by kernel_rfl
  c145 := by kernel_rfl
  c167 := by kernel_rfl
  c168 := by kernel_rfl
  c171 := by kernel_rfl
  c173 := by kernel_rfl
  c175 := by kernel_rfl
  c210 := by kernel_rfl
  c212 := by kernel_rfl
  c213 := by kernel_rfl
  c232 := by kernel_rfl
  c233 := by kernel_rfl }
open Go.RowKit in
theorem Tryz.strconv_ParseInt_10_at64_ok (s : ByteArray) (hmax : s.size ≤ 9223372036854775806) (v : Int) (h : Lib.parseIntB 64 s.data.toList = .ok v) (w : World) :
    Calls Tryz.prog 236 #[.string s, .int .i64 10, .int .i64 64] w fun e w' => e = .returned (.tuple #[.int .i64 v, .nilIface]) ∧ (w' = w ∨ ∃ t, w' = Lib.bytesWorld w 5 t) := Any.strconv_ParseInt_10_at64_ok Tryz.laysC174 s hmax v h w
open Go.RowKit in
theorem Tryz.strconv_ParseInt_10_at64_range (s : ByteArray) (hlim : s.size ≤ 281474976710656) (h : Lib.parseIntB 64 s.data.toList = .range) (ev : Value) (w : World) (hv : w.cell? ⟨3, 0, none⟩ = some ev) (hev : ev = .nilIface ∨ ∃ te pe, ev = .iface te pe) :
    Calls Tryz.prog 236 #[.string s, .int .i64 10, .int .i64 64] w fun e w' => ∃ N, e = .returned (.tuple #[.int .i64 (Lib.intSat 64 s.data.toList), .iface 335 (.pointer (some ⟨N, 0, none⟩))]) ∧ w.heap.size ≤ N ∧ w'.heap[N]? = some (.cells #[.string ⟨#[80, 97, 114, 115, 101, 73, 110, 116]⟩, .string s, ev] 357 (0, 0)) ∧ Below w.heap.size w w' := Any.strconv_ParseInt_10_at64_range Tryz.laysC174 s hlim h ev w hv hev
def Tryz.lays99_ren : Go.Shelf.Ren := ⟨fun | 99 => 170 | 206 => 213 | n => n, fun | 9 => 9 | 4 => 4 | 3 => 3 | n => n, fun | n => n⟩
theorem Tryz.lays99 : Go.Proofs.Lays.n99 Tryz.prog Tryz.lays99_ren := {
  mixed := by kernel_rfl
  f99 := Tryz.func170.trans (congrArg some (by kernel_rfl))
  f206 := Tryz.func213.trans (congrArg some (by kernel_rfl))
  t3 := Tryz.underlying3
  a3 := Tryz.isAgg3
  z3 := Tryz.sizeOf3
  v3 := Tryz.zeroValue3
  t4 := Tryz.underlying4
  a4 := Tryz.isAgg4
  z4 := Tryz.sizeOf4
  v4 := Tryz.zeroValue4
  t9 := Tryz.underlying9
  a9 := Tryz.isAgg9
  z9 := Tryz.sizeOf9
  v9 := Tryz.zeroValue9 }
open Go.RowKit Go.Lib in
theorem Tryz.strings_HasPrefix (s p : ByteArray) (w : World) :
    Calls Tryz.prog 170 #[.string s, .string p] w fun e w' => e = .returned (.bool (Lib.hasPrefix s.data.toList p.data.toList)) ∧ w' = w := Any.strings_HasPrefix Tryz.lays99 s p w
end Go.Proofs
namespace Go.Proofs.YtdcjpinbflmikaaGreatDoor
open Go.RowKit
theorem ret_bool {a b : Bool} (h : a = b) : Ending.returned (.bool a) = .returned (.bool b) := by rw [h]
theorem u8_bd (b : UInt8) : 0 ≤ (b.toNat : Int) ∧ (b.toNat : Int) ≤ 255 := by
  have := UInt8.toNat_lt b; omega
theorem isD_iff (c : UInt8) : Lx.isD c = true ↔ 48 ≤ (c.toNat : Int) ∧ (c.toNat : Int) ≤ 57 := by unfold Lx.isD; rw [decide_eq_true_iff]; omega
theorem isL_iff (c : UInt8) : Lx.isL c = true ↔ (65 ≤ (c.toNat : Int) ∧ (c.toNat : Int) ≤ 90) ∨ (97 ≤ (c.toNat : Int) ∧ (c.toNat : Int) ≤ 122) ∨ (c.toNat : Int) = 95 := by unfold Lx.isL; rw [decide_eq_true_iff]; omega
set_option maxHeartbeats 1000000 in
theorem rdigit_any (c : UInt8) (w : World) :
    Calls Tryz.prog 166 #[.int .u8 (c.toNat : Int)] w fun e w' => e = .returned (.bool (Lx.isD c)) ∧ w = w' := by
  have hb := u8_bd c
  have HI := Lib.hid (isD_iff c)
  generalize Lx.isD c = R at *
  generalize (c.toNat : Int) = z at *
  go_enter Tryz.func166, Tryz.ntmps166
  go_wp2
  all_goals go_ret
  all_goals exact ⟨ret_bool (by rw [Bool.eq_iff_iff, HI.out]; simp; try omega), rfl⟩
set_option maxHeartbeats 1000000 in
theorem rletter_any (c : UInt8) (w : World) :
    Calls Tryz.prog 165 #[.int .u8 (c.toNat : Int)] w fun e w' => e = .returned (.bool (Lx.isL c)) ∧ w = w' := by
  have hb := u8_bd c
  have HI := Lib.hid (isL_iff c)
  generalize Lx.isL c = R at *
  generalize (c.toNat : Int) = z at *
  go_enter Tryz.func165, Tryz.ntmps165
  go_wp2
  all_goals go_ret
  all_goals exact ⟨ret_bool (by rw [Bool.eq_iff_iff, HI.out]; simp; try omega), rfl⟩
def SrR (w : World) (g : Nat) (l : List ByteArray) : Prop := ∀ j (hj : j < l.length), w.cell? ⟨g, j, none⟩ = some (.string l[j])
theorem sr_new (w : World) (t : TypeId) (l : List ByteArray) : SrR (w.alloc (.cells (l.map Value.string).toArray t)) w.heap.size l := fun j hj => by
  rw [World.cell?_alloc_mark w _ t (0, 0) j, List.getElem?_toArray, List.getElem?_map, List.getElem?_eq_getElem hj]; rfl
set_option maxHeartbeats 2000000 in
theorem among_any (s : ByteArray) (w : World) (g c : Nat) (l : List ByteArray) (h : SrR w g l) (hlc : l.length ≤ c) (hl : l.length ≤ 1000) :
    Calls Tryz.prog 164 #[.string s, .slice (some ⟨g, 0, none⟩) l.length c] w fun e w' => e = .returned (.bool ((l.map (·.toList)).contains s.toList)) ∧ w = w' := by
  have H := Lib.hid h
  obtain ⟨R, hR⟩ : ∃ R, R = (l.map (·.toList)).contains s.toList := ⟨_, rfl⟩
  rw [← hR]
  have HR := Lib.hid hR
  clear h hR
  obtain ⟨n, hn⟩ : ∃ n, n = l.length := ⟨_, rfl⟩
  rw [← hn] at hlc hl ⊢
  have HN := Lib.hid hn
  clear hn
  go_enter Tryz.func164, Tryz.ntmps164
  go_wp2
  go_loop [5] (fun i => ∃ k : Nat, i = .int .i64 k ∧ k ≤ n ∧ Hid (R = ((l.drop k).map (·.toList)).contains s.toList)) (fun i => n - (intOf i).toNat)
  case atStart => exact ⟨0, rfl, Nat.zero_le _, HR⟩
  case round =>
    obtain ⟨k, rfl, hk, HI⟩ := hrel
    by_cases hlt : k < n
    · have hlt' : (k : Int) < (n : Int) := by omega
      have hkl : k < l.length := by rw [← HN.out]; exact hlt
      have hc := H.out k hkl
      have HS := Lib.hid (show ((l.drop k).map (·.toList)).contains s.toList = ((s.toList == l[k].toList) || ((l.drop (k + 1)).map (·.toList)).contains s.toList) by rw [List.drop_eq_getElem_cons hkl]; simp only [List.map_cons, List.contains_cons])
      generalize l[k] = x at *
      by_cases he : x.toList = s.toList
      · have he' : (x.toList == s.toList) = true := beq_iff_eq.2 he
        have HE := Lib.hid (show R = true by rw [HI.out, HS.out, he]; simp)
        clear he
        go_wp2
        go_ret
        exact ⟨by rw [HE.out]; rfl, rfl⟩
      · have he' : (x.toList == s.toList) = false := beq_eq_false_iff_ne.2 he
        have HE := Lib.hid (show R = ((l.drop (k + 1)).map (·.toList)).contains s.toList by rw [HI.out, HS.out, show (s.toList == x.toList) = false from beq_eq_false_iff_ne.2 (fun h => he h.symm)]; rfl)
        clear he
        go_wp2
        go_round
        case rel => exact ⟨k + 1, by go_num, hlt, HE⟩
        case measure => simp [intOf]; omega
    · obtain rfl : k = n := by omega
      have HE := Lib.hid (show R = false by rw [HI.out, List.drop_of_length_le (by rw [← HN.out]; exact Nat.le_refl _)]; rfl)
      have hlt' : ¬ (k : Int) < (k : Int) := by omega
      clear hlt
      go_wp2
      go_ret
      exact ⟨by rw [HE.out]; rfl, rfl⟩
def sgB : List ByteArray := [⟨#[58, 61]⟩, ⟨#[60, 62]⟩, ⟨#[60, 61]⟩, ⟨#[62, 61]⟩, ⟨#[60]⟩, ⟨#[62]⟩, ⟨#[61]⟩, ⟨#[43]⟩, ⟨#[45]⟩, ⟨#[42]⟩, ⟨#[40]⟩, ⟨#[41]⟩, ⟨#[44]⟩, ⟨#[59]⟩]
def wdB : List ByteArray := [⟨#[97, 110, 100]⟩, ⟨#[100, 105, 118]⟩, ⟨#[101, 108, 115, 101]⟩, ⟨#[101, 109, 105, 116]⟩, ⟨#[101, 110, 100, 105, 102]⟩, ⟨#[102, 97, 108, 115, 101]⟩, ⟨#[105, 102]⟩, ⟨#[105, 109, 112, 108, 105, 101, 115]⟩, ⟨#[109, 111, 100]⟩, ⟨#[110, 111, 116]⟩, ⟨#[111, 114]⟩, ⟨#[116, 104, 101, 110]⟩, ⟨#[116, 114, 117, 101]⟩, ⟨#[120, 111, 114]⟩]
theorem sgB_eq : sgB.map (·.toList) = Lx.signs := by simp only [sgB, List.map_cons, List.map_nil, Lib.toList_data]; rfl
theorem wdB_eq : wdB.map (·.toList) = Lx.words := by simp only [wdB, List.map_cons, List.map_nil, Lib.toList_data]; rfl
theorem signs_in (s : ByteArray) (w : World) : Calls Tryz.prog 164 #[.string s, .slice (some ⟨w.heap.size, 0, none⟩) 14 14] (w.alloc (.cells (sgB.map Value.string).toArray 9)) fun e w' => e = .returned (.bool (Lx.signs.contains s.data.toList)) ∧ w.alloc (.cells (sgB.map Value.string).toArray 9) = w' := by
  have := among_any s (w.alloc (.cells (sgB.map Value.string).toArray 9)) w.heap.size 14 sgB (sr_new w _ _) (by decide) (by decide)
  rw [sgB_eq, Lib.toList_data] at this
  exact this
theorem words_in (s : ByteArray) (w : World) : Calls Tryz.prog 164 #[.string s, .slice (some ⟨w.heap.size, 0, none⟩) 14 14] (w.alloc (.cells (wdB.map Value.string).toArray 9)) fun e w' => e = .returned (.bool (Lx.words.contains s.data.toList)) ∧ w.alloc (.cells (wdB.map Value.string).toArray 9) = w' := by
  have := among_any s (w.alloc (.cells (wdB.map Value.string).toArray 9)) w.heap.size 14 wdB (sr_new w _ _) (by decide) (by decide)
  rw [wdB_eq, Lib.toList_data] at this
  exact this
theorem take_all_succ {l : List UInt8} {p : UInt8 → Bool} {k : Nat} (h : k < l.length) : (l.take (k + 1)).all p = ((l.take k).all p && p l[k]) := by
  rw [List.take_succ_eq_append_getElem h, List.all_append]; simp
set_option maxHeartbeats 4000000 in
set_option maxRecDepth 100000 in
theorem whole_any (s : ByteArray) (w : World) (hs : s.size ≤ 1000000000) :
    Calls Tryz.prog 107 #[.string s] w fun e w' => e = .returned (.int .u8 (Lx.whole s.data.toList)) ∧ Below w.heap.size w w' := by
  have HL := Lib.hid (Lib.size_eq s)
  have HS := Lib.hid (fun w0 => signs_in s w0)
  have HW := Lib.hid (fun w0 => words_in s w0)
  cases h1 : Lx.signs.contains s.data.toList with
  | true =>
    rw [h1] at HS
    have HE := Lib.hid (show Lx.whole s.data.toList = 4 by unfold Lx.whole; rw [if_pos h1])
    clear h1
    go_enter Tryz.func107, Tryz.ntmps107
    go_wp2_with fail
    refine (HS.out w).mono ?_
    rintro e w1 ⟨rfl, rfl⟩
    go_wp2
    go_ret
    exact ⟨by rw [HE.out]; rfl, (Below.refl _ _).alloc (Nat.le_refl _) _⟩
  | false =>
    rw [h1] at HS
    have H1 := Lib.hid h1
    cases h2 : Lx.words.contains s.data.toList with
    | true =>
      rw [h2] at HW
      have HE := Lib.hid (show Lx.whole s.data.toList = 3 by unfold Lx.whole; rw [if_neg (by rw [H1.out]; decide), if_pos h2])
      clear h1 h2
      go_enter Tryz.func107, Tryz.ntmps107
      go_wp2_with fail
      refine (HS.out w).mono ?_
      rintro e W1 ⟨rfl, hw1⟩
      have HB1 := Lib.hid (show Below w.heap.size w W1 from hw1 ▸ (Below.refl _ _).alloc (Nat.le_refl _) _)
      clear hw1
      go_wp2_with fail
      refine (HW.out W1).mono ?_
      rintro e W2 ⟨rfl, hw2⟩
      have HB2 := Lib.hid (show Below w.heap.size w W2 from hw2 ▸ HB1.out.alloc HB1.out.size _)
      clear hw2
      go_wp2
      go_ret
      exact ⟨by rw [HE.out]; rfl, HB2.out⟩
    | false =>
      rw [h2] at HW
      have H2 := Lib.hid h2
      clear h1 h2
      by_cases h0 : s.size = 0
      · have hn : s.toList = [] := by rw [Lib.toList_data]; exact List.length_eq_zero_iff.1 (by rw [← HL.out]; exact h0)
        have HE := Lib.hid (show Lx.whole s.data.toList = 0 by unfold Lx.whole; rw [if_neg (by rw [H1.out]; decide), if_neg (by rw [H2.out]; decide), if_pos (by rw [← Lib.toList_data]; exact hn)])
        clear h0
        go_enter Tryz.func107, Tryz.ntmps107
        go_wp2_with fail
        refine (HS.out w).mono ?_
        rintro e W1 ⟨rfl, hw1⟩
        have HB1 := Lib.hid (show Below w.heap.size w W1 from hw1 ▸ (Below.refl _ _).alloc (Nat.le_refl _) _)
        clear hw1
        go_wp2_with fail
        refine (HW.out W1).mono ?_
        rintro e W2 ⟨rfl, hw2⟩
        have HB2 := Lib.hid (show Below w.heap.size w W2 from hw2 ▸ HB1.out.alloc HB1.out.size _)
        clear hw2
        go_wp2
        go_ret
        exact ⟨by rw [HE.out]; rfl, HB2.out⟩
      · have hpos : 0 < s.size := by omega
        have hlpos : 0 < s.data.toList.length := by rw [← HL.out]; exact hpos
        have hnn : s.data.toList ≠ [] := fun e => by rw [e] at hlpos; cases hlpos
        have hn : s.toList.isEmpty = false := by rw [Lib.toList_data]; cases hh : s.data.toList with
          | nil => exact absurd hh hnn
          | cons _ _ => rfl
        have HLD := Lib.hid (show Lx.lead s.data.toList = Lx.isL s[0] by
          have h3 := List.drop_eq_getElem_cons hlpos
          rw [List.drop_zero] at h3
          exact (congrArg Lx.lead h3).trans rfl)
        have HE := Lib.hid (show Lx.whole s.data.toList = if s.data.toList.all Lx.isD then (1 : Int) else if Lx.isL s[0] && s.data.toList.all Lx.isN then 2 else 0 by
          unfold Lx.whole; rw [if_neg (by rw [H1.out]; decide), if_neg (by rw [H2.out]; decide), if_neg hnn, HLD.out])
        have HL0 := Lib.hid (fun w0 => rletter_any s[0] w0)
        obtain ⟨R, hR⟩ : ∃ R, R = Lx.whole s.data.toList := ⟨_, rfl⟩
        rw [← hR] at HE ⊢
        obtain ⟨q, hq⟩ : ∃ q, q = Lx.isL s[0] := ⟨_, rfl⟩
        rw [← hq] at HE HL0
        clear h0 hR hnn hq HLD
        go_enter Tryz.func107, Tryz.ntmps107
        go_wp2_with fail
        refine (HS.out w).mono ?_
        rintro e W1 ⟨rfl, hw1⟩
        have HB1 := Lib.hid (show Below w.heap.size w W1 from hw1 ▸ (Below.refl _ _).alloc (Nat.le_refl _) _)
        clear hw1
        go_wp2_with fail
        refine (HW.out W1).mono ?_
        rintro e W2 ⟨rfl, hw2⟩
        have HB2 := Lib.hid (show Below w.heap.size w W2 from hw2 ▸ HB1.out.alloc HB1.out.size _)
        clear hw2
        go_wp2_with fail
        refine (HL0.out _).mono ?_
        rintro e w3 ⟨rfl, rfl⟩
        go_wp2
        go_loop [3, 4, 5] (fun a b i => ∃ (k : Nat) (x y : Bool), i = .int .i64 k ∧ k ≤ s.size ∧ a = .bool x ∧ b = .bool y ∧ Hid (x = (s.data.toList.take k).all Lx.isD ∧ y = (q && (s.data.toList.take k).all Lx.isN))) (fun _ _ i => s.size - (intOf i).toNat)
        case atStart => exact ⟨0, true, q, rfl, Nat.zero_le _, rfl, rfl, Lib.hid ⟨by simp, by simp⟩⟩
        case round =>
          obtain ⟨k, x, y, rfl, hk, rfl, rfl, HI⟩ := hrel
          by_cases hlt : k < s.size
          · have hkl : k < s.data.toList.length := by rw [← HL.out]; exact hlt
            have HN := Lib.hid (show (x && Lx.isD s[k]) = (s.data.toList.take (k + 1)).all Lx.isD ∧ (y && (Lx.isL s[k] || Lx.isD s[k])) = (q && (s.data.toList.take (k + 1)).all Lx.isN) by
              rw [take_all_succ hkl, take_all_succ hkl, HI.out.1, HI.out.2, Bool.and_assoc]
              exact ⟨rfl, rfl⟩)
            have HD := Lib.hid (fun w0 => rdigit_any s[k] w0)
            have HLT := Lib.hid (fun w0 => rletter_any s[k] w0)
            generalize Lx.isD s[k] = D at *
            generalize Lx.isL s[k] = L at *
            have hlt' : (k : Int) < (s.size : Int) := by omega
            clear HI
            cases x <;> cases y <;> cases D <;> cases L
            all_goals
              go_wp2_with (first | (go_at_call 166; refine (HD.out _).mono ?_; rintro e w5 ⟨rfl, rfl⟩) | (go_at_call 165; refine (HLT.out _).mono ?_; rintro e w5 ⟨rfl, rfl⟩))
              go_round
              case rel => exact ⟨k + 1, _, _, by go_num, hlt, rfl, rfl, HN⟩
              case measure => simp [intOf]; omega
          · obtain rfl : k = s.size := by omega
            have hlt' : ¬ ((s.size : Nat) : Int) < (s.size : Int) := by omega
            have HF := Lib.hid (show x = s.data.toList.all Lx.isD ∧ y = (q && s.data.toList.all Lx.isN) by
              have h3 := HI.out
              rw [List.take_of_length_le (by rw [← HL.out]; exact Nat.le_refl _)] at h3
              exact h3)
            clear hlt
            cases x with
            | true =>
              have HR := Lib.hid (show R = 1 by rw [HE.out, ← HF.out.1]; rfl)
              go_wp2
              go_ret
              exact ⟨by rw [HR.out]; rfl, HB2.out⟩
            | false =>
              cases y with
              | true =>
                have HR := Lib.hid (show R = 2 by rw [HE.out, ← HF.out.1, ← HF.out.2]; rfl)
                go_wp2
                go_ret
                exact ⟨by rw [HR.out]; rfl, HB2.out⟩
              | false =>
                have HR := Lib.hid (show R = 0 by rw [HE.out, ← HF.out.1, ← HF.out.2]; rfl)
                go_wp2
                go_ret
                exact ⟨by rw [HR.out]; rfl, HB2.out⟩
theorem ris_any (s : ByteArray) (w : World) (hs : s.size ≤ 1000000000) :
    Calls Tryz.prog 100 #[.string s] w fun e w' => e = .returned (.int .u8 (Lx.is s.data.toList)) ∧ Below w.heap.size w w' := by
  have HW := Lib.hid (whole_any s w hs)
  unfold Lx.is
  rw [← Lib.size_eq]
  by_cases h : 64 < s.size
  · rw [if_pos h]
    have h' : (s.size : Int) > 64 := by omega
    clear h
    go_enter Tryz.func100, Tryz.ntmps100
    go_wp2
    go_ret
    exact ⟨rfl, Below.refl _ _⟩
  · rw [if_neg h]
    have h' : ¬ (s.size : Int) > 64 := by omega
    generalize Lx.whole s.data.toList = R at *
    clear h
    go_enter Tryz.func100, Tryz.ntmps100
    go_wp2_with fail
    refine HW.out.mono ?_
    rintro e w1 ⟨rfl, h1⟩
    have HB := Lib.hid h1
    clear h1
    go_wp2
    go_ret
    exact ⟨rfl, HB.out⟩
end Go.Proofs.YtdcjpinbflmikaaGreatDoor
