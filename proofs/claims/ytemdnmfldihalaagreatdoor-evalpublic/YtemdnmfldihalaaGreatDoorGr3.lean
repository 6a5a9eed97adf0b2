/- Laid together: Shelf, WdPlain, WdIs, WdWalks, WdTwo. -/
import Derived.Shelf.Strconv.Atoi
import Derived.Shelf.Strconv.Itoa0
import Derived.Shelf.Strconv.Itoa1
import Derived.Shelf.LaysM
import Derived.Shelf.Strconv.Itoa2
import Derived.Shelf.Strconv.Itoa3
import Derived.Shelf.Strconv.AtoiErrFast
import Derived.Shelf.Strconv.ParseIntEmpty
import Derived.Shelf.Strconv.AtoiFail
import Derived.Shelf.Strconv.Clone
import Derived.Shelf.Strconv.SyntaxError
import Derived.Shelf.LaysC
import Derived.Shelf.Strconv.ToError
import Derived.Shelf.Strconv.AtoiErr
import Derived.Shelf.Strconv.ErrVar
import Derived.Shelf.Strconv.Lower
import Derived.Shelf.Strconv.ParseUint10
import Derived.Shelf.Strconv.ParseUint10Empty
import Derived.Shelf.Strconv.ParseUint10Any
import Derived.Shelf.Strconv.ParseInt10
import Derived.Shelf.Strconv.AtoiLong
import Derived.Shelf.Strconv.AtoiInnerAll
import Derived.Shelf.Strconv.RangeError
import Derived.Shelf.Strconv.ToErrorRange
import Derived.Shelf.Strconv.AtoiAll
import Derived.Shelf.Strconv.ErrVarAll
import Derived.Test.YtemdnmfldihalaaGreatDoorProg
import Derived.WalkKit
import Derived.ProofKit
import Derived.OpenShut
namespace Go.Proofs
open Go.Shelf
def Tryz.laysM171_ren : Go.Shelf.Ren := ⟨fun | 171 => 50 | 243 => 59 | 246 => 75 | 283 => 90 | 284 => 91 | 285 => 92 | 286 => 93 | 129 => 106 | 317 => 105 | 318 => 107 | 319 => 108 | 320 => 109 | 337 => 115 | 338 => 116 | n => n,fun | 3 => 3 | 9 => 9 | 2 => 2 | 4 => 4 | 171 => 152 | 0 => 0 | 53 => 144 | 37 => 132 | 5 => 5 | 173 => 155 | 212 => 165 | 51 => 99 | 20 => 20 | 213 => 166 | 46 => 147 | 232 => 170 | 233 => 171 | n => n,fun | 17 => 2 | 18 => 3 | 19 => 4 | n => n⟩
theorem Tryz.laysM171 : Go.Proofs.LaysM.n171 Tryz.prog Tryz.laysM171_ren := {
 mixed := by kernel_rfl
 f129 := Tryz.func106.trans (congrArg some (by kernel_rfl))
 f171 := Tryz.func50.trans (congrArg some (by kernel_rfl))
 f243 := Tryz.func59.trans (congrArg some (by kernel_rfl))
 f246 := Tryz.func75.trans (congrArg some (by kernel_rfl))
 f283 := Tryz.func90.trans (congrArg some (by kernel_rfl))
 f284 := Tryz.func91.trans (congrArg some (by kernel_rfl))
 f285 := Tryz.func92.trans (congrArg some (by kernel_rfl))
 f286 := Tryz.func93.trans (congrArg some (by kernel_rfl))
 f317 := Tryz.func105.trans (congrArg some (by kernel_rfl))
 f318 := Tryz.func107.trans (congrArg some (by kernel_rfl))
 f319 := Tryz.func108.trans (congrArg some (by kernel_rfl))
 f320 := Tryz.func109.trans (congrArg some (by kernel_rfl))
 f337 := Tryz.func115.trans (congrArg some (by kernel_rfl))
 f338 := Tryz.func116.trans (congrArg some (by kernel_rfl))
 t0 := Tryz.underlying0
 a0 := Tryz.isAgg0
 z0 := Tryz.sizeOf0
 v0 := Tryz.zeroValue0
 t2 := Tryz.underlying2
 a2 := Tryz.isAgg2
 z2 := Tryz.sizeOf2
 v2 := Tryz.zeroValue2
 t3 := Tryz.underlying3
 a3 := Tryz.isAgg3
 z3 := Tryz.sizeOf3
 v3 := Tryz.zeroValue3
 t4 := Tryz.underlying4
 a4 := Tryz.isAgg4
 z4 := Tryz.sizeOf4
 v4 := Tryz.zeroValue4
 t5 := Tryz.underlying5
 a5 := Tryz.isAgg5
 z5 := Tryz.sizeOf5
 v5 := Tryz.zeroValue5
 t9 := Tryz.underlying9
 a9 := Tryz.isAgg9
 z9 := Tryz.sizeOf9
 v9 := Tryz.zeroValue9
 t20 := Tryz.underlying20
 a20 := Tryz.isAgg20
 z20 := Tryz.sizeOf20
 v20 := Tryz.zeroValue20
 t37 := Tryz.underlying132
 a37 := Tryz.isAgg132
 z37 := Tryz.sizeOf132
 v37 := Tryz.zeroValue132
 t46 := Tryz.underlying147
 a46 := Tryz.isAgg147
 z46 := Tryz.sizeOf147
 v46 := Tryz.zeroValue147
 t51 := Tryz.underlying99
 a51 := Tryz.isAgg99
 z51 := Tryz.sizeOf99
 v51 := Tryz.zeroValue99
 t53 := Tryz.underlying144
 a53 := Tryz.isAgg144
 z53 := Tryz.sizeOf144
 v53 := Tryz.zeroValue144
 t171 := Tryz.underlying152
 a171 := Tryz.isAgg152
 z171 := Tryz.sizeOf152
 v171 := Tryz.zeroValue152
 t173 := Tryz.underlying155
 a173 := Tryz.isAgg155
 z173 := Tryz.sizeOf155
 v173 := Tryz.zeroValue155
 t212 := Tryz.underlying165
 a212 := Tryz.isAgg165
 z212 := Tryz.sizeOf165
 v212 := Tryz.zeroValue165
 t213 := Tryz.underlying166
 a213 := Tryz.isAgg166
 z213 := Tryz.sizeOf166
 t232 := Tryz.underlying170
 a232 := Tryz.isAgg170
 z232 := Tryz.sizeOf170
 v232 := Tryz.zeroValue170
 t233 := Tryz.underlying171
 a233 := Tryz.isAgg171
 z233 := Tryz.sizeOf171
 v233 := Tryz.zeroValue171
 g17 := by kernel_rfl
 g18 := by kernel_rfl
 g19 := by kernel_rfl
 i0 := by kernel_rfl
 i2 := by kernel_rfl
 i3 := by kernel_rfl
 i4 := by kernel_rfl
 i5 := by kernel_rfl
 i9 := by kernel_rfl
 i20 := by kernel_rfl
 i37 := by kernel_rfl
 i46 := by kernel_rfl
 i51 := by kernel_rfl
 i53 := by kernel_rfl
 i171 := by kernel_rfl
 i173 := by kernel_rfl
 i212 := by kernel_rfl
 i232 := by kernel_rfl
 i233 := by kernel_rfl
 m17 := by kernel_rfl
 m18 := by kernel_rfl
 m19 := by kernel_rfl }
open Go.RowKit Go.Sort Go.Lib in
theorem Tryz.strconv_Itoa (n : Int) (h0 : -9223372036854775808 ≤ n) (h1 : n ≤ 9223372036854775807) (w : World) (htab : Lib.TabIs Tryz.prog w "internal/strconv.uint64pow10" .u64 Lib.pow10Tab) :
  Calls Tryz.prog 50 #[.int .i64 n] w fun e w' => e = .returned (.string ⟨(Lib.itoa n).toArray⟩) ∧ ∃ k os,w' = grow (w.drewN k) os := Any.strconv_Itoa Tryz.laysM171 n h0 h1 w htab
def Tryz.laysC172_ren : Go.Shelf.Ren := ⟨fun | 172 => 49 | 244 => 57 | 245 => 58 | 247 => 70 | 279 => 71 | 280 => 72 | 281 => 73 | 282 => 74 | 287 => 87 | 316 => 88 | 171 => 50 | 205 => 89 | 321 => 103 | 322 => 104 | 243 => 59 | 246 => 75 | 283 => 90 | 284 => 91 | 285 => 92 | 286 => 93 | 129 => 106 | 317 => 105 | 318 => 107 | 319 => 108 | 320 => 109 | 337 => 115 | 338 => 116 | n => n,fun | 9 => 9 | 3 => 3 | 75 => 110 | 76 => 111 | 4 => 4 | 5 => 5 | 167 => 131 | 37 => 132 | 0 => 0 | 85 => 133 | 2 => 2 | 168 => 135 | 53 => 144 | 175 => 145 | 46 => 147 | 210 => 150 | 127 => 160 | 145 => 163 | 143 => 161 | 21 => 21 | 171 => 152 | 173 => 155 | 212 => 165 | 51 => 99 | 20 => 20 | 213 => 166 | 232 => 170 | 233 => 171 | 80 => 54 | n => n,fun | 15 => 0 | 16 => 1 | 17 => 2 | 18 => 3 | 19 => 4 | n => n⟩
theorem Tryz.laysC172 : Go.Proofs.LaysC.n172 Tryz.prog Tryz.laysC172_ren := {
 mixed := by kernel_rfl
 f129 := Tryz.func106.trans (congrArg some (by kernel_rfl))
 f171 := Tryz.func50.trans (congrArg some (by kernel_rfl))
 f172 := Tryz.func49.trans (congrArg some (by kernel_rfl))
 f205 := Tryz.func89.trans (congrArg some (by kernel_rfl))
 f243 := Tryz.func59.trans (congrArg some (by kernel_rfl))
 f244 := Tryz.func57.trans (congrArg some (by kernel_rfl))
 f245 := Tryz.func58.trans (congrArg some (by kernel_rfl))
 f246 := Tryz.func75.trans (congrArg some (by kernel_rfl))
 f247 := Tryz.func70.trans (congrArg some (by kernel_rfl))
 f279 := Tryz.func71.trans (congrArg some (by kernel_rfl))
 f280 := Tryz.func72.trans (congrArg some (by kernel_rfl))
 f281 := Tryz.func73.trans (congrArg some (by kernel_rfl))
 f282 := Tryz.func74.trans (congrArg some (by kernel_rfl))
 f283 := Tryz.func90.trans (congrArg some (by kernel_rfl))
 f284 := Tryz.func91.trans (congrArg some (by kernel_rfl))
 f285 := Tryz.func92.trans (congrArg some (by kernel_rfl))
 f286 := Tryz.func93.trans (congrArg some (by kernel_rfl))
 f287 := Tryz.func87.trans (congrArg some (by kernel_rfl))
 f316 := Tryz.func88.trans (congrArg some (by kernel_rfl))
 f317 := Tryz.func105.trans (congrArg some (by kernel_rfl))
 f318 := Tryz.func107.trans (congrArg some (by kernel_rfl))
 f319 := Tryz.func108.trans (congrArg some (by kernel_rfl))
 f320 := Tryz.func109.trans (congrArg some (by kernel_rfl))
 f321 := Tryz.func103.trans (congrArg some (by kernel_rfl))
 f322 := Tryz.func104.trans (congrArg some (by kernel_rfl))
 f337 := Tryz.func115.trans (congrArg some (by kernel_rfl))
 f338 := Tryz.func116.trans (congrArg some (by kernel_rfl))
 t0 := Tryz.underlying0
 a0 := Tryz.isAgg0
 z0 := Tryz.sizeOf0
 v0 := Tryz.zeroValue0
 t2 := Tryz.underlying2
 a2 := Tryz.isAgg2
 z2 := Tryz.sizeOf2
 v2 := Tryz.zeroValue2
 t3 := Tryz.underlying3
 a3 := Tryz.isAgg3
 z3 := Tryz.sizeOf3
 v3 := Tryz.zeroValue3
 t4 := Tryz.underlying4
 a4 := Tryz.isAgg4
 z4 := Tryz.sizeOf4
 v4 := Tryz.zeroValue4
 t5 := Tryz.underlying5
 a5 := Tryz.isAgg5
 z5 := Tryz.sizeOf5
 v5 := Tryz.zeroValue5
 t9 := Tryz.underlying9
 a9 := Tryz.isAgg9
 z9 := Tryz.sizeOf9
 v9 := Tryz.zeroValue9
 t20 := Tryz.underlying20
 a20 := Tryz.isAgg20
 z20 := Tryz.sizeOf20
 v20 := Tryz.zeroValue20
 t21 := Tryz.underlying21
 a21 := Tryz.isAgg21
 z21 := Tryz.sizeOf21
 v21 := Tryz.zeroValue21
 t37 := Tryz.underlying132
 a37 := Tryz.isAgg132
 z37 := Tryz.sizeOf132
 v37 := Tryz.zeroValue132
 t46 := Tryz.underlying147
 a46 := Tryz.isAgg147
 z46 := Tryz.sizeOf147
 v46 := Tryz.zeroValue147
 t51 := Tryz.underlying99
 a51 := Tryz.isAgg99
 z51 := Tryz.sizeOf99
 v51 := Tryz.zeroValue99
 t53 := Tryz.underlying144
 a53 := Tryz.isAgg144
 z53 := Tryz.sizeOf144
 v53 := Tryz.zeroValue144
 t75 := Tryz.underlying110
 a75 := Tryz.isAgg110
 z75 := Tryz.sizeOf110
 v75 := Tryz.zeroValue110
 t76 := Tryz.underlying111
 a76 := Tryz.isAgg111
 z76 := Tryz.sizeOf111
 v76 := Tryz.zeroValue111
 t85 := Tryz.underlying133
 a85 := Tryz.isAgg133
 z85 := Tryz.sizeOf133
 v85 := Tryz.zeroValue133
 t127 := Tryz.underlying160
 a127 := Tryz.isAgg160
 z127 := Tryz.sizeOf160
 v127 := Tryz.zeroValue160
 t143 := Tryz.underlying161
 a143 := Tryz.isAgg161
 z143 := Tryz.sizeOf161
 v143 := Tryz.zeroValue161
 t145 := Tryz.underlying163
 a145 := Tryz.isAgg163
 z145 := Tryz.sizeOf163
 v145 := Tryz.zeroValue163
 t167 := Tryz.underlying131
 a167 := Tryz.isAgg131
 z167 := Tryz.sizeOf131
 v167 := Tryz.zeroValue131
 t168 := Tryz.underlying135
 a168 := Tryz.isAgg135
 z168 := Tryz.sizeOf135
 v168 := Tryz.zeroValue135
 t171 := Tryz.underlying152
 a171 := Tryz.isAgg152
 z171 := Tryz.sizeOf152
 v171 := Tryz.zeroValue152
 t173 := Tryz.underlying155
 a173 := Tryz.isAgg155
 z173 := Tryz.sizeOf155
 v173 := Tryz.zeroValue155
 t175 := Tryz.underlying145
 a175 := Tryz.isAgg145
 z175 := Tryz.sizeOf145
 v175 := Tryz.zeroValue145
 t210 := Tryz.underlying150
 a210 := Tryz.isAgg150
 z210 := Tryz.sizeOf150
 v210 := Tryz.zeroValue150
 t212 := Tryz.underlying165
 a212 := Tryz.isAgg165
 z212 := Tryz.sizeOf165
 v212 := Tryz.zeroValue165
 t213 := Tryz.underlying166
 a213 := Tryz.isAgg166
 z213 := Tryz.sizeOf166
 t232 := Tryz.underlying170
 a232 := Tryz.isAgg170
 z232 := Tryz.sizeOf170
 v232 := Tryz.zeroValue170
 t233 := Tryz.underlying171
 a233 := Tryz.isAgg171
 z233 := Tryz.sizeOf171
 v233 := Tryz.zeroValue171
 g15 := by kernel_rfl
 g16 := by kernel_rfl
 g17 := by kernel_rfl
 g18 := by kernel_rfl
 g19 := by kernel_rfl
 t80 := Tryz.underlying54
 a80 := Tryz.isAgg54
 z80 := Tryz.sizeOf54
 v80 := Tryz.zeroValue54
 i0 := by kernel_rfl
 i2 := by kernel_rfl
 i3 := by kernel_rfl
 i4 := by kernel_rfl
 i5 := by kernel_rfl
 i9 := by kernel_rfl
 i20 := by kernel_rfl
 i21 := by kernel_rfl
 i37 := by kernel_rfl
 i46 := by kernel_rfl
 i51 := by kernel_rfl
 i53 := by kernel_rfl
 i75 := by kernel_rfl
 i76 := by kernel_rfl
 i80 := by kernel_rfl
 i85 := by kernel_rfl
 i127 := by kernel_rfl
 i143 := by kernel_rfl
 i145 := by kernel_rfl
 i167 := by kernel_rfl
 i168 := by kernel_rfl
 i171 := by kernel_rfl
 i173 := by kernel_rfl
 i175 := by kernel_rfl
 i210 := by kernel_rfl
 i212 := by kernel_rfl
 i232 := by kernel_rfl
 i233 := by kernel_rfl
 m15 := by kernel_rfl
 m16 := by kernel_rfl
 m17 := by kernel_rfl
 m18 := by kernel_rfl
 m19 := by kernel_rfl
 c0 := by kernel_rfl
 c2 := by kernel_rfl
 c3 := by kernel_rfl
 c4 := by kernel_rfl
 c5 := by kernel_rfl
 c9 := by kernel_rfl
 c20 := by kernel_rfl
 c21 := by kernel_rfl
 c37 := by kernel_rfl
 c46 := by kernel_rfl
 c51 := by kernel_rfl
 c53 := by kernel_rfl
 c75 := by kernel_rfl
 c76 := by kernel_rfl
 c80 := by kernel_rfl
 c85 := by kernel_rfl
 c127 := by kernel_rfl
 c143 := by kernel_rfl
 c145 := by kernel_rfl
 c167 := by kernel_rfl
 c168 := by kernel_rfl
 c171 := by kernel_rfl
 c173 := by kernel_rfl
 c175 := by kernel_rfl
 c210 := by kernel_rfl
 c212 := by kernel_rfl
 c213 := by kernel_rfl
 c232 := by kernel_rfl
 c233 := by kernel_rfl }
open Go.RowKit in
theorem Tryz.strconv_Atoi_ok (s : ByteArray) (hmax : s.size ≤ 9223372036854775806) (v : Int) (h : Lib.atoiAll s.data.toList = .ok v) (w : World) :
  Calls Tryz.prog 49 #[.string s] w fun e w' => e = .returned (.tuple #[.int .i64 v,.nilIface]) ∧ (w' = w ∨ ∃ t,w' = Lib.bytesWorld w 5 t) := Any.strconv_Atoi_ok Tryz.laysC172 s hmax v h w
open Go.RowKit in
theorem Tryz.strconv_Atoi_range_var (s : ByteArray) (hlim : s.size ≤ 281474976710656) (h : Lib.atoiAll s.data.toList = .range) (tp : TypeId) (p : Value) (w : World) (hvar : w.var? Tryz.prog "strconv.ErrRange" = some #[.iface tp p]) :
  Calls Tryz.prog 49 #[.string s] w fun e w' => ∃ N,e = .returned (.tuple #[.int .i64 (Lib.atoiSat s.data.toList),.iface 135 (.pointer (some ⟨N,0,none⟩))]) ∧ w.heap.size ≤ N ∧ w'.heap[N]? = some (.cells #[.string ⟨#[65,116,111,105]⟩,.string s,.iface tp p] 150 (0,0)) ∧ Below w.heap.size w w' := Any.strconv_Atoi_range_var Tryz.laysC172 s hlim h tp p w hvar
end Go.Proofs
namespace Go.Proofs.YtemdnmfldihalaaGreatDoor.Wd
set_option linter.unusedVariables false
theorem keep {p : Prop} (h : p) : Go.RowKit.Hid p := h
def two (op a b : Int) : Int :=
 if op = 1 then (a + b) % 4294967296
 else if op = 2 then (a - b) % 4294967296
 else if op = 3 then (((a % 4294967296).toNat &&& (b % 4294967296).toNat : Nat) : Int)
 else if op = 4 then (((a % 4294967296).toNat ||| (b % 4294967296).toNat : Nat) : Int)
 else if op = 5 then (((a % 4294967296).toNat ^^^ (b % 4294967296).toNat : Nat) : Int)
 else if op = 6 then (a % 4294967296) * 2 ^ (b % 32).toNat % 4294967296
 else if op = 7 then (a % 4294967296) / 2 ^ (b % 32).toNat
 else if op = 8 then (a % 4294967296) * (b % 4294967296) % 4294967296
 else if op = 9 then (if b % 4294967296 = 0 then 4294967295 else (a % 4294967296) / (b % 4294967296))
 else if op = 10 then (if b % 4294967296 = 0 then a % 4294967296 else (a % 4294967296) % (b % 4294967296))
 else if op = 11 then (if a % 4294967296 < b % 4294967296 then 1 else 0)
 else (if a % 4294967296 = b % 4294967296 then 1 else 0)
theorem two1 (a b : Int) : two 1 a b = (a + b) % 4294967296 := rfl
theorem two2 (a b : Int) : two 2 a b = (a - b) % 4294967296 := rfl
theorem two3 (a b : Int) : two 3 a b = (((a % 4294967296).toNat &&& (b % 4294967296).toNat : Nat) : Int) := rfl
theorem two4 (a b : Int) : two 4 a b = (((a % 4294967296).toNat ||| (b % 4294967296).toNat : Nat) : Int) := rfl
theorem two5 (a b : Int) : two 5 a b = (((a % 4294967296).toNat ^^^ (b % 4294967296).toNat : Nat) : Int) := rfl
theorem two6 (a b : Int) : two 6 a b = (a % 4294967296) * 2 ^ (b % 32).toNat % 4294967296 := rfl
theorem two7 (a b : Int) : two 7 a b = (a % 4294967296) / 2 ^ (b % 32).toNat := rfl
theorem two8 (a b : Int) : two 8 a b = (a % 4294967296) * (b % 4294967296) % 4294967296 := rfl
theorem two9 (a b : Int) : two 9 a b = (if b % 4294967296 = 0 then 4294967295 else (a % 4294967296) / (b % 4294967296)) := rfl
theorem two10 (a b : Int) : two 10 a b = (if b % 4294967296 = 0 then a % 4294967296 else (a % 4294967296) % (b % 4294967296)) := rfl
theorem two11 (a b : Int) : two 11 a b = (if a % 4294967296 < b % 4294967296 then 1 else 0) := rfl
theorem two12 (a b : Int) : two 12 a b = (if a % 4294967296 = b % 4294967296 then 1 else 0) := rfl
theorem and_lt (x y : Nat) (hx : x < 4294967296) : x &&& y < 4294967296 := Nat.lt_of_le_of_lt Nat.and_le_left hx
theorem or_lt (x y : Nat) (hx : x < 4294967296) (hy : y < 4294967296) : x ||| y < 4294967296 := Nat.or_lt_two_pow (n:=32) hx hy
theorem xor_lt (x y : Nat) (hx : x < 4294967296) (hy : y < 4294967296) : x ^^^ y < 4294967296 := Nat.xor_lt_two_pow (n:=32) hx hy
theorem word_lt (a : Int) : (a % 4294967296).toNat < 4294967296 := by omega
theorem two_word (op a b : Int) : 0 ≤ two op a b ∧ two op a b ≤ 4294967295 := by
 have ha := word_lt a
 have hb := word_lt b
 have h3 := and_lt (a % 4294967296).toNat (b % 4294967296).toNat ha
 have h4 := or_lt (a % 4294967296).toNat (b % 4294967296).toNat ha hb
 have h5 := xor_lt (a % 4294967296).toNat (b % 4294967296).toNat ha hb
 have h6 : ∀ z : Int,0 ≤ z % 4294967296 ∧ z % 4294967296 ≤ 4294967295 := fun z => by omega
 have h7 : 0 ≤ a % 4294967296 / 2 ^ (b % 32).toNat ∧ a % 4294967296 / 2 ^ (b % 32).toNat ≤ 4294967295 := by
  have hp : (0 : Int) < 2 ^ (b % 32).toNat := Int.pow_pos (by decide)
  refine ⟨Int.ediv_nonneg (by omega) (by omega),?_⟩
  have := Int.ediv_le_self (2 ^ (b % 32).toNat) (show 0 ≤ a % 4294967296 by omega)
  omega
 have h9 : ¬ b % 4294967296 = 0 → 0 ≤ a % 4294967296 / (b % 4294967296) ∧ a % 4294967296 / (b % 4294967296) ≤ 4294967295 := by
  intro _
  refine ⟨Int.ediv_nonneg (by omega) (by omega),?_⟩
  have := Int.ediv_le_self (b % 4294967296) (show 0 ≤ a % 4294967296 by omega)
  omega
 have h10 : ¬ b % 4294967296 = 0 → 0 ≤ a % 4294967296 % (b % 4294967296) ∧ a % 4294967296 % (b % 4294967296) ≤ 4294967295 := by
  intro hne
  have h1 := Int.emod_nonneg (a % 4294967296) hne
  have h2 := Int.emod_lt_of_pos (a % 4294967296) (show 0 < b % 4294967296 by omega)
  omega
 unfold two
 repeat' split
 all_goals first | exact h6 _ | exact h7 | exact h9 ‹_› | exact h10 ‹_› | omega
end Go.Proofs.YtemdnmfldihalaaGreatDoor.Wd
namespace Go.Proofs.YtemdnmfldihalaaGreatDoor.Wd
set_option linter.unusedVariables false
open Go.ChangeShapes Go.WideShapes Go.ChangeAt Go.RowKit
theorem ret_int {k : IntKind} {a b : Int} (h : a = b) : Ending.returned (.int k a) = .returned (.int k b) := by rw [h]
theorem ret_two {a b : Int} (h : a = b) (n : Int) : Ending.returned (.tuple #[.int .i64 a,.int .i64 n]) = .returned (.tuple #[.int .i64 b,.int .i64 n]) := by rw [h]
theorem is_yes (n : Int) (h0 : 0 ≤ n) (h1 : n ≤ 4294967295) (w : World) :
  Calls Tryz.prog 44 #[.int .i64 n] w fun e w' => e = .returned (.bool true) ∧ w' = w := by
 have d0 : decide (0 ≤ n) = true := by simpa using h0
 have d1 : decide (n ≤ 4294967295) = true := by simpa using h1
 go_enter Tryz.func44,Tryz.ntmps44
 go_wp2
 go_ret
 exact ⟨rfl,rfl⟩
theorem is_no (n : Int) (h : n < 0 ∨ 4294967295 < n) (w : World) :
  Calls Tryz.prog 44 #[.int .i64 n] w fun e w' => e = .returned (.bool false) ∧ w' = w := by
 by_cases h0 : 0 ≤ n
 ·have d0 : decide (0 ≤ n) = true := by simpa using h0
  have d1 : decide (n ≤ 4294967295) = false := by simp; omega
  clear h
  go_enter Tryz.func44,Tryz.ntmps44
  go_wp2
  go_ret
  exact ⟨rfl,rfl⟩
 ·have d0 : decide (0 ≤ n) = false := by simpa using h0
  clear h
  go_enter Tryz.func44,Tryz.ntmps44
  go_wp2
  go_ret
  exact ⟨rfl,rfl⟩
def oneOf (c : Bool) : Int := if c then 1 else 0
theorem oneIf_any (c : Bool) (w : World) :
  Calls Tryz.prog 119 #[.bool c] w fun e w' => e = .returned (.int .i64 (oneOf c)) ∧ w' = w := by
 cases c
 ·go_enter Tryz.func119,Tryz.ntmps119
  go_wp2
  go_ret
  exact ⟨rfl,rfl⟩
 ·go_enter Tryz.func119,Tryz.ntmps119
  go_wp2
  go_ret
  exact ⟨rfl,rfl⟩
theorem quotient_any (x y : Int) (x0 : 0 ≤ x) (x1 : x < 4294967296) (y0 : 0 ≤ y) (w : World) :
  Calls Tryz.prog 117 #[.int .u32 x,.int .u32 y] w fun e w' => e = .returned (.int .u32 (if y = 0 then 4294967295 else x / y)) ∧ w' = w := by
 by_cases h : y = 0
 ·subst h
  go_enter Tryz.func117,Tryz.ntmps117
  go_wp2
  go_ret
  exact ⟨rfl,rfl⟩
 ·have d : (y == 0) = false := by simpa using h
  have e : x.tdiv y = x / y := Int.tdiv_eq_ediv_of_nonneg x0
  have l0 := Int.ediv_nonneg x0 y0
  have l1 := Int.ediv_le_self y x0
  have hE : (if y = 0 then 4294967295 else x / y) = x / y := if_neg h
  rw [hE]
  clear hE
  go_enter Tryz.func117,Tryz.ntmps117
  go_wp2
  go_ret
  exact ⟨ret_int (by try omega),rfl⟩
theorem remainder_any (x y : Int) (x0 : 0 ≤ x) (x1 : x < 4294967296) (y0 : 0 ≤ y) (w : World) :
  Calls Tryz.prog 118 #[.int .u32 x,.int .u32 y] w fun e w' => e = .returned (.int .u32 (if y = 0 then x else x % y)) ∧ w' = w := by
 by_cases h : y = 0
 ·subst h
  go_enter Tryz.func118,Tryz.ntmps118
  go_wp2
  go_ret
  exact ⟨rfl,rfl⟩
 ·have d : (y == 0) = false := by simpa using h
  have e : x.tmod y = x % y := Int.tmod_eq_emod_of_nonneg x0
  have l0 := Int.emod_nonneg x h
  have l1 := Int.emod_lt_of_pos x (show 0 < y by omega)
  have hE : (if y = 0 then x else x % y) = x % y := if_neg h
  rw [hE]
  clear hE
  go_enter Tryz.func118,Tryz.ntmps118
  go_wp2
  go_ret
  exact ⟨ret_int (by try omega),rfl⟩
theorem wrap64_small (n : Int) (h0 : 0 ≤ n) (h1 : n < 4294967296) : wrap64 n = n := by unfold wrap64; omega
theorem m0 (a : Int) : 0 ≤ a % 4294967296 := by omega
theorem m1 (a : Int) : a % 4294967296 < 4294967296 := by omega
theorem five (b : Int) : bits .and .u32 (b % 4294967296) 31 = b % 32 := by
 rw [u32_and _ _ (m0 b) (m1 b) (by decide) (by decide),show (31 : Int).toNat = 31 from rfl,nat_mask5]
 omega
theorem two_1 (a b : Int) (w : World) :
  Calls Tryz.prog 111 #[.int .i64 1,.int .i64 a,.int .i64 b] w fun e w' => e = .returned (.tuple #[.int .i64 (two 1 a b),.int .i64 0]) ∧ w' = w := by
 go_enter Tryz.func111,Tryz.ntmps111
 go_wp2
 go_ret2
 exact ⟨ret_two (two1 a b).symm 0,rfl⟩
theorem two_2 (a b : Int) (w : World) :
  Calls Tryz.prog 111 #[.int .i64 2,.int .i64 a,.int .i64 b] w fun e w' => e = .returned (.tuple #[.int .i64 (two 2 a b),.int .i64 0]) ∧ w' = w := by
 go_enter Tryz.func111,Tryz.ntmps111
 go_wp2
 go_ret2
 exact ⟨ret_two (two2 a b).symm 0,rfl⟩
theorem two_3 (a b : Int) (w : World) :
  Calls Tryz.prog 111 #[.int .i64 3,.int .i64 a,.int .i64 b] w fun e w' => e = .returned (.tuple #[.int .i64 (two 3 a b),.int .i64 0]) ∧ w' = w := by
 have E : wrap64 (bits BinOp.and IntKind.u32 (a % 4294967296) (b % 4294967296)) = two 3 a b := by
  rw [u32_and _ _ (m0 a) (m1 a) (m0 b) (m1 b),two3]
  have := and_lt (a % 4294967296).toNat (b % 4294967296).toNat (word_lt a)
  exact wrap64_small _ (by omega) (by omega)
 have HE := keep E
 clear E
 go_enter Tryz.func111,Tryz.ntmps111
 go_wp2
 go_ret2
 exact ⟨ret_two HE.out 0,rfl⟩
theorem two_4 (a b : Int) (w : World) :
  Calls Tryz.prog 111 #[.int .i64 4,.int .i64 a,.int .i64 b] w fun e w' => e = .returned (.tuple #[.int .i64 (two 4 a b),.int .i64 0]) ∧ w' = w := by
 have E : wrap64 (bits BinOp.or IntKind.u32 (a % 4294967296) (b % 4294967296)) = two 4 a b := by
  rw [u32_or _ _ (m0 a) (m1 a) (m0 b) (m1 b),two4]
  have := or_lt (a % 4294967296).toNat (b % 4294967296).toNat (word_lt a) (word_lt b)
  exact wrap64_small _ (by omega) (by omega)
 have HE := keep E
 clear E
 go_enter Tryz.func111,Tryz.ntmps111
 go_wp2
 go_ret2
 exact ⟨ret_two HE.out 0,rfl⟩
theorem two_5 (a b : Int) (w : World) :
  Calls Tryz.prog 111 #[.int .i64 5,.int .i64 a,.int .i64 b] w fun e w' => e = .returned (.tuple #[.int .i64 (two 5 a b),.int .i64 0]) ∧ w' = w := by
 have E : wrap64 (bits BinOp.xor IntKind.u32 (a % 4294967296) (b % 4294967296)) = two 5 a b := by
  rw [u32_xor _ _ (m0 a) (m1 a) (m0 b) (m1 b),two5]
  have := xor_lt (a % 4294967296).toNat (b % 4294967296).toNat (word_lt a) (word_lt b)
  exact wrap64_small _ (by omega) (by omega)
 have HE := keep E
 clear E
 go_enter Tryz.func111,Tryz.ntmps111
 go_wp2
 go_ret2
 exact ⟨ret_two HE.out 0,rfl⟩
theorem two_6 (a b : Int) (w : World) :
  Calls Tryz.prog 111 #[.int .i64 6,.int .i64 a,.int .i64 b] w fun e w' => e = .returned (.tuple #[.int .i64 (two 6 a b),.int .i64 0]) ∧ w' = w := by
 have F := five b
 have F0 : 0 ≤ b % 32 := by omega
 go_enter Tryz.func111,Tryz.ntmps111
 go_wp2
 go_ret2
 exact ⟨ret_two (two6 a b).symm 0,rfl⟩
theorem two_7 (a b : Int) (w : World) :
  Calls Tryz.prog 111 #[.int .i64 7,.int .i64 a,.int .i64 b] w fun e w' => e = .returned (.tuple #[.int .i64 (two 7 a b),.int .i64 0]) ∧ w' = w := by
 have F := five b
 have F0 : 0 ≤ b % 32 := by omega
 have E : wrap64 (a % 4294967296 / 2 ^ (b % 32).toNat) = two 7 a b := by
  have hw := two_word 7 a b
  rw [two7] at *
  exact wrap64_small _ hw.1 (by omega)
 have HE := keep E
 clear E
 go_enter Tryz.func111,Tryz.ntmps111
 go_wp2
 go_ret2
 exact ⟨ret_two HE.out 0,rfl⟩
theorem two_8 (a b : Int) (w : World) :
  Calls Tryz.prog 111 #[.int .i64 8,.int .i64 a,.int .i64 b] w fun e w' => e = .returned (.tuple #[.int .i64 (two 8 a b),.int .i64 0]) ∧ w' = w := by
 go_enter Tryz.func111,Tryz.ntmps111
 go_wp2
 go_ret2
 exact ⟨ret_two (two8 a b).symm 0,rfl⟩
theorem two_9 (a b : Int) (w : World) :
  Calls Tryz.prog 111 #[.int .i64 9,.int .i64 a,.int .i64 b] w fun e w' => e = .returned (.tuple #[.int .i64 (two 9 a b),.int .i64 0]) ∧ w' = w := by
 go_enter Tryz.func111,Tryz.ntmps111
 go_wp2_with fail
 refine (quotient_any _ _ (m0 a) (m1 a) (m0 b) _).mono ?_
 rintro e w' ⟨rfl,rfl⟩
 rw [← two9]
 have hw := two_word 9 a b
 generalize hg : two 9 a b = t at hw ⊢
 have HE := keep hg
 clear hg
 obtain ⟨t0,t1⟩ := hw
 go_wp2
 go_ret2
 exact ⟨ret_two HE.out.symm 0,rfl⟩
theorem two_10 (a b : Int) (w : World) :
  Calls Tryz.prog 111 #[.int .i64 10,.int .i64 a,.int .i64 b] w fun e w' => e = .returned (.tuple #[.int .i64 (two 10 a b),.int .i64 0]) ∧ w' = w := by
 go_enter Tryz.func111,Tryz.ntmps111
 go_wp2_with fail
 refine (remainder_any _ _ (m0 a) (m1 a) (m0 b) _).mono ?_
 rintro e w' ⟨rfl,rfl⟩
 rw [← two10]
 have hw := two_word 10 a b
 generalize hg : two 10 a b = t at hw ⊢
 have HE := keep hg
 clear hg
 obtain ⟨t0,t1⟩ := hw
 go_wp2
 go_ret2
 exact ⟨ret_two HE.out.symm 0,rfl⟩
theorem two_11 (a b : Int) (w : World) :
  Calls Tryz.prog 111 #[.int .i64 11,.int .i64 a,.int .i64 b] w fun e w' => e = .returned (.tuple #[.int .i64 (two 11 a b),.int .i64 0]) ∧ w' = w := by
 have E : oneOf (decide (a % 4294967296 < b % 4294967296)) = two 11 a b := by rw [two11]; unfold oneOf; simp
 have HE := keep E
 clear E
 go_enter Tryz.func111,Tryz.ntmps111
 go_wp2_with (go_at_call 119; refine (oneIf_any _ _).mono ?_; rintro e w' ⟨rfl,rfl⟩)
 go_ret2
 exact ⟨ret_two HE.out 0,rfl⟩
theorem two_12 (a b : Int) (w : World) :
  Calls Tryz.prog 111 #[.int .i64 12,.int .i64 a,.int .i64 b] w fun e w' => e = .returned (.tuple #[.int .i64 (two 12 a b),.int .i64 0]) ∧ w' = w := by
 have E : oneOf (a % 4294967296 == b % 4294967296) = two 12 a b := by rw [two12]; unfold oneOf; simp
 have HE := keep E
 clear E
 go_enter Tryz.func111,Tryz.ntmps111
 go_wp2_with (go_at_call 119; refine (oneIf_any _ _).mono ?_; rintro e w' ⟨rfl,rfl⟩)
 go_ret2
 exact ⟨ret_two HE.out 0,rfl⟩
theorem two_yes (op a b : Int) (h0 : 1 ≤ op) (h1 : op ≤ 12) (w : World) :
  Calls Tryz.prog 111 #[.int .i64 op,.int .i64 a,.int .i64 b] w fun e w' => e = .returned (.tuple #[.int .i64 (two op a b),.int .i64 0]) ∧ w' = w := by
 have h : op = 1 ∨ op = 2 ∨ op = 3 ∨ op = 4 ∨ op = 5 ∨ op = 6 ∨ op = 7 ∨ op = 8 ∨ op = 9 ∨ op = 10 ∨ op = 11 ∨ op = 12 := by omega
 rcases h with rfl | rfl | rfl | rfl | rfl | rfl | rfl | rfl | rfl | rfl | rfl | rfl
 ·exact two_1 a b w
 ·exact two_2 a b w
 ·exact two_3 a b w
 ·exact two_4 a b w
 ·exact two_5 a b w
 ·exact two_6 a b w
 ·exact two_7 a b w
 ·exact two_8 a b w
 ·exact two_9 a b w
 ·exact two_10 a b w
 ·exact two_11 a b w
 ·exact two_12 a b w
def sel (a b c : Int) : Int := if a % 4294967296 = 0 then c % 4294967296 else b % 4294967296
theorem sel_any (a b c : Int) (w : World) :
  Calls Tryz.prog 113 #[.int .i64 a,.int .i64 b,.int .i64 c] w fun e w' => e = .returned (.int .i64 (sel a b c)) ∧ w' = w := by
 by_cases h : a % 4294967296 = 0
 ·have hs : sel a b c = c % 4294967296 := if_pos h
  rw [hs]
  have d : (a % 4294967296 != 0) = false := by rw [h]; rfl
  clear h hs
  go_enter Tryz.func113,Tryz.ntmps113
  go_wp2
  go_ret
  exact ⟨rfl,rfl⟩
 ·have hs : sel a b c = b % 4294967296 := if_neg h
  rw [hs]
  have d : (a % 4294967296 != 0) = true := by rw [bne_iff_ne]; exact h
  clear h hs
  go_enter Tryz.func113,Tryz.ntmps113
  go_wp2
  go_ret
  exact ⟨rfl,rfl⟩
end Go.Proofs.YtemdnmfldihalaaGreatDoor.Wd
