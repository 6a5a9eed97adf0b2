/- The document's Check of instructions: its parts, and its frame. Written by tools/gen_frchk.py. -/
import Derived.Test.YtpnacanbknejiaaFlChk
import Derived.Test.YtpnacanbknejiaaGr42
import Derived.Test.YtpnacanbknejiaaLfRfit
namespace Go.Proofs.Ytpnacanbknejiaa.Fl
set_option maxHeartbeats 32000000
set_option maxRecDepth 100000
set_option linter.unusedVariables false
set_option linter.unusedSimpArgs false
open Go.ChangeShapes Go.WideShapes Go.ChangeAt Go.RowKit Lg Lr
noncomputable def kAll : Code := Try.f17.body.getD .skip
noncomputable def kRest : Code := sndC (sndC (sndC kAll))
noncomputable def kRound : Code := rndC (inC (sndC (fstC kRest)))
noncomputable def kOne : Code := inC (fstC (sndC (sndC kRound)))
def OnB (Q : Act → World → Prop) (e : Exit) (a : Act) (w : World) : Prop := e = .normal ∧ Q a w
theorem OnB.go {P : Program} {c1 c2 : Code} {Q : Act → World → Prop} {R : Exit → Act → World → Prop} {a : Act} {w : World} (h : c1.wp P (OnB Q) a w) (k : ∀ a' w',Q a' w' → c2.wp P R a' w') : (Code.seq c1 c2).wp P R a w := by
 refine wp_seq (wp_mono h ?_)
 rintro e a' w' ⟨rfl,hq⟩
 exact k a' w' hq
def OnR (Q R : Act → World → Prop) (e : Exit) (a : Act) (w : World) : Prop := (e = .normal ∧ Q a w) ∨ (e = .ret ∧ R a w)
theorem OnR.go {P : Program} {c1 c2 : Code} {Q R : Act → World → Prop} {S : Exit → Act → World → Prop} {a : Act} {w : World} (h : c1.wp P (OnR Q R) a w) (k : ∀ a' w',Q a' w' → c2.wp P S a' w') (r : ∀ a' w',R a' w' → S .ret a' w') : (Code.seq c1 c2).wp P S a w := by
 refine wp_seq (wp_mono h ?_)
 rintro e a' w' (⟨rfl,hq⟩ | ⟨rfl,hq⟩)
 ·exact k a' w' hq
 ·exact r a' w' hq
structure WdC (a : Act) : Prop where
 len : a.tmps.toList.length = 258
 dfr : a.defers = []
theorem WdC.opens {a : Act} (h : WdC a) : a = ⟨#[slot a 0,slot a 1,slot a 2,slot a 3,slot a 4,slot a 5,slot a 6,slot a 7,slot a 8,slot a 9,slot a 10,slot a 11,slot a 12,slot a 13,slot a 14,slot a 15,slot a 16,slot a 17,slot a 18,slot a 19,slot a 20,slot a 21,slot a 22,slot a 23,slot a 24,slot a 25,slot a 26,slot a 27,slot a 28,slot a 29,slot a 30,slot a 31,slot a 32,slot a 33,slot a 34,slot a 35,slot a 36,slot a 37,slot a 38,slot a 39,slot a 40,slot a 41,slot a 42,slot a 43,slot a 44,slot a 45,slot a 46,slot a 47,slot a 48,slot a 49,slot a 50,slot a 51,slot a 52,slot a 53,slot a 54,slot a 55,slot a 56,slot a 57,slot a 58,slot a 59,slot a 60,slot a 61,slot a 62,slot a 63,slot a 64,slot a 65,slot a 66,slot a 67,slot a 68,slot a 69,slot a 70,slot a 71,slot a 72,slot a 73,slot a 74,slot a 75,slot a 76,slot a 77,slot a 78,slot a 79,slot a 80,slot a 81,slot a 82,slot a 83,slot a 84,slot a 85,slot a 86,slot a 87,slot a 88,slot a 89,slot a 90,slot a 91,slot a 92,slot a 93,slot a 94,slot a 95,slot a 96,slot a 97,slot a 98,slot a 99,slot a 100,slot a 101,slot a 102,slot a 103,slot a 104,slot a 105,slot a 106,slot a 107,slot a 108,slot a 109,slot a 110,slot a 111,slot a 112,slot a 113,slot a 114,slot a 115,slot a 116,slot a 117,slot a 118,slot a 119,slot a 120,slot a 121,slot a 122,slot a 123,slot a 124,slot a 125,slot a 126,slot a 127,slot a 128,slot a 129,slot a 130,slot a 131,slot a 132,slot a 133,slot a 134,slot a 135,slot a 136,slot a 137,slot a 138,slot a 139,slot a 140,slot a 141,slot a 142,slot a 143,slot a 144,slot a 145,slot a 146,slot a 147,slot a 148,slot a 149,slot a 150,slot a 151,slot a 152,slot a 153,slot a 154,slot a 155,slot a 156,slot a 157,slot a 158,slot a 159,slot a 160,slot a 161,slot a 162,slot a 163,slot a 164,slot a 165,slot a 166,slot a 167,slot a 168,slot a 169,slot a 170,slot a 171,slot a 172,slot a 173,slot a 174,slot a 175,slot a 176,slot a 177,slot a 178,slot a 179,slot a 180,slot a 181,slot a 182,slot a 183,slot a 184,slot a 185,slot a 186,slot a 187,slot a 188,slot a 189,slot a 190,slot a 191,slot a 192,slot a 193,slot a 194,slot a 195,slot a 196,slot a 197,slot a 198,slot a 199,slot a 200,slot a 201,slot a 202,slot a 203,slot a 204,slot a 205,slot a 206,slot a 207,slot a 208,slot a 209,slot a 210,slot a 211,slot a 212,slot a 213,slot a 214,slot a 215,slot a 216,slot a 217,slot a 218,slot a 219,slot a 220,slot a 221,slot a 222,slot a 223,slot a 224,slot a 225,slot a 226,slot a 227,slot a 228,slot a 229,slot a 230,slot a 231,slot a 232,slot a 233,slot a 234,slot a 235,slot a 236,slot a 237,slot a 238,slot a 239,slot a 240,slot a 241,slot a 242,slot a 243,slot a 244,slot a 245,slot a 246,slot a 247,slot a 248,slot a 249,slot a 250,slot a 251,slot a 252,slot a 253,slot a 254,slot a 255,slot a 256,slot a 257],[]⟩ := by
 obtain ⟨⟨l⟩,d⟩ := a
 obtain ⟨h1,h2⟩ := h
 dsimp only at h1 h2
 subst h2
 have e0 : l = (List.range 258).map (fun i => l.getD i undef) := by
  refine List.ext_getElem (by simp [h1]) fun i h1 h2 => ?_
  rw [List.getElem_map,List.getElem_range,List.getD_eq_getElem?_getD,List.getElem?_eq_getElem h1,Option.getD_some]
 have e : (List.range 258).map (fun i => l.getD i undef) = [l.getD 0 undef,l.getD 1 undef,l.getD 2 undef,l.getD 3 undef,l.getD 4 undef,l.getD 5 undef,l.getD 6 undef,l.getD 7 undef,l.getD 8 undef,l.getD 9 undef,l.getD 10 undef,l.getD 11 undef,l.getD 12 undef,l.getD 13 undef,l.getD 14 undef,l.getD 15 undef,l.getD 16 undef,l.getD 17 undef,l.getD 18 undef,l.getD 19 undef,l.getD 20 undef,l.getD 21 undef,l.getD 22 undef,l.getD 23 undef,l.getD 24 undef,l.getD 25 undef,l.getD 26 undef,l.getD 27 undef,l.getD 28 undef,l.getD 29 undef,l.getD 30 undef,l.getD 31 undef,l.getD 32 undef,l.getD 33 undef,l.getD 34 undef,l.getD 35 undef,l.getD 36 undef,l.getD 37 undef,l.getD 38 undef,l.getD 39 undef,l.getD 40 undef,l.getD 41 undef,l.getD 42 undef,l.getD 43 undef,l.getD 44 undef,l.getD 45 undef,l.getD 46 undef,l.getD 47 undef,l.getD 48 undef,l.getD 49 undef,l.getD 50 undef,l.getD 51 undef,l.getD 52 undef,l.getD 53 undef,l.getD 54 undef,l.getD 55 undef,l.getD 56 undef,l.getD 57 undef,l.getD 58 undef,l.getD 59 undef,l.getD 60 undef,l.getD 61 undef,l.getD 62 undef,l.getD 63 undef,l.getD 64 undef,l.getD 65 undef,l.getD 66 undef,l.getD 67 undef,l.getD 68 undef,l.getD 69 undef,l.getD 70 undef,l.getD 71 undef,l.getD 72 undef,l.getD 73 undef,l.getD 74 undef,l.getD 75 undef,l.getD 76 undef,l.getD 77 undef,l.getD 78 undef,l.getD 79 undef,l.getD 80 undef,l.getD 81 undef,l.getD 82 undef,l.getD 83 undef,l.getD 84 undef,l.getD 85 undef,l.getD 86 undef,l.getD 87 undef,l.getD 88 undef,l.getD 89 undef,l.getD 90 undef,l.getD 91 undef,l.getD 92 undef,l.getD 93 undef,l.getD 94 undef,l.getD 95 undef,l.getD 96 undef,l.getD 97 undef,l.getD 98 undef,l.getD 99 undef,l.getD 100 undef,l.getD 101 undef,l.getD 102 undef,l.getD 103 undef,l.getD 104 undef,l.getD 105 undef,l.getD 106 undef,l.getD 107 undef,l.getD 108 undef,l.getD 109 undef,l.getD 110 undef,l.getD 111 undef,l.getD 112 undef,l.getD 113 undef,l.getD 114 undef,l.getD 115 undef,l.getD 116 undef,l.getD 117 undef,l.getD 118 undef,l.getD 119 undef,l.getD 120 undef,l.getD 121 undef,l.getD 122 undef,l.getD 123 undef,l.getD 124 undef,l.getD 125 undef,l.getD 126 undef,l.getD 127 undef,l.getD 128 undef,l.getD 129 undef,l.getD 130 undef,l.getD 131 undef,l.getD 132 undef,l.getD 133 undef,l.getD 134 undef,l.getD 135 undef,l.getD 136 undef,l.getD 137 undef,l.getD 138 undef,l.getD 139 undef,l.getD 140 undef,l.getD 141 undef,l.getD 142 undef,l.getD 143 undef,l.getD 144 undef,l.getD 145 undef,l.getD 146 undef,l.getD 147 undef,l.getD 148 undef,l.getD 149 undef,l.getD 150 undef,l.getD 151 undef,l.getD 152 undef,l.getD 153 undef,l.getD 154 undef,l.getD 155 undef,l.getD 156 undef,l.getD 157 undef,l.getD 158 undef,l.getD 159 undef,l.getD 160 undef,l.getD 161 undef,l.getD 162 undef,l.getD 163 undef,l.getD 164 undef,l.getD 165 undef,l.getD 166 undef,l.getD 167 undef,l.getD 168 undef,l.getD 169 undef,l.getD 170 undef,l.getD 171 undef,l.getD 172 undef,l.getD 173 undef,l.getD 174 undef,l.getD 175 undef,l.getD 176 undef,l.getD 177 undef,l.getD 178 undef,l.getD 179 undef,l.getD 180 undef,l.getD 181 undef,l.getD 182 undef,l.getD 183 undef,l.getD 184 undef,l.getD 185 undef,l.getD 186 undef,l.getD 187 undef,l.getD 188 undef,l.getD 189 undef,l.getD 190 undef,l.getD 191 undef,l.getD 192 undef,l.getD 193 undef,l.getD 194 undef,l.getD 195 undef,l.getD 196 undef,l.getD 197 undef,l.getD 198 undef,l.getD 199 undef,l.getD 200 undef,l.getD 201 undef,l.getD 202 undef,l.getD 203 undef,l.getD 204 undef,l.getD 205 undef,l.getD 206 undef,l.getD 207 undef,l.getD 208 undef,l.getD 209 undef,l.getD 210 undef,l.getD 211 undef,l.getD 212 undef,l.getD 213 undef,l.getD 214 undef,l.getD 215 undef,l.getD 216 undef,l.getD 217 undef,l.getD 218 undef,l.getD 219 undef,l.getD 220 undef,l.getD 221 undef,l.getD 222 undef,l.getD 223 undef,l.getD 224 undef,l.getD 225 undef,l.getD 226 undef,l.getD 227 undef,l.getD 228 undef,l.getD 229 undef,l.getD 230 undef,l.getD 231 undef,l.getD 232 undef,l.getD 233 undef,l.getD 234 undef,l.getD 235 undef,l.getD 236 undef,l.getD 237 undef,l.getD 238 undef,l.getD 239 undef,l.getD 240 undef,l.getD 241 undef,l.getD 242 undef,l.getD 243 undef,l.getD 244 undef,l.getD 245 undef,l.getD 246 undef,l.getD 247 undef,l.getD 248 undef,l.getD 249 undef,l.getD 250 undef,l.getD 251 undef,l.getD 252 undef,l.getD 253 undef,l.getD 254 undef,l.getD 255 undef,l.getD 256 undef,l.getD 257 undef] := by kernel_rfl
 exact congrArg (fun x : List Value => (⟨⟨x⟩,[]⟩ : Act)) (e0.trans e)
structure FC (a : Act) (F n1 n2 k c1 : Nat) (p1 : Option Addr) : Prop where
 wide : WdC a
 s1 : slot a 1 = .pointer (some ⟨F,0,none⟩)
 s4 : slot a 4 = .int .i64 (n2 : Int)
 s41 : slot a 41 = .slice p1 n1 c1
 s42 : slot a 42 = .int .i64 (n1 : Int)
 s43 : slot a 43 = .int .i64 (k : Int)
theorem FC.opens {a : Act} {F n1 n2 k c1 : Nat} {p1 : Option Addr} (h : FC a F n1 n2 k c1 p1) : ∃ g : Nat → Value,a = ⟨#[g 0,.pointer (some ⟨F,0,none⟩),g 2,g 3,.int .i64 (n2 : Int),g 5,g 6,g 7,g 8,g 9,g 10,g 11,g 12,g 13,g 14,g 15,g 16,g 17,g 18,g 19,g 20,g 21,g 22,g 23,g 24,g 25,g 26,g 27,g 28,g 29,g 30,g 31,g 32,g 33,g 34,g 35,g 36,g 37,g 38,g 39,g 40,.slice p1 n1 c1,.int .i64 (n1 : Int),.int .i64 (k : Int),g 44,g 45,g 46,g 47,g 48,g 49,g 50,g 51,g 52,g 53,g 54,g 55,g 56,g 57,g 58,g 59,g 60,g 61,g 62,g 63,g 64,g 65,g 66,g 67,g 68,g 69,g 70,g 71,g 72,g 73,g 74,g 75,g 76,g 77,g 78,g 79,g 80,g 81,g 82,g 83,g 84,g 85,g 86,g 87,g 88,g 89,g 90,g 91,g 92,g 93,g 94,g 95,g 96,g 97,g 98,g 99,g 100,g 101,g 102,g 103,g 104,g 105,g 106,g 107,g 108,g 109,g 110,g 111,g 112,g 113,g 114,g 115,g 116,g 117,g 118,g 119,g 120,g 121,g 122,g 123,g 124,g 125,g 126,g 127,g 128,g 129,g 130,g 131,g 132,g 133,g 134,g 135,g 136,g 137,g 138,g 139,g 140,g 141,g 142,g 143,g 144,g 145,g 146,g 147,g 148,g 149,g 150,g 151,g 152,g 153,g 154,g 155,g 156,g 157,g 158,g 159,g 160,g 161,g 162,g 163,g 164,g 165,g 166,g 167,g 168,g 169,g 170,g 171,g 172,g 173,g 174,g 175,g 176,g 177,g 178,g 179,g 180,g 181,g 182,g 183,g 184,g 185,g 186,g 187,g 188,g 189,g 190,g 191,g 192,g 193,g 194,g 195,g 196,g 197,g 198,g 199,g 200,g 201,g 202,g 203,g 204,g 205,g 206,g 207,g 208,g 209,g 210,g 211,g 212,g 213,g 214,g 215,g 216,g 217,g 218,g 219,g 220,g 221,g 222,g 223,g 224,g 225,g 226,g 227,g 228,g 229,g 230,g 231,g 232,g 233,g 234,g 235,g 236,g 237,g 238,g 239,g 240,g 241,g 242,g 243,g 244,g 245,g 246,g 247,g 248,g 249,g 250,g 251,g 252,g 253,g 254,g 255,g 256,g 257],[]⟩ := by
 refine ⟨slot a,?_⟩
 have e := h.wide.opens
 rw [h.s1,h.s4,h.s41,h.s42,h.s43] at e
 exact e
structure FO (a : Act) (F n1 n2 k c1 : Nat) (p1 : Option Addr) (X : Nat) : Prop where
 wide : WdC a
 s1 : slot a 1 = .pointer (some ⟨F,0,none⟩)
 s4 : slot a 4 = .int .i64 (n2 : Int)
 s5 : slot a 5 = .int .i64 (k : Int)
 s6 : slot a 6 = .pointer (some ⟨X,0,none⟩)
 s41 : slot a 41 = .slice p1 n1 c1
 s42 : slot a 42 = .int .i64 (n1 : Int)
 s43 : slot a 43 = .int .i64 (k : Int)
theorem FO.opens {a : Act} {F n1 n2 k c1 : Nat} {p1 : Option Addr} {X : Nat} (h : FO a F n1 n2 k c1 p1 X) : ∃ g : Nat → Value,a = ⟨#[g 0,.pointer (some ⟨F,0,none⟩),g 2,g 3,.int .i64 (n2 : Int),.int .i64 (k : Int),.pointer (some ⟨X,0,none⟩),g 7,g 8,g 9,g 10,g 11,g 12,g 13,g 14,g 15,g 16,g 17,g 18,g 19,g 20,g 21,g 22,g 23,g 24,g 25,g 26,g 27,g 28,g 29,g 30,g 31,g 32,g 33,g 34,g 35,g 36,g 37,g 38,g 39,g 40,.slice p1 n1 c1,.int .i64 (n1 : Int),.int .i64 (k : Int),g 44,g 45,g 46,g 47,g 48,g 49,g 50,g 51,g 52,g 53,g 54,g 55,g 56,g 57,g 58,g 59,g 60,g 61,g 62,g 63,g 64,g 65,g 66,g 67,g 68,g 69,g 70,g 71,g 72,g 73,g 74,g 75,g 76,g 77,g 78,g 79,g 80,g 81,g 82,g 83,g 84,g 85,g 86,g 87,g 88,g 89,g 90,g 91,g 92,g 93,g 94,g 95,g 96,g 97,g 98,g 99,g 100,g 101,g 102,g 103,g 104,g 105,g 106,g 107,g 108,g 109,g 110,g 111,g 112,g 113,g 114,g 115,g 116,g 117,g 118,g 119,g 120,g 121,g 122,g 123,g 124,g 125,g 126,g 127,g 128,g 129,g 130,g 131,g 132,g 133,g 134,g 135,g 136,g 137,g 138,g 139,g 140,g 141,g 142,g 143,g 144,g 145,g 146,g 147,g 148,g 149,g 150,g 151,g 152,g 153,g 154,g 155,g 156,g 157,g 158,g 159,g 160,g 161,g 162,g 163,g 164,g 165,g 166,g 167,g 168,g 169,g 170,g 171,g 172,g 173,g 174,g 175,g 176,g 177,g 178,g 179,g 180,g 181,g 182,g 183,g 184,g 185,g 186,g 187,g 188,g 189,g 190,g 191,g 192,g 193,g 194,g 195,g 196,g 197,g 198,g 199,g 200,g 201,g 202,g 203,g 204,g 205,g 206,g 207,g 208,g 209,g 210,g 211,g 212,g 213,g 214,g 215,g 216,g 217,g 218,g 219,g 220,g 221,g 222,g 223,g 224,g 225,g 226,g 227,g 228,g 229,g 230,g 231,g 232,g 233,g 234,g 235,g 236,g 237,g 238,g 239,g 240,g 241,g 242,g 243,g 244,g 245,g 246,g 247,g 248,g 249,g 250,g 251,g 252,g 253,g 254,g 255,g 256,g 257],[]⟩ := by
 refine ⟨slot a,?_⟩
 have e := h.wide.opens
 rw [h.s1,h.s4,h.s5,h.s6,h.s41,h.s42,h.s43] at e
 exact e
structure FL (a : Act) (F n1 n2 k c1 : Nat) (p1 : Option Addr) (X : Nat) (pl : Option Addr) (nl cl : Nat) : Prop where
 wide : WdC a
 s1 : slot a 1 = .pointer (some ⟨F,0,none⟩)
 s4 : slot a 4 = .int .i64 (n2 : Int)
 s5 : slot a 5 = .int .i64 (k : Int)
 s6 : slot a 6 = .pointer (some ⟨X,0,none⟩)
 s7 : slot a 7 = .slice pl nl cl
 s41 : slot a 41 = .slice p1 n1 c1
 s42 : slot a 42 = .int .i64 (n1 : Int)
 s43 : slot a 43 = .int .i64 (k : Int)
theorem FL.opens {a : Act} {F n1 n2 k c1 : Nat} {p1 : Option Addr} {X : Nat} {pl : Option Addr} {nl cl : Nat} (h : FL a F n1 n2 k c1 p1 X pl nl cl) : ∃ g : Nat → Value,a = ⟨#[g 0,.pointer (some ⟨F,0,none⟩),g 2,g 3,.int .i64 (n2 : Int),.int .i64 (k : Int),.pointer (some ⟨X,0,none⟩),.slice pl nl cl,g 8,g 9,g 10,g 11,g 12,g 13,g 14,g 15,g 16,g 17,g 18,g 19,g 20,g 21,g 22,g 23,g 24,g 25,g 26,g 27,g 28,g 29,g 30,g 31,g 32,g 33,g 34,g 35,g 36,g 37,g 38,g 39,g 40,.slice p1 n1 c1,.int .i64 (n1 : Int),.int .i64 (k : Int),g 44,g 45,g 46,g 47,g 48,g 49,g 50,g 51,g 52,g 53,g 54,g 55,g 56,g 57,g 58,g 59,g 60,g 61,g 62,g 63,g 64,g 65,g 66,g 67,g 68,g 69,g 70,g 71,g 72,g 73,g 74,g 75,g 76,g 77,g 78,g 79,g 80,g 81,g 82,g 83,g 84,g 85,g 86,g 87,g 88,g 89,g 90,g 91,g 92,g 93,g 94,g 95,g 96,g 97,g 98,g 99,g 100,g 101,g 102,g 103,g 104,g 105,g 106,g 107,g 108,g 109,g 110,g 111,g 112,g 113,g 114,g 115,g 116,g 117,g 118,g 119,g 120,g 121,g 122,g 123,g 124,g 125,g 126,g 127,g 128,g 129,g 130,g 131,g 132,g 133,g 134,g 135,g 136,g 137,g 138,g 139,g 140,g 141,g 142,g 143,g 144,g 145,g 146,g 147,g 148,g 149,g 150,g 151,g 152,g 153,g 154,g 155,g 156,g 157,g 158,g 159,g 160,g 161,g 162,g 163,g 164,g 165,g 166,g 167,g 168,g 169,g 170,g 171,g 172,g 173,g 174,g 175,g 176,g 177,g 178,g 179,g 180,g 181,g 182,g 183,g 184,g 185,g 186,g 187,g 188,g 189,g 190,g 191,g 192,g 193,g 194,g 195,g 196,g 197,g 198,g 199,g 200,g 201,g 202,g 203,g 204,g 205,g 206,g 207,g 208,g 209,g 210,g 211,g 212,g 213,g 214,g 215,g 216,g 217,g 218,g 219,g 220,g 221,g 222,g 223,g 224,g 225,g 226,g 227,g 228,g 229,g 230,g 231,g 232,g 233,g 234,g 235,g 236,g 237,g 238,g 239,g 240,g 241,g 242,g 243,g 244,g 245,g 246,g 247,g 248,g 249,g 250,g 251,g 252,g 253,g 254,g 255,g 256,g 257],[]⟩ := by
 refine ⟨slot a,?_⟩
 have e := h.wide.opens
 rw [h.s1,h.s4,h.s5,h.s6,h.s7,h.s41,h.s42,h.s43] at e
 exact e
structure FM (a : Act) (F n1 n2 k c1 : Nat) (p1 : Option Addr) (X : Nat) (pl : Option Addr) (nl cl : Nat) : Prop where
 wide : WdC a
 s1 : slot a 1 = .pointer (some ⟨F,0,none⟩)
 s4 : slot a 4 = .int .i64 (n2 : Int)
 s5 : slot a 5 = .int .i64 (k : Int)
 s6 : slot a 6 = .pointer (some ⟨X,0,none⟩)
 s7 : slot a 7 = .slice pl nl cl
 s8 : slot a 8 = .bool false
 s41 : slot a 41 = .slice p1 n1 c1
 s42 : slot a 42 = .int .i64 (n1 : Int)
 s43 : slot a 43 = .int .i64 (k : Int)
theorem FM.opens {a : Act} {F n1 n2 k c1 : Nat} {p1 : Option Addr} {X : Nat} {pl : Option Addr} {nl cl : Nat} (h : FM a F n1 n2 k c1 p1 X pl nl cl) : ∃ g : Nat → Value,a = ⟨#[g 0,.pointer (some ⟨F,0,none⟩),g 2,g 3,.int .i64 (n2 : Int),.int .i64 (k : Int),.pointer (some ⟨X,0,none⟩),.slice pl nl cl,.bool false,g 9,g 10,g 11,g 12,g 13,g 14,g 15,g 16,g 17,g 18,g 19,g 20,g 21,g 22,g 23,g 24,g 25,g 26,g 27,g 28,g 29,g 30,g 31,g 32,g 33,g 34,g 35,g 36,g 37,g 38,g 39,g 40,.slice p1 n1 c1,.int .i64 (n1 : Int),.int .i64 (k : Int),g 44,g 45,g 46,g 47,g 48,g 49,g 50,g 51,g 52,g 53,g 54,g 55,g 56,g 57,g 58,g 59,g 60,g 61,g 62,g 63,g 64,g 65,g 66,g 67,g 68,g 69,g 70,g 71,g 72,g 73,g 74,g 75,g 76,g 77,g 78,g 79,g 80,g 81,g 82,g 83,g 84,g 85,g 86,g 87,g 88,g 89,g 90,g 91,g 92,g 93,g 94,g 95,g 96,g 97,g 98,g 99,g 100,g 101,g 102,g 103,g 104,g 105,g 106,g 107,g 108,g 109,g 110,g 111,g 112,g 113,g 114,g 115,g 116,g 117,g 118,g 119,g 120,g 121,g 122,g 123,g 124,g 125,g 126,g 127,g 128,g 129,g 130,g 131,g 132,g 133,g 134,g 135,g 136,g 137,g 138,g 139,g 140,g 141,g 142,g 143,g 144,g 145,g 146,g 147,g 148,g 149,g 150,g 151,g 152,g 153,g 154,g 155,g 156,g 157,g 158,g 159,g 160,g 161,g 162,g 163,g 164,g 165,g 166,g 167,g 168,g 169,g 170,g 171,g 172,g 173,g 174,g 175,g 176,g 177,g 178,g 179,g 180,g 181,g 182,g 183,g 184,g 185,g 186,g 187,g 188,g 189,g 190,g 191,g 192,g 193,g 194,g 195,g 196,g 197,g 198,g 199,g 200,g 201,g 202,g 203,g 204,g 205,g 206,g 207,g 208,g 209,g 210,g 211,g 212,g 213,g 214,g 215,g 216,g 217,g 218,g 219,g 220,g 221,g 222,g 223,g 224,g 225,g 226,g 227,g 228,g 229,g 230,g 231,g 232,g 233,g 234,g 235,g 236,g 237,g 238,g 239,g 240,g 241,g 242,g 243,g 244,g 245,g 246,g 247,g 248,g 249,g 250,g 251,g 252,g 253,g 254,g 255,g 256,g 257],[]⟩ := by
 refine ⟨slot a,?_⟩
 have e := h.wide.opens
 rw [h.s1,h.s4,h.s5,h.s6,h.s7,h.s8,h.s41,h.s42,h.s43] at e
 exact e
structure FB (a : Act) (F n1 n2 k c1 : Nat) (p1 : Option Addr) (X : Nat) (q : Bool) : Prop where
 wide : WdC a
 s1 : slot a 1 = .pointer (some ⟨F,0,none⟩)
 s4 : slot a 4 = .int .i64 (n2 : Int)
 s5 : slot a 5 = .int .i64 (k : Int)
 s6 : slot a 6 = .pointer (some ⟨X,0,none⟩)
 s8 : slot a 8 = .bool q
 s41 : slot a 41 = .slice p1 n1 c1
 s42 : slot a 42 = .int .i64 (n1 : Int)
 s43 : slot a 43 = .int .i64 (k : Int)
theorem FB.opens {a : Act} {F n1 n2 k c1 : Nat} {p1 : Option Addr} {X : Nat} {q : Bool} (h : FB a F n1 n2 k c1 p1 X q) : ∃ g : Nat → Value,a = ⟨#[g 0,.pointer (some ⟨F,0,none⟩),g 2,g 3,.int .i64 (n2 : Int),.int .i64 (k : Int),.pointer (some ⟨X,0,none⟩),g 7,.bool q,g 9,g 10,g 11,g 12,g 13,g 14,g 15,g 16,g 17,g 18,g 19,g 20,g 21,g 22,g 23,g 24,g 25,g 26,g 27,g 28,g 29,g 30,g 31,g 32,g 33,g 34,g 35,g 36,g 37,g 38,g 39,g 40,.slice p1 n1 c1,.int .i64 (n1 : Int),.int .i64 (k : Int),g 44,g 45,g 46,g 47,g 48,g 49,g 50,g 51,g 52,g 53,g 54,g 55,g 56,g 57,g 58,g 59,g 60,g 61,g 62,g 63,g 64,g 65,g 66,g 67,g 68,g 69,g 70,g 71,g 72,g 73,g 74,g 75,g 76,g 77,g 78,g 79,g 80,g 81,g 82,g 83,g 84,g 85,g 86,g 87,g 88,g 89,g 90,g 91,g 92,g 93,g 94,g 95,g 96,g 97,g 98,g 99,g 100,g 101,g 102,g 103,g 104,g 105,g 106,g 107,g 108,g 109,g 110,g 111,g 112,g 113,g 114,g 115,g 116,g 117,g 118,g 119,g 120,g 121,g 122,g 123,g 124,g 125,g 126,g 127,g 128,g 129,g 130,g 131,g 132,g 133,g 134,g 135,g 136,g 137,g 138,g 139,g 140,g 141,g 142,g 143,g 144,g 145,g 146,g 147,g 148,g 149,g 150,g 151,g 152,g 153,g 154,g 155,g 156,g 157,g 158,g 159,g 160,g 161,g 162,g 163,g 164,g 165,g 166,g 167,g 168,g 169,g 170,g 171,g 172,g 173,g 174,g 175,g 176,g 177,g 178,g 179,g 180,g 181,g 182,g 183,g 184,g 185,g 186,g 187,g 188,g 189,g 190,g 191,g 192,g 193,g 194,g 195,g 196,g 197,g 198,g 199,g 200,g 201,g 202,g 203,g 204,g 205,g 206,g 207,g 208,g 209,g 210,g 211,g 212,g 213,g 214,g 215,g 216,g 217,g 218,g 219,g 220,g 221,g 222,g 223,g 224,g 225,g 226,g 227,g 228,g 229,g 230,g 231,g 232,g 233,g 234,g 235,g 236,g 237,g 238,g 239,g 240,g 241,g 242,g 243,g 244,g 245,g 246,g 247,g 248,g 249,g 250,g 251,g 252,g 253,g 254,g 255,g 256,g 257],[]⟩ := by
 refine ⟨slot a,?_⟩
 have e := h.wide.opens
 rw [h.s1,h.s4,h.s5,h.s6,h.s8,h.s41,h.s42,h.s43] at e
 exact e
structure FS (a : Act) (F n1 n2 k c1 : Nat) (p1 : Option Addr) (X : Nat) (q : Bool) : Prop where
 wide : WdC a
 s1 : slot a 1 = .pointer (some ⟨F,0,none⟩)
 s4 : slot a 4 = .int .i64 (n2 : Int)
 s5 : slot a 5 = .int .i64 (k : Int)
 s6 : slot a 6 = .pointer (some ⟨X,0,none⟩)
 s11 : slot a 11 = .bool q
 s41 : slot a 41 = .slice p1 n1 c1
 s42 : slot a 42 = .int .i64 (n1 : Int)
 s43 : slot a 43 = .int .i64 (k : Int)
theorem FS.opens {a : Act} {F n1 n2 k c1 : Nat} {p1 : Option Addr} {X : Nat} {q : Bool} (h : FS a F n1 n2 k c1 p1 X q) : ∃ g : Nat → Value,a = ⟨#[g 0,.pointer (some ⟨F,0,none⟩),g 2,g 3,.int .i64 (n2 : Int),.int .i64 (k : Int),.pointer (some ⟨X,0,none⟩),g 7,g 8,g 9,g 10,.bool q,g 12,g 13,g 14,g 15,g 16,g 17,g 18,g 19,g 20,g 21,g 22,g 23,g 24,g 25,g 26,g 27,g 28,g 29,g 30,g 31,g 32,g 33,g 34,g 35,g 36,g 37,g 38,g 39,g 40,.slice p1 n1 c1,.int .i64 (n1 : Int),.int .i64 (k : Int),g 44,g 45,g 46,g 47,g 48,g 49,g 50,g 51,g 52,g 53,g 54,g 55,g 56,g 57,g 58,g 59,g 60,g 61,g 62,g 63,g 64,g 65,g 66,g 67,g 68,g 69,g 70,g 71,g 72,g 73,g 74,g 75,g 76,g 77,g 78,g 79,g 80,g 81,g 82,g 83,g 84,g 85,g 86,g 87,g 88,g 89,g 90,g 91,g 92,g 93,g 94,g 95,g 96,g 97,g 98,g 99,g 100,g 101,g 102,g 103,g 104,g 105,g 106,g 107,g 108,g 109,g 110,g 111,g 112,g 113,g 114,g 115,g 116,g 117,g 118,g 119,g 120,g 121,g 122,g 123,g 124,g 125,g 126,g 127,g 128,g 129,g 130,g 131,g 132,g 133,g 134,g 135,g 136,g 137,g 138,g 139,g 140,g 141,g 142,g 143,g 144,g 145,g 146,g 147,g 148,g 149,g 150,g 151,g 152,g 153,g 154,g 155,g 156,g 157,g 158,g 159,g 160,g 161,g 162,g 163,g 164,g 165,g 166,g 167,g 168,g 169,g 170,g 171,g 172,g 173,g 174,g 175,g 176,g 177,g 178,g 179,g 180,g 181,g 182,g 183,g 184,g 185,g 186,g 187,g 188,g 189,g 190,g 191,g 192,g 193,g 194,g 195,g 196,g 197,g 198,g 199,g 200,g 201,g 202,g 203,g 204,g 205,g 206,g 207,g 208,g 209,g 210,g 211,g 212,g 213,g 214,g 215,g 216,g 217,g 218,g 219,g 220,g 221,g 222,g 223,g 224,g 225,g 226,g 227,g 228,g 229,g 230,g 231,g 232,g 233,g 234,g 235,g 236,g 237,g 238,g 239,g 240,g 241,g 242,g 243,g 244,g 245,g 246,g 247,g 248,g 249,g 250,g 251,g 252,g 253,g 254,g 255,g 256,g 257],[]⟩ := by
 refine ⟨slot a,?_⟩
 have e := h.wide.opens
 rw [h.s1,h.s4,h.s5,h.s6,h.s11,h.s41,h.s42,h.s43] at e
 exact e
structure FT (a : Act) (F n1 n2 k c1 : Nat) (p1 : Option Addr) (X : Nat) (q t : Bool) : Prop where
 wide : WdC a
 s1 : slot a 1 = .pointer (some ⟨F,0,none⟩)
 s4 : slot a 4 = .int .i64 (n2 : Int)
 s5 : slot a 5 = .int .i64 (k : Int)
 s6 : slot a 6 = .pointer (some ⟨X,0,none⟩)
 s11 : slot a 11 = .bool q
 s14 : slot a 14 = .bool t
 s41 : slot a 41 = .slice p1 n1 c1
 s42 : slot a 42 = .int .i64 (n1 : Int)
 s43 : slot a 43 = .int .i64 (k : Int)
theorem FT.opens {a : Act} {F n1 n2 k c1 : Nat} {p1 : Option Addr} {X : Nat} {q t : Bool} (h : FT a F n1 n2 k c1 p1 X q t) : ∃ g : Nat → Value,a = ⟨#[g 0,.pointer (some ⟨F,0,none⟩),g 2,g 3,.int .i64 (n2 : Int),.int .i64 (k : Int),.pointer (some ⟨X,0,none⟩),g 7,g 8,g 9,g 10,.bool q,g 12,g 13,.bool t,g 15,g 16,g 17,g 18,g 19,g 20,g 21,g 22,g 23,g 24,g 25,g 26,g 27,g 28,g 29,g 30,g 31,g 32,g 33,g 34,g 35,g 36,g 37,g 38,g 39,g 40,.slice p1 n1 c1,.int .i64 (n1 : Int),.int .i64 (k : Int),g 44,g 45,g 46,g 47,g 48,g 49,g 50,g 51,g 52,g 53,g 54,g 55,g 56,g 57,g 58,g 59,g 60,g 61,g 62,g 63,g 64,g 65,g 66,g 67,g 68,g 69,g 70,g 71,g 72,g 73,g 74,g 75,g 76,g 77,g 78,g 79,g 80,g 81,g 82,g 83,g 84,g 85,g 86,g 87,g 88,g 89,g 90,g 91,g 92,g 93,g 94,g 95,g 96,g 97,g 98,g 99,g 100,g 101,g 102,g 103,g 104,g 105,g 106,g 107,g 108,g 109,g 110,g 111,g 112,g 113,g 114,g 115,g 116,g 117,g 118,g 119,g 120,g 121,g 122,g 123,g 124,g 125,g 126,g 127,g 128,g 129,g 130,g 131,g 132,g 133,g 134,g 135,g 136,g 137,g 138,g 139,g 140,g 141,g 142,g 143,g 144,g 145,g 146,g 147,g 148,g 149,g 150,g 151,g 152,g 153,g 154,g 155,g 156,g 157,g 158,g 159,g 160,g 161,g 162,g 163,g 164,g 165,g 166,g 167,g 168,g 169,g 170,g 171,g 172,g 173,g 174,g 175,g 176,g 177,g 178,g 179,g 180,g 181,g 182,g 183,g 184,g 185,g 186,g 187,g 188,g 189,g 190,g 191,g 192,g 193,g 194,g 195,g 196,g 197,g 198,g 199,g 200,g 201,g 202,g 203,g 204,g 205,g 206,g 207,g 208,g 209,g 210,g 211,g 212,g 213,g 214,g 215,g 216,g 217,g 218,g 219,g 220,g 221,g 222,g 223,g 224,g 225,g 226,g 227,g 228,g 229,g 230,g 231,g 232,g 233,g 234,g 235,g 236,g 237,g 238,g 239,g 240,g 241,g 242,g 243,g 244,g 245,g 246,g 247,g 248,g 249,g 250,g 251,g 252,g 253,g 254,g 255,g 256,g 257],[]⟩ := by
 refine ⟨slot a,?_⟩
 have e := h.wide.opens
 rw [h.s1,h.s4,h.s5,h.s6,h.s11,h.s14,h.s41,h.s42,h.s43] at e
 exact e
structure CW (w : World) (F B : Nat) (f : Fx) (s1 s2 s3 : Value) (X : Nat) (op d a b c imm : Int) : Prop where
 f : BoxF w F B f s1 s2 s3
 x : Bk w X [.int .i64 op,.int .i64 d,.int .i64 a,.int .i64 b,.int .i64 c,.int .i64 imm] 35
theorem CW.below {w w' : World} {F B : Nat} {f : Fx} {s1 s2 s3 : Value} {X : Nat} {op d a b c imm : Int} (h : CW w F B f s1 s2 s3 X op d a b c imm) (hb : Below w.heap.size w w') : CW w' F B f s1 s2 s3 X op d a b c imm := ⟨h.f.below hb,h.x.fs (Fs.of_below (l:=[]) hb) (by simp)⟩
structure FE (a : Act) (e k : Int) : Prop where
 wide : WdC a
 s2 : slot a 2 = .int .i64 e
 s3 : slot a 3 = .int .i64 k
end Go.Proofs.Ytpnacanbknejiaa.Fl
