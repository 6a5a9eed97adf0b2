/- The document's Block: its parts, and its frame of 250 places. Written by tools/gen_mcut.py. The document's Block: which kind it is. Written by tools/gen_msw.py. The document's Block: the two halves of a choice. Written by tools/gen_msw.py. The document's Block: a choice. Written by tools/gen_msw.py. The document's Block: a loop: its parts. Written by tools/gen_msw.py. The document's Block: a loop. Written by tools/gen_msw.py. The document's Block: a loop, whole. Written by tools/gen_msw.py. The document's Block: a statement that ends it. Written by tools/gen_msw.py. The document's Block: a name that is laid down. Written by tools/gen_msw.py. The document's Block: a name that is set. Written by tools/gen_msw.py. The document's Block: a place that is set. Written by tools/gen_msw.py. -/
import Derived.Test.YtemdnmfldihalaaDoorLmSpec
import Derived.Test.YtemdnmfldihalaaDoorLkLet
namespace Go.Proofs.YtemdnmfldihalaaDoor.Lr
set_option linter.unusedVariables false
set_option linter.unusedSimpArgs false
open Go.ChangeShapes Go.WideShapes Go.ChangeAt Go.RowKit Go.Maps Go.WideMaps Lg

def fstC : Code → Code
  | .seq a _ => a
  | _ => .skip
def sndC : Code → Code
  | .seq _ b => b
  | _ => .skip
def inC : Code → Code
  | .block _ c => c
  | _ => .skip
def rndC : Code → Code
  | .loop c => c
  | _ => .skip
def yesC : Code → Code
  | .cond _ a _ => a
  | _ => .skip
def noC : Code → Code
  | .cond _ _ b => b
  | _ => .skip
noncomputable def bAll : Code := Tryd.f24.body.getD .skip
/-- A round over the statements. -/
noncomputable def bRound : Code := rndC (inC (sndC (fstC (sndC (sndC (sndC bAll))))))
/-- What is done with one statement. -/
noncomputable def bOne : Code := inC (fstC (sndC (sndC bRound)))
/-- .. behind its expressions. -/
noncomputable def bBehind : Code := sndC (sndC (sndC (sndC (sndC bOne))))
/-- .. by its kind. -/
noncomputable def bKind : Code := inC (sndC (sndC (sndC bBehind)))
def slot (a : Act) (i : Nat) : Value := a.tmps.toList.getD i undef
structure Wide (a : Act) : Prop where
  len : a.tmps.toList.length = 250
  dfr : a.defers = []
theorem list250 (l : List Value) (h : l.length = 250) : l = (List.range 250).map (fun i => l.getD i undef) := by
  refine List.ext_getElem (by simp [h]) fun i h1 h2 => ?_
  rw [List.getElem_map, List.getElem_range, List.getD_eq_getElem?_getD, List.getElem?_eq_getElem h1, Option.getD_some]
/-- The frame while statements are gone over. -/
structure FB (a : Act) (k bI j : Nat) (dark : Bool) (p : Option Addr) (n c : Nat) : Prop where
  wide : Wide a
  s0 : slot a 0 = .pointer (some ⟨k, 0, none⟩)
  s3 : slot a 3 = .bool dark
  s9 : slot a 9 = .map (some bI)
  s39 : slot a 39 = .slice p n c
  s40 : slot a 40 = .int .i64 (n : Int)
  s41 : slot a 41 = .int .i64 (j : Int)
/-- .. while one is, behind its expressions. -/
structure FA (a : Act) (k bI j : Nat) (dark : Bool) (p : Option Addr) (n c bT : Nat) (sv : Value) : Prop where
  fb : FB a k bI j dark p n c
  s13 : slot a 13 = .pointer (some ⟨bT, 0, none⟩)
  s14 : slot a 14 = sv
/-- .. and behind what its name is. -/
structure FT (a : Act) (k bI j : Nat) (dark : Bool) (p : Option Addr) (n c bT : Nat) (sv : Value) (had arr : Bool) (kd : Int) : Prop where
  fa : FA a k bI j dark p n c bT sv
  s20 : slot a 20 = .bool had
  s22 : slot a 22 = .bool arr
  s98 : slot a 98 = .int .i64 kd
set_option maxRecDepth 100000 in
theorem Wide.opens {a : Act} (h : Wide a) : a = ⟨#[slot a 0, slot a 1, slot a 2, slot a 3, slot a 4, slot a 5, slot a 6, slot a 7, slot a 8, slot a 9, slot a 10, slot a 11, slot a 12, slot a 13, slot a 14, slot a 15, slot a 16, slot a 17, slot a 18, slot a 19, slot a 20, slot a 21, slot a 22, slot a 23, slot a 24, slot a 25, slot a 26, slot a 27, slot a 28, slot a 29, slot a 30, slot a 31, slot a 32, slot a 33, slot a 34, slot a 35, slot a 36, slot a 37, slot a 38, slot a 39, slot a 40, slot a 41, slot a 42, slot a 43, slot a 44, slot a 45, slot a 46, slot a 47, slot a 48, slot a 49, slot a 50, slot a 51, slot a 52, slot a 53, slot a 54, slot a 55, slot a 56, slot a 57, slot a 58, slot a 59, slot a 60, slot a 61, slot a 62, slot a 63, slot a 64, slot a 65, slot a 66, slot a 67, slot a 68, slot a 69, slot a 70, slot a 71, slot a 72, slot a 73, slot a 74, slot a 75, slot a 76, slot a 77, slot a 78, slot a 79, slot a 80, slot a 81, slot a 82, slot a 83, slot a 84, slot a 85, slot a 86, slot a 87, slot a 88, slot a 89, slot a 90, slot a 91, slot a 92, slot a 93, slot a 94, slot a 95, slot a 96, slot a 97, slot a 98, slot a 99, slot a 100, slot a 101, slot a 102, slot a 103, slot a 104, slot a 105, slot a 106, slot a 107, slot a 108, slot a 109, slot a 110, slot a 111, slot a 112, slot a 113, slot a 114, slot a 115, slot a 116, slot a 117, slot a 118, slot a 119, slot a 120, slot a 121, slot a 122, slot a 123, slot a 124, slot a 125, slot a 126, slot a 127, slot a 128, slot a 129, slot a 130, slot a 131, slot a 132, slot a 133, slot a 134, slot a 135, slot a 136, slot a 137, slot a 138, slot a 139, slot a 140, slot a 141, slot a 142, slot a 143, slot a 144, slot a 145, slot a 146, slot a 147, slot a 148, slot a 149, slot a 150, slot a 151, slot a 152, slot a 153, slot a 154, slot a 155, slot a 156, slot a 157, slot a 158, slot a 159, slot a 160, slot a 161, slot a 162, slot a 163, slot a 164, slot a 165, slot a 166, slot a 167, slot a 168, slot a 169, slot a 170, slot a 171, slot a 172, slot a 173, slot a 174, slot a 175, slot a 176, slot a 177, slot a 178, slot a 179, slot a 180, slot a 181, slot a 182, slot a 183, slot a 184, slot a 185, slot a 186, slot a 187, slot a 188, slot a 189, slot a 190, slot a 191, slot a 192, slot a 193, slot a 194, slot a 195, slot a 196, slot a 197, slot a 198, slot a 199, slot a 200, slot a 201, slot a 202, slot a 203, slot a 204, slot a 205, slot a 206, slot a 207, slot a 208, slot a 209, slot a 210, slot a 211, slot a 212, slot a 213, slot a 214, slot a 215, slot a 216, slot a 217, slot a 218, slot a 219, slot a 220, slot a 221, slot a 222, slot a 223, slot a 224, slot a 225, slot a 226, slot a 227, slot a 228, slot a 229, slot a 230, slot a 231, slot a 232, slot a 233, slot a 234, slot a 235, slot a 236, slot a 237, slot a 238, slot a 239, slot a 240, slot a 241, slot a 242, slot a 243, slot a 244, slot a 245, slot a 246, slot a 247, slot a 248, slot a 249], []⟩ := by
  obtain ⟨⟨l⟩, d⟩ := a
  obtain ⟨h1, h2⟩ := h
  dsimp only at h1 h2
  subst h2
  have e : (List.range 250).map (fun i => l.getD i undef) = [l.getD 0 undef, l.getD 1 undef, l.getD 2 undef, l.getD 3 undef, l.getD 4 undef, l.getD 5 undef, l.getD 6 undef, l.getD 7 undef, l.getD 8 undef, l.getD 9 undef, l.getD 10 undef, l.getD 11 undef, l.getD 12 undef, l.getD 13 undef, l.getD 14 undef, l.getD 15 undef, l.getD 16 undef, l.getD 17 undef, l.getD 18 undef, l.getD 19 undef, l.getD 20 undef, l.getD 21 undef, l.getD 22 undef, l.getD 23 undef, l.getD 24 undef, l.getD 25 undef, l.getD 26 undef, l.getD 27 undef, l.getD 28 undef, l.getD 29 undef, l.getD 30 undef, l.getD 31 undef, l.getD 32 undef, l.getD 33 undef, l.getD 34 undef, l.getD 35 undef, l.getD 36 undef, l.getD 37 undef, l.getD 38 undef, l.getD 39 undef, l.getD 40 undef, l.getD 41 undef, l.getD 42 undef, l.getD 43 undef, l.getD 44 undef, l.getD 45 undef, l.getD 46 undef, l.getD 47 undef, l.getD 48 undef, l.getD 49 undef, l.getD 50 undef, l.getD 51 undef, l.getD 52 undef, l.getD 53 undef, l.getD 54 undef, l.getD 55 undef, l.getD 56 undef, l.getD 57 undef, l.getD 58 undef, l.getD 59 undef, l.getD 60 undef, l.getD 61 undef, l.getD 62 undef, l.getD 63 undef, l.getD 64 undef, l.getD 65 undef, l.getD 66 undef, l.getD 67 undef, l.getD 68 undef, l.getD 69 undef, l.getD 70 undef, l.getD 71 undef, l.getD 72 undef, l.getD 73 undef, l.getD 74 undef, l.getD 75 undef, l.getD 76 undef, l.getD 77 undef, l.getD 78 undef, l.getD 79 undef, l.getD 80 undef, l.getD 81 undef, l.getD 82 undef, l.getD 83 undef, l.getD 84 undef, l.getD 85 undef, l.getD 86 undef, l.getD 87 undef, l.getD 88 undef, l.getD 89 undef, l.getD 90 undef, l.getD 91 undef, l.getD 92 undef, l.getD 93 undef, l.getD 94 undef, l.getD 95 undef, l.getD 96 undef, l.getD 97 undef, l.getD 98 undef, l.getD 99 undef, l.getD 100 undef, l.getD 101 undef, l.getD 102 undef, l.getD 103 undef, l.getD 104 undef, l.getD 105 undef, l.getD 106 undef, l.getD 107 undef, l.getD 108 undef, l.getD 109 undef, l.getD 110 undef, l.getD 111 undef, l.getD 112 undef, l.getD 113 undef, l.getD 114 undef, l.getD 115 undef, l.getD 116 undef, l.getD 117 undef, l.getD 118 undef, l.getD 119 undef, l.getD 120 undef, l.getD 121 undef, l.getD 122 undef, l.getD 123 undef, l.getD 124 undef, l.getD 125 undef, l.getD 126 undef, l.getD 127 undef, l.getD 128 undef, l.getD 129 undef, l.getD 130 undef, l.getD 131 undef, l.getD 132 undef, l.getD 133 undef, l.getD 134 undef, l.getD 135 undef, l.getD 136 undef, l.getD 137 undef, l.getD 138 undef, l.getD 139 undef, l.getD 140 undef, l.getD 141 undef, l.getD 142 undef, l.getD 143 undef, l.getD 144 undef, l.getD 145 undef, l.getD 146 undef, l.getD 147 undef, l.getD 148 undef, l.getD 149 undef, l.getD 150 undef, l.getD 151 undef, l.getD 152 undef, l.getD 153 undef, l.getD 154 undef, l.getD 155 undef, l.getD 156 undef, l.getD 157 undef, l.getD 158 undef, l.getD 159 undef, l.getD 160 undef, l.getD 161 undef, l.getD 162 undef, l.getD 163 undef, l.getD 164 undef, l.getD 165 undef, l.getD 166 undef, l.getD 167 undef, l.getD 168 undef, l.getD 169 undef, l.getD 170 undef, l.getD 171 undef, l.getD 172 undef, l.getD 173 undef, l.getD 174 undef, l.getD 175 undef, l.getD 176 undef, l.getD 177 undef, l.getD 178 undef, l.getD 179 undef, l.getD 180 undef, l.getD 181 undef, l.getD 182 undef, l.getD 183 undef, l.getD 184 undef, l.getD 185 undef, l.getD 186 undef, l.getD 187 undef, l.getD 188 undef, l.getD 189 undef, l.getD 190 undef, l.getD 191 undef, l.getD 192 undef, l.getD 193 undef, l.getD 194 undef, l.getD 195 undef, l.getD 196 undef, l.getD 197 undef, l.getD 198 undef, l.getD 199 undef, l.getD 200 undef, l.getD 201 undef, l.getD 202 undef, l.getD 203 undef, l.getD 204 undef, l.getD 205 undef, l.getD 206 undef, l.getD 207 undef, l.getD 208 undef, l.getD 209 undef, l.getD 210 undef, l.getD 211 undef, l.getD 212 undef, l.getD 213 undef, l.getD 214 undef, l.getD 215 undef, l.getD 216 undef, l.getD 217 undef, l.getD 218 undef, l.getD 219 undef, l.getD 220 undef, l.getD 221 undef, l.getD 222 undef, l.getD 223 undef, l.getD 224 undef, l.getD 225 undef, l.getD 226 undef, l.getD 227 undef, l.getD 228 undef, l.getD 229 undef, l.getD 230 undef, l.getD 231 undef, l.getD 232 undef, l.getD 233 undef, l.getD 234 undef, l.getD 235 undef, l.getD 236 undef, l.getD 237 undef, l.getD 238 undef, l.getD 239 undef, l.getD 240 undef, l.getD 241 undef, l.getD 242 undef, l.getD 243 undef, l.getD 244 undef, l.getD 245 undef, l.getD 246 undef, l.getD 247 undef, l.getD 248 undef, l.getD 249 undef] := by kernel_rfl
  have e2 := (list250 l h1).trans e
  exact congrArg (fun x : List Value => (⟨⟨x⟩, []⟩ : Act)) e2
set_option maxRecDepth 100000 in
theorem FB.opens {a : Act} {k bI j : Nat} {dark : Bool} {p : Option Addr} {n c : Nat} (h : FB a k bI j dark p n c) : ∃ g : Nat → Value, a = ⟨#[.pointer (some ⟨k, 0, none⟩), g 1, g 2, .bool dark, g 4, g 5, g 6, g 7, g 8, .map (some bI), g 10, g 11, g 12, g 13, g 14, g 15, g 16, g 17, g 18, g 19, g 20, g 21, g 22, g 23, g 24, g 25, g 26, g 27, g 28, g 29, g 30, g 31, g 32, g 33, g 34, g 35, g 36, g 37, g 38, .slice p n c, .int .i64 (n : Int), .int .i64 (j : Int), g 42, g 43, g 44, g 45, g 46, g 47, g 48, g 49, g 50, g 51, g 52, g 53, g 54, g 55, g 56, g 57, g 58, g 59, g 60, g 61, g 62, g 63, g 64, g 65, g 66, g 67, g 68, g 69, g 70, g 71, g 72, g 73, g 74, g 75, g 76, g 77, g 78, g 79, g 80, g 81, g 82, g 83, g 84, g 85, g 86, g 87, g 88, g 89, g 90, g 91, g 92, g 93, g 94, g 95, g 96, g 97, g 98, g 99, g 100, g 101, g 102, g 103, g 104, g 105, g 106, g 107, g 108, g 109, g 110, g 111, g 112, g 113, g 114, g 115, g 116, g 117, g 118, g 119, g 120, g 121, g 122, g 123, g 124, g 125, g 126, g 127, g 128, g 129, g 130, g 131, g 132, g 133, g 134, g 135, g 136, g 137, g 138, g 139, g 140, g 141, g 142, g 143, g 144, g 145, g 146, g 147, g 148, g 149, g 150, g 151, g 152, g 153, g 154, g 155, g 156, g 157, g 158, g 159, g 160, g 161, g 162, g 163, g 164, g 165, g 166, g 167, g 168, g 169, g 170, g 171, g 172, g 173, g 174, g 175, g 176, g 177, g 178, g 179, g 180, g 181, g 182, g 183, g 184, g 185, g 186, g 187, g 188, g 189, g 190, g 191, g 192, g 193, g 194, g 195, g 196, g 197, g 198, g 199, g 200, g 201, g 202, g 203, g 204, g 205, g 206, g 207, g 208, g 209, g 210, g 211, g 212, g 213, g 214, g 215, g 216, g 217, g 218, g 219, g 220, g 221, g 222, g 223, g 224, g 225, g 226, g 227, g 228, g 229, g 230, g 231, g 232, g 233, g 234, g 235, g 236, g 237, g 238, g 239, g 240, g 241, g 242, g 243, g 244, g 245, g 246, g 247, g 248, g 249], []⟩ := by
  refine ⟨slot a, ?_⟩
  have e := h.wide.opens
  rw [h.s0, h.s3, h.s9, h.s39, h.s40, h.s41] at e
  exact e
set_option maxRecDepth 100000 in
theorem FA.opens {a : Act} {k bI j : Nat} {dark : Bool} {p : Option Addr} {n c bT : Nat} {sv : Value} (h : FA a k bI j dark p n c bT sv) : ∃ g : Nat → Value, a = ⟨#[.pointer (some ⟨k, 0, none⟩), g 1, g 2, .bool dark, g 4, g 5, g 6, g 7, g 8, .map (some bI), g 10, g 11, g 12, .pointer (some ⟨bT, 0, none⟩), sv, g 15, g 16, g 17, g 18, g 19, g 20, g 21, g 22, g 23, g 24, g 25, g 26, g 27, g 28, g 29, g 30, g 31, g 32, g 33, g 34, g 35, g 36, g 37, g 38, .slice p n c, .int .i64 (n : Int), .int .i64 (j : Int), g 42, g 43, g 44, g 45, g 46, g 47, g 48, g 49, g 50, g 51, g 52, g 53, g 54, g 55, g 56, g 57, g 58, g 59, g 60, g 61, g 62, g 63, g 64, g 65, g 66, g 67, g 68, g 69, g 70, g 71, g 72, g 73, g 74, g 75, g 76, g 77, g 78, g 79, g 80, g 81, g 82, g 83, g 84, g 85, g 86, g 87, g 88, g 89, g 90, g 91, g 92, g 93, g 94, g 95, g 96, g 97, g 98, g 99, g 100, g 101, g 102, g 103, g 104, g 105, g 106, g 107, g 108, g 109, g 110, g 111, g 112, g 113, g 114, g 115, g 116, g 117, g 118, g 119, g 120, g 121, g 122, g 123, g 124, g 125, g 126, g 127, g 128, g 129, g 130, g 131, g 132, g 133, g 134, g 135, g 136, g 137, g 138, g 139, g 140, g 141, g 142, g 143, g 144, g 145, g 146, g 147, g 148, g 149, g 150, g 151, g 152, g 153, g 154, g 155, g 156, g 157, g 158, g 159, g 160, g 161, g 162, g 163, g 164, g 165, g 166, g 167, g 168, g 169, g 170, g 171, g 172, g 173, g 174, g 175, g 176, g 177, g 178, g 179, g 180, g 181, g 182, g 183, g 184, g 185, g 186, g 187, g 188, g 189, g 190, g 191, g 192, g 193, g 194, g 195, g 196, g 197, g 198, g 199, g 200, g 201, g 202, g 203, g 204, g 205, g 206, g 207, g 208, g 209, g 210, g 211, g 212, g 213, g 214, g 215, g 216, g 217, g 218, g 219, g 220, g 221, g 222, g 223, g 224, g 225, g 226, g 227, g 228, g 229, g 230, g 231, g 232, g 233, g 234, g 235, g 236, g 237, g 238, g 239, g 240, g 241, g 242, g 243, g 244, g 245, g 246, g 247, g 248, g 249], []⟩ := by
  refine ⟨slot a, ?_⟩
  have e := h.fb.wide.opens
  rw [h.fb.s0, h.fb.s3, h.fb.s9, h.s13, h.s14, h.fb.s39, h.fb.s40, h.fb.s41] at e
  exact e
set_option maxRecDepth 100000 in
theorem FT.opens {a : Act} {k bI j : Nat} {dark : Bool} {p : Option Addr} {n c bT : Nat} {sv : Value} {had arr : Bool} {kd : Int} (h : FT a k bI j dark p n c bT sv had arr kd) : ∃ g : Nat → Value, a = ⟨#[.pointer (some ⟨k, 0, none⟩), g 1, g 2, .bool dark, g 4, g 5, g 6, g 7, g 8, .map (some bI), g 10, g 11, g 12, .pointer (some ⟨bT, 0, none⟩), sv, g 15, g 16, g 17, g 18, g 19, .bool had, g 21, .bool arr, g 23, g 24, g 25, g 26, g 27, g 28, g 29, g 30, g 31, g 32, g 33, g 34, g 35, g 36, g 37, g 38, .slice p n c, .int .i64 (n : Int), .int .i64 (j : Int), g 42, g 43, g 44, g 45, g 46, g 47, g 48, g 49, g 50, g 51, g 52, g 53, g 54, g 55, g 56, g 57, g 58, g 59, g 60, g 61, g 62, g 63, g 64, g 65, g 66, g 67, g 68, g 69, g 70, g 71, g 72, g 73, g 74, g 75, g 76, g 77, g 78, g 79, g 80, g 81, g 82, g 83, g 84, g 85, g 86, g 87, g 88, g 89, g 90, g 91, g 92, g 93, g 94, g 95, g 96, g 97, .int .i64 kd, g 99, g 100, g 101, g 102, g 103, g 104, g 105, g 106, g 107, g 108, g 109, g 110, g 111, g 112, g 113, g 114, g 115, g 116, g 117, g 118, g 119, g 120, g 121, g 122, g 123, g 124, g 125, g 126, g 127, g 128, g 129, g 130, g 131, g 132, g 133, g 134, g 135, g 136, g 137, g 138, g 139, g 140, g 141, g 142, g 143, g 144, g 145, g 146, g 147, g 148, g 149, g 150, g 151, g 152, g 153, g 154, g 155, g 156, g 157, g 158, g 159, g 160, g 161, g 162, g 163, g 164, g 165, g 166, g 167, g 168, g 169, g 170, g 171, g 172, g 173, g 174, g 175, g 176, g 177, g 178, g 179, g 180, g 181, g 182, g 183, g 184, g 185, g 186, g 187, g 188, g 189, g 190, g 191, g 192, g 193, g 194, g 195, g 196, g 197, g 198, g 199, g 200, g 201, g 202, g 203, g 204, g 205, g 206, g 207, g 208, g 209, g 210, g 211, g 212, g 213, g 214, g 215, g 216, g 217, g 218, g 219, g 220, g 221, g 222, g 223, g 224, g 225, g 226, g 227, g 228, g 229, g 230, g 231, g 232, g 233, g 234, g 235, g 236, g 237, g 238, g 239, g 240, g 241, g 242, g 243, g 244, g 245, g 246, g 247, g 248, g 249], []⟩ := by
  refine ⟨slot a, ?_⟩
  have e := h.fa.fb.wide.opens
  rw [h.fa.fb.s0, h.fa.fb.s3, h.fa.fb.s9, h.fa.s13, h.fa.s14, h.s20, h.s22, h.fa.fb.s39, h.fa.fb.s40, h.fa.fb.s41, h.s98] at e
  exact e

/-- What comes of a part of a block: on it goes, or it ends with a fault. -/
def BkP (N : Act → World → Prop) (R : Int → World → Prop) (e : Exit) (a : Act) (w : World) : Prop := (e = .normal ∧ N a w) ∨ (e = .ret ∧ ∃ x, Wide a ∧ slot a 8 = .int .i64 x ∧ R x w)
/-- How the checker stands within a block. -/
structure KS (w0 w : World) (k bA nA bI nI : Nat) (rs : List Vr) (ks : Ks) : Prop where
  kk : KK w k bA nA rs ks.work ks.lets
  mp : MapN w bI nI ks.ns
  fs : Fs [k] w0 w
  few : Few ks.ns ks.work ks.lets
  nn : nI ≤ 1000 + ks.work
/-- What comes of a statement. -/
def SwP (w0 : World) (k bA nA bI j : Nat) (dark : Bool) (p : Option Addr) (n c : Nat) (rs : List Vr) (res : Except Int Ks) : Exit → Act → World → Prop :=
  BkP (fun a w => FB a k bI j dark p n c ∧ ∃ k1 nI, res = .ok k1 ∧ KS w0 w k bA nA bI nI rs k1) (fun x w => res = .error x ∧ Fs [k] w0 w)
theorem SwP.err {w0 : World} {k bA nA bI j : Nat} {dark : Bool} {p : Option Addr} {n c : Nat} {rs : List Vr} {res : Except Int Ks} {a : Act} {w : World} {x : Int} (h1 : Wide a) (h2 : slot a 8 = .int .i64 x) (h3 : res = .error x) (h4 : Fs [k] w0 w) : SwP w0 k bA nA bI j dark p n c rs res .ret a w := .inr ⟨rfl, x, h1, h2, h3, h4⟩
theorem SwP.ok {w0 : World} {k bA nA bI j : Nat} {dark : Bool} {p : Option Addr} {n c : Nat} {rs : List Vr} {res : Except Int Ks} {a : Act} {w : World} {k1 : Ks} {nI : Nat} (h1 : FB a k bI j dark p n c) (h3 : res = .ok k1) (h4 : KS w0 w k bA nA bI nI rs k1) : SwP w0 k bA nA bI j dark p n c rs res .normal a w := .inl ⟨rfl, h1, k1, nI, h3, h4⟩
/-- The map of names has turned, and nothing else. -/
theorem ks_map {w0 w1 w2 : World} {k bA nA bI nI wk lt : Nat} {rs : List Vr} {ns : List Nm} (hF : Fs [k] w0 w1) (hkk : KK w1 k bA nA rs wk lt) (hk0 : k < w0.heap.size) (hI0 : w0.heap.size ≤ bI) (hN : MapN w2 bI nI ns) (hg : w1.grownBy w2 (some bI)) (hfew : Few ns wk lt) (hnn : nI ≤ 1000 + wk) : KS w0 w2 k bA nA bI nI rs ⟨ns, wk, lt⟩ := by
  have hb : ∀ i, i < w0.heap.size → w2.heap[i]? = w1.heap[i]? := fun i hi => hg.block i (by have := hF.size; omega) (fun e => by have := Option.some.inj e; omega)
  refine ⟨⟨?_, hkk.arr.stay (hb bA (by have := hkk.lt; omega)), hkk.lt⟩, hN, ⟨hg.os.trans hF.os, hg.tape.trans hF.tape, hg.output.trans hF.output, Nat.le_trans hF.size hg.size, fun i hi hn => (hb i hi).trans (hF.block i hi hn)⟩, hfew, hnn⟩
  have h := hkk.box
  unfold Bk at h ⊢
  rw [hb k hk0]; exact h
theorem none_of {α : Type} {o : Option α} (h : o.isSome = false) : o = none := by
  cases o with
  | none => rfl
  | some u => cases h
theorem field0 (x y : Bool) (w : World) : (Instr.field 60 (.agg #[.bool x, .bool y]) 0).run Tryd.prog w = .ok (.bool x) w := by kernel_rfl
theorem field1 (x y : Bool) (w : World) : (Instr.field 60 (.agg #[.bool x, .bool y]) 1).run Tryd.prog w = .ok (.bool y) w := by kernel_rfl
theorem KS.below {w0 w w' : World} {k bA nA bI nI : Nat} {rs : List Vr} {ks : Ks} (h : KS w0 w k bA nA bI nI rs ks) (hb : Below w.heap.size w w') : KS w0 w' k bA nA bI nI rs ks := ⟨h.kk.below hb, h.mp.below hb, h.fs.trans (Fs.of_below hb), h.few, h.nn⟩
theorem cell_old {w w' : World} (hb : Below w.heap.size w w') {g o : Nat} {v : Value} (h : w.cell? ⟨g, o, none⟩ = some v) (hg : g < w.heap.size) : w'.cell? ⟨g, o, none⟩ = some v := by rw [cell_below hb hg]; exact h
theorem place_three (rs : List Vr) (dark : Bool) (x : List UInt8) (q : Ex) (s : Bool) : placeK rs dark x q s = .error 6 ∨ placeK rs dark x q s = .error 10 ∨ ∃ to, placeK rs dark x q s = .ok to := by
  unfold placeK
  cases byV rs x with
  | none => exact .inl rfl
  | some v =>
    dsimp only
    split
    · exact .inr (.inl rfl)
    · exact .inr (.inr ⟨_, rfl⟩)
noncomputable def bSet : Code := noC (sndC bKind)
noncomputable def bPut : Code := noC (sndC bSet)
noncomputable def bIf : Code := noC (sndC bPut)
noncomputable def bFor : Code := noC (sndC bIf)
/-- A choice's two halves. -/
noncomputable def bThen : Code := fstC (yesC (sndC bIf))
noncomputable def bElse : Code := sndC (yesC (sndC bIf))
/-- What comes of a block within a block. -/
def HfP (w : World) (k bA nA bI j : Nat) (dark : Bool) (p : Option Addr) (n c bT : Nat) (sv : Value) (rs : List Vr) (res : Except Int Ks) : Exit → Act → World → Prop :=
  BkP (fun a w' => FA a k bI j dark p n c bT sv ∧ ∃ k1, res = .ok k1 ∧ KK w' k bA nA rs k1.work k1.lets ∧ Fs [k] w w') (fun x w' => res = .error x ∧ Fs [k] w w')
theorem HfP.err {w : World} {k bA nA bI j : Nat} {dark : Bool} {p : Option Addr} {n c bT : Nat} {sv : Value} {rs : List Vr} {res : Except Int Ks} {a : Act} {w' : World} {x : Int} (h1 : Wide a) (h2 : slot a 8 = .int .i64 x) (h3 : res = .error x) (h4 : Fs [k] w w') : HfP w k bA nA bI j dark p n c bT sv rs res .ret a w' := .inr ⟨rfl, x, h1, h2, h3, h4⟩
theorem HfP.ok {w : World} {k bA nA bI j : Nat} {dark : Bool} {p : Option Addr} {n c bT : Nat} {sv : Value} {rs : List Vr} {res : Except Int Ks} {a : Act} {w' : World} {k1 : Ks} (h1 : FA a k bI j dark p n c bT sv) (h3 : res = .ok k1) (h4 : KK w' k bA nA rs k1.work k1.lets) (h5 : Fs [k] w w') : HfP w k bA nA bI j dark p n c bT sv rs res .normal a w' := .inl ⟨rfl, h1, k1, h3, h4, h5⟩
theorem cell_fs {k : Nat} {w w' : World} (hf : Fs [k] w w') {g o : Nat} {v : Value} (h : w.cell? ⟨g, o, none⟩ = some v) (hg : g < w.heap.size) (hk : g ≠ k) : w'.cell? ⟨g, o, none⟩ = some v := by
  rw [World.cell?_of_block (hf.block g hg (by simpa using hk))]; exact h
theorem block_nz (rs : List Vr) (m : Nat) (dark : Bool) (l : List St) (k : Ks) (h : Few k.ns k.work k.lets) {e : Int} (he : blockK (stmtK rs m dark) l k = .error e) : ¬ e = 0 :=
  (block_gd l (fun u _ k a b => stmt_gd rs m dark u k a b) k h.2.1 h.2.2).1 e he
/-- 'm[x]', without a word on whether it is there. -/
theorem MapN.look1 {w : World} {b n : Nat} {ns : List Nm} (h : MapN w b n ns) (x : List UInt8) (hx : x.length ≤ maxLen) :
    (Instr.lookup 58 (.map (some b)) (.string ⟨x.toArray⟩) false).run Tryd.prog w = .ok (valN (nmO (byN ns x))) w := by
  obtain ⟨D, h1, h2⟩ := h
  obtain ⟨u, ps, hrun, hr⟩ := h1.lookup str_keyed Tryd.underlying58 (zeroN w) (rdN_val _) (key_str hx)
  rw [hrun]
  cases hb : byN ns x with
  | none =>
    have h3 := (h2 x).1 hb
    rw [atKey_of_not_has h3] at hr
    rw [rdN_inv hr]; rfl
  | some v =>
    obtain ⟨h3, h4⟩ := (h2 x).2 v hb
    rw [h4] at hr
    rw [rdN_inv hr]; rfl
end Go.Proofs.YtemdnmfldihalaaDoor.Lr
namespace Go.Proofs.YtemdnmfldihalaaDoor.Lr
set_option linter.unusedVariables false
set_option linter.unusedSimpArgs false
open Go.ChangeShapes Go.WideShapes Go.ChangeAt Go.RowKit Go.Maps Go.WideMaps Lg

theorem eval_slot (a : Act) (i : Nat) : a.eval (.tmp i) = slot a i := by
  obtain ⟨⟨l⟩, d⟩ := a
  show (Array.mk l).getD i undef = l.getD i undef
  rw [List.getD_eq_getElem?_getD, Array.getD_eq_getD_getElem?, List.getElem?_toArray]
set_option maxHeartbeats 4000000 in
set_option maxRecDepth 100000 in
theorem no_let {Q : Exit → Act → World → Prop} {w : World} {a : Act} {k bI j : Nat} {dark : Bool} {p : Option Addr} {n c bT : Nat} {sv : Value} {had arr : Bool} {kd : Int} (hF : FT a k bI j dark p n c bT sv had arr kd) (hk : ¬ kd = 1) (hq : ∀ a', FT a' k bI j dark p n c bT sv had arr kd → bSet.wp Tryd.prog Q a' w) : bKind.wp Tryd.prog Q a w := by
  show (Code.seq (fstC bKind) (Code.cond (.tmp 99) (yesC (sndC bKind)) bSet)).wp Tryd.prog Q a w
  have h : (fstC bKind).wp Tryd.prog (fun e a' w' => e = .normal ∧ w' = w ∧ FT a' k bI j dark p n c bT sv had arr kd ∧ slot a' 99 = .bool false) a w := by
    obtain ⟨g, rfl⟩ := hF.opens
    have d1 : (kd == 1) = false := by simpa using hk
    clear hF hq hk
    conv => arg 2; whnf
    go_wp2
    exact ⟨⟨⟨⟨⟨rfl, rfl⟩, rfl, rfl, rfl, rfl, rfl, rfl⟩, rfl, rfl⟩, rfl, rfl, rfl⟩, rfl⟩
  refine wp_seq (wp_mono h ?_)
  rintro e a' w' ⟨rfl, rfl, hF', hs⟩
  exact wp_cond_false (by rw [eval_slot]; exact hs) (hq a' hF')
set_option maxHeartbeats 4000000 in
set_option maxRecDepth 100000 in
theorem no_set {Q : Exit → Act → World → Prop} {w : World} {a : Act} {k bI j : Nat} {dark : Bool} {p : Option Addr} {n c bT : Nat} {sv : Value} {had arr : Bool} {kd : Int} (hF : FT a k bI j dark p n c bT sv had arr kd) (hk : ¬ kd = 2) (hq : ∀ a', FT a' k bI j dark p n c bT sv had arr kd → bPut.wp Tryd.prog Q a' w) : bSet.wp Tryd.prog Q a w := by
  show (Code.seq (fstC bSet) (Code.cond (.tmp 134) (yesC (sndC bSet)) bPut)).wp Tryd.prog Q a w
  have h : (fstC bSet).wp Tryd.prog (fun e a' w' => e = .normal ∧ w' = w ∧ FT a' k bI j dark p n c bT sv had arr kd ∧ slot a' 134 = .bool false) a w := by
    obtain ⟨g, rfl⟩ := hF.opens
    have d1 : (kd == 2) = false := by simpa using hk
    clear hF hq hk
    conv => arg 2; whnf
    go_wp2
    exact ⟨⟨⟨⟨⟨rfl, rfl⟩, rfl, rfl, rfl, rfl, rfl, rfl⟩, rfl, rfl⟩, rfl, rfl, rfl⟩, rfl⟩
  refine wp_seq (wp_mono h ?_)
  rintro e a' w' ⟨rfl, rfl, hF', hs⟩
  exact wp_cond_false (by rw [eval_slot]; exact hs) (hq a' hF')
set_option maxHeartbeats 4000000 in
set_option maxRecDepth 100000 in
theorem no_put {Q : Exit → Act → World → Prop} {w : World} {a : Act} {k bI j : Nat} {dark : Bool} {p : Option Addr} {n c bT : Nat} {sv : Value} {had arr : Bool} {kd : Int} (hF : FT a k bI j dark p n c bT sv had arr kd) (hk : ¬ kd = 3) (hq : ∀ a', FT a' k bI j dark p n c bT sv had arr kd → bIf.wp Tryd.prog Q a' w) : bPut.wp Tryd.prog Q a w := by
  show (Code.seq (fstC bPut) (Code.cond (.tmp 159) (yesC (sndC bPut)) bIf)).wp Tryd.prog Q a w
  have h : (fstC bPut).wp Tryd.prog (fun e a' w' => e = .normal ∧ w' = w ∧ FT a' k bI j dark p n c bT sv had arr kd ∧ slot a' 159 = .bool false) a w := by
    obtain ⟨g, rfl⟩ := hF.opens
    have d1 : (kd == 3) = false := by simpa using hk
    clear hF hq hk
    conv => arg 2; whnf
    go_wp2
    exact ⟨⟨⟨⟨⟨rfl, rfl⟩, rfl, rfl, rfl, rfl, rfl, rfl⟩, rfl, rfl⟩, rfl, rfl, rfl⟩, rfl⟩
  refine wp_seq (wp_mono h ?_)
  rintro e a' w' ⟨rfl, rfl, hF', hs⟩
  exact wp_cond_false (by rw [eval_slot]; exact hs) (hq a' hF')
set_option maxHeartbeats 4000000 in
set_option maxRecDepth 100000 in
theorem no_if {Q : Exit → Act → World → Prop} {w : World} {a : Act} {k bI j : Nat} {dark : Bool} {p : Option Addr} {n c bT : Nat} {sv : Value} {had arr : Bool} {kd : Int} (hF : FT a k bI j dark p n c bT sv had arr kd) (hk : ¬ kd = 4) (hq : ∀ a', FT a' k bI j dark p n c bT sv had arr kd → bFor.wp Tryd.prog Q a' w) : bIf.wp Tryd.prog Q a w := by
  show (Code.seq (fstC bIf) (Code.cond (.tmp 189) (yesC (sndC bIf)) bFor)).wp Tryd.prog Q a w
  have h : (fstC bIf).wp Tryd.prog (fun e a' w' => e = .normal ∧ w' = w ∧ FT a' k bI j dark p n c bT sv had arr kd ∧ slot a' 189 = .bool false) a w := by
    obtain ⟨g, rfl⟩ := hF.opens
    have d1 : (kd == 4) = false := by simpa using hk
    clear hF hq hk
    conv => arg 2; whnf
    go_wp2
    exact ⟨⟨⟨⟨⟨rfl, rfl⟩, rfl, rfl, rfl, rfl, rfl, rfl⟩, rfl, rfl⟩, rfl, rfl, rfl⟩, rfl⟩
  refine wp_seq (wp_mono h ?_)
  rintro e a' w' ⟨rfl, rfl, hF', hs⟩
  exact wp_cond_false (by rw [eval_slot]; exact hs) (hq a' hF')
set_option maxHeartbeats 4000000 in
set_option maxRecDepth 100000 in
theorem yes_if {Q : Exit → Act → World → Prop} {w : World} {a : Act} {k bI j : Nat} {dark : Bool} {p : Option Addr} {n c bT : Nat} {sv : Value} {had arr : Bool} (hF : FT a k bI j dark p n c bT sv had arr 4) (hq : ∀ a', FT a' k bI j dark p n c bT sv had arr 4 → (yesC (sndC bIf)).wp Tryd.prog Q a' w) : bIf.wp Tryd.prog Q a w := by
  show (Code.seq (fstC bIf) (Code.cond (.tmp 189) (yesC (sndC bIf)) (noC (sndC bIf)))).wp Tryd.prog Q a w
  have h : (fstC bIf).wp Tryd.prog (fun e a' w' => e = .normal ∧ w' = w ∧ FT a' k bI j dark p n c bT sv had arr 4 ∧ slot a' 189 = .bool true) a w := by
    obtain ⟨g, rfl⟩ := hF.opens
    clear hF hq
    conv => arg 2; whnf
    go_wp2
    exact ⟨⟨⟨⟨⟨rfl, rfl⟩, rfl, rfl, rfl, rfl, rfl, rfl⟩, rfl, rfl⟩, rfl, rfl, rfl⟩, rfl⟩
  refine wp_seq (wp_mono h ?_)
  rintro e a' w' ⟨rfl, rfl, hF', hs⟩
  exact wp_cond_true (by rw [eval_slot]; exact hs) (hq a' hF')
set_option maxHeartbeats 4000000 in
set_option maxRecDepth 100000 in
theorem yes_for {Q : Exit → Act → World → Prop} {w : World} {a : Act} {k bI j : Nat} {dark : Bool} {p : Option Addr} {n c bT : Nat} {sv : Value} {had arr : Bool} (hF : FT a k bI j dark p n c bT sv had arr 5) (hq : ∀ a', FT a' k bI j dark p n c bT sv had arr 5 → (yesC (sndC bFor)).wp Tryd.prog Q a' w) : bFor.wp Tryd.prog Q a w := by
  show (Code.seq (fstC bFor) (Code.cond (.tmp 219) (yesC (sndC bFor)) (noC (sndC bFor)))).wp Tryd.prog Q a w
  have h : (fstC bFor).wp Tryd.prog (fun e a' w' => e = .normal ∧ w' = w ∧ FT a' k bI j dark p n c bT sv had arr 5 ∧ slot a' 219 = .bool true) a w := by
    obtain ⟨g, rfl⟩ := hF.opens
    clear hF hq
    conv => arg 2; whnf
    go_wp2
    exact ⟨⟨⟨⟨⟨rfl, rfl⟩, rfl, rfl, rfl, rfl, rfl, rfl⟩, rfl, rfl⟩, rfl, rfl, rfl⟩, rfl⟩
  refine wp_seq (wp_mono h ?_)
  rintro e a' w' ⟨rfl, rfl, hF', hs⟩
  exact wp_cond_true (by rw [eval_slot]; exact hs) (hq a' hF')
end Go.Proofs.YtemdnmfldihalaaDoor.Lr
namespace Go.Proofs.YtemdnmfldihalaaDoor.Lr
set_option linter.unusedVariables false
set_option linter.unusedSimpArgs false
open Go.ChangeShapes Go.WideShapes Go.ChangeAt Go.RowKit Go.Maps Go.WideMaps Lg

set_option maxHeartbeats 8000000 in
set_option maxRecDepth 100000 in
theorem sw_then (m K B : Nat) (hKB : KBlock m) (w : World) (k bA nA bI nI j : Nat) (dark s : Bool) (p : Option Addr) (n c bT gS cS : Nat) (p2 : Option Addr) (n2 c2 : Nat) (rs : List Vr) (ns : List Nm) (wk lt : Nat) (l : List St) (a : Act)
    (hF : FA a k bI j dark p n c bT (.slice (some ⟨gS, 0, none⟩) 1 cS)) (hT : w.cell? ⟨bT, 5, none⟩ = some (.slice p2 n2 c2)) (hTl : bT < w.heap.size) (hTk : bT ≠ k) (hS : w.cell? ⟨gS, 0, none⟩ = some (.bool s)) (hSl : gS < w.heap.size) (hSk : gS ≠ k)
    (hmK : m ≤ K) (hm : m ≤ 10) (hwf : ∀ t ∈ l, wfS m t) (hkk : KK w k bA nA rs wk lt) (hmp : MapN w bI nI ns) (hIk : bI ≠ k) (hnn : nI ≤ 1000 + wk) (hfew : Few ns wk lt) (hBk : B ≤ k) (hi : StIs w B 10 (K + 1) l (.slice p2 n2 c2)) :
    bThen.wp Tryd.prog (HfP w k bA nA bI j dark p n c bT (.slice (some ⟨gS, 0, none⟩) 1 cS) rs (blockK (stmtK rs m (s || dark)) l ⟨ns, wk, lt⟩)) a w := by
  obtain ⟨g, rfl⟩ := hF.opens
  have HSS : Hid (∀ W' : World, Fs [k] w W' → (W'.cell? ⟨bT, 5, none⟩ = some (.slice p2 n2 c2) ∧ W'.cell? ⟨gS, 0, none⟩ = some (.bool s))) := fun W' hb => ⟨cell_fs hb hT hTl hTk, cell_fs hb hS hSl hSk⟩
  have HC := keep (fun W' (hb : Below w.heap.size w W') => hKB K B k bA nA bI nI rs ns wk lt (s || dark) l (.slice p2 n2 c2) W' hmK hm hwf (hkk.below hb) (hmp.below hb) hIk hnn hfew hBk (hi.below (hb.mono (by have := hkk.box.lt; omega))))
  have HNz := keep (fun (e : Int) (h : blockK (stmtK rs m (s || dark)) l ⟨ns, wk, lt⟩ = .error e) => block_nz rs m (s || dark) l ⟨ns, wk, lt⟩ hfew h)
  clear hF hT hTl hTk hS hSl hSk hkk hmp hfew hi hKB hwf
  conv => arg 2; whnf
  cases dark with
  | true =>
    rw [Bool.or_true] at HC HNz ⊢
    go_wp2_with fail
    refine wp_region_noPanic ?_
    refine Ord.wpM_begin (fun W' : World => W'.cell? ⟨bT, 5, none⟩ = some (.slice p2 n2 c2) ∧ W'.cell? ⟨gS, 0, none⟩ = some (.bool s)) [0, 1, 2, 3, 4, 5, 6, 7, 8, 9, 10, 11] (by kernel_rfl) ?_
    have HB4 : Hid (Fs [k] w w.drew) := Fs.of_below (Below.drew (Below.refl _ _))
    have HC4 : Hid (Below w.heap.size w w.drew) := Below.drew (Below.refl _ _)
    generalize w.drew = w4 at *
    have hS := HSS.out w4 HB4.out
    refine Ord.wpM_take (i := 0) (v := .pointer (some ⟨k, 0, none⟩)) (by simp only [List.getElem?_toArray, List.getElem?_cons_zero, List.getElem?_cons_succ]; rfl) (by kernel_rfl) (by kernel_rfl) (by kernel_rfl) (by kernel_rfl) (fun _ _ _ h => h) (Or.inl ⟨by rfl, by intro W' hW; obtain ⟨q0, q1⟩ := hW; go_simp⟩) hS ?_
    try simp only [Act.put, List.setIfInBounds_toArray, List.set_cons_zero, List.set_cons_succ]
    refine Ord.wpM_take (i := 1) (v := .pointer (some ⟨bT, 5, none⟩)) (by simp only [List.getElem?_toArray, List.getElem?_cons_zero, List.getElem?_cons_succ]; rfl) (by kernel_rfl) (by kernel_rfl) (by kernel_rfl) (by kernel_rfl) (fun _ _ _ h => h) (Or.inl ⟨by rfl, by intro W' hW; obtain ⟨q0, q1⟩ := hW; go_simp⟩) hS ?_
    try simp only [Act.put, List.setIfInBounds_toArray, List.set_cons_zero, List.set_cons_succ]
    refine Ord.wpM_take (i := 2) (v := .slice p2 n2 c2) (by simp only [List.getElem?_toArray, List.getElem?_cons_zero, List.getElem?_cons_succ]; rfl) (by kernel_rfl) (by kernel_rfl) (by kernel_rfl) (by kernel_rfl) (fun _ _ _ h => h) (Or.inl ⟨by rfl, by intro W' hW; obtain ⟨q0, q1⟩ := hW; go_simp⟩) hS ?_
    try simp only [Act.put, List.setIfInBounds_toArray, List.set_cons_zero, List.set_cons_succ]
    refine Ord.wpM_take (i := 3) (v := .map (some bI)) (by simp only [List.getElem?_toArray, List.getElem?_cons_zero, List.getElem?_cons_succ]; rfl) (by kernel_rfl) (by kernel_rfl) (by kernel_rfl) (by kernel_rfl) (fun _ _ _ h => h) (Or.inl ⟨by rfl, by intro W' hW; obtain ⟨q0, q1⟩ := hW; go_simp⟩) hS ?_
    try simp only [Act.put, List.setIfInBounds_toArray, List.set_cons_zero, List.set_cons_succ]
    refine Ord.wpM_take (i := 4) (v := .bool true) (by simp only [List.getElem?_toArray, List.getElem?_cons_zero, List.getElem?_cons_succ]; rfl) (by kernel_rfl) (by kernel_rfl) (by kernel_rfl) (by kernel_rfl) (fun _ _ _ h => h) (Or.inl ⟨by rfl, by intro W' hW; obtain ⟨q0, q1⟩ := hW; go_simp⟩) hS ?_
    try simp only [Act.put, List.setIfInBounds_toArray, List.set_cons_zero, List.set_cons_succ]
    refine Ord.wpM_take (i := 5) (v := .bool true) (by simp only [List.getElem?_toArray, List.getElem?_cons_zero, List.getElem?_cons_succ]; rfl) (by kernel_rfl) (by kernel_rfl) (by kernel_rfl) (by kernel_rfl) (fun _ _ _ h => h) (Or.inl ⟨by rfl, by intro W' hW; obtain ⟨q0, q1⟩ := hW; go_simp⟩) hS ?_
    try simp only [Act.put, List.setIfInBounds_toArray, List.set_cons_zero, List.set_cons_succ]
    refine Ord.wpM_take (i := 6) (v := undef) (by simp only [List.getElem?_toArray, List.getElem?_cons_zero, List.getElem?_cons_succ]; rfl) (by kernel_rfl) (by kernel_rfl) (by kernel_rfl) (by kernel_rfl) (fun _ _ _ h => h) (Or.inr ⟨by rfl, rfl⟩) hS ?_
    try simp only [Act.put, List.setIfInBounds_toArray, List.set_cons_zero, List.set_cons_succ]
    refine Ord.wpM_take (i := 7) (v := undef) (by simp only [List.getElem?_toArray, List.getElem?_cons_zero, List.getElem?_cons_succ]; rfl) (by kernel_rfl) (by kernel_rfl) (by kernel_rfl) (by kernel_rfl) (fun _ _ _ h => h) (Or.inr ⟨by rfl, rfl⟩) hS ?_
    try simp only [Act.put, List.setIfInBounds_toArray, List.set_cons_zero, List.set_cons_succ]
    refine Ord.wpM_take (i := 8) (v := undef) (by simp only [List.getElem?_toArray, List.getElem?_cons_zero, List.getElem?_cons_succ]; rfl) (by kernel_rfl) (by kernel_rfl) (by kernel_rfl) (by kernel_rfl) (fun _ _ _ h => h) (Or.inr ⟨by rfl, rfl⟩) hS ?_
    try simp only [Act.put, List.setIfInBounds_toArray, List.set_cons_zero, List.set_cons_succ]
    refine Ord.wpM_take (i := 9) (v := .bool true) (by simp only [List.getElem?_toArray, List.getElem?_cons_zero, List.getElem?_cons_succ]; rfl) (by kernel_rfl) (by kernel_rfl) (by kernel_rfl) (by kernel_rfl) (fun _ _ _ h => h) (Or.inl ⟨by rfl, by intro W' hW; obtain ⟨q0, q1⟩ := hW; go_simp⟩) hS ?_
    try simp only [Act.put, List.setIfInBounds_toArray, List.set_cons_zero, List.set_cons_succ]
    refine Ord.wpM_one (i := 10) (by kernel_rfl) (by simp only [List.getElem?_toArray, List.getElem?_cons_zero, List.getElem?_cons_succ]; rfl) (fun K hK => ?_)
    go_simp
    refine (HC.out w4 HC4.out).mono ?_
    rintro r w5 ⟨rfl, hf5, hk5⟩
    have HF5 := keep (HB4.out.trans hf5)
    have HK5 := keep hk5
    obtain ⟨res, hres⟩ : ∃ r, blockK (stmtK rs m true) l ⟨ns, wk, lt⟩ = r := ⟨_, rfl⟩
    rw [hres] at HNz HK5 ⊢
    have HRes := keep hres
    clear hf5 hk5 HC hS HB4 HC4 hres
    obtain ⟨re, hre⟩ : ∃ b, resK res = b := ⟨_, rfl⟩
    rw [hre]
    have HRe := keep hre
    clear hre
    go_simp
    refine hK.out _ _ (fun _ => HSS.out _ HF5.out) ?_
    clear hK K
    try simp only [Act.put, List.setIfInBounds_toArray, List.set_cons_zero, List.set_cons_succ]
    refine Ord.wpM_one (i := 11) (by kernel_rfl) (by simp only [List.getElem?_toArray, List.getElem?_cons_zero, List.getElem?_cons_succ]; rfl) (fun K hK => ?_)
    go_simp
    refine hK.out _ _ (fun _ => HSS.out _ HF5.out) ?_
    clear hK K
    try simp only [Act.put, List.setIfInBounds_toArray, List.set_cons_zero, List.set_cons_succ]
    refine Ord.wpM_done (by kernel_rfl) ?_ _
    refine NoPanic.normal ?_
    clear HSS
    cases res with
    | error e =>
      have e1 : re = e := HRe.out.symm
      subst e1
      have d2 : (re != 0) = true := by simpa using HNz.out re rfl
      go_wp2
      exact .err ⟨rfl, rfl⟩ rfl HRes.out HF5.out
    | ok k1 =>
      have e1 : re = 0 := HRe.out.symm
      subst e1
      go_wp2
      exact .ok ⟨⟨⟨rfl, rfl⟩, rfl, rfl, rfl, rfl, rfl, rfl⟩, rfl, rfl⟩ HRes.out (HK5.out k1 rfl) HF5.out
  | false =>
    rw [Bool.or_false] at HC HNz ⊢
    go_wp2_with fail
    refine wp_region_noPanic ?_
    refine Ord.wpM_begin (fun W' : World => W'.cell? ⟨bT, 5, none⟩ = some (.slice p2 n2 c2) ∧ W'.cell? ⟨gS, 0, none⟩ = some (.bool s)) [0, 1, 2, 3, 4, 5, 6, 7, 8, 9, 10, 11] (by kernel_rfl) ?_
    have HB4 : Hid (Fs [k] w w.drew) := Fs.of_below (Below.drew (Below.refl _ _))
    have HC4 : Hid (Below w.heap.size w w.drew) := Below.drew (Below.refl _ _)
    generalize w.drew = w4 at *
    have hS := HSS.out w4 HB4.out
    refine Ord.wpM_take (i := 0) (v := .pointer (some ⟨k, 0, none⟩)) (by simp only [List.getElem?_toArray, List.getElem?_cons_zero, List.getElem?_cons_succ]; rfl) (by kernel_rfl) (by kernel_rfl) (by kernel_rfl) (by kernel_rfl) (fun _ _ _ h => h) (Or.inl ⟨by rfl, by intro W' hW; obtain ⟨q0, q1⟩ := hW; go_simp⟩) hS ?_
    try simp only [Act.put, List.setIfInBounds_toArray, List.set_cons_zero, List.set_cons_succ]
    refine Ord.wpM_take (i := 1) (v := .pointer (some ⟨bT, 5, none⟩)) (by simp only [List.getElem?_toArray, List.getElem?_cons_zero, List.getElem?_cons_succ]; rfl) (by kernel_rfl) (by kernel_rfl) (by kernel_rfl) (by kernel_rfl) (fun _ _ _ h => h) (Or.inl ⟨by rfl, by intro W' hW; obtain ⟨q0, q1⟩ := hW; go_simp⟩) hS ?_
    try simp only [Act.put, List.setIfInBounds_toArray, List.set_cons_zero, List.set_cons_succ]
    refine Ord.wpM_take (i := 2) (v := .slice p2 n2 c2) (by simp only [List.getElem?_toArray, List.getElem?_cons_zero, List.getElem?_cons_succ]; rfl) (by kernel_rfl) (by kernel_rfl) (by kernel_rfl) (by kernel_rfl) (fun _ _ _ h => h) (Or.inl ⟨by rfl, by intro W' hW; obtain ⟨q0, q1⟩ := hW; go_simp⟩) hS ?_
    try simp only [Act.put, List.setIfInBounds_toArray, List.set_cons_zero, List.set_cons_succ]
    refine Ord.wpM_take (i := 3) (v := .map (some bI)) (by simp only [List.getElem?_toArray, List.getElem?_cons_zero, List.getElem?_cons_succ]; rfl) (by kernel_rfl) (by kernel_rfl) (by kernel_rfl) (by kernel_rfl) (fun _ _ _ h => h) (Or.inl ⟨by rfl, by intro W' hW; obtain ⟨q0, q1⟩ := hW; go_simp⟩) hS ?_
    try simp only [Act.put, List.setIfInBounds_toArray, List.set_cons_zero, List.set_cons_succ]
    refine Ord.wpM_take (i := 4) (v := .bool false) (by simp only [List.getElem?_toArray, List.getElem?_cons_zero, List.getElem?_cons_succ]; rfl) (by kernel_rfl) (by kernel_rfl) (by kernel_rfl) (by kernel_rfl) (fun _ _ _ h => h) (Or.inl ⟨by rfl, by intro W' hW; obtain ⟨q0, q1⟩ := hW; go_simp⟩) hS ?_
    try simp only [Act.put, List.setIfInBounds_toArray, List.set_cons_zero, List.set_cons_succ]
    refine Ord.wpM_take (i := 5) (v := .bool false) (by simp only [List.getElem?_toArray, List.getElem?_cons_zero, List.getElem?_cons_succ]; rfl) (by kernel_rfl) (by kernel_rfl) (by kernel_rfl) (by kernel_rfl) (fun _ _ _ h => h) (Or.inl ⟨by rfl, by intro W' hW; obtain ⟨q0, q1⟩ := hW; go_simp⟩) hS ?_
    try simp only [Act.put, List.setIfInBounds_toArray, List.set_cons_zero, List.set_cons_succ]
    refine Ord.wpM_take (i := 6) (v := .slice (some ⟨gS, 0, none⟩) 1 cS) (by simp only [List.getElem?_toArray, List.getElem?_cons_zero, List.getElem?_cons_succ]; rfl) (by kernel_rfl) (by kernel_rfl) (by kernel_rfl) (by kernel_rfl) (fun _ _ _ h => h) (Or.inl ⟨by rfl, by intro W' hW; obtain ⟨q0, q1⟩ := hW; go_simp⟩) hS ?_
    try simp only [Act.put, List.setIfInBounds_toArray, List.set_cons_zero, List.set_cons_succ]
    refine Ord.wpM_take (i := 7) (v := .pointer (some ⟨gS, 0, none⟩)) (by simp only [List.getElem?_toArray, List.getElem?_cons_zero, List.getElem?_cons_succ]; rfl) (by kernel_rfl) (by kernel_rfl) (by kernel_rfl) (by kernel_rfl) (fun _ _ _ h => h) (Or.inl ⟨by rfl, by intro W' hW; obtain ⟨q0, q1⟩ := hW; go_simp⟩) hS ?_
    try simp only [Act.put, List.setIfInBounds_toArray, List.set_cons_zero, List.set_cons_succ]
    refine Ord.wpM_take (i := 8) (v := .bool s) (by simp only [List.getElem?_toArray, List.getElem?_cons_zero, List.getElem?_cons_succ]; rfl) (by kernel_rfl) (by kernel_rfl) (by kernel_rfl) (by kernel_rfl) (fun _ _ _ h => h) (Or.inl ⟨by rfl, by intro W' hW; obtain ⟨q0, q1⟩ := hW; go_simp⟩) hS ?_
    try simp only [Act.put, List.setIfInBounds_toArray, List.set_cons_zero, List.set_cons_succ]
    refine Ord.wpM_take (i := 9) (v := .bool s) (by simp only [List.getElem?_toArray, List.getElem?_cons_zero, List.getElem?_cons_succ]; rfl) (by kernel_rfl) (by kernel_rfl) (by kernel_rfl) (by kernel_rfl) (fun _ _ _ h => h) (Or.inl ⟨by rfl, by intro W' hW; obtain ⟨q0, q1⟩ := hW; go_simp⟩) hS ?_
    try simp only [Act.put, List.setIfInBounds_toArray, List.set_cons_zero, List.set_cons_succ]
    refine Ord.wpM_one (i := 10) (by kernel_rfl) (by simp only [List.getElem?_toArray, List.getElem?_cons_zero, List.getElem?_cons_succ]; rfl) (fun K hK => ?_)
    go_simp
    refine (HC.out w4 HC4.out).mono ?_
    rintro r w5 ⟨rfl, hf5, hk5⟩
    have HF5 := keep (HB4.out.trans hf5)
    have HK5 := keep hk5
    obtain ⟨res, hres⟩ : ∃ r, blockK (stmtK rs m s) l ⟨ns, wk, lt⟩ = r := ⟨_, rfl⟩
    rw [hres] at HNz HK5 ⊢
    have HRes := keep hres
    clear hf5 hk5 HC hS HB4 HC4 hres
    obtain ⟨re, hre⟩ : ∃ b, resK res = b := ⟨_, rfl⟩
    rw [hre]
    have HRe := keep hre
    clear hre
    go_simp
    refine hK.out _ _ (fun _ => HSS.out _ HF5.out) ?_
    clear hK K
    try simp only [Act.put, List.setIfInBounds_toArray, List.set_cons_zero, List.set_cons_succ]
    refine Ord.wpM_one (i := 11) (by kernel_rfl) (by simp only [List.getElem?_toArray, List.getElem?_cons_zero, List.getElem?_cons_succ]; rfl) (fun K hK => ?_)
    go_simp
    refine hK.out _ _ (fun _ => HSS.out _ HF5.out) ?_
    clear hK K
    try simp only [Act.put, List.setIfInBounds_toArray, List.set_cons_zero, List.set_cons_succ]
    refine Ord.wpM_done (by kernel_rfl) ?_ _
    refine NoPanic.normal ?_
    clear HSS
    cases res with
    | error e =>
      have e1 : re = e := HRe.out.symm
      subst e1
      have d2 : (re != 0) = true := by simpa using HNz.out re rfl
      go_wp2
      exact .err ⟨rfl, rfl⟩ rfl HRes.out HF5.out
    | ok k1 =>
      have e1 : re = 0 := HRe.out.symm
      subst e1
      go_wp2
      exact .ok ⟨⟨⟨rfl, rfl⟩, rfl, rfl, rfl, rfl, rfl, rfl⟩, rfl, rfl⟩ HRes.out (HK5.out k1 rfl) HF5.out
set_option maxHeartbeats 8000000 in
set_option maxRecDepth 100000 in
theorem sw_else (m K B : Nat) (hKB : KBlock m) (w : World) (k bA nA bI nI j : Nat) (dark s : Bool) (p : Option Addr) (n c bT gS cS : Nat) (p2 : Option Addr) (n2 c2 : Nat) (rs : List Vr) (ns : List Nm) (wk lt : Nat) (l : List St) (a : Act)
    (hF : FA a k bI j dark p n c bT (.slice (some ⟨gS, 0, none⟩) 1 cS)) (hT : w.cell? ⟨bT, 6, none⟩ = some (.slice p2 n2 c2)) (hTl : bT < w.heap.size) (hTk : bT ≠ k) (hS : w.cell? ⟨gS, 0, none⟩ = some (.bool s)) (hSl : gS < w.heap.size) (hSk : gS ≠ k)
    (hmK : m ≤ K) (hm : m ≤ 10) (hwf : ∀ t ∈ l, wfS m t) (hkk : KK w k bA nA rs wk lt) (hmp : MapN w bI nI ns) (hIk : bI ≠ k) (hnn : nI ≤ 1000 + wk) (hfew : Few ns wk lt) (hBk : B ≤ k) (hi : StIs w B 10 (K + 1) l (.slice p2 n2 c2)) :
    bElse.wp Tryd.prog (HfP w k bA nA bI j dark p n c bT (.slice (some ⟨gS, 0, none⟩) 1 cS) rs (blockK (stmtK rs m (s || dark)) l ⟨ns, wk, lt⟩)) a w := by
  obtain ⟨g, rfl⟩ := hF.opens
  have HSS : Hid (∀ W' : World, Fs [k] w W' → (W'.cell? ⟨bT, 6, none⟩ = some (.slice p2 n2 c2) ∧ W'.cell? ⟨gS, 0, none⟩ = some (.bool s))) := fun W' hb => ⟨cell_fs hb hT hTl hTk, cell_fs hb hS hSl hSk⟩
  have HC := keep (fun W' (hb : Below w.heap.size w W') => hKB K B k bA nA bI nI rs ns wk lt (s || dark) l (.slice p2 n2 c2) W' hmK hm hwf (hkk.below hb) (hmp.below hb) hIk hnn hfew hBk (hi.below (hb.mono (by have := hkk.box.lt; omega))))
  have HNz := keep (fun (e : Int) (h : blockK (stmtK rs m (s || dark)) l ⟨ns, wk, lt⟩ = .error e) => block_nz rs m (s || dark) l ⟨ns, wk, lt⟩ hfew h)
  clear hF hT hTl hTk hS hSl hSk hkk hmp hfew hi hKB hwf
  conv => arg 2; whnf
  cases dark with
  | true =>
    rw [Bool.or_true] at HC HNz ⊢
    go_wp2_with fail
    refine wp_region_noPanic ?_
    refine Ord.wpM_begin (fun W' : World => W'.cell? ⟨bT, 6, none⟩ = some (.slice p2 n2 c2) ∧ W'.cell? ⟨gS, 0, none⟩ = some (.bool s)) [0, 1, 2, 3, 4, 5, 6, 7, 8, 9, 10, 11] (by kernel_rfl) ?_
    have HB4 : Hid (Fs [k] w w.drew) := Fs.of_below (Below.drew (Below.refl _ _))
    have HC4 : Hid (Below w.heap.size w w.drew) := Below.drew (Below.refl _ _)
    generalize w.drew = w4 at *
    have hS := HSS.out w4 HB4.out
    refine Ord.wpM_take (i := 0) (v := .pointer (some ⟨k, 0, none⟩)) (by simp only [List.getElem?_toArray, List.getElem?_cons_zero, List.getElem?_cons_succ]; rfl) (by kernel_rfl) (by kernel_rfl) (by kernel_rfl) (by kernel_rfl) (fun _ _ _ h => h) (Or.inl ⟨by rfl, by intro W' hW; obtain ⟨q0, q1⟩ := hW; go_simp⟩) hS ?_
    try simp only [Act.put, List.setIfInBounds_toArray, List.set_cons_zero, List.set_cons_succ]
    refine Ord.wpM_take (i := 1) (v := .pointer (some ⟨bT, 6, none⟩)) (by simp only [List.getElem?_toArray, List.getElem?_cons_zero, List.getElem?_cons_succ]; rfl) (by kernel_rfl) (by kernel_rfl) (by kernel_rfl) (by kernel_rfl) (fun _ _ _ h => h) (Or.inl ⟨by rfl, by intro W' hW; obtain ⟨q0, q1⟩ := hW; go_simp⟩) hS ?_
    try simp only [Act.put, List.setIfInBounds_toArray, List.set_cons_zero, List.set_cons_succ]
    refine Ord.wpM_take (i := 2) (v := .slice p2 n2 c2) (by simp only [List.getElem?_toArray, List.getElem?_cons_zero, List.getElem?_cons_succ]; rfl) (by kernel_rfl) (by kernel_rfl) (by kernel_rfl) (by kernel_rfl) (fun _ _ _ h => h) (Or.inl ⟨by rfl, by intro W' hW; obtain ⟨q0, q1⟩ := hW; go_simp⟩) hS ?_
    try simp only [Act.put, List.setIfInBounds_toArray, List.set_cons_zero, List.set_cons_succ]
    refine Ord.wpM_take (i := 3) (v := .map (some bI)) (by simp only [List.getElem?_toArray, List.getElem?_cons_zero, List.getElem?_cons_succ]; rfl) (by kernel_rfl) (by kernel_rfl) (by kernel_rfl) (by kernel_rfl) (fun _ _ _ h => h) (Or.inl ⟨by rfl, by intro W' hW; obtain ⟨q0, q1⟩ := hW; go_simp⟩) hS ?_
    try simp only [Act.put, List.setIfInBounds_toArray, List.set_cons_zero, List.set_cons_succ]
    refine Ord.wpM_take (i := 4) (v := .bool true) (by simp only [List.getElem?_toArray, List.getElem?_cons_zero, List.getElem?_cons_succ]; rfl) (by kernel_rfl) (by kernel_rfl) (by kernel_rfl) (by kernel_rfl) (fun _ _ _ h => h) (Or.inl ⟨by rfl, by intro W' hW; obtain ⟨q0, q1⟩ := hW; go_simp⟩) hS ?_
    try simp only [Act.put, List.setIfInBounds_toArray, List.set_cons_zero, List.set_cons_succ]
    refine Ord.wpM_take (i := 5) (v := .bool true) (by simp only [List.getElem?_toArray, List.getElem?_cons_zero, List.getElem?_cons_succ]; rfl) (by kernel_rfl) (by kernel_rfl) (by kernel_rfl) (by kernel_rfl) (fun _ _ _ h => h) (Or.inl ⟨by rfl, by intro W' hW; obtain ⟨q0, q1⟩ := hW; go_simp⟩) hS ?_
    try simp only [Act.put, List.setIfInBounds_toArray, List.set_cons_zero, List.set_cons_succ]
    refine Ord.wpM_take (i := 6) (v := undef) (by simp only [List.getElem?_toArray, List.getElem?_cons_zero, List.getElem?_cons_succ]; rfl) (by kernel_rfl) (by kernel_rfl) (by kernel_rfl) (by kernel_rfl) (fun _ _ _ h => h) (Or.inr ⟨by rfl, rfl⟩) hS ?_
    try simp only [Act.put, List.setIfInBounds_toArray, List.set_cons_zero, List.set_cons_succ]
    refine Ord.wpM_take (i := 7) (v := undef) (by simp only [List.getElem?_toArray, List.getElem?_cons_zero, List.getElem?_cons_succ]; rfl) (by kernel_rfl) (by kernel_rfl) (by kernel_rfl) (by kernel_rfl) (fun _ _ _ h => h) (Or.inr ⟨by rfl, rfl⟩) hS ?_
    try simp only [Act.put, List.setIfInBounds_toArray, List.set_cons_zero, List.set_cons_succ]
    refine Ord.wpM_take (i := 8) (v := undef) (by simp only [List.getElem?_toArray, List.getElem?_cons_zero, List.getElem?_cons_succ]; rfl) (by kernel_rfl) (by kernel_rfl) (by kernel_rfl) (by kernel_rfl) (fun _ _ _ h => h) (Or.inr ⟨by rfl, rfl⟩) hS ?_
    try simp only [Act.put, List.setIfInBounds_toArray, List.set_cons_zero, List.set_cons_succ]
    refine Ord.wpM_take (i := 9) (v := .bool true) (by simp only [List.getElem?_toArray, List.getElem?_cons_zero, List.getElem?_cons_succ]; rfl) (by kernel_rfl) (by kernel_rfl) (by kernel_rfl) (by kernel_rfl) (fun _ _ _ h => h) (Or.inl ⟨by rfl, by intro W' hW; obtain ⟨q0, q1⟩ := hW; go_simp⟩) hS ?_
    try simp only [Act.put, List.setIfInBounds_toArray, List.set_cons_zero, List.set_cons_succ]
    refine Ord.wpM_one (i := 10) (by kernel_rfl) (by simp only [List.getElem?_toArray, List.getElem?_cons_zero, List.getElem?_cons_succ]; rfl) (fun K hK => ?_)
    go_simp
    refine (HC.out w4 HC4.out).mono ?_
    rintro r w5 ⟨rfl, hf5, hk5⟩
    have HF5 := keep (HB4.out.trans hf5)
    have HK5 := keep hk5
    obtain ⟨res, hres⟩ : ∃ r, blockK (stmtK rs m true) l ⟨ns, wk, lt⟩ = r := ⟨_, rfl⟩
    rw [hres] at HNz HK5 ⊢
    have HRes := keep hres
    clear hf5 hk5 HC hS HB4 HC4 hres
    obtain ⟨re, hre⟩ : ∃ b, resK res = b := ⟨_, rfl⟩
    rw [hre]
    have HRe := keep hre
    clear hre
    go_simp
    refine hK.out _ _ (fun _ => HSS.out _ HF5.out) ?_
    clear hK K
    try simp only [Act.put, List.setIfInBounds_toArray, List.set_cons_zero, List.set_cons_succ]
    refine Ord.wpM_one (i := 11) (by kernel_rfl) (by simp only [List.getElem?_toArray, List.getElem?_cons_zero, List.getElem?_cons_succ]; rfl) (fun K hK => ?_)
    go_simp
    refine hK.out _ _ (fun _ => HSS.out _ HF5.out) ?_
    clear hK K
    try simp only [Act.put, List.setIfInBounds_toArray, List.set_cons_zero, List.set_cons_succ]
    refine Ord.wpM_done (by kernel_rfl) ?_ _
    refine NoPanic.normal ?_
    clear HSS
    cases res with
    | error e =>
      have e1 : re = e := HRe.out.symm
      subst e1
      have d2 : (re != 0) = true := by simpa using HNz.out re rfl
      go_wp2
      exact .err ⟨rfl, rfl⟩ rfl HRes.out HF5.out
    | ok k1 =>
      have e1 : re = 0 := HRe.out.symm
      subst e1
      go_wp2
      exact .ok ⟨⟨⟨rfl, rfl⟩, rfl, rfl, rfl, rfl, rfl, rfl⟩, rfl, rfl⟩ HRes.out (HK5.out k1 rfl) HF5.out
  | false =>
    rw [Bool.or_false] at HC HNz ⊢
    go_wp2_with fail
    refine wp_region_noPanic ?_
    refine Ord.wpM_begin (fun W' : World => W'.cell? ⟨bT, 6, none⟩ = some (.slice p2 n2 c2) ∧ W'.cell? ⟨gS, 0, none⟩ = some (.bool s)) [0, 1, 2, 3, 4, 5, 6, 7, 8, 9, 10, 11] (by kernel_rfl) ?_
    have HB4 : Hid (Fs [k] w w.drew) := Fs.of_below (Below.drew (Below.refl _ _))
    have HC4 : Hid (Below w.heap.size w w.drew) := Below.drew (Below.refl _ _)
    generalize w.drew = w4 at *
    have hS := HSS.out w4 HB4.out
    refine Ord.wpM_take (i := 0) (v := .pointer (some ⟨k, 0, none⟩)) (by simp only [List.getElem?_toArray, List.getElem?_cons_zero, List.getElem?_cons_succ]; rfl) (by kernel_rfl) (by kernel_rfl) (by kernel_rfl) (by kernel_rfl) (fun _ _ _ h => h) (Or.inl ⟨by rfl, by intro W' hW; obtain ⟨q0, q1⟩ := hW; go_simp⟩) hS ?_
    try simp only [Act.put, List.setIfInBounds_toArray, List.set_cons_zero, List.set_cons_succ]
    refine Ord.wpM_take (i := 1) (v := .pointer (some ⟨bT, 6, none⟩)) (by simp only [List.getElem?_toArray, List.getElem?_cons_zero, List.getElem?_cons_succ]; rfl) (by kernel_rfl) (by kernel_rfl) (by kernel_rfl) (by kernel_rfl) (fun _ _ _ h => h) (Or.inl ⟨by rfl, by intro W' hW; obtain ⟨q0, q1⟩ := hW; go_simp⟩) hS ?_
    try simp only [Act.put, List.setIfInBounds_toArray, List.set_cons_zero, List.set_cons_succ]
    refine Ord.wpM_take (i := 2) (v := .slice p2 n2 c2) (by simp only [List.getElem?_toArray, List.getElem?_cons_zero, List.getElem?_cons_succ]; rfl) (by kernel_rfl) (by kernel_rfl) (by kernel_rfl) (by kernel_rfl) (fun _ _ _ h => h) (Or.inl ⟨by rfl, by intro W' hW; obtain ⟨q0, q1⟩ := hW; go_simp⟩) hS ?_
    try simp only [Act.put, List.setIfInBounds_toArray, List.set_cons_zero, List.set_cons_succ]
    refine Ord.wpM_take (i := 3) (v := .map (some bI)) (by simp only [List.getElem?_toArray, List.getElem?_cons_zero, List.getElem?_cons_succ]; rfl) (by kernel_rfl) (by kernel_rfl) (by kernel_rfl) (by kernel_rfl) (fun _ _ _ h => h) (Or.inl ⟨by rfl, by intro W' hW; obtain ⟨q0, q1⟩ := hW; go_simp⟩) hS ?_
    try simp only [Act.put, List.setIfInBounds_toArray, List.set_cons_zero, List.set_cons_succ]
    refine Ord.wpM_take (i := 4) (v := .bool false) (by simp only [List.getElem?_toArray, List.getElem?_cons_zero, List.getElem?_cons_succ]; rfl) (by kernel_rfl) (by kernel_rfl) (by kernel_rfl) (by kernel_rfl) (fun _ _ _ h => h) (Or.inl ⟨by rfl, by intro W' hW; obtain ⟨q0, q1⟩ := hW; go_simp⟩) hS ?_
    try simp only [Act.put, List.setIfInBounds_toArray, List.set_cons_zero, List.set_cons_succ]
    refine Ord.wpM_take (i := 5) (v := .bool false) (by simp only [List.getElem?_toArray, List.getElem?_cons_zero, List.getElem?_cons_succ]; rfl) (by kernel_rfl) (by kernel_rfl) (by kernel_rfl) (by kernel_rfl) (fun _ _ _ h => h) (Or.inl ⟨by rfl, by intro W' hW; obtain ⟨q0, q1⟩ := hW; go_simp⟩) hS ?_
    try simp only [Act.put, List.setIfInBounds_toArray, List.set_cons_zero, List.set_cons_succ]
    refine Ord.wpM_take (i := 6) (v := .slice (some ⟨gS, 0, none⟩) 1 cS) (by simp only [List.getElem?_toArray, List.getElem?_cons_zero, List.getElem?_cons_succ]; rfl) (by kernel_rfl) (by kernel_rfl) (by kernel_rfl) (by kernel_rfl) (fun _ _ _ h => h) (Or.inl ⟨by rfl, by intro W' hW; obtain ⟨q0, q1⟩ := hW; go_simp⟩) hS ?_
    try simp only [Act.put, List.setIfInBounds_toArray, List.set_cons_zero, List.set_cons_succ]
    refine Ord.wpM_take (i := 7) (v := .pointer (some ⟨gS, 0, none⟩)) (by simp only [List.getElem?_toArray, List.getElem?_cons_zero, List.getElem?_cons_succ]; rfl) (by kernel_rfl) (by kernel_rfl) (by kernel_rfl) (by kernel_rfl) (fun _ _ _ h => h) (Or.inl ⟨by rfl, by intro W' hW; obtain ⟨q0, q1⟩ := hW; go_simp⟩) hS ?_
    try simp only [Act.put, List.setIfInBounds_toArray, List.set_cons_zero, List.set_cons_succ]
    refine Ord.wpM_take (i := 8) (v := .bool s) (by simp only [List.getElem?_toArray, List.getElem?_cons_zero, List.getElem?_cons_succ]; rfl) (by kernel_rfl) (by kernel_rfl) (by kernel_rfl) (by kernel_rfl) (fun _ _ _ h => h) (Or.inl ⟨by rfl, by intro W' hW; obtain ⟨q0, q1⟩ := hW; go_simp⟩) hS ?_
    try simp only [Act.put, List.setIfInBounds_toArray, List.set_cons_zero, List.set_cons_succ]
    refine Ord.wpM_take (i := 9) (v := .bool s) (by simp only [List.getElem?_toArray, List.getElem?_cons_zero, List.getElem?_cons_succ]; rfl) (by kernel_rfl) (by kernel_rfl) (by kernel_rfl) (by kernel_rfl) (fun _ _ _ h => h) (Or.inl ⟨by rfl, by intro W' hW; obtain ⟨q0, q1⟩ := hW; go_simp⟩) hS ?_
    try simp only [Act.put, List.setIfInBounds_toArray, List.set_cons_zero, List.set_cons_succ]
    refine Ord.wpM_one (i := 10) (by kernel_rfl) (by simp only [List.getElem?_toArray, List.getElem?_cons_zero, List.getElem?_cons_succ]; rfl) (fun K hK => ?_)
    go_simp
    refine (HC.out w4 HC4.out).mono ?_
    rintro r w5 ⟨rfl, hf5, hk5⟩
    have HF5 := keep (HB4.out.trans hf5)
    have HK5 := keep hk5
    obtain ⟨res, hres⟩ : ∃ r, blockK (stmtK rs m s) l ⟨ns, wk, lt⟩ = r := ⟨_, rfl⟩
    rw [hres] at HNz HK5 ⊢
    have HRes := keep hres
    clear hf5 hk5 HC hS HB4 HC4 hres
    obtain ⟨re, hre⟩ : ∃ b, resK res = b := ⟨_, rfl⟩
    rw [hre]
    have HRe := keep hre
    clear hre
    go_simp
    refine hK.out _ _ (fun _ => HSS.out _ HF5.out) ?_
    clear hK K
    try simp only [Act.put, List.setIfInBounds_toArray, List.set_cons_zero, List.set_cons_succ]
    refine Ord.wpM_one (i := 11) (by kernel_rfl) (by simp only [List.getElem?_toArray, List.getElem?_cons_zero, List.getElem?_cons_succ]; rfl) (fun K hK => ?_)
    go_simp
    refine hK.out _ _ (fun _ => HSS.out _ HF5.out) ?_
    clear hK K
    try simp only [Act.put, List.setIfInBounds_toArray, List.set_cons_zero, List.set_cons_succ]
    refine Ord.wpM_done (by kernel_rfl) ?_ _
    refine NoPanic.normal ?_
    clear HSS
    cases res with
    | error e =>
      have e1 : re = e := HRe.out.symm
      subst e1
      have d2 : (re != 0) = true := by simpa using HNz.out re rfl
      go_wp2
      exact .err ⟨rfl, rfl⟩ rfl HRes.out HF5.out
    | ok k1 =>
      have e1 : re = 0 := HRe.out.symm
      subst e1
      go_wp2
      exact .ok ⟨⟨⟨rfl, rfl⟩, rfl, rfl, rfl, rfl, rfl, rfl⟩, rfl, rfl⟩ HRes.out (HK5.out k1 rfl) HF5.out
end Go.Proofs.YtemdnmfldihalaaDoor.Lr
namespace Go.Proofs.YtemdnmfldihalaaDoor.Lr
set_option linter.unusedVariables false
set_option linter.unusedSimpArgs false
open Go.ChangeShapes Go.WideShapes Go.ChangeAt Go.RowKit Go.Maps Go.WideMaps Lg

theorem block_ok {rs : List Vr} {m : Nat} {dark : Bool} {l : List St} {ns : List Nm} {wk lt : Nat} {k1 : Ks} (hf : Few ns wk lt) (h : blockK (stmtK rs m dark) l ⟨ns, wk, lt⟩ = .ok k1) : k1.ns = ns ∧ wk ≤ k1.work ∧ Few ns k1.work k1.lets := by
  obtain ⟨h1, h2⟩ := (block_gd l (fun u _ k a b => stmt_gd rs m dark u k a b) ⟨ns, wk, lt⟩ hf.2.1 hf.2.2).2 k1 h
  have hw := h1.work
  dsimp only at hw h2
  exact ⟨h2, hw, by have := hf.1; omega, h1.most, h1.lets⟩
theorem sw_if (m K B : Nat) (hKB : KBlock m) (w0 w : World) (k bA nA bI nI j : Nat) (dark : Bool) (p : Option Addr) (n c bT : Nat) (rs : List Vr) (ns : List Nm) (wk lt : Nat) (tn : Int) (tx : List UInt8) (tsec : Bool) (ta : List Ex) (tth tel : List St) (s1 s2 s3 : Value) (a : Act) (s : Bool) (gS cS : Nat) (hS : w.cell? ⟨gS, 0, none⟩ = some (.bool s)) (hgS : w0.heap.size ≤ gS) (hgl : gS < w.heap.size) (had arr : Bool) (hF : FT a k bI j dark p n c bT (.slice (some ⟨gS, 0, none⟩) 1 cS) had arr 4) (hK : KS w0 w k bA nA bI nI rs ⟨ns, wk, lt⟩) (hk0 : k < w0.heap.size) (hI0 : w0.heap.size ≤ bI) (hT : Bk w bT [.int .i64 4, .int .i64 tn, .string ⟨tx.toArray⟩, .bool tsec, s1, s2, s3] 67) (hTk : w0.heap.size ≤ bT)
    (hmK : m ≤ K) (hm : m ≤ 10) (hw2 : ∀ t ∈ tth, wfS m t) (hw3 : ∀ t ∈ tel, wfS m t) (hBk : B ≤ k) (hi2 : StIs w B 10 (K + 1) tth s2) (hi3 : StIs w B 10 (K + 1) tel s3) :
    bKind.wp Tryd.prog (SwP w0 k bA nA bI j dark p n c rs (thenK (blockK (stmtK rs m (s || dark)) tth ⟨ns, wk, lt⟩) fun k => blockK (stmtK rs m (s || dark)) tel k)) a w := by
  refine no_let hF (by decide) fun a1 hF1 => no_set hF1 (by decide) fun a2 hF2 => no_put hF2 (by decide) fun a3 hF3 => yes_if hF3 fun a4 hF4 => ?_
  show (Code.seq bThen bElse).wp Tryd.prog _ a4 w
  obtain ⟨p2, n2, c2, rfl⟩ := hi2.slice
  obtain ⟨p3, n3, c3, rfl⟩ := hi3.slice
  have hIk : bI ≠ k := by omega
  have h1 := sw_then m K B hKB w k bA nA bI nI j dark s p n c bT gS cS p2 n2 c2 rs ns wk lt tth a4 hF4.fa (hT.cell 5 rfl) hT.lt (by omega) hS hgl (by omega) hmK hm hw2 hK.kk hK.mp hIk hK.nn hK.few hBk hi2
  refine wp_seq (wp_mono h1 ?_)
  rintro e a5 w5 (⟨rfl, hF5, k1, hr1, hkk1, hf1⟩ | ⟨rfl, x, hx1, hx2, hr1, hf1⟩)
  · obtain ⟨hns, hwk, hfew⟩ := block_ok (ns := ns) (wk := wk) (lt := lt) hK.few hr1
    have hm5 : MapN w5 bI nI ns := hK.mp.stay (hf1.block bI hK.mp.lt (by simpa using hIk))
    have hl5 := hf1.size
    have h2 := sw_else m K B hKB w5 k bA nA bI nI j dark s p n c bT gS cS p3 n3 c3 rs ns k1.work k1.lets tel a5 hF5 (cell_fs hf1 (hT.cell 6 rfl) hT.lt (by omega)) (by have := hT.lt; omega) (by omega) (cell_fs hf1 hS hgl (by omega)) (by omega) (by omega) hmK hm hw3 hkk1 hm5 hIk (by have := hK.nn; dsimp only at this; omega) hfew hBk (hi3.below (hf1.below (by have := hK.kk.box.lt; omega) (by simpa using hBk)))
    refine wp_mono h2 ?_
    have e1 : k1 = ⟨ns, k1.work, k1.lets⟩ := by obtain ⟨x, y, z⟩ := k1; dsimp only at hns; rw [hns]
    rintro e a6 w6 (⟨rfl, hF6, k2, hr2, hkk2, hf2⟩ | ⟨rfl, x, hx1, hx2, hr2, hf2⟩)
    · obtain ⟨hns2, hwk2, hfew2⟩ := block_ok hfew hr2
      refine .ok (k1 := k2) (nI := nI) hF6.fb (by rw [hr1, thenK_ok, e1]; exact hr2) ⟨hkk2, ?_, (hK.fs.trans hf1).trans hf2, by rw [hns2]; exact hfew2, by have := hK.nn; dsimp only at this; omega⟩
      rw [hns2]
      exact hm5.stay (hf2.block bI hm5.lt (by simpa using hIk))
    · exact .err hx1 hx2 (by rw [hr1, thenK_ok, e1]; exact hr2) ((hK.fs.trans hf1).trans hf2)
  · exact .err hx1 hx2 (by rw [hr1]; rfl) (hK.fs.trans hf1)
end Go.Proofs.YtemdnmfldihalaaDoor.Lr
namespace Go.Proofs.YtemdnmfldihalaaDoor.Lr
set_option linter.unusedVariables false
set_option linter.unusedSimpArgs false
open Go.ChangeShapes Go.WideShapes Go.ChangeAt Go.RowKit Go.Maps Go.WideMaps Lg

noncomputable def cFor : Code := yesC (sndC bFor)
noncomputable def bRnd : Code := rndC (inC (sndC (fstC (sndC (sndC cFor)))))
/-- The frame within a loop. -/
structure FL (a : Act) (k bI j : Nat) (dark : Bool) (p : Option Addr) (n c bT : Nat) (sv : Value) (N i : Nat) : Prop where
  fa : FA a k bI j dark p n c bT sv
  s230 : slot a 230 = .int .i64 (N : Int)
  s231 : slot a 231 = .int .i64 (i : Int)
set_option maxRecDepth 100000 in
theorem FL.opens {a : Act} {k bI j : Nat} {dark : Bool} {p : Option Addr} {n c bT : Nat} {sv : Value} {N i : Nat} (h : FL a k bI j dark p n c bT sv N i) : ∃ g : Nat → Value, a = ⟨#[.pointer (some ⟨k, 0, none⟩), g 1, g 2, .bool dark, g 4, g 5, g 6, g 7, g 8, .map (some bI), g 10, g 11, g 12, .pointer (some ⟨bT, 0, none⟩), sv, g 15, g 16, g 17, g 18, g 19, g 20, g 21, g 22, g 23, g 24, g 25, g 26, g 27, g 28, g 29, g 30, g 31, g 32, g 33, g 34, g 35, g 36, g 37, g 38, .slice p n c, .int .i64 (n : Int), .int .i64 (j : Int), g 42, g 43, g 44, g 45, g 46, g 47, g 48, g 49, g 50, g 51, g 52, g 53, g 54, g 55, g 56, g 57, g 58, g 59, g 60, g 61, g 62, g 63, g 64, g 65, g 66, g 67, g 68, g 69, g 70, g 71, g 72, g 73, g 74, g 75, g 76, g 77, g 78, g 79, g 80, g 81, g 82, g 83, g 84, g 85, g 86, g 87, g 88, g 89, g 90, g 91, g 92, g 93, g 94, g 95, g 96, g 97, g 98, g 99, g 100, g 101, g 102, g 103, g 104, g 105, g 106, g 107, g 108, g 109, g 110, g 111, g 112, g 113, g 114, g 115, g 116, g 117, g 118, g 119, g 120, g 121, g 122, g 123, g 124, g 125, g 126, g 127, g 128, g 129, g 130, g 131, g 132, g 133, g 134, g 135, g 136, g 137, g 138, g 139, g 140, g 141, g 142, g 143, g 144, g 145, g 146, g 147, g 148, g 149, g 150, g 151, g 152, g 153, g 154, g 155, g 156, g 157, g 158, g 159, g 160, g 161, g 162, g 163, g 164, g 165, g 166, g 167, g 168, g 169, g 170, g 171, g 172, g 173, g 174, g 175, g 176, g 177, g 178, g 179, g 180, g 181, g 182, g 183, g 184, g 185, g 186, g 187, g 188, g 189, g 190, g 191, g 192, g 193, g 194, g 195, g 196, g 197, g 198, g 199, g 200, g 201, g 202, g 203, g 204, g 205, g 206, g 207, g 208, g 209, g 210, g 211, g 212, g 213, g 214, g 215, g 216, g 217, g 218, g 219, g 220, g 221, g 222, g 223, g 224, g 225, g 226, g 227, g 228, g 229, .int .i64 (N : Int), .int .i64 (i : Int), g 232, g 233, g 234, g 235, g 236, g 237, g 238, g 239, g 240, g 241, g 242, g 243, g 244, g 245, g 246, g 247, g 248, g 249], []⟩ := by
  refine ⟨slot a, ?_⟩
  have e := h.fa.fb.wide.opens
  rw [h.fa.fb.s0, h.fa.fb.s3, h.fa.fb.s9, h.fa.s13, h.fa.s14, h.fa.fb.s39, h.fa.fb.s40, h.fa.fb.s41, h.s230, h.s231] at e
  exact e
/-- What comes of a round. -/
def RdP (w : World) (k bA nA bI j : Nat) (dark : Bool) (p : Option Addr) (n c bT : Nat) (sv : Value) (N i : Nat) (rs : List Vr) (res : Except Int Ks) (e : Exit) (a : Act) (w' : World) : Prop :=
  (i < N ∧ e = .normal ∧ FL a k bI j dark p n c bT sv N (i + 1) ∧ ∃ k1, res = .ok k1 ∧ KK w' k bA nA rs k1.work k1.lets ∧ Fs [k] w w') ∨
  (i < N ∧ e = .ret ∧ ∃ x, Wide a ∧ slot a 8 = .int .i64 x ∧ res = .error x ∧ Fs [k] w w') ∨ (N ≤ i ∧ e = .exit 7 ∧ FL a k bI j dark p n c bT sv N i ∧ w' = w)
set_option maxHeartbeats 8000000 in
set_option maxRecDepth 100000 in
theorem for_round (m K B : Nat) (hKB : KBlock m) (w : World) (k bA nA bI nI j : Nat) (dark : Bool) (p : Option Addr) (n c bT : Nat) (sv : Value) (N i : Nat) (hN : N ≤ 8) (p2 : Option Addr) (n2 c2 : Nat) (rs : List Vr) (ns : List Nm) (wk lt : Nat) (l : List St) (a : Act)
    (hF : FL a k bI j dark p n c bT sv N i) (hT : w.cell? ⟨bT, 5, none⟩ = some (.slice p2 n2 c2))
    (hmK : m ≤ K) (hm : m ≤ 10) (hwf : ∀ t ∈ l, wfS m t) (hkk : KK w k bA nA rs wk lt) (hmp : MapN w bI nI ns) (hIk : bI ≠ k) (hnn : nI ≤ 1000 + wk) (hfew : Few ns wk lt) (hBk : B ≤ k) (hi : StIs w B 10 (K + 1) l (.slice p2 n2 c2)) :
    bRnd.wp Tryd.prog (RdP w k bA nA bI j dark p n c bT sv N i rs (blockK (stmtK rs m dark) l ⟨ns, wk, lt⟩)) a w := by
  obtain ⟨g, rfl⟩ := hF.opens
  have HC := keep (hKB K B k bA nA bI nI rs ns wk lt dark l (.slice p2 n2 c2) w hmK hm hwf hkk hmp hIk hnn hfew hBk hi)
  have HNz := keep (fun (e : Int) (h : blockK (stmtK rs m dark) l ⟨ns, wk, lt⟩ = .error e) => block_nz rs m dark l ⟨ns, wk, lt⟩ hfew h)
  clear hF hkk hmp hfew hi hKB hwf
  conv => arg 2; whnf
  by_cases hil : i < N
  · have d1 : decide ((i : Int) < (N : Int)) = true := decide_eq_true (by omega)
    have hwr : IntKind.i64.wrap ((i : Int) + 1) = (i : Int) + 1 := wrap_one i (by omega)
    have HIl := keep hil
    clear hil
    go_wp2_with fail
    refine HC.out.mono ?_
    rintro r w5 ⟨rfl, hf5, hk5⟩
    have HF5 := keep hf5
    have HK5 := keep hk5
    obtain ⟨res, hres⟩ : ∃ r, blockK (stmtK rs m dark) l ⟨ns, wk, lt⟩ = r := ⟨_, rfl⟩
    rw [hres] at HNz HK5 ⊢
    have HRes := keep hres
    clear hf5 hk5 HC hres
    cases res with
    | error e =>
      have d2 : (e != 0) = true := by simpa using HNz.out e rfl
      dsimp only [resK]
      go_wp2
      exact .inr (.inl ⟨HIl.out, rfl, e, ⟨rfl, rfl⟩, rfl, HRes.out, HF5.out⟩)
    | ok k1 =>
      dsimp only [resK]
      go_wp2
      exact .inl ⟨HIl.out, rfl, ⟨⟨⟨⟨rfl, rfl⟩, rfl, rfl, rfl, rfl, rfl, rfl⟩, rfl, rfl⟩, rfl, rfl⟩, k1, HRes.out, HK5.out k1 rfl, HF5.out⟩
  · have d1 : decide ((i : Int) < (N : Int)) = false := decide_eq_false (by omega)
    have HIl := keep hil
    clear hil
    go_wp2
    exact .inr (.inr ⟨Nat.le_of_not_lt HIl.out, rfl, ⟨⟨⟨⟨rfl, rfl⟩, rfl, rfl, rfl, rfl, rfl, rfl⟩, rfl, rfl⟩, rfl, rfl⟩, rfl⟩)
end Go.Proofs.YtemdnmfldihalaaDoor.Lr
namespace Go.Proofs.YtemdnmfldihalaaDoor.Lr
set_option linter.unusedVariables false
set_option linter.unusedSimpArgs false
open Go.ChangeShapes Go.WideShapes Go.ChangeAt Go.RowKit Go.Maps Go.WideMaps Lg

theorem rounds_step {f : Ks → Except Int Ks} {N i : Nat} (h : i < N) (k : Ks) : roundsK f (N - i) k = thenK (f k) fun k => roundsK f (N - (i + 1)) k := by
  obtain ⟨d, hd⟩ : ∃ d, N - i = d + 1 := ⟨N - i - 1, by omega⟩
  rw [hd, roundsK, show N - (i + 1) = d by omega]
/-- What comes of all its rounds. -/
def LpP (w : World) (k bA nA bI j : Nat) (dark : Bool) (p : Option Addr) (n c bT : Nat) (sv : Value) (N : Nat) (rs : List Vr) (ns : List Nm) (wk : Nat) (res : Except Int Ks) (e : Exit) (a : Act) (w' : World) : Prop :=
  (e = .exit 7 ∧ FL a k bI j dark p n c bT sv N N ∧ ∃ k1, res = .ok k1 ∧ k1.ns = ns ∧ wk ≤ k1.work ∧ Few ns k1.work k1.lets ∧ KK w' k bA nA rs k1.work k1.lets ∧ Fs [k] w w') ∨
  (e = .ret ∧ ∃ x, Wide a ∧ slot a 8 = .int .i64 x ∧ res = .error x ∧ Fs [k] w w')
theorem for_loop (m K B : Nat) (hKB : KBlock m) (w : World) (k bA nA bI nI j : Nat) (dark : Bool) (p : Option Addr) (n c bT : Nat) (sv : Value) (N : Nat) (hN : N ≤ 8) (p2 : Option Addr) (n2 c2 : Nat) (rs : List Vr) (ns : List Nm) (wk lt : Nat) (l : List St) (a : Act)
    (hF : FL a k bI j dark p n c bT sv N 0) (hT : w.cell? ⟨bT, 5, none⟩ = some (.slice p2 n2 c2)) (hTl : bT < w.heap.size) (hTk : bT ≠ k)
    (hmK : m ≤ K) (hm : m ≤ 10) (hwf : ∀ t ∈ l, wfS m t) (hkk : KK w k bA nA rs wk lt) (hmp : MapN w bI nI ns) (hIk : bI ≠ k) (hnn : nI ≤ 1000 + wk) (hfew : Few ns wk lt) (hBk : B ≤ k) (hi : StIs w B 10 (K + 1) l (.slice p2 n2 c2)) :
    (Code.loop bRnd).wp Tryd.prog (LpP w k bA nA bI j dark p n c bT sv N rs ns wk (roundsK (blockK (stmtK rs m dark) l) N ⟨ns, wk, lt⟩)) a w := by
  refine wp_loop (fun a' w' => ∃ i k1, i ≤ N ∧ FL a' k bI j dark p n c bT sv N i ∧ roundsK (blockK (stmtK rs m dark) l) N ⟨ns, wk, lt⟩ = roundsK (blockK (stmtK rs m dark) l) (N - i) k1 ∧ k1.ns = ns ∧ wk ≤ k1.work ∧ Few ns k1.work k1.lets ∧ KK w' k bA nA rs k1.work k1.lets ∧ Fs [k] w w') (fun a' _ => N - (intOf (slot a' 231)).toNat) ⟨0, ⟨ns, wk, lt⟩, Nat.zero_le _, hF, rfl, rfl, Nat.le_refl _, hfew, hkk, Fs.refl _ _⟩ ?_
  rintro a' w' ⟨i, k1, hiN, hF', hr, hns, hwk, hf', hkk', hfs⟩
  have e1 : k1 = ⟨ns, k1.work, k1.lets⟩ := by obtain ⟨x, y, z⟩ := k1; dsimp only at hns; rw [hns]
  have h := for_round m K B hKB w' k bA nA bI nI j dark p n c bT sv N i hN p2 n2 c2 rs ns k1.work k1.lets l a' hF' (cell_fs hfs hT hTl hTk) hmK hm hwf hkk' (hmp.stay (hfs.block bI hmp.lt (by simpa using hIk))) hIk (by omega) hf' hBk (hi.below (hfs.below (by have := hkk.box.lt; omega) (by simpa using hBk)))
  refine wp_mono h ?_
  rintro e a5 w5 (⟨hlt, rfl, hF5, k2, hr2, hkk2, hf2⟩ | ⟨hlt, rfl, x, hx1, hx2, hr2, hf2⟩ | ⟨hge, rfl, hF5, rfl⟩)
  · obtain ⟨hns2, hwk2, hfew2⟩ := block_ok hf' hr2
    refine ⟨⟨i + 1, k2, hlt, hF5, ?_, hns2, Nat.le_trans hwk hwk2, hfew2, hkk2, hfs.trans hf2⟩, ?_⟩
    · rw [hr, rounds_step hlt, e1, hr2, thenK_ok]
    · show N - (intOf (slot a5 231)).toNat < N - (intOf (slot a' 231)).toNat
      rw [hF5.s231, hF'.s231]
      simp [intOf]; omega
  · refine .inr ⟨rfl, x, hx1, hx2, ?_, hfs.trans hf2⟩
    rw [hr, rounds_step hlt, e1, hr2]; rfl
  · have hiN' : i = N := by omega
    subst hiN'
    refine .inl ⟨rfl, hF5, k1, ?_, hns, hwk, hf', hkk', hfs⟩
    rw [hr, Nat.sub_self]; rfl
set_option maxHeartbeats 4000000 in
set_option maxRecDepth 100000 in
theorem for_taken {w : World} {a : Act} {k bI j : Nat} {dark : Bool} {p : Option Addr} {n c bT : Nat} {sv : Value} {had arr : Bool} (hF : FT a k bI j dark p n c bT sv had arr 5) : (fstC cFor).wp Tryd.prog (BkP (fun a' w' => FA a' k bI j dark p n c bT sv ∧ w' = w ∧ (had || arr) = false) (fun x w' => x = 7 ∧ w' = w ∧ (had || arr) = true)) a w := by
  obtain ⟨g, rfl⟩ := hF.opens
  clear hF
  conv => arg 2; whnf
  cases had with
  | true =>
    go_wp2
    exact .inr ⟨rfl, 7, ⟨rfl, rfl⟩, rfl, rfl, rfl, rfl⟩
  | false =>
    cases arr with
    | true =>
      go_wp2
      exact .inr ⟨rfl, 7, ⟨rfl, rfl⟩, rfl, rfl, rfl, rfl⟩
    | false =>
      go_wp2
      exact .inl ⟨rfl, ⟨⟨⟨rfl, rfl⟩, rfl, rfl, rfl, rfl, rfl, rfl⟩, rfl, rfl⟩, rfl, rfl⟩
set_option maxHeartbeats 4000000 in
set_option maxRecDepth 100000 in
theorem for_lay {w w2 : World} {a : Act} {k bI j : Nat} {dark : Bool} {p : Option Addr} {n c bT : Nat} {sv : Value} {tx : List UInt8} (hF : FA a k bI j dark p n c bT sv) (h2 : w.cell? ⟨bT, 2, none⟩ = some (.string ⟨tx.toArray⟩)) (hrun : (Instr.mapUpdate 58 (.map (some bI)) (.string ⟨tx.toArray⟩) (.agg #[.bool false, .bool true])).run Tryd.prog w = .ok () w2) : (fstC (sndC cFor)).wp Tryd.prog (fun e a' w' => e = .normal ∧ FA a' k bI j dark p n c bT sv ∧ w' = w2) a w := by
  obtain ⟨g, rfl⟩ := hF.opens
  clear hF
  conv => arg 2; whnf
  go_wp2
  exact ⟨⟨⟨rfl, rfl⟩, rfl, rfl, rfl, rfl, rfl, rfl⟩, rfl, rfl⟩
set_option maxHeartbeats 4000000 in
set_option maxRecDepth 100000 in
theorem for_begin {w : World} {a : Act} {k bI j : Nat} {dark : Bool} {p : Option Addr} {n c bT : Nat} {sv : Value} {N : Nat} (hF : FA a k bI j dark p n c bT sv) (h2 : w.cell? ⟨bT, 1, none⟩ = some (.int .i64 (N : Int))) : (fstC (fstC (sndC (sndC cFor)))).wp Tryd.prog (fun e a' w' => e = .normal ∧ FL a' k bI j dark p n c bT sv N 0 ∧ w' = w) a w := by
  obtain ⟨g, rfl⟩ := hF.opens
  clear hF
  conv => arg 2; whnf
  go_wp2
  exact ⟨⟨⟨⟨rfl, rfl⟩, rfl, rfl, rfl, rfl, rfl, rfl⟩, rfl, rfl⟩, rfl, rfl⟩
set_option maxHeartbeats 4000000 in
set_option maxRecDepth 100000 in
theorem for_end {w w2 : World} {a : Act} {k bI j : Nat} {dark : Bool} {p : Option Addr} {n c bT : Nat} {sv : Value} {N i : Nat} {tx : List UInt8} (hF : FL a k bI j dark p n c bT sv N i) (h2 : w.cell? ⟨bT, 2, none⟩ = some (.string ⟨tx.toArray⟩)) (hrun : (Builtin.delete_ #[58, 9] 0 #[.map (some bI), .string ⟨tx.toArray⟩]).run Tryd.prog w = .ok (.tuple #[]) w2) : (sndC (sndC (sndC cFor))).wp Tryd.prog (fun e a' w' => e = .normal ∧ FB a' k bI j dark p n c ∧ w' = w2) a w := by
  obtain ⟨g, rfl⟩ := hF.opens
  clear hF
  conv => arg 2; whnf
  go_wp2
  exact ⟨⟨rfl, rfl⟩, rfl, rfl, rfl, rfl, rfl, rfl⟩
end Go.Proofs.YtemdnmfldihalaaDoor.Lr
namespace Go.Proofs.YtemdnmfldihalaaDoor.Lr
set_option linter.unusedVariables false
set_option linter.unusedSimpArgs false
open Go.ChangeShapes Go.WideShapes Go.ChangeAt Go.RowKit Go.Maps Go.WideMaps Lg

theorem in_block_here {id : Nat} {Q : Exit → Act → World → Prop} {a : Act} {w : World} (h : Q .normal a w) : Exit.inBlock id Q (.exit id) a w := by
  show (if id = id then Q .normal a w else Q (.exit id) a w)
  rw [if_pos rfl]; exact h
theorem sw_for (m K B : Nat) (hKB : KBlock m) (w0 w : World) (k bA nA bI nI j : Nat) (dark : Bool) (p : Option Addr) (n c bT : Nat) (rs : List Vr) (ns : List Nm) (wk lt : Nat) (tn : Int) (tx : List UInt8) (tsec : Bool) (ta : List Ex) (tth tel : List St) (s1 s2 s3 : Value) (a : Act) (N : Nat) (hN : N ≤ 8) (htn : tn = (N : Int)) (hx : tx.length ≤ maxLen) (sv : Value) (hF : FT a k bI j dark p n c bT sv (byN ns tx).isSome (byV rs tx).isSome 5) (hK : KS w0 w k bA nA bI nI rs ⟨ns, wk, lt⟩) (hk0 : k < w0.heap.size) (hI0 : w0.heap.size ≤ bI) (hT : Bk w bT [.int .i64 5, .int .i64 tn, .string ⟨tx.toArray⟩, .bool tsec, s1, s2, s3] 67) (hTk : w0.heap.size ≤ bT) (hnn : nI + 1 ≤ 1000 + wk) (hns : ns.length + 1 ≤ 4 + wk)
    (hmK : m ≤ K) (hm : m ≤ 10) (hw2 : ∀ t ∈ tth, wfS m t) (hBk : B ≤ k) (hi2 : StIs w B 10 (K + 1) tth s2) :
    bKind.wp Tryd.prog (SwP w0 k bA nA bI j dark p n c rs (if takenK rs ns tx = true then .error 7 else thenK (roundsK (blockK (stmtK rs m dark) tth) tn.toNat ⟨ns ++ [⟨tx, false, true⟩], wk, lt⟩) fun k' => .ok ⟨ns, k'.work, k'.lets⟩)) a w := by
  subst htn
  refine no_let hF (by decide) fun a1 hF1 => no_set hF1 (by decide) fun a2 hF2 => no_put hF2 (by decide) fun a3 hF3 => no_if hF3 (by decide) fun a4 hF4 => yes_for hF4 fun a5 hF5 => ?_
  show (Code.seq (fstC cFor) (Code.seq (fstC (sndC cFor)) (Code.seq (Code.seq (fstC (fstC (sndC (sndC cFor)))) (Code.block 7 (Code.loop bRnd))) (sndC (sndC (sndC cFor)))))).wp Tryd.prog _ a5 w
  obtain ⟨p2, n2, c2, rfl⟩ := hi2.slice
  have hIk : bI ≠ k := by omega
  refine wp_seq (wp_mono (for_taken hF5) ?_)
  rintro e a6 w6 (⟨rfl, hF6, rfl, ht⟩ | ⟨rfl, x, hx1, hx2, rfl, rfl, ht⟩)
  · have htk : takenK rs ns tx = false := ht
    have hno : byN ns tx = none := none_of (Bool.or_eq_false_iff.1 ht).1
    have hTI : bT ≠ bI := fun e => by
      obtain ⟨D, ⟨es, cl, h1, _⟩, _⟩ := hK.mp
      have h2 := hT
      unfold Bk at h2
      rw [e, h1] at h2
      cases h2
    obtain ⟨w7, hrun, hN7, hg7⟩ := hK.mp.put ⟨tx, false, true⟩ hx (by unfold maxLen; have := hK.few.2.1; dsimp only at this; omega) hno
    have hK7 := ks_map hK.fs hK.kk hk0 hI0 hN7 hg7 ⟨by simp; omega, hK.few.2.1, hK.few.2.2⟩ hnn
    have hT7 : Bk w7 bT [.int .i64 5, .int .i64 (N : Int), .string ⟨tx.toArray⟩, .bool tsec, s1, .slice p2 n2 c2, s3] 67 := by
      have h := hT
      unfold Bk at h ⊢
      rw [hg7.block bT hT.lt (fun e => hTI (Option.some.inj e))]; exact h
    have hb7 : Below B w6 w7 := ⟨hg7.os, hg7.tape, hg7.output, hg7.size, fun i hi => hg7.block i (by have := hK.kk.box.lt; omega) (fun e => by have := Option.some.inj e; omega)⟩
    refine wp_seq (wp_mono (for_lay hF6 (hT.cell 2 rfl) hrun) ?_)
    rintro e a7 w7' ⟨rfl, hF7, rfl⟩
    refine wp_seq (wp_seq (wp_mono (for_begin (N := N) hF7 (hT7.cell 1 rfl)) ?_))
    rintro e a8 w8 ⟨rfl, hF8, rfl⟩
    have hloop := for_loop m K B hKB w8 k bA nA bI (nI + 1) j dark p n c bT sv N hN p2 n2 c2 rs (ns ++ [⟨tx, false, true⟩]) wk lt tth a8 hF8 (hT7.cell 5 rfl) hT7.lt (by omega) hmK hm hw2 hK7.kk hN7 hIk hnn hK7.few hBk (hi2.below hb7)
    refine wp_block (wp_mono hloop ?_)
    rintro e a9 w9 (⟨rfl, hF9, k1, hr1, hns1, hwk1, hfew1, hkk1, hf1⟩ | ⟨rfl, x, hx1, hx2, hr1, hf1⟩)
    · refine in_block_here ?_
      have hN9 : MapN w9 bI (nI + 1) (ns ++ [⟨tx, false, true⟩]) := hN7.stay (hf1.block bI hN7.lt (by simpa using hIk))
      obtain ⟨w10, hrun2, hN10, hg10⟩ := hN9.cut hx hno 0
      refine wp_mono (for_end hF9 (cell_fs hf1 (hT7.cell 2 rfl) hT7.lt (by omega)) hrun2) ?_
      rintro e a10 w10' ⟨rfl, hF10, rfl⟩
      have hfw : Few ns k1.work k1.lets := ⟨by have := hfew1.1; simp at this; omega, hfew1.2⟩
      refine .ok (k1 := ⟨ns, k1.work, k1.lets⟩) (nI := nI + 1) hF10 ?_ (ks_map (hK7.fs.trans hf1) hkk1 hk0 hI0 hN10 hg10 hfw (by omega))
      rw [if_neg (by rw [htk]; simp), Int.toNat_natCast, hr1, thenK_ok]
    · refine .err hx1 hx2 ?_ (hK7.fs.trans hf1)
      rw [if_neg (by rw [htk]; simp), Int.toNat_natCast, hr1]; rfl
  · refine .err hx1 hx2 ?_ hK.fs
    rw [if_pos (show takenK rs ns tx = true from ht)]
end Go.Proofs.YtemdnmfldihalaaDoor.Lr
namespace Go.Proofs.YtemdnmfldihalaaDoor.Lr
set_option linter.unusedVariables false
set_option linter.unusedSimpArgs false
open Go.ChangeShapes Go.WideShapes Go.ChangeAt Go.RowKit Go.Maps Go.WideMaps Lg

set_option maxHeartbeats 4000000 in
set_option maxRecDepth 100000 in
theorem sw_ret (w0 w : World) (k bA nA bI nI j : Nat) (dark : Bool) (p : Option Addr) (n c bT : Nat) (rs : List Vr) (ns : List Nm) (wk lt : Nat) (tn : Int) (tx : List UInt8) (tsec : Bool) (ta : List Ex) (tth tel : List St) (s1 s2 s3 : Value) (a : Act) (sv : Value) (had arr : Bool) (hF : FT a k bI j dark p n c bT sv had arr 6) (hK : KS w0 w k bA nA bI nI rs ⟨ns, wk, lt⟩) (hk0 : k < w0.heap.size) (hI0 : w0.heap.size ≤ bI) (hT : Bk w bT [.int .i64 6, .int .i64 tn, .string ⟨tx.toArray⟩, .bool tsec, s1, s2, s3] 67) (hTk : w0.heap.size ≤ bT) :
    bKind.wp Tryd.prog (SwP w0 k bA nA bI j dark p n c rs (if dark = true then .error 10 else .ok ⟨ns, wk, lt⟩)) a w := by
  obtain ⟨g, rfl⟩ := hF.opens
  have HK := keep hK
  clear hF hK hT
  conv => arg 2; whnf
  cases dark with
  | true =>
    go_wp2
    exact .err ⟨rfl, rfl⟩ rfl rfl HK.out.fs
  | false =>
    go_wp2
    exact .ok ⟨⟨rfl, rfl⟩, rfl, rfl, rfl, rfl, rfl, rfl⟩ rfl HK.out
end Go.Proofs.YtemdnmfldihalaaDoor.Lr
namespace Go.Proofs.YtemdnmfldihalaaDoor.Lr
set_option linter.unusedVariables false
set_option linter.unusedSimpArgs false
open Go.ChangeShapes Go.WideShapes Go.ChangeAt Go.RowKit Go.Maps Go.WideMaps Lg

set_option maxHeartbeats 8000000 in
set_option maxRecDepth 100000 in
theorem sw_let (w0 w : World) (k bA nA bI nI j : Nat) (dark : Bool) (p : Option Addr) (n c bT : Nat) (rs : List Vr) (ns : List Nm) (wk lt : Nat) (tn : Int) (tx : List UInt8) (tsec : Bool) (ta : List Ex) (tth tel : List St) (s1 s2 s3 : Value) (a : Act) (s : Bool) (gS cS : Nat) (hS : w.cell? ⟨gS, 0, none⟩ = some (.bool s)) (hgS : w0.heap.size ≤ gS) (hx : tx.length ≤ maxLen) (hF : FT a k bI j dark p n c bT (.slice (some ⟨gS, 0, none⟩) 1 cS) (byN ns tx).isSome (byV rs tx).isSome 1) (hK : KS w0 w k bA nA bI nI rs ⟨ns, wk, lt⟩) (hk0 : k < w0.heap.size) (hI0 : w0.heap.size ≤ bI) (hT : Bk w bT [.int .i64 1, .int .i64 tn, .string ⟨tx.toArray⟩, .bool tsec, s1, s2, s3] 67) (hTk : w0.heap.size ≤ bT) (hnn : nI + 1 ≤ 1000 + wk) (hns : ns.length + 1 ≤ 4 + wk) :
    bKind.wp Tryd.prog (SwP w0 k bA nA bI j dark p n c rs (letK rs ⟨1, tn, tx, tsec, ta, tth, tel⟩ dark s ⟨ns, wk, lt⟩)) a w := by
  obtain ⟨g, rfl⟩ := hF.opens
  obtain ⟨hd, hhd⟩ : ∃ b, (byN ns tx).isSome = b := ⟨_, rfl⟩
  obtain ⟨ar, har⟩ : ∃ b, (byV rs tx).isSome = b := ⟨_, rfl⟩
  have HL : Hid (letK rs ⟨1, tn, tx, tsec, ta, tth, tel⟩ dark s ⟨ns, wk, lt⟩ = if (hd || ar) = true then .error 7 else if (!tsec && (s || dark)) = true then .error 10 else if 24 < lt + 1 then .error 4 else .ok ⟨ns ++ [⟨tx, tsec, false⟩], wk, lt + 1⟩) := by
    show letK _ _ _ _ _ = _
    unfold letK takenK
    rw [hhd, har]
  rw [hhd, har]
  have HK := keep hK
  have HT := keep hT
  have hfew := hK.few
  have hbk := hK.kk.box
  obtain ⟨w1, hw1⟩ : ∃ w1, w.setCell ⟨k, 2, none⟩ (.int .i64 ((lt : Int) + 1)) = w1 := ⟨_, rfl⟩
  have hf1 : Fs [k] w w1 := by rw [← hw1]; exact (Fs.refl _ _).set (by simp) _ _
  have HB1 : Hid (Bk w1 k [.map (some bA), .int .i64 (wk : Int), .int .i64 ((lt + 1 : Nat) : Int)] 57) := by
    show Bk _ _ _ _
    rw [← hw1]; exact hbk.set 2 _
  have c2 := hbk.cell 2 rfl
  have cf := hbk.fr 2
  have v2 : w1.cell? ⟨k, 2, none⟩ = some (.int .i64 ((lt : Int) + 1)) := HB1.out.cell 2 rfl
  have hwr : IntKind.i64.wrap ((lt : Int) + 1) = (lt : Int) + 1 := wrap_one lt (by have := hfew.2.2; dsimp only at this; omega)
  have x3 := hT.cell 3 rfl
  have HX1 := keep (hT.fs hf1 (by simp; omega))
  have y2 := HX1.out.cell 2 rfl
  have y3 := HX1.out.cell 3 rfl
  have hIk : bI ≠ k := by omega
  have HN1 := keep (hK.mp.stay (w' := w1) (hf1.block bI hK.mp.lt (by simp; exact hIk)))
  have HA1 := keep (hK.kk.arr.stay (w' := w1) (hf1.block bA (by have := hK.kk.lt; have := hbk.lt; omega) (by simp; have := hK.kk.lt; omega)))
  have HF1 := keep (hK.fs.trans hf1)
  have HW1 := keep hw1
  have HHd := keep hhd
  have hfs0 := hK.fs
  clear hF hK hT hbk hf1 hw1 hhd har
  conv => arg 2; whnf
  cases hd with
  | true =>
    go_wp2
    exact .err ⟨rfl, rfl⟩ rfl (by rw [HL.out]; rfl) HK.out.fs
  | false =>
    cases ar with
    | true =>
      go_wp2
      exact .err ⟨rfl, rfl⟩ rfl (by rw [HL.out]; rfl) HK.out.fs
    | false =>
      obtain ⟨w2, hrun, hN2, hg2⟩ := HN1.out.put ⟨tx, tsec, false⟩ hx (by unfold maxLen; have := hfew.2.1; dsimp only at this; omega) (none_of HHd.out)
      unfold valN at hrun
      dsimp only at hrun
      have HE := keep (fun (h24 : ¬ 24 < lt + 1) => ks_map HF1.out ⟨HB1.out, HA1.out, HK.out.kk.lt⟩ hk0 hI0 hN2 hg2 ⟨by simp; omega, hfew.2.1, by omega⟩ hnn)
      clear hN2 hg2 hfew
      by_cases hlab : (!tsec && (s || dark)) = true
      · have HR : Hid (letK rs ⟨1, tn, tx, tsec, ta, tth, tel⟩ dark s ⟨ns, wk, lt⟩ = .error 10) := by
          show letK _ _ _ _ _ = _
          rw [HL.out, if_neg (by simp), if_pos hlab]
        clear HL HE
        cases tsec with
        | true => cases hlab
        | false =>
          cases s with
          | true =>
            clear hlab
            go_wp2
            exact .err ⟨rfl, rfl⟩ rfl HR.out HK.out.fs
          | false =>
            cases dark with
            | true =>
              clear hlab
              go_wp2
              exact .err ⟨rfl, rfl⟩ rfl HR.out HK.out.fs
            | false => cases hlab
      · by_cases h24 : 24 < lt + 1
        · have d24 : decide (24 < (lt : Int) + 1) = true := decide_eq_true (by omega)
          have HR : Hid (letK rs ⟨1, tn, tx, tsec, ta, tth, tel⟩ dark s ⟨ns, wk, lt⟩ = .error 4) := by
            show letK _ _ _ _ _ = _
            rw [HL.out, if_neg (by simp), if_neg hlab, if_pos h24]
          clear HL HE h24
          cases tsec with
          | true =>
            clear hlab
            go_wp2_with (first | rw [HW1.out])
            exact .err ⟨rfl, rfl⟩ rfl HR.out HF1.out
          | false =>
            cases s with
            | true => exact absurd rfl hlab
            | false =>
              cases dark with
              | true => exact absurd rfl hlab
              | false =>
                clear hlab
                go_wp2_with (first | rw [HW1.out])
                exact .err ⟨rfl, rfl⟩ rfl HR.out HF1.out
        · have d24 : decide (24 < (lt : Int) + 1) = false := decide_eq_false (by omega)
          have HE2 := keep (HE.out h24)
          have HR : Hid (letK rs ⟨1, tn, tx, tsec, ta, tth, tel⟩ dark s ⟨ns, wk, lt⟩ = .ok ⟨ns ++ [⟨tx, tsec, false⟩], wk, lt + 1⟩) := by
            show letK _ _ _ _ _ = _
            rw [HL.out, if_neg (by simp), if_neg hlab, if_neg h24]
          clear HL HE h24
          cases tsec with
          | true =>
            clear hlab
            go_wp2_with (first | rw [HW1.out])
            exact .ok ⟨⟨rfl, rfl⟩, rfl, rfl, rfl, rfl, rfl, rfl⟩ HR.out HE2.out
          | false =>
            cases s with
            | true => exact absurd rfl hlab
            | false =>
              cases dark with
              | true => exact absurd rfl hlab
              | false =>
                clear hlab
                go_wp2_with (first | rw [HW1.out])
                exact .ok ⟨⟨rfl, rfl⟩, rfl, rfl, rfl, rfl, rfl, rfl⟩ HR.out HE2.out
end Go.Proofs.YtemdnmfldihalaaDoor.Lr
namespace Go.Proofs.YtemdnmfldihalaaDoor.Lr
set_option linter.unusedVariables false
set_option linter.unusedSimpArgs false
open Go.ChangeShapes Go.WideShapes Go.ChangeAt Go.RowKit Go.Maps Go.WideMaps Lg

set_option maxHeartbeats 8000000 in
set_option maxRecDepth 100000 in
theorem sw_set (w0 w : World) (k bA nA bI nI j : Nat) (dark : Bool) (p : Option Addr) (n c bT : Nat) (rs : List Vr) (ns : List Nm) (wk lt : Nat) (tn : Int) (tx : List UInt8) (tsec : Bool) (ta : List Ex) (tth tel : List St) (s1 s2 s3 : Value) (a : Act) (s : Bool) (gS cS : Nat) (hS : w.cell? ⟨gS, 0, none⟩ = some (.bool s)) (hgS : w0.heap.size ≤ gS) (hx : tx.length ≤ maxLen) (arr : Bool) (hF : FT a k bI j dark p n c bT (.slice (some ⟨gS, 0, none⟩) 1 cS) (byN ns tx).isSome arr 2) (hK : KS w0 w k bA nA bI nI rs ⟨ns, wk, lt⟩) (hk0 : k < w0.heap.size) (hI0 : w0.heap.size ≤ bI) (hT : Bk w bT [.int .i64 2, .int .i64 tn, .string ⟨tx.toArray⟩, .bool tsec, s1, s2, s3] 67) (hTk : w0.heap.size ≤ bT) :
    bKind.wp Tryd.prog (SwP w0 k bA nA bI j dark p n c rs (setK ⟨2, tn, tx, tsec, ta, tth, tel⟩ dark s ⟨ns, wk, lt⟩)) a w := by
  obtain ⟨g, rfl⟩ := hF.opens
  have hl := hK.mp.look1 tx hx
  have hf0 := field0
  have hf1 := field1
  have HK := keep hK
  have x2 := hT.cell 2 rfl
  have HL : Hid (setK ⟨2, tn, tx, tsec, ta, tth, tel⟩ dark s ⟨ns, wk, lt⟩ = match byN ns tx with
      | none => .error 6
      | some v => if v.loop = true then .error 6 else if (!v.secret && (s || dark)) = true then .error 10 else .ok ⟨ns, wk, lt⟩) := by
    show setK _ _ _ _ = _
    rfl
  obtain ⟨on, hon⟩ : ∃ o, byN ns tx = o := ⟨_, rfl⟩
  rw [hon] at hl HL
  rw [hon]
  clear hF hK hT hon
  conv => arg 2; whnf
  cases on with
  | none =>
    go_wp2
    exact .err ⟨rfl, rfl⟩ rfl HL.out HK.out.fs
  | some v =>
    obtain ⟨vn, vs, vl⟩ := v
    unfold nmO valN at hl
    dsimp only [Option.getD] at hl
    dsimp only at HL
    dsimp only [Option.isSome]
    cases vl with
    | true =>
      go_wp2
      exact .err ⟨rfl, rfl⟩ rfl HL.out HK.out.fs
    | false =>
      cases vs with
      | true =>
        go_wp2
        exact .ok ⟨⟨rfl, rfl⟩, rfl, rfl, rfl, rfl, rfl, rfl⟩ HL.out HK.out
      | false =>
        cases s with
        | true =>
          go_wp2
          exact .err ⟨rfl, rfl⟩ rfl HL.out HK.out.fs
        | false =>
          cases dark with
          | true =>
            go_wp2
            exact .err ⟨rfl, rfl⟩ rfl HL.out HK.out.fs
          | false =>
            go_wp2
            exact .ok ⟨⟨rfl, rfl⟩, rfl, rfl, rfl, rfl, rfl, rfl⟩ HL.out HK.out
end Go.Proofs.YtemdnmfldihalaaDoor.Lr
namespace Go.Proofs.YtemdnmfldihalaaDoor.Lr
set_option linter.unusedVariables false
set_option linter.unusedSimpArgs false
open Go.ChangeShapes Go.WideShapes Go.ChangeAt Go.RowKit Go.Maps Go.WideMaps Lg

set_option maxHeartbeats 8000000 in
set_option maxRecDepth 100000 in
theorem sw_put (w0 w : World) (k bA nA bI nI j : Nat) (dark : Bool) (p : Option Addr) (n c bT : Nat) (rs : List Vr) (ns : List Nm) (wk lt : Nat) (tn : Int) (tx : List UInt8) (tsec : Bool) (ta : List Ex) (tth tel : List St) (s1 s2 s3 : Value) (a : Act) (s u : Bool) (gS cS ge oe ce : Nat) (pk pn : Int) (px : List UInt8) (pa : List Ex) (tp : Option Addr) (tq tc : Nat) (hS : w.cell? ⟨gS, 0, none⟩ = some (.bool s)) (hU : w.cell? ⟨gS, 1, none⟩ = some (.bool u)) (hgS : gS < w.heap.size) (hx : tx.length ≤ maxLen) (hat : ExAt w ge oe ⟨pk, pn, px, pa⟩ (.slice tp tq tc)) (hge : ge < w.heap.size) (had arr : Bool) (hs1 : s1 = .slice (some ⟨ge, oe, none⟩) 2 ce) (hF : FT a k bI j dark p n c bT (.slice (some ⟨gS, 0, none⟩) 2 cS) had arr 3) (hK : KS w0 w k bA nA bI nI rs ⟨ns, wk, lt⟩) (hk0 : k < w0.heap.size) (hI0 : w0.heap.size ≤ bI) (hT : Bk w bT [.int .i64 3, .int .i64 tn, .string ⟨tx.toArray⟩, .bool tsec, s1, s2, s3] 67) (hTk : w0.heap.size ≤ bT) :
    bKind.wp Tryd.prog (SwP w0 k bA nA bI j dark p n c rs (thenK (placeK rs dark tx ⟨pk, pn, px, pa⟩ s) fun to => if (!to && (u || dark)) = true then .error 10 else .ok (⟨ns, wk, lt⟩ : Ks))) a w := by
  subst hs1
  obtain ⟨g, rfl⟩ := hF.opens
  have HK := keep hK
  have HSS : Hid (∀ W' : World, Below w.heap.size w W' → (W'.cell? ⟨bT, 2, none⟩ = some (.string ⟨tx.toArray⟩) ∧ W'.cell? ⟨bT, 4, none⟩ = some (.slice (some ⟨ge, oe, none⟩) 2 ce) ∧ W'.cell? ⟨ge, oe, none⟩ = some (.int .i64 pk) ∧ W'.cell? ⟨ge, oe + 1, none⟩ = some (.int .i64 pn) ∧ W'.cell? ⟨ge, oe + 2, none⟩ = some (.string ⟨px.toArray⟩) ∧ W'.cell? ⟨ge, oe + 3, none⟩ = some (.slice tp tq tc) ∧ W'.cell? ⟨gS, 0, none⟩ = some (.bool s))) := fun W' hb => ⟨cell_old hb (hT.cell 2 rfl) hT.lt, cell_old hb (hT.cell 4 rfl) hT.lt, cell_old hb hat.c0 hge, cell_old hb hat.c1 hge, cell_old hb hat.c2 hge, cell_old hb hat.c3 hge, cell_old hb hS hgS⟩
  have HU : Hid (∀ W' : World, Below w.heap.size w W' → W'.cell? ⟨gS, 1, none⟩ = some (.bool u)) := fun W' hb => cell_old hb hU hgS
  have HPl := keep (fun W hW => place_any k bA nA rs wk lt tx hx ⟨pk, pn, px, pa⟩ (.slice tp tq tc) ⟨_, _, _, rfl⟩ s dark W (hK.kk.below hW))
  unfold exA at HPl
  obtain ⟨rs0, hr0⟩ : ∃ r, (thenK (placeK rs dark tx ⟨pk, pn, px, pa⟩ s) fun to => if (!to && (u || dark)) = true then .error 10 else .ok (⟨ns, wk, lt⟩ : Ks)) = r := ⟨_, rfl⟩
  have HR := keep hr0
  rw [hr0]
  clear hF hK hT hat hS hU hr0
  conv => arg 2; whnf
  go_wp2_with fail
  refine wp_region_noPanic ?_
  refine Ord.wpM_begin (fun W' : World => W'.cell? ⟨bT, 2, none⟩ = some (.string ⟨tx.toArray⟩) ∧ W'.cell? ⟨bT, 4, none⟩ = some (.slice (some ⟨ge, oe, none⟩) 2 ce) ∧ W'.cell? ⟨ge, oe, none⟩ = some (.int .i64 pk) ∧ W'.cell? ⟨ge, oe + 1, none⟩ = some (.int .i64 pn) ∧ W'.cell? ⟨ge, oe + 2, none⟩ = some (.string ⟨px.toArray⟩) ∧ W'.cell? ⟨ge, oe + 3, none⟩ = some (.slice tp tq tc) ∧ W'.cell? ⟨gS, 0, none⟩ = some (.bool s)) [0, 1, 2, 3, 4, 5, 6, 7, 8, 9, 10, 11, 12, 13, 14, 15, 16] (by kernel_rfl) ?_
  have HB4 : Hid (Below w.heap.size w w.drew) := Below.drew (Below.refl _ _)
  generalize w.drew = w4 at *
  have hS := HSS.out w4 HB4.out
  refine Ord.wpM_take (i := 0) (v := .pointer (some ⟨k, 0, none⟩)) (by simp only [List.getElem?_toArray, List.getElem?_cons_zero, List.getElem?_cons_succ]; rfl) (by kernel_rfl) (by kernel_rfl) (by kernel_rfl) (by kernel_rfl) (fun _ _ _ h => h) (Or.inl ⟨by rfl, by intro W' hW; obtain ⟨q0, q1, q2, q3, q4, q5, q6⟩ := hW; go_simp⟩) hS ?_
  try simp only [Act.put, List.setIfInBounds_toArray, List.set_cons_zero, List.set_cons_succ]
  refine Ord.wpM_take (i := 1) (v := .pointer (some ⟨bT, 2, none⟩)) (by simp only [List.getElem?_toArray, List.getElem?_cons_zero, List.getElem?_cons_succ]; rfl) (by kernel_rfl) (by kernel_rfl) (by kernel_rfl) (by kernel_rfl) (fun _ _ _ h => h) (Or.inl ⟨by rfl, by intro W' hW; obtain ⟨q0, q1, q2, q3, q4, q5, q6⟩ := hW; go_simp⟩) hS ?_
  try simp only [Act.put, List.setIfInBounds_toArray, List.set_cons_zero, List.set_cons_succ]
  refine Ord.wpM_take (i := 2) (v := .string ⟨tx.toArray⟩) (by simp only [List.getElem?_toArray, List.getElem?_cons_zero, List.getElem?_cons_succ]; rfl) (by kernel_rfl) (by kernel_rfl) (by kernel_rfl) (by kernel_rfl) (fun _ _ _ h => h) (Or.inl ⟨by rfl, by intro W' hW; obtain ⟨q0, q1, q2, q3, q4, q5, q6⟩ := hW; go_simp⟩) hS ?_
  try simp only [Act.put, List.setIfInBounds_toArray, List.set_cons_zero, List.set_cons_succ]
  refine Ord.wpM_take (i := 3) (v := .pointer (some ⟨bT, 4, none⟩)) (by simp only [List.getElem?_toArray, List.getElem?_cons_zero, List.getElem?_cons_succ]; rfl) (by kernel_rfl) (by kernel_rfl) (by kernel_rfl) (by kernel_rfl) (fun _ _ _ h => h) (Or.inl ⟨by rfl, by intro W' hW; obtain ⟨q0, q1, q2, q3, q4, q5, q6⟩ := hW; go_simp⟩) hS ?_
  try simp only [Act.put, List.setIfInBounds_toArray, List.set_cons_zero, List.set_cons_succ]
  refine Ord.wpM_take (i := 4) (v := .slice (some ⟨ge, oe, none⟩) 2 ce) (by simp only [List.getElem?_toArray, List.getElem?_cons_zero, List.getElem?_cons_succ]; rfl) (by kernel_rfl) (by kernel_rfl) (by kernel_rfl) (by kernel_rfl) (fun _ _ _ h => h) (Or.inl ⟨by rfl, by intro W' hW; obtain ⟨q0, q1, q2, q3, q4, q5, q6⟩ := hW; go_simp⟩) hS ?_
  try simp only [Act.put, List.setIfInBounds_toArray, List.set_cons_zero, List.set_cons_succ]
  refine Ord.wpM_take (i := 5) (v := .pointer (some ⟨ge, oe, none⟩)) (by simp only [List.getElem?_toArray, List.getElem?_cons_zero, List.getElem?_cons_succ]; rfl) (by kernel_rfl) (by kernel_rfl) (by kernel_rfl) (by kernel_rfl) (fun _ _ _ h => h) (Or.inl ⟨by rfl, by intro W' hW; obtain ⟨q0, q1, q2, q3, q4, q5, q6⟩ := hW; go_simp⟩) hS ?_
  try simp only [Act.put, List.setIfInBounds_toArray, List.set_cons_zero, List.set_cons_succ]
  refine Ord.wpM_take (i := 6) (v := .agg #[.int .i64 pk, .int .i64 pn, .string ⟨px.toArray⟩, .slice tp tq tc]) (by simp only [List.getElem?_toArray, List.getElem?_cons_zero, List.getElem?_cons_succ]; rfl) (by kernel_rfl) (by kernel_rfl) (by kernel_rfl) (by kernel_rfl) (fun _ _ _ h => h) (Or.inl ⟨by rfl, by intro W' hW; obtain ⟨q0, q1, q2, q3, q4, q5, q6⟩ := hW; go_simp⟩) hS ?_
  try simp only [Act.put, List.setIfInBounds_toArray, List.set_cons_zero, List.set_cons_succ]
  refine Ord.wpM_take (i := 7) (v := .slice (some ⟨gS, 0, none⟩) 2 cS) (by simp only [List.getElem?_toArray, List.getElem?_cons_zero, List.getElem?_cons_succ]; rfl) (by kernel_rfl) (by kernel_rfl) (by kernel_rfl) (by kernel_rfl) (fun _ _ _ h => h) (Or.inl ⟨by rfl, by intro W' hW; obtain ⟨q0, q1, q2, q3, q4, q5, q6⟩ := hW; go_simp⟩) hS ?_
  try simp only [Act.put, List.setIfInBounds_toArray, List.set_cons_zero, List.set_cons_succ]
  refine Ord.wpM_take (i := 8) (v := .pointer (some ⟨gS, 0, none⟩)) (by simp only [List.getElem?_toArray, List.getElem?_cons_zero, List.getElem?_cons_succ]; rfl) (by kernel_rfl) (by kernel_rfl) (by kernel_rfl) (by kernel_rfl) (fun _ _ _ h => h) (Or.inl ⟨by rfl, by intro W' hW; obtain ⟨q0, q1, q2, q3, q4, q5, q6⟩ := hW; go_simp⟩) hS ?_
  try simp only [Act.put, List.setIfInBounds_toArray, List.set_cons_zero, List.set_cons_succ]
  refine Ord.wpM_take (i := 9) (v := .bool s) (by simp only [List.getElem?_toArray, List.getElem?_cons_zero, List.getElem?_cons_succ]; rfl) (by kernel_rfl) (by kernel_rfl) (by kernel_rfl) (by kernel_rfl) (fun _ _ _ h => h) (Or.inl ⟨by rfl, by intro W' hW; obtain ⟨q0, q1, q2, q3, q4, q5, q6⟩ := hW; go_simp⟩) hS ?_
  try simp only [Act.put, List.setIfInBounds_toArray, List.set_cons_zero, List.set_cons_succ]
  refine Ord.wpM_take (i := 10) (v := .bool dark) (by simp only [List.getElem?_toArray, List.getElem?_cons_zero, List.getElem?_cons_succ]; rfl) (by kernel_rfl) (by kernel_rfl) (by kernel_rfl) (by kernel_rfl) (fun _ _ _ h => h) (Or.inl ⟨by rfl, by intro W' hW; obtain ⟨q0, q1, q2, q3, q4, q5, q6⟩ := hW; go_simp⟩) hS ?_
  try simp only [Act.put, List.setIfInBounds_toArray, List.set_cons_zero, List.set_cons_succ]
  refine Ord.wpM_one (i := 11) (by kernel_rfl) (by simp only [List.getElem?_toArray, List.getElem?_cons_zero, List.getElem?_cons_succ]; rfl) (fun K hK => ?_)
  go_simp
  refine (HPl.out w4 HB4.out).mono ?_
  rintro r w5 ⟨rfl, hb5⟩
  have HB5 := keep (HB4.out.trans (hb5.mono HB4.out.size))
  obtain ⟨res, hres⟩ : ∃ r, placeK rs dark tx ⟨pk, pn, px, pa⟩ s = r := ⟨_, rfl⟩
  have H3 := keep (place_three rs dark tx ⟨pk, pn, px, pa⟩ s)
  rw [hres] at HR H3 ⊢
  obtain ⟨rb, hrb⟩ : ∃ b, resB res = b := ⟨_, rfl⟩
  obtain ⟨re, hre⟩ : ∃ b, resE res = b := ⟨_, rfl⟩
  have htw : two res = .tuple #[.bool rb, .int .i64 re] := by unfold two; rw [hrb, hre]
  rw [htw]
  have HRb := keep hrb
  have HRe := keep hre
  clear hb5 hS HPl HB4 hres htw hrb hre
  go_simp
  refine hK.out _ _ (fun _ => HSS.out _ HB5.out) ?_
  clear hK K
  try simp only [Act.put, List.setIfInBounds_toArray, List.set_cons_zero, List.set_cons_succ]
  have hS := HSS.out w5 HB5.out
  refine Ord.wpM_take (i := 12) (v := .tuple #[.bool rb, .int .i64 re]) (by simp only [List.getElem?_toArray, List.getElem?_cons_zero, List.getElem?_cons_succ]; rfl) (by kernel_rfl) (by kernel_rfl) (by kernel_rfl) (by kernel_rfl) (fun _ _ _ h => h) (Or.inl ⟨by rfl, by intro W' hW; obtain ⟨q0, q1, q2, q3, q4, q5, q6⟩ := hW; go_simp⟩) hS ?_
  try simp only [Act.put, List.setIfInBounds_toArray, List.set_cons_zero, List.set_cons_succ]
  refine Ord.wpM_take (i := 13) (v := .bool rb) (by simp only [List.getElem?_toArray, List.getElem?_cons_zero, List.getElem?_cons_succ]; rfl) (by kernel_rfl) (by kernel_rfl) (by kernel_rfl) (by kernel_rfl) (fun _ _ _ h => h) (Or.inl ⟨by rfl, by intro W' hW; obtain ⟨q0, q1, q2, q3, q4, q5, q6⟩ := hW; go_simp⟩) hS ?_
  try simp only [Act.put, List.setIfInBounds_toArray, List.set_cons_zero, List.set_cons_succ]
  refine Ord.wpM_take (i := 14) (v := .int .i64 re) (by simp only [List.getElem?_toArray, List.getElem?_cons_zero, List.getElem?_cons_succ]; rfl) (by kernel_rfl) (by kernel_rfl) (by kernel_rfl) (by kernel_rfl) (fun _ _ _ h => h) (Or.inl ⟨by rfl, by intro W' hW; obtain ⟨q0, q1, q2, q3, q4, q5, q6⟩ := hW; go_simp⟩) hS ?_
  try simp only [Act.put, List.setIfInBounds_toArray, List.set_cons_zero, List.set_cons_succ]
  refine Ord.wpM_one (i := 15) (by kernel_rfl) (by simp only [List.getElem?_toArray, List.getElem?_cons_zero, List.getElem?_cons_succ]; rfl) (fun K hK => ?_)
  go_simp
  refine hK.out _ _ (fun _ => HSS.out _ HB5.out) ?_
  clear hK K
  try simp only [Act.put, List.setIfInBounds_toArray, List.set_cons_zero, List.set_cons_succ]
  refine Ord.wpM_one (i := 16) (by kernel_rfl) (by simp only [List.getElem?_toArray, List.getElem?_cons_zero, List.getElem?_cons_succ]; rfl) (fun K hK => ?_)
  go_simp
  refine hK.out _ _ (fun _ => HSS.out _ HB5.out) ?_
  clear hK K
  try simp only [Act.put, List.setIfInBounds_toArray, List.set_cons_zero, List.set_cons_succ]
  refine Ord.wpM_done (by kernel_rfl) ?_ _
  refine NoPanic.normal ?_
  have HK5 := keep (HK.out.below HB5.out)
  have u1 := HU.out w5 HB5.out
  clear hS HSS HU HK
  rcases H3.out with rfl | rfl | ⟨to, rfl⟩
  · have e1 : re = 6 := HRe.out.symm
    subst e1
    go_wp2
    exact .err ⟨rfl, rfl⟩ rfl HR.out.symm HK5.out.fs
  · have e1 : re = 10 := HRe.out.symm
    subst e1
    go_wp2
    exact .err ⟨rfl, rfl⟩ rfl HR.out.symm HK5.out.fs
  · have e1 : re = 0 := HRe.out.symm
    have e2 : rb = to := HRb.out.symm
    subst e1 e2
    cases rb with
    | true =>
      go_wp2
      exact .ok (k1 := ⟨ns, wk, lt⟩) ⟨⟨rfl, rfl⟩, rfl, rfl, rfl, rfl, rfl, rfl⟩ HR.out.symm HK5.out
    | false =>
      cases u with
      | true =>
        go_wp2
        exact .err ⟨rfl, rfl⟩ rfl HR.out.symm HK5.out.fs
      | false =>
        cases dark with
        | true =>
          go_wp2
          exact .err ⟨rfl, rfl⟩ rfl HR.out.symm HK5.out.fs
        | false =>
          go_wp2
          exact .ok (k1 := ⟨ns, wk, lt⟩) ⟨⟨rfl, rfl⟩, rfl, rfl, rfl, rfl, rfl, rfl⟩ HR.out.symm HK5.out
end Go.Proofs.YtemdnmfldihalaaDoor.Lr
