/- The document's Check: the parameters. Written by tools/gen_mchk.py. The document's Check: the arrays. Written by tools/gen_mchk.py. The document's Check: the whole. Written by tools/gen_mchk.py. -/
import Derived.Test.YtemdnmfldihalaaDoorLmBlocks
import Derived.Test.YtemdnmfldihalaaDoorLkCheck
namespace Go.Proofs.YtemdnmfldihalaaDoor.Lr
set_option linter.unusedVariables false
set_option linter.unusedSimpArgs false
open Go.ChangeShapes Go.WideShapes Go.ChangeAt Go.RowKit Go.Maps Go.WideMaps Lg

structure W92 (a : Act) : Prop where
  len : a.tmps.toList.length = 92
  dfr : a.defers = []
set_option maxRecDepth 100000 in
theorem W92.opens {a : Act} (h : W92 a) : a = ⟨#[slot a 0, slot a 1, slot a 2, slot a 3, slot a 4, slot a 5, slot a 6, slot a 7, slot a 8, slot a 9, slot a 10, slot a 11, slot a 12, slot a 13, slot a 14, slot a 15, slot a 16, slot a 17, slot a 18, slot a 19, slot a 20, slot a 21, slot a 22, slot a 23, slot a 24, slot a 25, slot a 26, slot a 27, slot a 28, slot a 29, slot a 30, slot a 31, slot a 32, slot a 33, slot a 34, slot a 35, slot a 36, slot a 37, slot a 38, slot a 39, slot a 40, slot a 41, slot a 42, slot a 43, slot a 44, slot a 45, slot a 46, slot a 47, slot a 48, slot a 49, slot a 50, slot a 51, slot a 52, slot a 53, slot a 54, slot a 55, slot a 56, slot a 57, slot a 58, slot a 59, slot a 60, slot a 61, slot a 62, slot a 63, slot a 64, slot a 65, slot a 66, slot a 67, slot a 68, slot a 69, slot a 70, slot a 71, slot a 72, slot a 73, slot a 74, slot a 75, slot a 76, slot a 77, slot a 78, slot a 79, slot a 80, slot a 81, slot a 82, slot a 83, slot a 84, slot a 85, slot a 86, slot a 87, slot a 88, slot a 89, slot a 90, slot a 91], []⟩ := by
  obtain ⟨⟨l⟩, d⟩ := a
  obtain ⟨h1, h2⟩ := h
  dsimp only at h1 h2
  subst h2
  have e0 : l = (List.range 92).map (fun i => l.getD i undef) := by
    refine List.ext_getElem (by simp [h1]) fun i h1 h2 => ?_
    rw [List.getElem_map, List.getElem_range, List.getD_eq_getElem?_getD, List.getElem?_eq_getElem h1, Option.getD_some]
  have e : (List.range 92).map (fun i => l.getD i undef) = [l.getD 0 undef, l.getD 1 undef, l.getD 2 undef, l.getD 3 undef, l.getD 4 undef, l.getD 5 undef, l.getD 6 undef, l.getD 7 undef, l.getD 8 undef, l.getD 9 undef, l.getD 10 undef, l.getD 11 undef, l.getD 12 undef, l.getD 13 undef, l.getD 14 undef, l.getD 15 undef, l.getD 16 undef, l.getD 17 undef, l.getD 18 undef, l.getD 19 undef, l.getD 20 undef, l.getD 21 undef, l.getD 22 undef, l.getD 23 undef, l.getD 24 undef, l.getD 25 undef, l.getD 26 undef, l.getD 27 undef, l.getD 28 undef, l.getD 29 undef, l.getD 30 undef, l.getD 31 undef, l.getD 32 undef, l.getD 33 undef, l.getD 34 undef, l.getD 35 undef, l.getD 36 undef, l.getD 37 undef, l.getD 38 undef, l.getD 39 undef, l.getD 40 undef, l.getD 41 undef, l.getD 42 undef, l.getD 43 undef, l.getD 44 undef, l.getD 45 undef, l.getD 46 undef, l.getD 47 undef, l.getD 48 undef, l.getD 49 undef, l.getD 50 undef, l.getD 51 undef, l.getD 52 undef, l.getD 53 undef, l.getD 54 undef, l.getD 55 undef, l.getD 56 undef, l.getD 57 undef, l.getD 58 undef, l.getD 59 undef, l.getD 60 undef, l.getD 61 undef, l.getD 62 undef, l.getD 63 undef, l.getD 64 undef, l.getD 65 undef, l.getD 66 undef, l.getD 67 undef, l.getD 68 undef, l.getD 69 undef, l.getD 70 undef, l.getD 71 undef, l.getD 72 undef, l.getD 73 undef, l.getD 74 undef, l.getD 75 undef, l.getD 76 undef, l.getD 77 undef, l.getD 78 undef, l.getD 79 undef, l.getD 80 undef, l.getD 81 undef, l.getD 82 undef, l.getD 83 undef, l.getD 84 undef, l.getD 85 undef, l.getD 86 undef, l.getD 87 undef, l.getD 88 undef, l.getD 89 undef, l.getD 90 undef, l.getD 91 undef] := by kernel_rfl
  exact congrArg (fun x : List Value => (⟨⟨x⟩, []⟩ : Act)) (e0.trans e)
structure GA (a : Act) (bF : Nat) : Prop where
  wide : W92 a
  s1 : slot a 1 = .pointer (some ⟨bF, 0, none⟩)
set_option maxRecDepth 100000 in
theorem GA.opens {a : Act} {bF : Nat} (h : GA a bF) : ∃ g : Nat → Value, a = ⟨#[g 0, .pointer (some ⟨bF, 0, none⟩), g 2, g 3, g 4, g 5, g 6, g 7, g 8, g 9, g 10, g 11, g 12, g 13, g 14, g 15, g 16, g 17, g 18, g 19, g 20, g 21, g 22, g 23, g 24, g 25, g 26, g 27, g 28, g 29, g 30, g 31, g 32, g 33, g 34, g 35, g 36, g 37, g 38, g 39, g 40, g 41, g 42, g 43, g 44, g 45, g 46, g 47, g 48, g 49, g 50, g 51, g 52, g 53, g 54, g 55, g 56, g 57, g 58, g 59, g 60, g 61, g 62, g 63, g 64, g 65, g 66, g 67, g 68, g 69, g 70, g 71, g 72, g 73, g 74, g 75, g 76, g 77, g 78, g 79, g 80, g 81, g 82, g 83, g 84, g 85, g 86, g 87, g 88, g 89, g 90, g 91], []⟩ := by
  refine ⟨slot a, ?_⟩
  have e := h.wide.opens
  rw [h.s1] at e
  exact e
structure GB (a : Act) (bF k bN : Nat) : Prop where
  wide : W92 a
  s1 : slot a 1 = .pointer (some ⟨bF, 0, none⟩)
  s3 : slot a 3 = .pointer (some ⟨k, 0, none⟩)
  s4 : slot a 4 = .map (some bN)
set_option maxRecDepth 100000 in
theorem GB.opens {a : Act} {bF k bN : Nat} (h : GB a bF k bN) : ∃ g : Nat → Value, a = ⟨#[g 0, .pointer (some ⟨bF, 0, none⟩), g 2, .pointer (some ⟨k, 0, none⟩), .map (some bN), g 5, g 6, g 7, g 8, g 9, g 10, g 11, g 12, g 13, g 14, g 15, g 16, g 17, g 18, g 19, g 20, g 21, g 22, g 23, g 24, g 25, g 26, g 27, g 28, g 29, g 30, g 31, g 32, g 33, g 34, g 35, g 36, g 37, g 38, g 39, g 40, g 41, g 42, g 43, g 44, g 45, g 46, g 47, g 48, g 49, g 50, g 51, g 52, g 53, g 54, g 55, g 56, g 57, g 58, g 59, g 60, g 61, g 62, g 63, g 64, g 65, g 66, g 67, g 68, g 69, g 70, g 71, g 72, g 73, g 74, g 75, g 76, g 77, g 78, g 79, g 80, g 81, g 82, g 83, g 84, g 85, g 86, g 87, g 88, g 89, g 90, g 91], []⟩ := by
  refine ⟨slot a, ?_⟩
  have e := h.wide.opens
  rw [h.s1, h.s3, h.s4] at e
  exact e
structure GC (a : Act) (bF k bN : Nat) (p : Option Addr) (n c j : Nat) : Prop where
  wide : W92 a
  s1 : slot a 1 = .pointer (some ⟨bF, 0, none⟩)
  s3 : slot a 3 = .pointer (some ⟨k, 0, none⟩)
  s4 : slot a 4 = .map (some bN)
  s30 : slot a 30 = .slice p n c
  s31 : slot a 31 = .int .i64 (n : Int)
  s32 : slot a 32 = .int .i64 (j : Int)
set_option maxRecDepth 100000 in
theorem GC.opens {a : Act} {bF k bN : Nat} {p : Option Addr} {n c j : Nat} (h : GC a bF k bN p n c j) : ∃ g : Nat → Value, a = ⟨#[g 0, .pointer (some ⟨bF, 0, none⟩), g 2, .pointer (some ⟨k, 0, none⟩), .map (some bN), g 5, g 6, g 7, g 8, g 9, g 10, g 11, g 12, g 13, g 14, g 15, g 16, g 17, g 18, g 19, g 20, g 21, g 22, g 23, g 24, g 25, g 26, g 27, g 28, g 29, .slice p n c, .int .i64 (n : Int), .int .i64 (j : Int), g 33, g 34, g 35, g 36, g 37, g 38, g 39, g 40, g 41, g 42, g 43, g 44, g 45, g 46, g 47, g 48, g 49, g 50, g 51, g 52, g 53, g 54, g 55, g 56, g 57, g 58, g 59, g 60, g 61, g 62, g 63, g 64, g 65, g 66, g 67, g 68, g 69, g 70, g 71, g 72, g 73, g 74, g 75, g 76, g 77, g 78, g 79, g 80, g 81, g 82, g 83, g 84, g 85, g 86, g 87, g 88, g 89, g 90, g 91], []⟩ := by
  refine ⟨slot a, ?_⟩
  have e := h.wide.opens
  rw [h.s1, h.s3, h.s4, h.s30, h.s31, h.s32] at e
  exact e
structure GD (a : Act) (bF k bN : Nat) (p : Option Addr) (n c j : Nat) : Prop where
  wide : W92 a
  s1 : slot a 1 = .pointer (some ⟨bF, 0, none⟩)
  s3 : slot a 3 = .pointer (some ⟨k, 0, none⟩)
  s4 : slot a 4 = .map (some bN)
  s52 : slot a 52 = .slice p n c
  s53 : slot a 53 = .int .i64 (n : Int)
  s54 : slot a 54 = .int .i64 (j : Int)
set_option maxRecDepth 100000 in
theorem GD.opens {a : Act} {bF k bN : Nat} {p : Option Addr} {n c j : Nat} (h : GD a bF k bN p n c j) : ∃ g : Nat → Value, a = ⟨#[g 0, .pointer (some ⟨bF, 0, none⟩), g 2, .pointer (some ⟨k, 0, none⟩), .map (some bN), g 5, g 6, g 7, g 8, g 9, g 10, g 11, g 12, g 13, g 14, g 15, g 16, g 17, g 18, g 19, g 20, g 21, g 22, g 23, g 24, g 25, g 26, g 27, g 28, g 29, g 30, g 31, g 32, g 33, g 34, g 35, g 36, g 37, g 38, g 39, g 40, g 41, g 42, g 43, g 44, g 45, g 46, g 47, g 48, g 49, g 50, g 51, .slice p n c, .int .i64 (n : Int), .int .i64 (j : Int), g 55, g 56, g 57, g 58, g 59, g 60, g 61, g 62, g 63, g 64, g 65, g 66, g 67, g 68, g 69, g 70, g 71, g 72, g 73, g 74, g 75, g 76, g 77, g 78, g 79, g 80, g 81, g 82, g 83, g 84, g 85, g 86, g 87, g 88, g 89, g 90, g 91], []⟩ := by
  refine ⟨slot a, ?_⟩
  have e := h.wide.opens
  rw [h.s1, h.s3, h.s4, h.s52, h.s53, h.s54] at e
  exact e
structure GE (a : Act) (bF k bN : Nat) (p : Option Addr) (n c j : Nat) (bT : Nat) : Prop where
  wide : W92 a
  s1 : slot a 1 = .pointer (some ⟨bF, 0, none⟩)
  s3 : slot a 3 = .pointer (some ⟨k, 0, none⟩)
  s4 : slot a 4 = .map (some bN)
  s10 : slot a 10 = .pointer (some ⟨bT, 0, none⟩)
  s52 : slot a 52 = .slice p n c
  s53 : slot a 53 = .int .i64 (n : Int)
  s54 : slot a 54 = .int .i64 (j : Int)
set_option maxRecDepth 100000 in
theorem GE.opens {a : Act} {bF k bN : Nat} {p : Option Addr} {n c j : Nat} {bT : Nat} (h : GE a bF k bN p n c j bT) : ∃ g : Nat → Value, a = ⟨#[g 0, .pointer (some ⟨bF, 0, none⟩), g 2, .pointer (some ⟨k, 0, none⟩), .map (some bN), g 5, g 6, g 7, g 8, g 9, .pointer (some ⟨bT, 0, none⟩), g 11, g 12, g 13, g 14, g 15, g 16, g 17, g 18, g 19, g 20, g 21, g 22, g 23, g 24, g 25, g 26, g 27, g 28, g 29, g 30, g 31, g 32, g 33, g 34, g 35, g 36, g 37, g 38, g 39, g 40, g 41, g 42, g 43, g 44, g 45, g 46, g 47, g 48, g 49, g 50, g 51, .slice p n c, .int .i64 (n : Int), .int .i64 (j : Int), g 55, g 56, g 57, g 58, g 59, g 60, g 61, g 62, g 63, g 64, g 65, g 66, g 67, g 68, g 69, g 70, g 71, g 72, g 73, g 74, g 75, g 76, g 77, g 78, g 79, g 80, g 81, g 82, g 83, g 84, g 85, g 86, g 87, g 88, g 89, g 90, g 91], []⟩ := by
  refine ⟨slot a, ?_⟩
  have e := h.wide.opens
  rw [h.s1, h.s3, h.s4, h.s10, h.s52, h.s53, h.s54] at e
  exact e
structure GH (a : Act) (bF k bN : Nat) (p : Option Addr) (n c j : Nat) (bT : Nat) (had : Bool) : Prop where
  wide : W92 a
  s1 : slot a 1 = .pointer (some ⟨bF, 0, none⟩)
  s3 : slot a 3 = .pointer (some ⟨k, 0, none⟩)
  s4 : slot a 4 = .map (some bN)
  s10 : slot a 10 = .pointer (some ⟨bT, 0, none⟩)
  s12 : slot a 12 = .bool had
  s52 : slot a 52 = .slice p n c
  s53 : slot a 53 = .int .i64 (n : Int)
  s54 : slot a 54 = .int .i64 (j : Int)
set_option maxRecDepth 100000 in
theorem GH.opens {a : Act} {bF k bN : Nat} {p : Option Addr} {n c j : Nat} {bT : Nat} {had : Bool} (h : GH a bF k bN p n c j bT had) : ∃ g : Nat → Value, a = ⟨#[g 0, .pointer (some ⟨bF, 0, none⟩), g 2, .pointer (some ⟨k, 0, none⟩), .map (some bN), g 5, g 6, g 7, g 8, g 9, .pointer (some ⟨bT, 0, none⟩), g 11, .bool had, g 13, g 14, g 15, g 16, g 17, g 18, g 19, g 20, g 21, g 22, g 23, g 24, g 25, g 26, g 27, g 28, g 29, g 30, g 31, g 32, g 33, g 34, g 35, g 36, g 37, g 38, g 39, g 40, g 41, g 42, g 43, g 44, g 45, g 46, g 47, g 48, g 49, g 50, g 51, .slice p n c, .int .i64 (n : Int), .int .i64 (j : Int), g 55, g 56, g 57, g 58, g 59, g 60, g 61, g 62, g 63, g 64, g 65, g 66, g 67, g 68, g 69, g 70, g 71, g 72, g 73, g 74, g 75, g 76, g 77, g 78, g 79, g 80, g 81, g 82, g 83, g 84, g 85, g 86, g 87, g 88, g 89, g 90, g 91], []⟩ := by
  refine ⟨slot a, ?_⟩
  have e := h.wide.opens
  rw [h.s1, h.s3, h.s4, h.s10, h.s12, h.s52, h.s53, h.s54] at e
  exact e
structure GI (a : Act) (bF k bN : Nat) (p : Option Addr) (n c j : Nat) (bT : Nat) (had : Bool) (arr : Bool) : Prop where
  wide : W92 a
  s1 : slot a 1 = .pointer (some ⟨bF, 0, none⟩)
  s3 : slot a 3 = .pointer (some ⟨k, 0, none⟩)
  s4 : slot a 4 = .map (some bN)
  s10 : slot a 10 = .pointer (some ⟨bT, 0, none⟩)
  s12 : slot a 12 = .bool had
  s14 : slot a 14 = .bool arr
  s52 : slot a 52 = .slice p n c
  s53 : slot a 53 = .int .i64 (n : Int)
  s54 : slot a 54 = .int .i64 (j : Int)
set_option maxRecDepth 100000 in
theorem GI.opens {a : Act} {bF k bN : Nat} {p : Option Addr} {n c j : Nat} {bT : Nat} {had : Bool} {arr : Bool} (h : GI a bF k bN p n c j bT had arr) : ∃ g : Nat → Value, a = ⟨#[g 0, .pointer (some ⟨bF, 0, none⟩), g 2, .pointer (some ⟨k, 0, none⟩), .map (some bN), g 5, g 6, g 7, g 8, g 9, .pointer (some ⟨bT, 0, none⟩), g 11, .bool had, g 13, .bool arr, g 15, g 16, g 17, g 18, g 19, g 20, g 21, g 22, g 23, g 24, g 25, g 26, g 27, g 28, g 29, g 30, g 31, g 32, g 33, g 34, g 35, g 36, g 37, g 38, g 39, g 40, g 41, g 42, g 43, g 44, g 45, g 46, g 47, g 48, g 49, g 50, g 51, .slice p n c, .int .i64 (n : Int), .int .i64 (j : Int), g 55, g 56, g 57, g 58, g 59, g 60, g 61, g 62, g 63, g 64, g 65, g 66, g 67, g 68, g 69, g 70, g 71, g 72, g 73, g 74, g 75, g 76, g 77, g 78, g 79, g 80, g 81, g 82, g 83, g 84, g 85, g 86, g 87, g 88, g 89, g 90, g 91], []⟩ := by
  refine ⟨slot a, ?_⟩
  have e := h.wide.opens
  rw [h.s1, h.s3, h.s4, h.s10, h.s12, h.s14, h.s52, h.s53, h.s54] at e
  exact e
structure GR (a : Act) (x : Int) : Prop where
  wide : W92 a
  s2 : slot a 2 = .int .i64 x
set_option maxRecDepth 100000 in
theorem GR.opens {a : Act} {x : Int} (h : GR a x) : ∃ g : Nat → Value, a = ⟨#[g 0, g 1, .int .i64 x, g 3, g 4, g 5, g 6, g 7, g 8, g 9, g 10, g 11, g 12, g 13, g 14, g 15, g 16, g 17, g 18, g 19, g 20, g 21, g 22, g 23, g 24, g 25, g 26, g 27, g 28, g 29, g 30, g 31, g 32, g 33, g 34, g 35, g 36, g 37, g 38, g 39, g 40, g 41, g 42, g 43, g 44, g 45, g 46, g 47, g 48, g 49, g 50, g 51, g 52, g 53, g 54, g 55, g 56, g 57, g 58, g 59, g 60, g 61, g 62, g 63, g 64, g 65, g 66, g 67, g 68, g 69, g 70, g 71, g 72, g 73, g 74, g 75, g 76, g 77, g 78, g 79, g 80, g 81, g 82, g 83, g 84, g 85, g 86, g 87, g 88, g 89, g 90, g 91], []⟩ := by
  refine ⟨slot a, ?_⟩
  have e := h.wide.opens
  rw [h.s2] at e
  exact e
noncomputable def cAll : Code := Tryd.f8.body.getD .skip
/-- Where the maps are laid; where parameters, and arrays, are gone over. -/
noncomputable def cLay : Code := sndC (sndC cAll)
noncomputable def cPar : Code := sndC (sndC cLay)
noncomputable def cArr : Code := sndC cPar
noncomputable def cRd1 : Code := rndC (inC (sndC (fstC cPar)))
noncomputable def cRd2 : Code := rndC (inC (sndC (fstC cArr)))
/-- On it goes, or it ends with a fault. -/
def CkP (N : Act → World → Prop) (R : Int → World → Prop) (e : Exit) (a : Act) (w : World) : Prop := (e = .normal ∧ N a w) ∨ (e = .ret ∧ ∃ x, GR a x ∧ R x w)
set_option maxHeartbeats 8000000 in
set_option maxRecDepth 100000 in
theorem ck_test {w : World} {a : Act} {bF : Nat} {p1 : Option Addr} {n1 c1 : Nat} {p2 : Option Addr} {n2 c2 : Nat} {s3 : Value} (hF : GA a bF) (hb : Bk w bF [.slice p1 n1 c1, .slice p2 n2 c2, s3] 25) : (fstC (sndC cAll)).wp Tryd.prog (CkP (fun a' w' => GA a' bF ∧ w' = w ∧ ¬ (4 < n1 ∨ 3 < n2)) (fun x w' => x = 5 ∧ w' = w ∧ (4 < n1 ∨ 3 < n2))) a w := by
  obtain ⟨gg, rfl⟩ := hF.opens
  have f0 := hb.cell 0 rfl
  have f1 := hb.cell 1 rfl
  clear hb
  clear hF
  conv => arg 2; whnf
  skip
  by_cases h1 : 4 < n1
  · have d1 : decide (4 < (n1 : Int)) = true := decide_eq_true (by omega)
    have H := keep h1
    clear h1
    go_wp2
    exact .inr ⟨rfl, 5, ⟨⟨rfl, rfl⟩, rfl⟩, rfl, rfl, .inl H.out⟩
  · have d1 : decide (4 < (n1 : Int)) = false := decide_eq_false (by omega)
    have H := keep h1
    clear h1
    by_cases h2 : 3 < n2
    · have d2 : decide (3 < (n2 : Int)) = true := decide_eq_true (by omega)
      have H2 := keep h2
      clear h2
      go_wp2
      exact .inr ⟨rfl, 5, ⟨⟨rfl, rfl⟩, rfl⟩, rfl, rfl, .inr H2.out⟩
    · have d2 : decide (3 < (n2 : Int)) = false := decide_eq_false (by omega)
      have H2 := keep h2
      clear h2
      go_wp2
      exact .inl ⟨rfl, ⟨⟨rfl, rfl⟩, rfl⟩, rfl, fun h => h.elim H.out H2.out⟩
set_option maxHeartbeats 8000000 in
set_option maxRecDepth 100000 in
theorem ck_lay3 {w : World} {a : Act} {bF : Nat} (hF : GA a bF) : (fstC cLay).wp Tryd.prog (OnP fun a' w' => W92 a' ∧ slot a' 1 = .pointer (some ⟨bF, 0, none⟩) ∧ slot a' 3 = .pointer (some ⟨w.heap.size + 1, 0, none⟩) ∧ w' = (w.alloc (.map #[] 0)).alloc (.cells #[.map (some w.heap.size), .int .i64 0, .int .i64 0] 57)) a w := by
  obtain ⟨gg, rfl⟩ := hF.opens
  have hmm := @run_makeMap Tryd.prog
  clear hF
  conv => arg 2; whnf
  go_wp2
  exact ⟨rfl, ⟨rfl, rfl⟩, rfl, rfl, rfl⟩
set_option maxHeartbeats 8000000 in
set_option maxRecDepth 100000 in
theorem ck_lay4 {w : World} {a : Act} {bF k : Nat} (hW : W92 a) (h1 : slot a 1 = .pointer (some ⟨bF, 0, none⟩)) (h3 : slot a 3 = .pointer (some ⟨k, 0, none⟩)) : (fstC (sndC cLay)).wp Tryd.prog (OnP fun a' w' => GB a' bF k w.heap.size ∧ w' = w.alloc (.map #[] 0)) a w := by
  have hmm := @run_makeMap Tryd.prog
  have e := hW.opens
  rw [h1, h3] at e
  rw [e]
  generalize slot a = gg
  clear hW h1 h3 e
  conv => arg 2; whnf
  go_wp2
  exact ⟨rfl, ⟨⟨rfl, rfl⟩, rfl, rfl, rfl⟩, rfl⟩
set_option maxHeartbeats 8000000 in
set_option maxRecDepth 100000 in
theorem ck_five {w : World} {a : Act} {bF k bN : Nat} {p : Option Addr} {n c : Nat} (hF : GB a bF k bN) (h0 : w.cell? ⟨bF, 0, none⟩ = some (.slice p n c)) : (fstC (fstC cPar)).wp Tryd.prog (OnP fun a' w' => GC a' bF k bN p n c 0 ∧ w' = w) a w := by
  obtain ⟨gg, rfl⟩ := hF.opens
  clear hF
  conv => arg 2; whnf
  go_wp2
  exact ⟨rfl, ⟨⟨rfl, rfl⟩, rfl, rfl, rfl, rfl, rfl, rfl⟩, rfl⟩
set_option maxHeartbeats 8000000 in
set_option maxRecDepth 100000 in
theorem ck_thirteen {w : World} {a : Act} {bF k bN : Nat} {p : Option Addr} {n c : Nat} (hF : GB a bF k bN) (h0 : w.cell? ⟨bF, 1, none⟩ = some (.slice p n c)) : (fstC (fstC cArr)).wp Tryd.prog (OnP fun a' w' => GD a' bF k bN p n c 0 ∧ w' = w) a w := by
  obtain ⟨gg, rfl⟩ := hF.opens
  clear hF
  conv => arg 2; whnf
  go_wp2
  exact ⟨rfl, ⟨⟨rfl, rfl⟩, rfl, rfl, rfl, rfl, rfl, rfl⟩, rfl⟩
/-- A parameter. -/
def P1P (w : World) (bF k bN : Nat) (p : Option Addr) (n c j : Nat) (ns : List Nm) (nN : Nat) (v : Vr) (e : Exit) (a : Act) (w' : World) : Prop :=
  (e = .normal ∧ GC a bF k bN p n c (j + 1) ∧ byN ns v.name = none ∧ MapN w' bN (nN + 1) (ns ++ [nmOf v]) ∧ Below bN w w') ∨ (e = .ret ∧ GR a 7 ∧ (byN ns v.name).isSome = true ∧ Below bN w w')
set_option maxHeartbeats 8000000 in
set_option maxRecDepth 100000 in
theorem ck_par {w : World} {a : Act} {bF k bN g o n c j nN : Nat} {ns : List Nm} {v : Vr} (hF : GC a bF k bN (some ⟨g, o, none⟩) n c j) (hjn : j < n) (hn : n ≤ 4) (hat : VrAt w g (o + j * 3) v) (hN : MapN w bN nN ns) (hnN : nN ≤ 1000) (hx : v.name.length ≤ maxLen) :
    cRd1.wp Tryd.prog (P1P w bF k bN (some ⟨g, o, none⟩) n c j ns nN v) a w := by
  obtain ⟨gg, rfl⟩ := hF.opens
  have a0 := hat.c0
  have a1 := hat.c1
  have a2 := hat.c2
  obtain ⟨xn, xs, xz⟩ := v
  simp only at a0 a1 a2 hx
  have e1' : decide ((j : Int) < (n : Int)) = true := decide_eq_true (by omega)
  have hjz : (j : Int) < (n : Int) := by omega
  have hj0 : (0 : Int) ≤ (j : Int) := by omega
  have hNl := hN.lt
  obtain ⟨w3, hw3⟩ : ∃ w3, w.alloc (.cells #[.string ⟨xn.toArray⟩, .bool xs, .int .i64 xz] 35) = w3 := ⟨_, rfl⟩
  have hb3 : Below w.heap.size w w3 := by rw [← hw3]; exact (Below.refl _ _).alloc (Nat.le_refl _) _
  have HZ3 : Hid (Bk w3 w.heap.size [.string ⟨xn.toArray⟩, .bool xs, .int .i64 xz] 35) := by
    show Bk _ _ _ _
    rw [← hw3]; exact Bk.new _ _ _
  have HN3 := keep (hN.below hb3)
  have hlook := HN3.out.look xn hx
  have z0 := HZ3.out.cell 0 rfl
  obtain ⟨on, hon⟩ : ∃ o, byN ns xn = o := ⟨_, rfl⟩
  rw [hon] at hlook
  have HOn := keep hon
  unfold valN at hlook
  have HW3 := keep hw3
  generalize hvo : nmO on = vo at *
  obtain ⟨vn, vs, vl⟩ := vo
  dsimp only at hlook
  obtain ⟨w4, hw4⟩ : ∃ w4, w3.alloc (.cells #[.bool vs, .bool vl] 60) = w4 := ⟨_, rfl⟩
  have hb4 : Below w3.heap.size w3 w4 := by rw [← hw4]; exact (Below.refl _ _).alloc (Nat.le_refl _) _
  have HB4 : Hid (Below w.heap.size w w4) := hb3.trans (hb4.mono hb3.size)
  have HN4 := keep (HN3.out.below hb4)
  have HZ4 := keep (HZ3.out.fs (Fs.of_below (l := []) hb4) (by simp))
  have y0 := HZ4.out.cell 0 rfl
  have y1 := HZ4.out.cell 1 rfl
  have HW4 := keep hw4
  clear hF hat hb3 hb4 hw3 hw4 hon HN3 hvo hN
  conv => arg 2; whnf
  cases on with
  | some u =>
    dsimp only [Option.isSome] at hlook
    go_wp2_with (first | rw [HW3.out] | rw [HW4.out])
    exact .inr ⟨rfl, ⟨⟨rfl, rfl⟩, rfl⟩, by rw [HOn.out]; rfl, HB4.out.mono (by omega)⟩
  | none =>
    obtain ⟨w5, hrun, hN5, hg5⟩ := HN4.out.put ⟨xn, xs, false⟩ hx (by unfold maxLen; omega) HOn.out
    unfold valN at hrun
    dsimp only at hrun
    have HE : Hid (MapN w5 bN (nN + 1) (ns ++ [⟨xn, xs, false⟩]) ∧ Below bN w w5) := ⟨hN5, (HB4.out.mono (by omega)).trans ⟨hg5.os, hg5.tape, hg5.output, hg5.size, fun i hi => hg5.block i (by have := HB4.out.size; omega) (fun e => by have := Option.some.inj e; omega)⟩⟩
    have hwr : IntKind.i64.wrap ((j : Int) + 1) = (j : Int) + 1 := wrap_one j (by omega)
    dsimp only [Option.isSome] at hlook
    clear hN5 hg5
    go_wp2_with (first | rw [HW3.out] | rw [HW4.out])
    exact .inl ⟨rfl, ⟨⟨rfl, rfl⟩, rfl, rfl, rfl, rfl, rfl, rfl⟩, HOn.out, HE.out⟩
set_option maxHeartbeats 8000000 in
set_option maxRecDepth 100000 in
theorem ck_par_end {w : World} {a : Act} {bF k bN : Nat} {p : Option Addr} {n c : Nat} (hF : GC a bF k bN p n c n) : (cRd1).wp Tryd.prog (fun e a' w' => Hid (e = .exit 0 ∧ GC a' bF k bN p n c n ∧ w' = w)) a w := by
  obtain ⟨gg, rfl⟩ := hF.opens
  have d1 : decide ((n : Int) < (n : Int)) = false := decide_eq_false (by omega)
  clear hF
  conv => arg 2; whnf
  go_wp2
  exact ⟨⟨rfl, rfl⟩, rfl, rfl, rfl, rfl, rfl, rfl⟩
theorem ck_pars {w : World} {a : Act} {bF k bN : Nat} {p : Option Addr} {n c B : Nat} {ps rs : List Vr} (hF : GC a bF k bN p n c 0) (hl : ps.length = n) (hn : n ≤ 4) (hB : B ≤ bN) (hN : MapN w bN 0 []) (hwf : ∀ v ∈ ps, wfP v) (hat : ∀ j v, ps[j]? = some v → ∃ g o, p = some ⟨g, o, none⟩ ∧ g < B ∧ VrAt w g (o + j * 3) v) :
    (Code.block 0 (Code.loop cRd1)).wp Tryd.prog (CkP (fun a' w' => GC a' bF k bN p n c n ∧ MapN w' bN n (ps.map nmOf) ∧ Below bN w w' ∧ twiceK (ps ++ rs) = twiceA (ps ++ rs.take 0) (rs.drop 0)) (fun x w' => x = 7 ∧ twiceK (ps ++ rs) = true ∧ Below bN w w')) a w := by
  refine wp_block (wp_loop (fun a' w' => ∃ j, j ≤ n ∧ GC a' bF k bN p n c j ∧ MapN w' bN j ((ps.take j).map nmOf) ∧ Below bN w w' ∧ twiceK (ps ++ rs) = twiceA (ps.take j) (ps.drop j ++ rs)) (fun a' _ => n - (intOf (slot a' 32)).toNat) ⟨0, Nat.zero_le _, hF, hN, Below.refl _ _, rfl⟩ ?_)
  rintro a' w' ⟨j, hjn, hF', hN', hb, ht⟩
  by_cases hjl : j < n
  · obtain ⟨v, hv⟩ : ∃ v, ps[j]? = some v := ⟨_, List.getElem?_eq_getElem (by rw [hl]; exact hjl)⟩
    obtain ⟨g, o, rfl, hg, hva⟩ := hat j v hv
    refine wp_mono (ck_par hF' hjl hn (hva.below (hb.mono hB) hg) hN' (by omega) (name_short (hwf v (List.mem_of_getElem? hv)).1)) ?_
    rintro e a5 w5 (⟨rfl, hF5, hno, hN5, hb5⟩ | ⟨rfl, hF5, hyes, hb5⟩)
    · refine ⟨⟨j + 1, hjl, hF5, by rw [take_map hv]; exact hN5, hb.trans hb5, ?_⟩, ?_⟩
      · rw [ht, twice_par hv, ← byN_nm_some, hno]; rfl
      · show n - (intOf (slot a5 32)).toNat < n - (intOf (slot a' 32)).toNat
        rw [hF5.s32, hF'.s32]
        simp [intOf]; omega
    · exact .inr ⟨rfl, 7, hF5, rfl, by rw [ht, twice_par hv, ← byN_nm_some, hyes]; rfl, hb.trans hb5⟩
  · have hje : j = n := by omega
    subst hje
    refine wp_mono (ck_par_end hF') ?_
    intro e a5 w5 h5
    obtain ⟨rfl, hF5, rfl⟩ := h5.out
    refine exit_then (in_block_here ?_)
    rw [List.take_of_length_le (by omega)] at hN' ht
    refine .inl ⟨rfl, hF5, hN', hb, ?_⟩
    rw [ht, List.drop_of_length_le (by omega), List.nil_append]; simp
end Go.Proofs.YtemdnmfldihalaaDoor.Lr
namespace Go.Proofs.YtemdnmfldihalaaDoor.Lr
set_option linter.unusedVariables false
set_option linter.unusedSimpArgs false
open Go.ChangeShapes Go.WideShapes Go.ChangeAt Go.RowKit Go.Maps Go.WideMaps Lg

noncomputable def cIn2 : Code := inC (fstC (sndC (sndC cRd2)))
theorem wp_mapUpd {o : Oper} {a : Act} {w w' : World} {K : Act → World → Prop} {Q : Exit → Act → World → Prop} {t : TypeId} {m x v : Operand} {M X V : Value} (ho : o.op = .mapUpdate t m x v) (hm : a.eval m = M) (hx : a.eval x = X) (hv : a.eval v = V) (hrun : (Instr.mapUpdate t M X V).run Tryd.prog w = .ok () w') (h : K (a.put o.dst undef) w') : o.wp Tryd.prog a w K Q := by
  unfold Oper.wp
  simp [execOp, ho, hm, hx, hv, hrun, Result.andThen]
  exact h
set_option maxHeartbeats 8000000 in
set_option maxRecDepth 100000 in
theorem ck_test2 {w : World} {a : Act} {bF k bN : Nat} {p : Option Addr} {n c j : Nat} {b : Bool} (hF : GD a bF k bN p n c j) (hb : decide (j < n) = b) : (fstC cRd2).wp Tryd.prog (OnP fun a' w' => GD a' bF k bN p n c j ∧ slot a' 55 = .bool b ∧ w' = w) a w := by
  obtain ⟨gg, rfl⟩ := hF.opens
  clear hF
  conv => arg 2; whnf
  go_wp2
  exact ⟨rfl, ⟨⟨rfl, rfl⟩, rfl, rfl, rfl, rfl, rfl, rfl⟩, rfl, rfl⟩
set_option maxHeartbeats 8000000 in
set_option maxRecDepth 100000 in
theorem ck_next2 {w : World} {a : Act} {bF k bN : Nat} {p : Option Addr} {n c j : Nat} (hF : GD a bF k bN p n c j) (hj : j ≤ 1000) : (sndC (sndC (sndC cRd2))).wp Tryd.prog (OnP fun a' w' => GD a' bF k bN p n c (j + 1) ∧ w' = w) a w := by
  obtain ⟨gg, rfl⟩ := hF.opens
  have hwr : IntKind.i64.wrap ((j : Int) + 1) = (j : Int) + 1 := wrap_one j (by omega)
  clear hF
  conv => arg 2; whnf
  go_wp2
  exact ⟨rfl, ⟨⟨rfl, rfl⟩, rfl, rfl, rfl, rfl, rfl, rfl⟩, rfl⟩
set_option maxHeartbeats 8000000 in
set_option maxRecDepth 100000 in
theorem ck_15 {w : World} {a : Act} {bF k bN g o n c j : Nat} {v : Vr} (hF : GD a bF k bN (some ⟨g, o, none⟩) n c j) (hjn : j < n) (hn : n ≤ 1000) (hat : VrAt w g (o + j * 3) v) : (fstC cIn2).wp Tryd.prog (OnP fun a' w' => GE a' bF k bN (some ⟨g, o, none⟩) n c j w.heap.size ∧ w' = w.alloc (.cells #[.string ⟨v.name.toArray⟩, .bool v.secret, .int .i64 v.size] 35)) a w := by
  obtain ⟨gg, rfl⟩ := hF.opens
  have a0 := hat.c0
  have a1 := hat.c1
  have a2 := hat.c2
  have hjz : (j : Int) < (n : Int) := by omega
  have hj0 : (0 : Int) ≤ (j : Int) := by omega
  clear hat
  clear hF
  conv => arg 2; whnf
  go_wp2
  exact ⟨rfl, ⟨⟨rfl, rfl⟩, rfl, rfl, rfl, rfl, rfl, rfl, rfl⟩, rfl⟩
set_option maxHeartbeats 8000000 in
set_option maxRecDepth 100000 in
theorem ck_16 {w : World} {a : Act} {bF k bN : Nat} {p : Option Addr} {n c j bT : Nat} {tx : List UInt8} {vs vl had : Bool} (hF : GE a bF k bN p n c j bT) (hT : w.cell? ⟨bT, 0, none⟩ = some (.string ⟨tx.toArray⟩)) (hl : (Instr.lookup 58 (.map (some bN)) (.string ⟨tx.toArray⟩) true).run Tryd.prog w = .ok (.tuple #[.agg #[.bool vs, .bool vl], .bool had]) w) : (fstC (sndC cIn2)).wp Tryd.prog (OnP fun a' w' => GH a' bF k bN p n c j bT had ∧ w' = w.alloc (.cells #[.bool vs, .bool vl] 60)) a w := by
  obtain ⟨gg, rfl⟩ := hF.opens
  clear hF
  conv => arg 2; whnf
  go_wp2
  exact ⟨rfl, ⟨⟨rfl, rfl⟩, rfl, rfl, rfl, rfl, rfl, rfl, rfl, rfl⟩, rfl⟩
set_option maxHeartbeats 8000000 in
set_option maxRecDepth 100000 in
theorem ck_17 {w : World} {a : Act} {bF k bN : Nat} {p : Option Addr} {n c j bT bA : Nat} {tx yn : List UInt8} {had ys arr : Bool} {yz : Int} (hF : GH a bF k bN p n c j bT had) (HSS : Hid (∀ W' : World, Below w.heap.size w W' → (W'.cell? ⟨k, 0, none⟩ = some (.map (some bA)) ∧ W'.cell? ⟨bT, 0, none⟩ = some (.string ⟨tx.toArray⟩) ∧ (Instr.lookup 55 (.map (some bA)) (.string ⟨tx.toArray⟩) true).run Tryd.prog W' = .ok (.tuple #[.agg #[.string ⟨yn.toArray⟩, .bool ys, .int .i64 yz], .bool arr]) W'))) : (fstC (sndC (sndC cIn2))).wp Tryd.prog (OnP fun a' w' => GI a' bF k bN p n c j bT had arr ∧ Below w.heap.size w w') a w := by
  obtain ⟨gg, rfl⟩ := hF.opens
  clear hF
  conv => arg 2; whnf
  skip
  refine wp_region_noPanic ?_
  refine Ord.wpM_begin (fun W' : World => W'.cell? ⟨k, 0, none⟩ = some (.map (some bA)) ∧ W'.cell? ⟨bT, 0, none⟩ = some (.string ⟨tx.toArray⟩) ∧ (Instr.lookup 55 (.map (some bA)) (.string ⟨tx.toArray⟩) true).run Tryd.prog W' = .ok (.tuple #[.agg #[.string ⟨yn.toArray⟩, .bool ys, .int .i64 yz], .bool arr]) W') [0, 1, 2, 3, 4, 5, 6, 7, 8, 9, 10, 11, 12] (by kernel_rfl) ?_
  have HB4 : Hid (Below w.heap.size w w.drew) := Below.drew (Below.refl _ _)
  generalize w.drew = w4 at *
  have hS := HSS.out w4 HB4.out
  refine Ord.wpM_take (i := 0) (v := .pointer (some ⟨k, 0, none⟩)) (by simp only [List.getElem?_toArray, List.getElem?_cons_zero, List.getElem?_cons_succ]; rfl) (by kernel_rfl) (by kernel_rfl) (by kernel_rfl) (by kernel_rfl) (fun _ _ _ h => h) (Or.inl ⟨by rfl, by intro W' hW; obtain ⟨q0, q1, q2⟩ := hW; go_simp⟩) hS ?_
  try simp only [Act.put, List.setIfInBounds_toArray, List.set_cons_zero, List.set_cons_succ]
  refine Ord.wpM_take (i := 1) (v := .pointer (some ⟨k, 0, none⟩)) (by simp only [List.getElem?_toArray, List.getElem?_cons_zero, List.getElem?_cons_succ]; rfl) (by kernel_rfl) (by kernel_rfl) (by kernel_rfl) (by kernel_rfl) (fun _ _ _ h => h) (Or.inl ⟨by rfl, by intro W' hW; obtain ⟨q0, q1, q2⟩ := hW; go_simp⟩) hS ?_
  try simp only [Act.put, List.setIfInBounds_toArray, List.set_cons_zero, List.set_cons_succ]
  refine Ord.wpM_take (i := 2) (v := .pointer (some ⟨k, 0, none⟩)) (by simp only [List.getElem?_toArray, List.getElem?_cons_zero, List.getElem?_cons_succ]; rfl) (by kernel_rfl) (by kernel_rfl) (by kernel_rfl) (by kernel_rfl) (fun _ _ _ h => h) (Or.inl ⟨by rfl, by intro W' hW; obtain ⟨q0, q1, q2⟩ := hW; go_simp⟩) hS ?_
  try simp only [Act.put, List.setIfInBounds_toArray, List.set_cons_zero, List.set_cons_succ]
  refine Ord.wpM_take (i := 3) (v := .map (some bA)) (by simp only [List.getElem?_toArray, List.getElem?_cons_zero, List.getElem?_cons_succ]; rfl) (by kernel_rfl) (by kernel_rfl) (by kernel_rfl) (by kernel_rfl) (fun _ _ _ h => h) (Or.inl ⟨by rfl, by intro W' hW; obtain ⟨q0, q1, q2⟩ := hW; go_simp⟩) hS ?_
  try simp only [Act.put, List.setIfInBounds_toArray, List.set_cons_zero, List.set_cons_succ]
  refine Ord.wpM_take (i := 4) (v := .pointer (some ⟨bT, 0, none⟩)) (by simp only [List.getElem?_toArray, List.getElem?_cons_zero, List.getElem?_cons_succ]; rfl) (by kernel_rfl) (by kernel_rfl) (by kernel_rfl) (by kernel_rfl) (fun _ _ _ h => h) (Or.inl ⟨by rfl, by intro W' hW; obtain ⟨q0, q1, q2⟩ := hW; go_simp⟩) hS ?_
  try simp only [Act.put, List.setIfInBounds_toArray, List.set_cons_zero, List.set_cons_succ]
  refine Ord.wpM_take (i := 5) (v := .string ⟨tx.toArray⟩) (by simp only [List.getElem?_toArray, List.getElem?_cons_zero, List.getElem?_cons_succ]; rfl) (by kernel_rfl) (by kernel_rfl) (by kernel_rfl) (by kernel_rfl) (fun _ _ _ h => h) (Or.inl ⟨by rfl, by intro W' hW; obtain ⟨q0, q1, q2⟩ := hW; go_simp⟩) hS ?_
  try simp only [Act.put, List.setIfInBounds_toArray, List.set_cons_zero, List.set_cons_succ]
  refine Ord.wpM_take (i := 6) (v := .tuple #[.agg #[.string ⟨yn.toArray⟩, .bool ys, .int .i64 yz], .bool arr]) (by simp only [List.getElem?_toArray, List.getElem?_cons_zero, List.getElem?_cons_succ]; rfl) (by kernel_rfl) (by kernel_rfl) (by kernel_rfl) (by kernel_rfl) (fun _ _ _ h => h) (Or.inl ⟨by rfl, by intro W' hW; obtain ⟨q0, q1, q2⟩ := hW; go_simp⟩) hS ?_
  try simp only [Act.put, List.setIfInBounds_toArray, List.set_cons_zero, List.set_cons_succ]
  refine Ord.wpM_take (i := 7) (v := .tuple #[.agg #[.string ⟨yn.toArray⟩, .bool ys, .int .i64 yz], .bool arr]) (by simp only [List.getElem?_toArray, List.getElem?_cons_zero, List.getElem?_cons_succ]; rfl) (by kernel_rfl) (by kernel_rfl) (by kernel_rfl) (by kernel_rfl) (fun _ _ _ h => h) (Or.inl ⟨by rfl, by intro W' hW; obtain ⟨q0, q1, q2⟩ := hW; go_simp⟩) hS ?_
  try simp only [Act.put, List.setIfInBounds_toArray, List.set_cons_zero, List.set_cons_succ]
  refine Ord.wpM_take (i := 8) (v := .agg #[.string ⟨yn.toArray⟩, .bool ys, .int .i64 yz]) (by simp only [List.getElem?_toArray, List.getElem?_cons_zero, List.getElem?_cons_succ]; rfl) (by kernel_rfl) (by kernel_rfl) (by kernel_rfl) (by kernel_rfl) (fun _ _ _ h => h) (Or.inl ⟨by rfl, by intro W' hW; obtain ⟨q0, q1, q2⟩ := hW; go_simp⟩) hS ?_
  try simp only [Act.put, List.setIfInBounds_toArray, List.set_cons_zero, List.set_cons_succ]
  refine Ord.wpM_take (i := 9) (v := .bool arr) (by simp only [List.getElem?_toArray, List.getElem?_cons_zero, List.getElem?_cons_succ]; rfl) (by kernel_rfl) (by kernel_rfl) (by kernel_rfl) (by kernel_rfl) (fun _ _ _ h => h) (Or.inl ⟨by rfl, by intro W' hW; obtain ⟨q0, q1, q2⟩ := hW; go_simp⟩) hS ?_
  try simp only [Act.put, List.setIfInBounds_toArray, List.set_cons_zero, List.set_cons_succ]
  refine Ord.wpM_one (i := 10) (by kernel_rfl) (by simp only [List.getElem?_toArray, List.getElem?_cons_zero, List.getElem?_cons_succ]; rfl) (fun K hK => ?_)
  go_simp
  obtain ⟨w5, hw5⟩ : ∃ x, w4.alloc (.cells #[.string ⟨#[]⟩, .bool false, .int .i64 0] 35) = x := ⟨_, rfl⟩
  have hb5 : Below w4.heap.size w4 w5 := by rw [← hw5]; exact (Below.refl _ _).alloc (Nat.le_refl _) _
  have HG5 : Hid (Bk w5 w4.heap.size [.string ⟨#[]⟩, .bool false, .int .i64 0] 35) := by
    show Bk _ _ _ _
    rw [← hw5]; exact Bk.new _ _ _
  rw [hw5]
  have HB5 := keep (HB4.out.trans (hb5.mono HB4.out.size))
  clear hb5 hw5 hS
  refine hK.out _ _ (fun _ => HSS.out _ HB5.out) ?_
  clear hK K
  try simp only [Act.put, List.setIfInBounds_toArray, List.set_cons_zero, List.set_cons_succ]
  refine Ord.wpM_one (i := 11) (by kernel_rfl) (by simp only [List.getElem?_toArray, List.getElem?_cons_zero, List.getElem?_cons_succ]; rfl) (fun K hK => ?_)
  rw [if_pos (by simp [Region.wanted])]
  refine wp_store_row 35 (.tmp 13) (.tmp 73) rfl w4.heap.size #[.string ⟨yn.toArray⟩, .bool ys, .int .i64 yz] rfl rfl 35 #[.string ⟨#[]⟩, .bool false, .int .i64 0] HG5.out (info_V [.string ⟨yn.toArray⟩, .bool ys, .int .i64 yz] rfl) rfl (by simp [Value.oneCell']) ?_
  obtain ⟨w6, hw6⟩ : ∃ x, w5.setRow w4.heap.size #[.string ⟨yn.toArray⟩, .bool ys, .int .i64 yz] = x := ⟨_, rfl⟩
  have HB6 : Hid (Below w.heap.size w w6) := by
    show Below _ _ _
    rw [← hw6]; exact below_setRow HB5.out HB4.out.size _
  rw [hw6]
  clear hw6
  refine hK.out _ _ (fun _ => HSS.out _ HB6.out) ?_
  clear hK K
  try simp only [Act.put, List.setIfInBounds_toArray, List.set_cons_zero, List.set_cons_succ]
  refine Ord.wpM_one (i := 12) (by kernel_rfl) (by simp only [List.getElem?_toArray, List.getElem?_cons_zero, List.getElem?_cons_succ]; rfl) (fun K hK => ?_)
  go_simp
  refine hK.out _ _ (fun _ => HSS.out _ HB6.out) ?_
  clear hK K
  try simp only [Act.put, List.setIfInBounds_toArray, List.set_cons_zero, List.set_cons_succ]
  refine Ord.wpM_done (by kernel_rfl) ?_ _
  refine NoPanic.normal ?_
  exact ⟨rfl, ⟨⟨rfl, rfl⟩, rfl, rfl, rfl, rfl, rfl, rfl, rfl, rfl, rfl⟩, HB6.out⟩
set_option maxHeartbeats 8000000 in
set_option maxRecDepth 100000 in
theorem ck_18 {w : World} {a : Act} {bF k bN : Nat} {p : Option Addr} {n c j bT : Nat} {had arr : Bool} (hF : GI a bF k bN p n c j bT had arr) : (fstC (sndC (sndC (sndC cIn2)))).wp Tryd.prog (CkP (fun a' w' => GE a' bF k bN p n c j bT ∧ w' = w ∧ (had || arr) = false) (fun x w' => x = 7 ∧ w' = w ∧ (had || arr) = true)) a w := by
  obtain ⟨gg, rfl⟩ := hF.opens
  clear hF
  conv => arg 2; whnf
  skip
  cases had with
  | true =>
    go_wp2
    exact .inr ⟨rfl, 7, ⟨⟨rfl, rfl⟩, rfl⟩, rfl, rfl, rfl⟩
  | false =>
    cases arr with
    | true =>
      go_wp2
      exact .inr ⟨rfl, 7, ⟨⟨rfl, rfl⟩, rfl⟩, rfl, rfl, rfl⟩
    | false =>
      go_wp2
      exact .inl ⟨rfl, ⟨⟨rfl, rfl⟩, rfl, rfl, rfl, rfl, rfl, rfl, rfl⟩, rfl, rfl⟩
set_option maxHeartbeats 8000000 in
set_option maxRecDepth 100000 in
theorem ck_20 {w : World} {a : Act} {bF k bN : Nat} {p : Option Addr} {n c j bT bA nA : Nat} {rs : List Vr} {tx : List UInt8} {ts : Bool} {tz : Int} (hF : GE a bF k bN p n c j bT) (HSS : Hid (∀ W' : World, Below w.heap.size w W' → (W'.cell? ⟨k, 0, none⟩ = some (.map (some bA)) ∧ W'.cell? ⟨bT, 0, none⟩ = some (.string ⟨tx.toArray⟩) ∧ W'.cell? ⟨bT, 1, none⟩ = some (.bool ts) ∧ W'.cell? ⟨bT, 2, none⟩ = some (.int .i64 tz)))) (HPut : Hid (∀ W' : World, Below w.heap.size w W' → ∃ W2, (Instr.mapUpdate 55 (.map (some bA)) (.string ⟨tx.toArray⟩) (valA ⟨tx, ts, tz⟩)).run Tryd.prog W' = .ok () W2 ∧ MapA W2 bA (nA + 1) (rs ++ [⟨tx, ts, tz⟩]) ∧ W'.grownBy W2 (some bA))) (HS5 : Hid (∀ W2 : World, (∃ W' : World, Below w.heap.size w W' ∧ W'.grownBy W2 (some bA)) → (W2.cell? ⟨k, 0, none⟩ = some (.map (some bA)) ∧ W2.cell? ⟨bT, 0, none⟩ = some (.string ⟨tx.toArray⟩) ∧ W2.cell? ⟨bT, 1, none⟩ = some (.bool ts) ∧ W2.cell? ⟨bT, 2, none⟩ = some (.int .i64 tz)))) : (sndC (sndC (sndC (sndC cIn2)))).wp Tryd.prog (OnP fun a' w' => GD a' bF k bN p n c j ∧ MapA w' bA (nA + 1) (rs ++ [⟨tx, ts, tz⟩]) ∧ ∃ w4 : World, Below w.heap.size w w4 ∧ w4.grownBy w' (some bA)) a w := by
  obtain ⟨gg, rfl⟩ := hF.opens
  clear hF
  conv => arg 2; whnf
  skip
  refine wp_region_noPanic ?_
  refine Ord.wpM_begin (fun W' : World => W'.cell? ⟨k, 0, none⟩ = some (.map (some bA)) ∧ W'.cell? ⟨bT, 0, none⟩ = some (.string ⟨tx.toArray⟩) ∧ W'.cell? ⟨bT, 1, none⟩ = some (.bool ts) ∧ W'.cell? ⟨bT, 2, none⟩ = some (.int .i64 tz)) [0, 1, 2, 3, 4, 5, 6, 7] (by kernel_rfl) ?_
  have HB4 : Hid (Below w.heap.size w w.drew) := Below.drew (Below.refl _ _)
  generalize w.drew = w4 at *
  have hS := HSS.out w4 HB4.out
  obtain ⟨w5, hrun, hA5, hg5⟩ := HPut.out w4 HB4.out
  unfold valA at hrun
  dsimp only at hrun
  refine Ord.wpM_take (i := 0) (v := .pointer (some ⟨k, 0, none⟩)) (by simp only [List.getElem?_toArray, List.getElem?_cons_zero, List.getElem?_cons_succ]; rfl) (by kernel_rfl) (by kernel_rfl) (by kernel_rfl) (by kernel_rfl) (fun _ _ _ h => h) (Or.inl ⟨by rfl, by intro W' hW; obtain ⟨q0, q1, q2, q3⟩ := hW; go_simp⟩) hS ?_
  try simp only [Act.put, List.setIfInBounds_toArray, List.set_cons_zero, List.set_cons_succ]
  refine Ord.wpM_take (i := 1) (v := .pointer (some ⟨k, 0, none⟩)) (by simp only [List.getElem?_toArray, List.getElem?_cons_zero, List.getElem?_cons_succ]; rfl) (by kernel_rfl) (by kernel_rfl) (by kernel_rfl) (by kernel_rfl) (fun _ _ _ h => h) (Or.inl ⟨by rfl, by intro W' hW; obtain ⟨q0, q1, q2, q3⟩ := hW; go_simp⟩) hS ?_
  try simp only [Act.put, List.setIfInBounds_toArray, List.set_cons_zero, List.set_cons_succ]
  refine Ord.wpM_take (i := 2) (v := .pointer (some ⟨k, 0, none⟩)) (by simp only [List.getElem?_toArray, List.getElem?_cons_zero, List.getElem?_cons_succ]; rfl) (by kernel_rfl) (by kernel_rfl) (by kernel_rfl) (by kernel_rfl) (fun _ _ _ h => h) (Or.inl ⟨by rfl, by intro W' hW; obtain ⟨q0, q1, q2, q3⟩ := hW; go_simp⟩) hS ?_
  try simp only [Act.put, List.setIfInBounds_toArray, List.set_cons_zero, List.set_cons_succ]
  refine Ord.wpM_take (i := 3) (v := .map (some bA)) (by simp only [List.getElem?_toArray, List.getElem?_cons_zero, List.getElem?_cons_succ]; rfl) (by kernel_rfl) (by kernel_rfl) (by kernel_rfl) (by kernel_rfl) (fun _ _ _ h => h) (Or.inl ⟨by rfl, by intro W' hW; obtain ⟨q0, q1, q2, q3⟩ := hW; go_simp⟩) hS ?_
  try simp only [Act.put, List.setIfInBounds_toArray, List.set_cons_zero, List.set_cons_succ]
  refine Ord.wpM_take (i := 4) (v := .pointer (some ⟨bT, 0, none⟩)) (by simp only [List.getElem?_toArray, List.getElem?_cons_zero, List.getElem?_cons_succ]; rfl) (by kernel_rfl) (by kernel_rfl) (by kernel_rfl) (by kernel_rfl) (fun _ _ _ h => h) (Or.inl ⟨by rfl, by intro W' hW; obtain ⟨q0, q1, q2, q3⟩ := hW; go_simp⟩) hS ?_
  try simp only [Act.put, List.setIfInBounds_toArray, List.set_cons_zero, List.set_cons_succ]
  refine Ord.wpM_take (i := 5) (v := .string ⟨tx.toArray⟩) (by simp only [List.getElem?_toArray, List.getElem?_cons_zero, List.getElem?_cons_succ]; rfl) (by kernel_rfl) (by kernel_rfl) (by kernel_rfl) (by kernel_rfl) (fun _ _ _ h => h) (Or.inl ⟨by rfl, by intro W' hW; obtain ⟨q0, q1, q2, q3⟩ := hW; go_simp⟩) hS ?_
  try simp only [Act.put, List.setIfInBounds_toArray, List.set_cons_zero, List.set_cons_succ]
  refine Ord.wpM_take (i := 6) (v := .agg #[.string ⟨tx.toArray⟩, .bool ts, .int .i64 tz]) (by simp only [List.getElem?_toArray, List.getElem?_cons_zero, List.getElem?_cons_succ]; rfl) (by kernel_rfl) (by kernel_rfl) (by kernel_rfl) (by kernel_rfl) (fun _ _ _ h => h) (Or.inl ⟨by rfl, by intro W' hW; obtain ⟨q0, q1, q2, q3⟩ := hW; go_simp⟩) hS ?_
  try simp only [Act.put, List.setIfInBounds_toArray, List.set_cons_zero, List.set_cons_succ]
  refine Ord.wpM_one (i := 7) (by kernel_rfl) (by simp only [List.getElem?_toArray, List.getElem?_cons_zero, List.getElem?_cons_succ]; rfl) (fun K hK => ?_)
  rw [if_pos (by simp [Region.wanted])]
  refine wp_mapUpd rfl rfl rfl rfl hrun ?_
  refine hK.out _ _ (fun h => HS5.out w5 ⟨w4, HB4.out, hg5⟩) ?_
  clear hK K
  try simp only [Act.put, List.setIfInBounds_toArray, List.set_cons_zero, List.set_cons_succ]
  refine Ord.wpM_done (by kernel_rfl) ?_ _
  refine NoPanic.normal ?_
  exact ⟨rfl, ⟨⟨rfl, rfl⟩, rfl, rfl, rfl, rfl, rfl, rfl⟩, hA5, w4, HB4.out, hg5⟩
end Go.Proofs.YtemdnmfldihalaaDoor.Lr
namespace Go.Proofs.YtemdnmfldihalaaDoor.Lr
set_option linter.unusedVariables false
set_option linter.unusedSimpArgs false
open Go.ChangeShapes Go.WideShapes Go.ChangeAt Go.RowKit Go.Maps Go.WideMaps Lg

/-- An array. -/
def P2P (w : World) (bF k bN lo bA nA : Nat) (p : Option Addr) (n c j : Nat) (ns : List Nm) (rs : List Vr) (v : Vr) (e : Exit) (a : Act) (w' : World) : Prop :=
  (e = .normal ∧ GD a bF k bN p n c (j + 1) ∧ ((byN ns v.name).isSome || (byV rs v.name).isSome) = false ∧ MapA w' bA (nA + 1) (rs ++ [v]) ∧ Fh lo [bA] w w') ∨ (e = .ret ∧ GR a 7 ∧ ((byN ns v.name).isSome || (byV rs v.name).isSome) = true ∧ Fh lo [bA] w w')
theorem below_fh {lo : Nat} {l : List Nat} {w w' : World} (h : Below lo w w') : Fh lo l w w' := ⟨h.os, h.tape, h.output, h.size, fun i hi _ => h.block i hi⟩
theorem ck_arr {w : World} {a : Act} {bF k bN lo bA nA g o n c j nN : Nat} {ns : List Nm} {rs : List Vr} {v : Vr} (hF : GD a bF k bN (some ⟨g, o, none⟩) n c j) (hjn : j < n) (hn : n ≤ 3) (hlo : lo ≤ w.heap.size) (hk : k < lo) (hat : VrAt w g (o + j * 3) v) (hN : MapN w bN nN ns) (hK : KK w k bA nA rs 0 0) (hnA : nA ≤ 1000) (hx : v.name.length ≤ maxLen) :
    cRd2.wp Tryd.prog (P2P w bF k bN lo bA nA (some ⟨g, o, none⟩) n c j ns rs v) a w := by
  show (Code.seq (fstC cRd2) (Code.seq (Code.cond (.tmp 55) Code.skip (Code.exit 2)) (Code.seq (Code.block 3 (Code.seq (fstC cIn2) (Code.seq (fstC (sndC cIn2)) (Code.seq (fstC (sndC (sndC cIn2))) (Code.seq (fstC (sndC (sndC (sndC cIn2)))) (sndC (sndC (sndC (sndC cIn2))))))))) (sndC (sndC (sndC cRd2)))))).wp Tryd.prog _ a w
  obtain ⟨tx, ts, tz⟩ := v
  refine OnP.go (ck_test2 hF (b := true) (decide_eq_true (by omega))) ?_
  rintro a1 w1 ⟨hF1, hs1, rfl⟩
  refine wp_seq (wp_cond_true (by rw [eval_slot]; exact hs1) (wp_skip ?_))
  refine wp_seq (wp_block ?_)
  refine OnP.go (ck_15 hF1 hjn (by omega) hat) ?_
  rintro a2 w2' ⟨hF2, rfl⟩
  dsimp only
  obtain ⟨w2, hw2⟩ : ∃ x, w1.alloc (.cells #[.string ⟨tx.toArray⟩, .bool ts, .int .i64 tz] 35) = x := ⟨_, rfl⟩
  have hb2 : Below w1.heap.size w1 w2 := by rw [← hw2]; exact (Below.refl _ _).alloc (Nat.le_refl _) _
  have hT2 : Bk w2 w1.heap.size [.string ⟨tx.toArray⟩, .bool ts, .int .i64 tz] 35 := by rw [← hw2]; exact Bk.new _ _ _
  rw [hw2]
  clear hw2
  refine OnP.go (ck_16 (vs := (nmO (byN ns tx)).secret) (vl := (nmO (byN ns tx)).loop) hF2 (hT2.cell 0 rfl) ((hN.below hb2).look tx hx)) ?_
  rintro a3 w3' ⟨hF3, rfl⟩
  obtain ⟨w3, hw3⟩ : ∃ x, w2.alloc (.cells #[.bool (nmO (byN ns tx)).secret, .bool (nmO (byN ns tx)).loop] 60) = x := ⟨_, rfl⟩
  have hb3 : Below w2.heap.size w2 w3 := by rw [← hw3]; exact (Below.refl _ _).alloc (Nat.le_refl _) _
  rw [hw3]
  clear hw3
  have hb13 : Below w1.heap.size w1 w3 := hb2.trans (hb3.mono hb2.size)
  have hK3 := hK.below hb13
  have hT3 := hT2.fs (Fs.of_below (l := []) hb3) (by simp)
  refine OnP.go (ck_17 (bA := bA) (tx := tx) (yn := (vrO (byV rs tx)).name) (ys := (vrO (byV rs tx)).secret) (yz := (vrO (byV rs tx)).size) (arr := (byV rs tx).isSome) hF3 (fun W' hW => ⟨cell_old hW (hK3.box.cell 0 rfl) hK3.box.lt, cell_old hW (hT3.cell 0 rfl) hT3.lt, (hK3.below hW).arr.look tx hx⟩)) ?_
  rintro a4 w4 ⟨hF4, hb4⟩
  have hb14 : Below w1.heap.size w1 w4 := hb13.trans (hb4.mono hb13.size)
  have hK4 := hK.below hb14
  have hT4 := hT3.fs (Fs.of_below (l := []) hb4) (by simp)
  refine wp_seq (wp_mono (ck_18 hF4) ?_)
  rintro e a5 w5 (⟨rfl, hF5, rfl, hno⟩ | ⟨rfl, x, hx1, rfl, rfl, hyes⟩)
  rotate_left
  · exact .inr ⟨rfl, hx1, hyes, below_fh (hb14.mono hlo)⟩
  have hlt := hK4.lt
  have hTA : w1.heap.size ≠ bA := by have := hK.box.lt; omega
  refine wp_mono (ck_20 (bA := bA) (nA := nA) (rs := rs) (tx := tx) (ts := ts) (tz := tz) hF5 (fun W' hW => ⟨cell_old hW (hK4.box.cell 0 rfl) hK4.box.lt, cell_old hW (hT4.cell 0 rfl) hT4.lt, cell_old hW (hT4.cell 1 rfl) hT4.lt, cell_old hW (hT4.cell 2 rfl) hT4.lt⟩) (fun W' hW => (hK4.below hW).arr.put ⟨tx, ts, tz⟩ hx (by unfold maxLen; omega) (none_of (Bool.or_eq_false_iff.1 hno).2)) ?_) ?_
  · rintro W2 ⟨W', hW, hg⟩
    have hcell : ∀ g o u, w5.cell? ⟨g, o, none⟩ = some u → g < w5.heap.size → g ≠ bA → W2.cell? ⟨g, o, none⟩ = some u := fun g o u h1 h2 h3 => by
      rw [World.cell?_of_block (hg.block g (by have := hW.size; omega) (fun e => h3 (Option.some.inj e)))]
      exact cell_old hW h1 h2
    exact ⟨hcell _ _ _ (hK4.box.cell 0 rfl) hK4.box.lt (by omega), hcell _ _ _ (hT4.cell 0 rfl) hT4.lt hTA, hcell _ _ _ (hT4.cell 1 rfl) hT4.lt hTA, hcell _ _ _ (hT4.cell 2 rfl) hT4.lt hTA⟩
  rintro e a6 w6 ⟨rfl, hF6, hA6, w7, hb7, hg7⟩
  refine wp_mono (ck_next2 hF6 (by omega)) ?_
  rintro e a8 w8 ⟨rfl, hF8, rfl⟩
  refine .inl ⟨rfl, hF8, hno, hA6, ?_⟩
  have hb17 : Below w1.heap.size w1 w7 := hb14.trans (hb7.mono hb14.size)
  exact (below_fh (hb17.mono hlo)).trans ⟨hg7.os, hg7.tape, hg7.output, hg7.size, fun i hi hn => hg7.block i (by have := hb17.size; omega) (fun e => hn (by have := Option.some.inj e; simp; omega))⟩
theorem ck_arrs {w : World} {a : Act} {bF k bN bA : Nat} {p : Option Addr} {n c B nN : Nat} {ps rs : List Vr} (hF : GD a bF k bN p n c 0) (hl : rs.length = n) (hn : n ≤ 3) (hB : B ≤ bA) (hkN : k < bN) (hN : MapN w bN nN (ps.map nmOf)) (hK : KK w k bA 0 [] 0 0) (hwf : ∀ v ∈ rs, wfA v) (ht0 : twiceK (ps ++ rs) = twiceA (ps ++ rs.take 0) (rs.drop 0)) (hat : ∀ j v, rs[j]? = some v → ∃ g o, p = some ⟨g, o, none⟩ ∧ g < B ∧ VrAt w g (o + j * 3) v) :
    (Code.block 2 (Code.loop cRd2)).wp Tryd.prog (CkP (fun a' w' => GD a' bF k bN p n c n ∧ KK w' k bA n rs 0 0 ∧ Fh (bN + 1) [bA] w w' ∧ twiceK (ps ++ rs) = false) (fun x w' => x = 7 ∧ twiceK (ps ++ rs) = true ∧ Fh (bN + 1) [bA] w w')) a w := by
  have hNl := hN.lt
  have hlt := hK.lt
  refine wp_block (wp_loop (fun a' w' => ∃ j, j ≤ n ∧ GD a' bF k bN p n c j ∧ MapA w' bA j (rs.take j) ∧ Fh (bN + 1) [bA] w w' ∧ twiceK (ps ++ rs) = twiceA (ps ++ rs.take j) (rs.drop j)) (fun a' _ => n - (intOf (slot a' 54)).toNat) ⟨0, Nat.zero_le _, hF, hK.arr, Fh.refl _ _ _, ht0⟩ ?_)
  rintro a' w' ⟨j, hjn, hF', hA', hf, ht⟩
  have hbox : Bk w' k [.map (some bA), .int .i64 ((0 : Nat) : Int), .int .i64 ((0 : Nat) : Int)] 57 := by
    have h := hK.box
    unfold Bk at h ⊢
    rw [hf.block k (by omega) (by simp; omega)]; exact h
  have hN' : MapN w' bN nN (ps.map nmOf) := hN.stay (hf.block bN (by omega) (by simp; omega))
  by_cases hjl : j < n
  · obtain ⟨v, hv⟩ : ∃ v, rs[j]? = some v := ⟨_, List.getElem?_eq_getElem (by rw [hl]; exact hjl)⟩
    obtain ⟨g, o, rfl, hg, hva⟩ := hat j v hv
    have hbB : Below B w w' := ⟨hf.os, hf.tape, hf.output, hf.size, fun i hi => hf.block i (by omega) (by simp; omega)⟩
    refine wp_mono (ck_arr (lo := bN + 1) hF' hjl hn (by have := hf.size; omega) (by omega) (hva.below hbB hg) hN' ⟨hbox, hA', hlt⟩ (by omega) (name_short (hwf v (List.mem_of_getElem? hv)).1)) ?_
    rintro e a5 w5 (⟨rfl, hF5, hno, hA5, hf5⟩ | ⟨rfl, hF5, hyes, hf5⟩)
    · refine ⟨⟨j + 1, hjl, hF5, ?_, hf.trans hf5, ?_⟩, ?_⟩
      · obtain ⟨hj, rfl⟩ := List.getElem?_eq_some_iff.1 hv
        rw [List.take_succ_eq_append_getElem hj]; exact hA5
      · rw [ht, twice_arr hv, ← byN_nm_some, hno]; rfl
      · show n - (intOf (slot a5 54)).toNat < n - (intOf (slot a' 54)).toNat
        rw [hF5.s54, hF'.s54]
        simp [intOf]; omega
    · exact .inr ⟨rfl, 7, hF5, rfl, by rw [ht, twice_arr hv, ← byN_nm_some, hyes]; rfl, hf.trans hf5⟩
  · have hje : j = n := by omega
    subst hje
    show (Code.seq (fstC cRd2) (Code.seq (Code.cond (.tmp 55) Code.skip (Code.exit 2)) (sndC (sndC cRd2)))).wp Tryd.prog _ a' w'
    refine OnP.go (ck_test2 hF' (b := false) (decide_eq_false (by omega))) ?_
    rintro a2 w2 ⟨hF2, hs2, rfl⟩
    refine wp_seq (wp_cond_false (by rw [eval_slot]; exact hs2) (wp_exit ?_))
    refine exit_then (exit_then (in_block_here ?_))
    rw [List.take_of_length_le (by omega)] at hA' ht
    refine .inl ⟨rfl, hF2, ⟨hbox, hA', hlt⟩, hf, ?_⟩
    rw [ht, List.drop_of_length_le (by omega)]; rfl
set_option maxHeartbeats 8000000 in
set_option maxRecDepth 100000 in
theorem ck_call {w : World} {a : Act} {bF k bN : Nat} {p : Option Addr} {n c : Nat} {p3 : Option Addr} {n3 c3 : Nat} {x : Int} {R : World → Prop} (hF : GD a bF k bN p n c n) (h2 : w.cell? ⟨bF, 2, none⟩ = some (.slice p3 n3 c3)) (HC : Hid (Calls Tryd.prog 24 #[.pointer (some ⟨k, 0, none⟩), .slice p3 n3 c3, .map (some bN), .bool false] w fun r w' => r = .returned (.int .i64 x) ∧ R w')) :
    (sndC cArr).wp Tryd.prog (fun e a' w' => Hid (e = .ret ∧ GR a' x ∧ R w')) a w := by
  obtain ⟨gg, rfl⟩ := hF.opens
  clear hF
  conv => arg 2; whnf
  go_wp2_with fail
  refine HC.out.mono ?_
  rintro r w5 ⟨rfl, hR⟩
  have HR := keep hR
  clear hR HC
  go_wp2
  exact ⟨⟨⟨rfl, rfl⟩, rfl⟩, HR.out⟩
theorem check_res {f : Lg.Fn} (h : ¬ (4 < f.params.length ∨ 3 < f.arrays.length)) (h2 : twiceK (f.params ++ f.arrays) = false) : checkK f = resK (blockK (stmtK f.arrays 9 false) f.body ⟨f.params.map nmOf, 0, 0⟩) := by
  unfold checkK resK
  rw [if_neg h, if_neg (by rw [h2]; decide)]
  cases blockK (stmtK f.arrays 9 false) f.body ⟨f.params.map nmOf, 0, 0⟩ <;> rfl
theorem ck_all (B : Nat) (f : Lg.Fn) (s1 s2 s3 : Value) (w : World) (hB : B ≤ w.heap.size) (hwf : wfF f) (h : FnIs w B 10 11 f (.agg #[s1, s2, s3])) (a : Act) (bF : Nat) (hF : GA a bF) (w1 : World) (hb1 : Below w.heap.size w w1) (hFb : Bk w1 bF [s1, s2, s3] 25) (hbF : w.heap.size ≤ bF) :
    (sndC cAll).wp Tryd.prog (fun e a' w' => e = .ret ∧ GR a' (checkK f) ∧ Below w.heap.size w w') a w1 := by
  show (Code.seq (fstC (sndC cAll)) (Code.seq (fstC cLay) (Code.seq (fstC (sndC cLay)) (Code.seq (Code.seq (fstC (fstC cPar)) (Code.block 0 (Code.loop cRd1))) (Code.seq (Code.seq (fstC (fstC cArr)) (Code.block 2 (Code.loop cRd2))) (sndC cArr)))))).wp Tryd.prog _ a w1
  obtain ⟨v1, v2, v3, hv, hp, ha, hb⟩ := h
  injection hv with hv
  have e1 : s1 = v1 := by injection hv with hv; injection hv
  have e2 : s2 = v2 := by injection hv with hv; injection hv with _ hv; injection hv
  have e3 : s3 = v3 := by injection hv with hv; injection hv with _ hv; injection hv with _ hv; injection hv
  subst e1 e2 e3
  obtain ⟨ps, rs, body⟩ := f
  dsimp only at hp ha hb
  obtain ⟨p1, n1, c1, rfl, hn1, hc1, hm1, hat1⟩ := hp
  obtain ⟨p2, n2, c2, rfl, hn2, hc2, hm2, hat2⟩ := ha
  obtain ⟨p3, n3, c3, rfl⟩ := hb.slice
  refine wp_seq (wp_mono (ck_test hF hFb) ?_)
  rintro e a1 w1' (⟨rfl, hF1, rfl, hmany⟩ | ⟨rfl, x, hx1, rfl, rfl, hmany⟩)
  rotate_left
  · exact ⟨rfl, by rw [check_many (f := ⟨ps, rs, body⟩) (by rw [← hn1, ← hn2] at hmany; exact hmany)]; exact hx1, hb1⟩
  have hmany' : ¬ (4 < ps.length ∨ 3 < rs.length) := by rw [hn1, hn2]; exact hmany
  refine OnP.go (ck_lay3 hF1) ?_
  rintro a2 w2' ⟨hW2, hs1, hs3, rfl⟩
  refine OnP.go (ck_lay4 hW2 hs1 hs3) ?_
  rintro a3 w3' ⟨hF3, rfl⟩
  obtain ⟨w2, hw2⟩ : ∃ w2, ((w1'.alloc (.map #[] 0)).alloc (.cells #[.map (some w1'.heap.size), .int .i64 0, .int .i64 0] 57)).alloc (.map #[] 0) = w2 := ⟨_, rfl⟩
  have hb2 : Below w1'.heap.size w1' w2 := by rw [← hw2]; exact (((Below.refl _ _).alloc (Nat.le_refl _) _).alloc (by simp) _).alloc (by simp; omega) _
  have hsz2 : w2.heap.size = w1'.heap.size + 3 := by rw [← hw2]; simp
  have hK2 : KK w2 (w1'.heap.size + 1) w1'.heap.size 0 [] 0 0 := by
    rw [← hw2]
    refine ⟨?_, ?_, by omega⟩
    · have h := (Bk.new (w1'.alloc (.map #[] 0)) [.map (some w1'.heap.size), .int .i64 0, .int .i64 0] 57).up (.map #[] 0)
      rw [show (w1'.alloc (.map #[] 0)).heap.size = w1'.heap.size + 1 by simp] at h
      exact h
    · have h := MapA.nil w1'
      exact (h.stay (w' := (w1'.alloc (.map #[] 0)).alloc (.cells #[.map (some w1'.heap.size), .int .i64 0, .int .i64 0] 57)) (((Below.refl _ _).alloc (Nat.le_refl _) _).block _ (by simp <;> omega))).stay (((Below.refl _ _).alloc (Nat.le_refl _) _).block _ (by simp <;> omega))
  have hN2 : MapN w2 (w1'.heap.size + 2) 0 [] := by
    have h := MapN.nil ((w1'.alloc (.map #[] 0)).alloc (.cells #[.map (some w1'.heap.size), .int .i64 0, .int .i64 0] 57))
    rw [show ((w1'.alloc (.map #[] 0)).alloc (.cells #[.map (some w1'.heap.size), .int .i64 0, .int .i64 0] 57)).heap.size = w1'.heap.size + 2 by simp, hw2] at h
    exact h
  rw [show ((w1'.alloc (.map #[] 0)).alloc (.cells #[.map (some w1'.heap.size), .int .i64 0, .int .i64 0] 57)).heap.size = w1'.heap.size + 2 by simp] at hF3
  rw [hw2]
  clear hw2
  have hFl := hFb.lt
  obtain ⟨bA, hbA⟩ : ∃ b, w1'.heap.size = b := ⟨_, rfl⟩
  have hb02 : Below w.heap.size w w2 := hb1.trans (hb2.mono hb1.size)
  have hF2 := hFb.fs (Fs.of_below (l := []) hb2) (by simp)
  have hwA : w.heap.size ≤ bA := by rw [← hbA]; exact hb1.size
  rw [hbA] at hK2 hN2 hF3 hsz2 hFl
  refine wp_seq (OnP.go (ck_five hF3 (hF2.cell 0 rfl)) ?_)
  rintro a4 w4 ⟨hF4, rfl⟩
  refine wp_mono (ck_pars (rs := rs) hF4 hn1 (by omega) (show B ≤ bA + 2 by omega) hN2 hwf.1 (fun j v hv => by
    obtain ⟨g, o, h1, h2, h3⟩ := hat1 j v hv
    exact ⟨g, o, h1, h2, h3.below (hb02.mono hB) h2⟩)) ?_
  rintro e a5 w5 (⟨rfl, hF5, hN5, hb5, ht5⟩ | ⟨rfl, x, hx1, rfl, hyes, hb5⟩)
  rotate_left
  · exact ⟨rfl, by rw [check_twice (f := ⟨ps, rs, body⟩) hmany' hyes]; exact hx1, hb02.trans (hb5.mono (by omega))⟩
  have hb05 : Below w.heap.size w w5 := hb02.trans (hb5.mono (by omega))
  have hF5b : Bk w5 bF [.slice p1 n1 c1, .slice p2 n2 c2, .slice p3 n3 c3] 25 := by
    have h := hF2
    unfold Bk at h ⊢
    rw [hb5.block bF (by omega)]; exact h
  have hK5 : KK w5 (bA + 1) bA 0 [] 0 0 := ⟨by
    have h := hK2.box
    unfold Bk at h ⊢
    rw [hb5.block _ (by omega)]; exact h, hK2.arr.stay (hb5.block _ (by omega)), hK2.lt⟩
  have hGB : GB a5 bF (bA + 1) (bA + 2) := ⟨hF5.wide, hF5.s1, hF5.s3, hF5.s4⟩
  refine wp_seq (OnP.go (ck_thirteen hGB (hF5b.cell 1 rfl)) ?_)
  rintro a6 w6 ⟨hF6, rfl⟩
  refine wp_mono (ck_arrs (ps := ps) (rs := rs) hF6 hn2 (by omega) (show B ≤ bA by omega) (by omega) hN5 hK5 hwf.2.1 ht5 (fun j v hv => by
    obtain ⟨g, o, h1, h2, h3⟩ := hat2 j v hv
    exact ⟨g, o, h1, h2, h3.below (hb05.mono hB) h2⟩)) ?_
  rintro e a7 w7 (⟨rfl, hF7, hK7, hf7, hno⟩ | ⟨rfl, x, hx1, rfl, hyes, hf7⟩)
  rotate_left
  · exact ⟨rfl, by rw [check_twice (f := ⟨ps, rs, body⟩) hmany' hyes]; exact hx1, hb05.trans ⟨hf7.os, hf7.tape, hf7.output, hf7.size, fun i hi => hf7.block i (by omega) (by simp; omega)⟩⟩
  have hb57 : Below bA w6 w7 := ⟨hf7.os, hf7.tape, hf7.output, hf7.size, fun i hi => hf7.block i (by omega) (by simp; omega)⟩
  have hb07 : Below w.heap.size w w7 := hb05.trans (hb57.mono hwA)
  have hF7b : Bk w7 bF [.slice p1 n1 c1, .slice p2 n2 c2, .slice p3 n3 c3] 25 := by
    have h := hF5b
    unfold Bk at h ⊢
    rw [hb57.block bF (by omega)]; exact h
  have hN7 : MapN w7 (bA + 2) n1 (ps.map nmOf) := hN5.stay (hf7.block _ (by omega) (by simp))
  have hC := kblock_ok 9 10 B (bA + 1) bA n2 (bA + 2) n1 rs (ps.map nmOf) 0 0 false body (.slice p3 n3 c3) w7 (by omega) (by omega) hwf.2.2 hK7 hN7 (by omega) (by omega) ⟨by simp; omega, by omega, by omega⟩ (by omega) (hb.below (hb07.mono hB))
  refine wp_mono (ck_call (x := checkK ⟨ps, rs, body⟩) (R := fun w' => Below w.heap.size w w') hF7 (hF7b.cell 2 rfl) (hC.mono ?_)) ?_
  · rintro r w8 ⟨rfl, hf8, _⟩
    refine ⟨by rw [check_res (f := ⟨ps, rs, body⟩) hmany' hno], hb07.trans (hf8.below hb07.size (by simp; omega))⟩
  · intro e a8 w8 h8
    exact h8.out
set_option maxHeartbeats 8000000 in
set_option maxRecDepth 100000 in
theorem ck_zero {w : World} {a : Act} {p1 : Option Addr} {n1 c1 : Nat} {p2 : Option Addr} {n2 c2 : Nat} {p3 : Option Addr} {n3 c3 : Nat} (hW : W92 a) (h0 : slot a 0 = .agg #[.slice p1 n1 c1, .slice p2 n2 c2, .slice p3 n3 c3]) : (fstC cAll).wp Tryd.prog (OnP fun a' w' => GA a' w.heap.size ∧ w' = w.alloc (.cells #[.slice p1 n1 c1, .slice p2 n2 c2, .slice p3 n3 c3] 25)) a w := by
  have e := hW.opens
  rw [h0] at e
  rw [e]
  generalize slot a = gg
  clear hW h0 e
  conv => arg 2; whnf
  go_wp2
  exact ⟨rfl, ⟨⟨rfl, rfl⟩, rfl⟩, rfl⟩
set_option maxHeartbeats 8000000 in
set_option maxRecDepth 100000 in
theorem kcheck_any (B : Nat) (f : Lg.Fn) (s1 s2 s3 : Value) (w : World) (hB : B ≤ w.heap.size) (hwf : wfF f) (h : FnIs w B 10 11 f (.agg #[s1, s2, s3])) :
    Calls Tryd.prog 8 #[.agg #[s1, s2, s3]] w fun r w' => r = .returned (.int .i64 (checkK f)) ∧ Below w.heap.size w w' := by
  have HA := keep (fun a hF w1 hb1 hFb => ck_all B f s1 s2 s3 w hB hwf h a w.heap.size hF w1 hb1 hFb (Nat.le_refl _))
  have hsl : (∃ p1 n1 c1, s1 = .slice p1 n1 c1) ∧ (∃ p2 n2 c2, s2 = .slice p2 n2 c2) ∧ ∃ p3 n3 c3, s3 = .slice p3 n3 c3 := by
    obtain ⟨v1, v2, v3, hv, ⟨p1, n1, c1, h1, _⟩, ⟨p2, n2, c2, h2, _⟩, hb⟩ := h
    obtain ⟨p3, n3, c3, h3⟩ := hb.slice
    cases hv
    exact ⟨⟨_, _, _, h1⟩, ⟨_, _, _, h2⟩, ⟨_, _, _, h3⟩⟩
  obtain ⟨⟨p1, n1, c1, rfl⟩, ⟨p2, n2, c2, rfl⟩, ⟨p3, n3, c3, rfl⟩⟩ := hsl
  clear h hwf hB
  go_enter Tryd.func8, Tryd.ntmps8
  show (Code.seq (fstC cAll) (sndC cAll)).wp Tryd.prog _ _ w
  refine OnP.go (ck_zero ⟨rfl, rfl⟩ rfl) ?_
  rintro a1 w1 ⟨hF1, rfl⟩
  refine wp_mono (HA.out a1 hF1 _ ((Below.refl _ _).alloc (Nat.le_refl _) _) (Bk.new _ _ _)) ?_
  rintro e a' w' ⟨rfl, hF, hb⟩
  obtain ⟨g, rfl⟩ := hF.opens
  clear hF HA hF1
  go_ret
  exact ⟨rfl, hb⟩
end Go.Proofs.YtemdnmfldihalaaDoor.Lr
