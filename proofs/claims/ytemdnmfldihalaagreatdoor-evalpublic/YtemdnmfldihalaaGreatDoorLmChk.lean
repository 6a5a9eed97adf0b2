/- The document's Check: the parameters. Written by tools/gen_mchk.py. -/
import Derived.Test.YtemdnmfldihalaaGreatDoorGr46
import Derived.Test.YtemdnmfldihalaaGreatDoorGr40
namespace Go.Proofs.YtemdnmfldihalaaGreatDoor.Lr
set_option maxHeartbeats 32000000
set_option maxRecDepth 100000
set_option linter.unusedVariables false
set_option linter.unusedSimpArgs false
open Go.ChangeShapes Go.WideShapes Go.ChangeAt Go.RowKit Go.Maps Go.WideMaps Lg
structure W92 (a : Act) : Prop where
 len : a.tmps.toList.length = 92
 dfr : a.defers = []
theorem W92.opens {a : Act} (h : W92 a) : a = ⟨#[slot a 0,slot a 1,slot a 2,slot a 3,slot a 4,slot a 5,slot a 6,slot a 7,slot a 8,slot a 9,slot a 10,slot a 11,slot a 12,slot a 13,slot a 14,slot a 15,slot a 16,slot a 17,slot a 18,slot a 19,slot a 20,slot a 21,slot a 22,slot a 23,slot a 24,slot a 25,slot a 26,slot a 27,slot a 28,slot a 29,slot a 30,slot a 31,slot a 32,slot a 33,slot a 34,slot a 35,slot a 36,slot a 37,slot a 38,slot a 39,slot a 40,slot a 41,slot a 42,slot a 43,slot a 44,slot a 45,slot a 46,slot a 47,slot a 48,slot a 49,slot a 50,slot a 51,slot a 52,slot a 53,slot a 54,slot a 55,slot a 56,slot a 57,slot a 58,slot a 59,slot a 60,slot a 61,slot a 62,slot a 63,slot a 64,slot a 65,slot a 66,slot a 67,slot a 68,slot a 69,slot a 70,slot a 71,slot a 72,slot a 73,slot a 74,slot a 75,slot a 76,slot a 77,slot a 78,slot a 79,slot a 80,slot a 81,slot a 82,slot a 83,slot a 84,slot a 85,slot a 86,slot a 87,slot a 88,slot a 89,slot a 90,slot a 91],[]⟩ := by
 obtain ⟨⟨l⟩,d⟩ := a
 obtain ⟨h1,h2⟩ := h
 dsimp only at h1 h2
 subst h2
 have e0 : l = (List.range 92).map (fun i => l.getD i undef) := by
  refine List.ext_getElem (by simp [h1]) fun i h1 h2 => ?_
  rw [List.getElem_map,List.getElem_range,List.getD_eq_getElem?_getD,List.getElem?_eq_getElem h1,Option.getD_some]
 have e : (List.range 92).map (fun i => l.getD i undef) = [l.getD 0 undef,l.getD 1 undef,l.getD 2 undef,l.getD 3 undef,l.getD 4 undef,l.getD 5 undef,l.getD 6 undef,l.getD 7 undef,l.getD 8 undef,l.getD 9 undef,l.getD 10 undef,l.getD 11 undef,l.getD 12 undef,l.getD 13 undef,l.getD 14 undef,l.getD 15 undef,l.getD 16 undef,l.getD 17 undef,l.getD 18 undef,l.getD 19 undef,l.getD 20 undef,l.getD 21 undef,l.getD 22 undef,l.getD 23 undef,l.getD 24 undef,l.getD 25 undef,l.getD 26 undef,l.getD 27 undef,l.getD 28 undef,l.getD 29 undef,l.getD 30 undef,l.getD 31 undef,l.getD 32 undef,l.getD 33 undef,l.getD 34 undef,l.getD 35 undef,l.getD 36 undef,l.getD 37 undef,l.getD 38 undef,l.getD 39 undef,l.getD 40 undef,l.getD 41 undef,l.getD 42 undef,l.getD 43 undef,l.getD 44 undef,l.getD 45 undef,l.getD 46 undef,l.getD 47 undef,l.getD 48 undef,l.getD 49 undef,l.getD 50 undef,l.getD 51 undef,l.getD 52 undef,l.getD 53 undef,l.getD 54 undef,l.getD 55 undef,l.getD 56 undef,l.getD 57 undef,l.getD 58 undef,l.getD 59 undef,l.getD 60 undef,l.getD 61 undef,l.getD 62 undef,l.getD 63 undef,l.getD 64 undef,l.getD 65 undef,l.getD 66 undef,l.getD 67 undef,l.getD 68 undef,l.getD 69 undef,l.getD 70 undef,l.getD 71 undef,l.getD 72 undef,l.getD 73 undef,l.getD 74 undef,l.getD 75 undef,l.getD 76 undef,l.getD 77 undef,l.getD 78 undef,l.getD 79 undef,l.getD 80 undef,l.getD 81 undef,l.getD 82 undef,l.getD 83 undef,l.getD 84 undef,l.getD 85 undef,l.getD 86 undef,l.getD 87 undef,l.getD 88 undef,l.getD 89 undef,l.getD 90 undef,l.getD 91 undef] := by kernel_rfl
 exact congrArg (fun x : List Value => (⟨⟨x⟩,[]⟩ : Act)) (e0.trans e)
structure GA (a : Act) (bF : Nat) : Prop where
 wide : W92 a
 s1 : slot a 1 = .pointer (some ⟨bF,0,none⟩)
theorem GA.opens {a : Act} {bF : Nat} (h : GA a bF) : ∃ g : Nat → Value,a = ⟨#[g 0,.pointer (some ⟨bF,0,none⟩),g 2,g 3,g 4,g 5,g 6,g 7,g 8,g 9,g 10,g 11,g 12,g 13,g 14,g 15,g 16,g 17,g 18,g 19,g 20,g 21,g 22,g 23,g 24,g 25,g 26,g 27,g 28,g 29,g 30,g 31,g 32,g 33,g 34,g 35,g 36,g 37,g 38,g 39,g 40,g 41,g 42,g 43,g 44,g 45,g 46,g 47,g 48,g 49,g 50,g 51,g 52,g 53,g 54,g 55,g 56,g 57,g 58,g 59,g 60,g 61,g 62,g 63,g 64,g 65,g 66,g 67,g 68,g 69,g 70,g 71,g 72,g 73,g 74,g 75,g 76,g 77,g 78,g 79,g 80,g 81,g 82,g 83,g 84,g 85,g 86,g 87,g 88,g 89,g 90,g 91],[]⟩ := by
 refine ⟨slot a,?_⟩
 have e := h.wide.opens
 rw [h.s1] at e
 exact e
structure GB (a : Act) (bF k bN : Nat) : Prop where
 wide : W92 a
 s1 : slot a 1 = .pointer (some ⟨bF,0,none⟩)
 s3 : slot a 3 = .pointer (some ⟨k,0,none⟩)
 s4 : slot a 4 = .map (some bN)
theorem GB.opens {a : Act} {bF k bN : Nat} (h : GB a bF k bN) : ∃ g : Nat → Value,a = ⟨#[g 0,.pointer (some ⟨bF,0,none⟩),g 2,.pointer (some ⟨k,0,none⟩),.map (some bN),g 5,g 6,g 7,g 8,g 9,g 10,g 11,g 12,g 13,g 14,g 15,g 16,g 17,g 18,g 19,g 20,g 21,g 22,g 23,g 24,g 25,g 26,g 27,g 28,g 29,g 30,g 31,g 32,g 33,g 34,g 35,g 36,g 37,g 38,g 39,g 40,g 41,g 42,g 43,g 44,g 45,g 46,g 47,g 48,g 49,g 50,g 51,g 52,g 53,g 54,g 55,g 56,g 57,g 58,g 59,g 60,g 61,g 62,g 63,g 64,g 65,g 66,g 67,g 68,g 69,g 70,g 71,g 72,g 73,g 74,g 75,g 76,g 77,g 78,g 79,g 80,g 81,g 82,g 83,g 84,g 85,g 86,g 87,g 88,g 89,g 90,g 91],[]⟩ := by
 refine ⟨slot a,?_⟩
 have e := h.wide.opens
 rw [h.s1,h.s3,h.s4] at e
 exact e
structure GC (a : Act) (bF k bN : Nat) (p : Option Addr) (n c j : Nat) : Prop where
 wide : W92 a
 s1 : slot a 1 = .pointer (some ⟨bF,0,none⟩)
 s3 : slot a 3 = .pointer (some ⟨k,0,none⟩)
 s4 : slot a 4 = .map (some bN)
 s30 : slot a 30 = .slice p n c
 s31 : slot a 31 = .int .i64 (n : Int)
 s32 : slot a 32 = .int .i64 (j : Int)
theorem GC.opens {a : Act} {bF k bN : Nat} {p : Option Addr} {n c j : Nat} (h : GC a bF k bN p n c j) : ∃ g : Nat → Value,a = ⟨#[g 0,.pointer (some ⟨bF,0,none⟩),g 2,.pointer (some ⟨k,0,none⟩),.map (some bN),g 5,g 6,g 7,g 8,g 9,g 10,g 11,g 12,g 13,g 14,g 15,g 16,g 17,g 18,g 19,g 20,g 21,g 22,g 23,g 24,g 25,g 26,g 27,g 28,g 29,.slice p n c,.int .i64 (n : Int),.int .i64 (j : Int),g 33,g 34,g 35,g 36,g 37,g 38,g 39,g 40,g 41,g 42,g 43,g 44,g 45,g 46,g 47,g 48,g 49,g 50,g 51,g 52,g 53,g 54,g 55,g 56,g 57,g 58,g 59,g 60,g 61,g 62,g 63,g 64,g 65,g 66,g 67,g 68,g 69,g 70,g 71,g 72,g 73,g 74,g 75,g 76,g 77,g 78,g 79,g 80,g 81,g 82,g 83,g 84,g 85,g 86,g 87,g 88,g 89,g 90,g 91],[]⟩ := by
 refine ⟨slot a,?_⟩
 have e := h.wide.opens
 rw [h.s1,h.s3,h.s4,h.s30,h.s31,h.s32] at e
 exact e
structure GD (a : Act) (bF k bN : Nat) (p : Option Addr) (n c j : Nat) : Prop where
 wide : W92 a
 s1 : slot a 1 = .pointer (some ⟨bF,0,none⟩)
 s3 : slot a 3 = .pointer (some ⟨k,0,none⟩)
 s4 : slot a 4 = .map (some bN)
 s52 : slot a 52 = .slice p n c
 s53 : slot a 53 = .int .i64 (n : Int)
 s54 : slot a 54 = .int .i64 (j : Int)
theorem GD.opens {a : Act} {bF k bN : Nat} {p : Option Addr} {n c j : Nat} (h : GD a bF k bN p n c j) : ∃ g : Nat → Value,a = ⟨#[g 0,.pointer (some ⟨bF,0,none⟩),g 2,.pointer (some ⟨k,0,none⟩),.map (some bN),g 5,g 6,g 7,g 8,g 9,g 10,g 11,g 12,g 13,g 14,g 15,g 16,g 17,g 18,g 19,g 20,g 21,g 22,g 23,g 24,g 25,g 26,g 27,g 28,g 29,g 30,g 31,g 32,g 33,g 34,g 35,g 36,g 37,g 38,g 39,g 40,g 41,g 42,g 43,g 44,g 45,g 46,g 47,g 48,g 49,g 50,g 51,.slice p n c,.int .i64 (n : Int),.int .i64 (j : Int),g 55,g 56,g 57,g 58,g 59,g 60,g 61,g 62,g 63,g 64,g 65,g 66,g 67,g 68,g 69,g 70,g 71,g 72,g 73,g 74,g 75,g 76,g 77,g 78,g 79,g 80,g 81,g 82,g 83,g 84,g 85,g 86,g 87,g 88,g 89,g 90,g 91],[]⟩ := by
 refine ⟨slot a,?_⟩
 have e := h.wide.opens
 rw [h.s1,h.s3,h.s4,h.s52,h.s53,h.s54] at e
 exact e
structure GE (a : Act) (bF k bN : Nat) (p : Option Addr) (n c j : Nat) (bT : Nat) : Prop where
 wide : W92 a
 s1 : slot a 1 = .pointer (some ⟨bF,0,none⟩)
 s3 : slot a 3 = .pointer (some ⟨k,0,none⟩)
 s4 : slot a 4 = .map (some bN)
 s10 : slot a 10 = .pointer (some ⟨bT,0,none⟩)
 s52 : slot a 52 = .slice p n c
 s53 : slot a 53 = .int .i64 (n : Int)
 s54 : slot a 54 = .int .i64 (j : Int)
theorem GE.opens {a : Act} {bF k bN : Nat} {p : Option Addr} {n c j : Nat} {bT : Nat} (h : GE a bF k bN p n c j bT) : ∃ g : Nat → Value,a = ⟨#[g 0,.pointer (some ⟨bF,0,none⟩),g 2,.pointer (some ⟨k,0,none⟩),.map (some bN),g 5,g 6,g 7,g 8,g 9,.pointer (some ⟨bT,0,none⟩),g 11,g 12,g 13,g 14,g 15,g 16,g 17,g 18,g 19,g 20,g 21,g 22,g 23,g 24,g 25,g 26,g 27,g 28,g 29,g 30,g 31,g 32,g 33,g 34,g 35,g 36,g 37,g 38,g 39,g 40,g 41,g 42,g 43,g 44,g 45,g 46,g 47,g 48,g 49,g 50,g 51,.slice p n c,.int .i64 (n : Int),.int .i64 (j : Int),g 55,g 56,g 57,g 58,g 59,g 60,g 61,g 62,g 63,g 64,g 65,g 66,g 67,g 68,g 69,g 70,g 71,g 72,g 73,g 74,g 75,g 76,g 77,g 78,g 79,g 80,g 81,g 82,g 83,g 84,g 85,g 86,g 87,g 88,g 89,g 90,g 91],[]⟩ := by
 refine ⟨slot a,?_⟩
 have e := h.wide.opens
 rw [h.s1,h.s3,h.s4,h.s10,h.s52,h.s53,h.s54] at e
 exact e
structure GH (a : Act) (bF k bN : Nat) (p : Option Addr) (n c j : Nat) (bT : Nat) (had : Bool) : Prop where
 wide : W92 a
 s1 : slot a 1 = .pointer (some ⟨bF,0,none⟩)
 s3 : slot a 3 = .pointer (some ⟨k,0,none⟩)
 s4 : slot a 4 = .map (some bN)
 s10 : slot a 10 = .pointer (some ⟨bT,0,none⟩)
 s12 : slot a 12 = .bool had
 s52 : slot a 52 = .slice p n c
 s53 : slot a 53 = .int .i64 (n : Int)
 s54 : slot a 54 = .int .i64 (j : Int)
theorem GH.opens {a : Act} {bF k bN : Nat} {p : Option Addr} {n c j : Nat} {bT : Nat} {had : Bool} (h : GH a bF k bN p n c j bT had) : ∃ g : Nat → Value,a = ⟨#[g 0,.pointer (some ⟨bF,0,none⟩),g 2,.pointer (some ⟨k,0,none⟩),.map (some bN),g 5,g 6,g 7,g 8,g 9,.pointer (some ⟨bT,0,none⟩),g 11,.bool had,g 13,g 14,g 15,g 16,g 17,g 18,g 19,g 20,g 21,g 22,g 23,g 24,g 25,g 26,g 27,g 28,g 29,g 30,g 31,g 32,g 33,g 34,g 35,g 36,g 37,g 38,g 39,g 40,g 41,g 42,g 43,g 44,g 45,g 46,g 47,g 48,g 49,g 50,g 51,.slice p n c,.int .i64 (n : Int),.int .i64 (j : Int),g 55,g 56,g 57,g 58,g 59,g 60,g 61,g 62,g 63,g 64,g 65,g 66,g 67,g 68,g 69,g 70,g 71,g 72,g 73,g 74,g 75,g 76,g 77,g 78,g 79,g 80,g 81,g 82,g 83,g 84,g 85,g 86,g 87,g 88,g 89,g 90,g 91],[]⟩ := by
 refine ⟨slot a,?_⟩
 have e := h.wide.opens
 rw [h.s1,h.s3,h.s4,h.s10,h.s12,h.s52,h.s53,h.s54] at e
 exact e
structure GI (a : Act) (bF k bN : Nat) (p : Option Addr) (n c j : Nat) (bT : Nat) (had : Bool) (arr : Bool) : Prop where
 wide : W92 a
 s1 : slot a 1 = .pointer (some ⟨bF,0,none⟩)
 s3 : slot a 3 = .pointer (some ⟨k,0,none⟩)
 s4 : slot a 4 = .map (some bN)
 s10 : slot a 10 = .pointer (some ⟨bT,0,none⟩)
 s12 : slot a 12 = .bool had
 s14 : slot a 14 = .bool arr
 s52 : slot a 52 = .slice p n c
 s53 : slot a 53 = .int .i64 (n : Int)
 s54 : slot a 54 = .int .i64 (j : Int)
theorem GI.opens {a : Act} {bF k bN : Nat} {p : Option Addr} {n c j : Nat} {bT : Nat} {had : Bool} {arr : Bool} (h : GI a bF k bN p n c j bT had arr) : ∃ g : Nat → Value,a = ⟨#[g 0,.pointer (some ⟨bF,0,none⟩),g 2,.pointer (some ⟨k,0,none⟩),.map (some bN),g 5,g 6,g 7,g 8,g 9,.pointer (some ⟨bT,0,none⟩),g 11,.bool had,g 13,.bool arr,g 15,g 16,g 17,g 18,g 19,g 20,g 21,g 22,g 23,g 24,g 25,g 26,g 27,g 28,g 29,g 30,g 31,g 32,g 33,g 34,g 35,g 36,g 37,g 38,g 39,g 40,g 41,g 42,g 43,g 44,g 45,g 46,g 47,g 48,g 49,g 50,g 51,.slice p n c,.int .i64 (n : Int),.int .i64 (j : Int),g 55,g 56,g 57,g 58,g 59,g 60,g 61,g 62,g 63,g 64,g 65,g 66,g 67,g 68,g 69,g 70,g 71,g 72,g 73,g 74,g 75,g 76,g 77,g 78,g 79,g 80,g 81,g 82,g 83,g 84,g 85,g 86,g 87,g 88,g 89,g 90,g 91],[]⟩ := by
 refine ⟨slot a,?_⟩
 have e := h.wide.opens
 rw [h.s1,h.s3,h.s4,h.s10,h.s12,h.s14,h.s52,h.s53,h.s54] at e
 exact e
structure GR (a : Act) (x : Int) : Prop where
 wide : W92 a
 s2 : slot a 2 = .int .i64 x
theorem GR.opens {a : Act} {x : Int} (h : GR a x) : ∃ g : Nat → Value,a = ⟨#[g 0,g 1,.int .i64 x,g 3,g 4,g 5,g 6,g 7,g 8,g 9,g 10,g 11,g 12,g 13,g 14,g 15,g 16,g 17,g 18,g 19,g 20,g 21,g 22,g 23,g 24,g 25,g 26,g 27,g 28,g 29,g 30,g 31,g 32,g 33,g 34,g 35,g 36,g 37,g 38,g 39,g 40,g 41,g 42,g 43,g 44,g 45,g 46,g 47,g 48,g 49,g 50,g 51,g 52,g 53,g 54,g 55,g 56,g 57,g 58,g 59,g 60,g 61,g 62,g 63,g 64,g 65,g 66,g 67,g 68,g 69,g 70,g 71,g 72,g 73,g 74,g 75,g 76,g 77,g 78,g 79,g 80,g 81,g 82,g 83,g 84,g 85,g 86,g 87,g 88,g 89,g 90,g 91],[]⟩ := by
 refine ⟨slot a,?_⟩
 have e := h.wide.opens
 rw [h.s2] at e
 exact e
noncomputable def cAll : Code := Tryz.f7.body.getD .skip
noncomputable def cLay : Code := sndC (sndC cAll)
noncomputable def cPar : Code := sndC (sndC cLay)
noncomputable def cArr : Code := sndC cPar
noncomputable def cRd1 : Code := rndC (inC (sndC (fstC cPar)))
noncomputable def cRd2 : Code := rndC (inC (sndC (fstC cArr)))
def CkP (N : Act → World → Prop) (R : Int → World → Prop) (e : Exit) (a : Act) (w : World) : Prop := (e = .normal ∧ N a w) ∨ (e = .ret ∧ ∃ x,GR a x ∧ R x w)
theorem ck_test {w : World} {a : Act} {bF : Nat} {p1 : Option Addr} {n1 c1 : Nat} {p2 : Option Addr} {n2 c2 : Nat} {s3 : Value} (hF : GA a bF) (hb : Bk w bF [.slice p1 n1 c1,.slice p2 n2 c2,s3] 29) : (fstC (sndC cAll)).wp Tryz.prog (CkP (fun a' w' => GA a' bF ∧ w' = w ∧ ¬ (4 < n1 ∨ 3 < n2)) (fun x w' => x = 5 ∧ w' = w ∧ (4 < n1 ∨ 3 < n2))) a w := by
 obtain ⟨gg,rfl⟩ := hF.opens
 have f0 := hb.cell 0 rfl
 have f1 := hb.cell 1 rfl
 clear hb
 clear hF
 conv => arg 2; whnf
 skip
 by_cases h1 : 4 < n1
 ·have d1 : decide (4 < (n1 : Int)) = true := decide_eq_true (by omega)
  have H := keep h1
  clear h1
  go_wp2
  exact .inr ⟨rfl,5,⟨⟨rfl,rfl⟩,rfl⟩,rfl,rfl,.inl H.out⟩
 ·have d1 : decide (4 < (n1 : Int)) = false := decide_eq_false (by omega)
  have H := keep h1
  clear h1
  by_cases h2 : 3 < n2
  ·have d2 : decide (3 < (n2 : Int)) = true := decide_eq_true (by omega)
   have H2 := keep h2
   clear h2
   go_wp2
   exact .inr ⟨rfl,5,⟨⟨rfl,rfl⟩,rfl⟩,rfl,rfl,.inr H2.out⟩
  ·have d2 : decide (3 < (n2 : Int)) = false := decide_eq_false (by omega)
   have H2 := keep h2
   clear h2
   go_wp2
   exact .inl ⟨rfl,⟨⟨rfl,rfl⟩,rfl⟩,rfl,fun h => h.elim H.out H2.out⟩
theorem ck_lay3 {w : World} {a : Act} {bF : Nat} (hF : GA a bF) : (fstC cLay).wp Tryz.prog (OnP fun a' w' => W92 a' ∧ slot a' 1 = .pointer (some ⟨bF,0,none⟩) ∧ slot a' 3 = .pointer (some ⟨w.heap.size + 1,0,none⟩) ∧ w' = (w.alloc (.map #[] 0)).alloc (.cells #[.map (some w.heap.size),.int .i64 0,.int .i64 0] 61)) a w := by
 obtain ⟨gg,rfl⟩ := hF.opens
 have hmm := @run_makeMap Tryz.prog
 clear hF
 conv => arg 2; whnf
 go_wp2
 exact ⟨rfl,⟨rfl,rfl⟩,rfl,rfl,rfl⟩
theorem ck_lay4 {w : World} {a : Act} {bF k : Nat} (hW : W92 a) (h1 : slot a 1 = .pointer (some ⟨bF,0,none⟩)) (h3 : slot a 3 = .pointer (some ⟨k,0,none⟩)) : (fstC (sndC cLay)).wp Tryz.prog (OnP fun a' w' => GB a' bF k w.heap.size ∧ w' = w.alloc (.map #[] 0)) a w := by
 have hmm := @run_makeMap Tryz.prog
 have e := hW.opens
 rw [h1,h3] at e
 rw [e]
 generalize slot a = gg
 clear hW h1 h3 e
 conv => arg 2; whnf
 go_wp2
 exact ⟨rfl,⟨⟨rfl,rfl⟩,rfl,rfl,rfl⟩,rfl⟩
theorem ck_five {w : World} {a : Act} {bF k bN : Nat} {p : Option Addr} {n c : Nat} (hF : GB a bF k bN) (h0 : w.cell? ⟨bF,0,none⟩ = some (.slice p n c)) : (fstC (fstC cPar)).wp Tryz.prog (OnP fun a' w' => GC a' bF k bN p n c 0 ∧ w' = w) a w := by
 obtain ⟨gg,rfl⟩ := hF.opens
 clear hF
 conv => arg 2; whnf
 go_wp2
 exact ⟨rfl,⟨⟨rfl,rfl⟩,rfl,rfl,rfl,rfl,rfl,rfl⟩,rfl⟩
theorem ck_thirteen {w : World} {a : Act} {bF k bN : Nat} {p : Option Addr} {n c : Nat} (hF : GB a bF k bN) (h0 : w.cell? ⟨bF,1,none⟩ = some (.slice p n c)) : (fstC (fstC cArr)).wp Tryz.prog (OnP fun a' w' => GD a' bF k bN p n c 0 ∧ w' = w) a w := by
 obtain ⟨gg,rfl⟩ := hF.opens
 clear hF
 conv => arg 2; whnf
 go_wp2
 exact ⟨rfl,⟨⟨rfl,rfl⟩,rfl,rfl,rfl,rfl,rfl,rfl⟩,rfl⟩
def P1P (w : World) (bF k bN : Nat) (p : Option Addr) (n c j : Nat) (ns : List Nm) (nN : Nat) (v : Vr) (e : Exit) (a : Act) (w' : World) : Prop :=
 (e = .normal ∧ GC a bF k bN p n c (j + 1) ∧ byN ns v.name = none ∧ MapN w' bN (nN + 1) (ns ++ [nmOf v]) ∧ Below bN w w') ∨ (e = .ret ∧ GR a 7 ∧ (byN ns v.name).isSome = true ∧ Below bN w w')
theorem ck_par {w : World} {a : Act} {bF k bN g o n c j nN : Nat} {ns : List Nm} {v : Vr} (hF : GC a bF k bN (some ⟨g,o,none⟩) n c j) (hjn : j < n) (hn : n ≤ 4) (hat : VrAt w g (o + j * 3) v) (hN : MapN w bN nN ns) (hnN : nN ≤ 1000) (hx : v.name.length ≤ maxLen) :
  cRd1.wp Tryz.prog (P1P w bF k bN (some ⟨g,o,none⟩) n c j ns nN v) a w := by
 obtain ⟨gg,rfl⟩ := hF.opens
 have a0 := hat.c0
 have a1 := hat.c1
 have a2 := hat.c2
 obtain ⟨xn,xs,xz⟩ := v
 simp only at a0 a1 a2 hx
 have e1' : decide ((j : Int) < (n : Int)) = true := decide_eq_true (by omega)
 have hjz : (j : Int) < (n : Int) := by omega
 have hj0 : (0 : Int) ≤ (j : Int) := by omega
 have hNl := hN.lt
 obtain ⟨w3,hw3⟩ : ∃ w3,w.alloc (.cells #[.string ⟨xn.toArray⟩,.bool xs,.int .i64 xz] 46) = w3 := ⟨_,rfl⟩
 have hb3 : Below w.heap.size w w3 := by rw [← hw3]; exact (Below.refl _ _).alloc (Nat.le_refl _) _
 have HZ3 : Hid (Bk w3 w.heap.size [.string ⟨xn.toArray⟩,.bool xs,.int .i64 xz] 46) := by
  show Bk _ _ _ _
  rw [← hw3]; exact Bk.new _ _ _
 have HN3 := keep (hN.below hb3)
 have hlook := HN3.out.look xn hx
 have z0 := HZ3.out.cell 0 rfl
 obtain ⟨on,hon⟩ : ∃ o,byN ns xn = o := ⟨_,rfl⟩
 rw [hon] at hlook
 have HOn := keep hon
 unfold valN at hlook
 have HW3 := keep hw3
 generalize hvo : nmO on = vo at *
 obtain ⟨vn,vs,vl⟩ := vo
 dsimp only at hlook
 obtain ⟨w4,hw4⟩ : ∃ w4,w3.alloc (.cells #[.bool vs,.bool vl] 64) = w4 := ⟨_,rfl⟩
 have hb4 : Below w3.heap.size w3 w4 := by rw [← hw4]; exact (Below.refl _ _).alloc (Nat.le_refl _) _
 have HB4 : Hid (Below w.heap.size w w4) := hb3.trans (hb4.mono hb3.size)
 have HN4 := keep (HN3.out.below hb4)
 have HZ4 := keep (HZ3.out.fs (Fs.of_below (l:=[]) hb4) (by simp))
 have y0 := HZ4.out.cell 0 rfl
 have y1 := HZ4.out.cell 1 rfl
 have HW4 := keep hw4
 clear hF hat hb3 hb4 hw3 hw4 hon HN3 hvo hN
 conv => arg 2; whnf
 cases on with
 | some u =>
  dsimp only [Option.isSome] at hlook
  go_wp2_with (first | rw [HW3.out] | rw [HW4.out])
  exact .inr ⟨rfl,⟨⟨rfl,rfl⟩,rfl⟩,by rw [HOn.out]; rfl,HB4.out.mono (by omega)⟩
 | none =>
  obtain ⟨w5,hrun,hN5,hg5⟩ := HN4.out.put ⟨xn,xs,false⟩ hx (by unfold maxLen; omega) HOn.out
  unfold valN at hrun
  dsimp only at hrun
  have HE : Hid (MapN w5 bN (nN + 1) (ns ++ [⟨xn,xs,false⟩]) ∧ Below bN w w5) := ⟨hN5,(HB4.out.mono (by omega)).trans ⟨hg5.os,hg5.tape,hg5.output,hg5.size,fun i hi => hg5.block i (by have := HB4.out.size; omega) (fun e => by have := Option.some.inj e; omega)⟩⟩
  have hwr : IntKind.i64.wrap ((j : Int) + 1) = (j : Int) + 1 := wrap_one j (by omega)
  dsimp only [Option.isSome] at hlook
  clear hN5 hg5
  go_wp2_with (first | rw [HW3.out] | rw [HW4.out])
  exact .inl ⟨rfl,⟨⟨rfl,rfl⟩,rfl,rfl,rfl,rfl,rfl,rfl⟩,HOn.out,HE.out⟩
theorem ck_par_end {w : World} {a : Act} {bF k bN : Nat} {p : Option Addr} {n c : Nat} (hF : GC a bF k bN p n c n) : (cRd1).wp Tryz.prog (fun e a' w' => Hid (e = .exit 0 ∧ GC a' bF k bN p n c n ∧ w' = w)) a w := by
 obtain ⟨gg,rfl⟩ := hF.opens
 have d1 : decide ((n : Int) < (n : Int)) = false := decide_eq_false (by omega)
 clear hF
 conv => arg 2; whnf
 go_wp2
 exact ⟨⟨rfl,rfl⟩,rfl,rfl,rfl,rfl,rfl,rfl⟩
theorem ck_pars {w : World} {a : Act} {bF k bN : Nat} {p : Option Addr} {n c B : Nat} {ps rs : List Vr} (hF : GC a bF k bN p n c 0) (hl : ps.length = n) (hn : n ≤ 4) (hB : B ≤ bN) (hN : MapN w bN 0 []) (hwf : ∀ v ∈ ps,wfP v) (hat : ∀ j v,ps[j]? = some v → ∃ g o,p = some ⟨g,o,none⟩ ∧ g < B ∧ VrAt w g (o + j * 3) v) :
  (Code.block 0 (Code.loop cRd1)).wp Tryz.prog (CkP (fun a' w' => GC a' bF k bN p n c n ∧ MapN w' bN n (ps.map nmOf) ∧ Below bN w w' ∧ twiceK (ps ++ rs) = twiceA (ps ++ rs.take 0) (rs.drop 0)) (fun x w' => x = 7 ∧ twiceK (ps ++ rs) = true ∧ Below bN w w')) a w := by
 refine wp_block (wp_loop (fun a' w' => ∃ j,j ≤ n ∧ GC a' bF k bN p n c j ∧ MapN w' bN j ((ps.take j).map nmOf) ∧ Below bN w w' ∧ twiceK (ps ++ rs) = twiceA (ps.take j) (ps.drop j ++ rs)) (fun a' _ => n - (intOf (slot a' 32)).toNat) ⟨0,Nat.zero_le _,hF,hN,Below.refl _ _,rfl⟩ ?_)
 rintro a' w' ⟨j,hjn,hF',hN',hb,ht⟩
 by_cases hjl : j < n
 ·obtain ⟨v,hv⟩ : ∃ v,ps[j]? = some v := ⟨_,List.getElem?_eq_getElem (by rw [hl]; exact hjl)⟩
  obtain ⟨g,o,rfl,hg,hva⟩ := hat j v hv
  refine wp_mono (ck_par hF' hjl hn (hva.below (hb.mono hB) hg) hN' (by omega) (name_short (hwf v (List.mem_of_getElem? hv)).1)) ?_
  rintro e a5 w5 (⟨rfl,hF5,hno,hN5,hb5⟩ | ⟨rfl,hF5,hyes,hb5⟩)
  ·refine ⟨⟨j + 1,hjl,hF5,by rw [take_map hv]; exact hN5,hb.trans hb5,?_⟩,?_⟩
   ·rw [ht,twice_par hv,← byN_nm_some,hno]; rfl
   ·show n - (intOf (slot a5 32)).toNat < n - (intOf (slot a' 32)).toNat
    rw [hF5.s32,hF'.s32]
    simp [intOf]; omega
  ·exact .inr ⟨rfl,7,hF5,rfl,by rw [ht,twice_par hv,← byN_nm_some,hyes]; rfl,hb.trans hb5⟩
 ·have hje : j = n := by omega
  subst hje
  refine wp_mono (ck_par_end hF') ?_
  intro e a5 w5 h5
  obtain ⟨rfl,hF5,rfl⟩ := h5.out
  refine exit_then (in_block_here ?_)
  rw [List.take_of_length_le (by omega)] at hN' ht
  refine .inl ⟨rfl,hF5,hN',hb,?_⟩
  rw [ht,List.drop_of_length_le (by omega),List.nil_append]; simp
end Go.Proofs.YtemdnmfldihalaaGreatDoor.Lr
