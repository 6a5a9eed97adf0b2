/- Laid together: LmCopy, LmBlock. -/
import Derived.Test.YtemdnmfldihalaaGreatDoorLmOne
namespace Go.Proofs.YtemdnmfldihalaaGreatDoor.Lr
set_option maxHeartbeats 32000000
set_option maxRecDepth 100000
set_option linter.unusedVariables false
set_option linter.unusedSimpArgs false
open Go.ChangeShapes Go.WideShapes Go.ChangeAt Go.RowKit Go.Maps Go.WideMaps Lg
structure FZ (a : Act) (k bN : Nat) (dark : Bool) (p : Option Addr) (n c : Nat) : Prop where
 wide : Wide a
 s0 : slot a 0 = .pointer (some ⟨k,0,none⟩)
 s1 : slot a 1 = .slice p n c
 s2 : slot a 2 = .map (some bN)
 s3 : slot a 3 = .bool dark
theorem FZ.opens {a : Act} {k bN : Nat} {dark : Bool} {p : Option Addr} {n c : Nat} (h : FZ a k bN dark p n c) : ∃ g : Nat → Value,a = ⟨#[.pointer (some ⟨k,0,none⟩),.slice p n c,.map (some bN),.bool dark,g 4,g 5,g 6,g 7,g 8,g 9,g 10,g 11,g 12,g 13,g 14,g 15,g 16,g 17,g 18,g 19,g 20,g 21,g 22,g 23,g 24,g 25,g 26,g 27,g 28,g 29,g 30,g 31,g 32,g 33,g 34,g 35,g 36,g 37,g 38,g 39,g 40,g 41,g 42,g 43,g 44,g 45,g 46,g 47,g 48,g 49,g 50,g 51,g 52,g 53,g 54,g 55,g 56,g 57,g 58,g 59,g 60,g 61,g 62,g 63,g 64,g 65,g 66,g 67,g 68,g 69,g 70,g 71,g 72,g 73,g 74,g 75,g 76,g 77,g 78,g 79,g 80,g 81,g 82,g 83,g 84,g 85,g 86,g 87,g 88,g 89,g 90,g 91,g 92,g 93,g 94,g 95,g 96,g 97,g 98,g 99,g 100,g 101,g 102,g 103,g 104,g 105,g 106,g 107,g 108,g 109,g 110,g 111,g 112,g 113,g 114,g 115,g 116,g 117,g 118,g 119,g 120,g 121,g 122,g 123,g 124,g 125,g 126,g 127,g 128,g 129,g 130,g 131,g 132,g 133,g 134,g 135,g 136,g 137,g 138,g 139,g 140,g 141,g 142,g 143,g 144,g 145,g 146,g 147,g 148,g 149,g 150,g 151,g 152,g 153,g 154,g 155,g 156,g 157,g 158,g 159,g 160,g 161,g 162,g 163,g 164,g 165,g 166,g 167,g 168,g 169,g 170,g 171,g 172,g 173,g 174,g 175,g 176,g 177,g 178,g 179,g 180,g 181,g 182,g 183,g 184,g 185,g 186,g 187,g 188,g 189,g 190,g 191,g 192,g 193,g 194,g 195,g 196,g 197,g 198,g 199,g 200,g 201,g 202,g 203,g 204,g 205,g 206,g 207,g 208,g 209,g 210,g 211,g 212,g 213,g 214,g 215,g 216,g 217,g 218,g 219,g 220,g 221,g 222,g 223,g 224,g 225,g 226,g 227,g 228,g 229,g 230,g 231,g 232,g 233,g 234,g 235,g 236,g 237,g 238,g 239,g 240,g 241,g 242,g 243,g 244,g 245,g 246,g 247,g 248,g 249],[]⟩ := by
 refine ⟨slot a,?_⟩
 have e := h.wide.opens
 rw [h.s0,h.s1,h.s2,h.s3] at e
 exact e
structure FY (a : Act) (k bN bI : Nat) (dark : Bool) (p : Option Addr) (n c : Nat) : Prop where
 wide : Wide a
 s0 : slot a 0 = .pointer (some ⟨k,0,none⟩)
 s1 : slot a 1 = .slice p n c
 s2 : slot a 2 = .map (some bN)
 s3 : slot a 3 = .bool dark
 s9 : slot a 9 = .map (some bI)
theorem FY.opens {a : Act} {k bN bI : Nat} {dark : Bool} {p : Option Addr} {n c : Nat} (h : FY a k bN bI dark p n c) : ∃ g : Nat → Value,a = ⟨#[.pointer (some ⟨k,0,none⟩),.slice p n c,.map (some bN),.bool dark,g 4,g 5,g 6,g 7,g 8,.map (some bI),g 10,g 11,g 12,g 13,g 14,g 15,g 16,g 17,g 18,g 19,g 20,g 21,g 22,g 23,g 24,g 25,g 26,g 27,g 28,g 29,g 30,g 31,g 32,g 33,g 34,g 35,g 36,g 37,g 38,g 39,g 40,g 41,g 42,g 43,g 44,g 45,g 46,g 47,g 48,g 49,g 50,g 51,g 52,g 53,g 54,g 55,g 56,g 57,g 58,g 59,g 60,g 61,g 62,g 63,g 64,g 65,g 66,g 67,g 68,g 69,g 70,g 71,g 72,g 73,g 74,g 75,g 76,g 77,g 78,g 79,g 80,g 81,g 82,g 83,g 84,g 85,g 86,g 87,g 88,g 89,g 90,g 91,g 92,g 93,g 94,g 95,g 96,g 97,g 98,g 99,g 100,g 101,g 102,g 103,g 104,g 105,g 106,g 107,g 108,g 109,g 110,g 111,g 112,g 113,g 114,g 115,g 116,g 117,g 118,g 119,g 120,g 121,g 122,g 123,g 124,g 125,g 126,g 127,g 128,g 129,g 130,g 131,g 132,g 133,g 134,g 135,g 136,g 137,g 138,g 139,g 140,g 141,g 142,g 143,g 144,g 145,g 146,g 147,g 148,g 149,g 150,g 151,g 152,g 153,g 154,g 155,g 156,g 157,g 158,g 159,g 160,g 161,g 162,g 163,g 164,g 165,g 166,g 167,g 168,g 169,g 170,g 171,g 172,g 173,g 174,g 175,g 176,g 177,g 178,g 179,g 180,g 181,g 182,g 183,g 184,g 185,g 186,g 187,g 188,g 189,g 190,g 191,g 192,g 193,g 194,g 195,g 196,g 197,g 198,g 199,g 200,g 201,g 202,g 203,g 204,g 205,g 206,g 207,g 208,g 209,g 210,g 211,g 212,g 213,g 214,g 215,g 216,g 217,g 218,g 219,g 220,g 221,g 222,g 223,g 224,g 225,g 226,g 227,g 228,g 229,g 230,g 231,g 232,g 233,g 234,g 235,g 236,g 237,g 238,g 239,g 240,g 241,g 242,g 243,g 244,g 245,g 246,g 247,g 248,g 249],[]⟩ := by
 refine ⟨slot a,?_⟩
 have e := h.wide.opens
 rw [h.s0,h.s1,h.s2,h.s3,h.s9] at e
 exact e
structure FC (a : Act) (k bI it : Nat) (dark : Bool) (p : Option Addr) (n c : Nat) : Prop where
 wide : Wide a
 s0 : slot a 0 = .pointer (some ⟨k,0,none⟩)
 s1 : slot a 1 = .slice p n c
 s3 : slot a 3 = .bool dark
 s9 : slot a 9 = .map (some bI)
 s30 : slot a 30 = .pointer (some ⟨it,0,none⟩)
theorem FC.opens {a : Act} {k bI it : Nat} {dark : Bool} {p : Option Addr} {n c : Nat} (h : FC a k bI it dark p n c) : ∃ g : Nat → Value,a = ⟨#[.pointer (some ⟨k,0,none⟩),.slice p n c,g 2,.bool dark,g 4,g 5,g 6,g 7,g 8,.map (some bI),g 10,g 11,g 12,g 13,g 14,g 15,g 16,g 17,g 18,g 19,g 20,g 21,g 22,g 23,g 24,g 25,g 26,g 27,g 28,g 29,.pointer (some ⟨it,0,none⟩),g 31,g 32,g 33,g 34,g 35,g 36,g 37,g 38,g 39,g 40,g 41,g 42,g 43,g 44,g 45,g 46,g 47,g 48,g 49,g 50,g 51,g 52,g 53,g 54,g 55,g 56,g 57,g 58,g 59,g 60,g 61,g 62,g 63,g 64,g 65,g 66,g 67,g 68,g 69,g 70,g 71,g 72,g 73,g 74,g 75,g 76,g 77,g 78,g 79,g 80,g 81,g 82,g 83,g 84,g 85,g 86,g 87,g 88,g 89,g 90,g 91,g 92,g 93,g 94,g 95,g 96,g 97,g 98,g 99,g 100,g 101,g 102,g 103,g 104,g 105,g 106,g 107,g 108,g 109,g 110,g 111,g 112,g 113,g 114,g 115,g 116,g 117,g 118,g 119,g 120,g 121,g 122,g 123,g 124,g 125,g 126,g 127,g 128,g 129,g 130,g 131,g 132,g 133,g 134,g 135,g 136,g 137,g 138,g 139,g 140,g 141,g 142,g 143,g 144,g 145,g 146,g 147,g 148,g 149,g 150,g 151,g 152,g 153,g 154,g 155,g 156,g 157,g 158,g 159,g 160,g 161,g 162,g 163,g 164,g 165,g 166,g 167,g 168,g 169,g 170,g 171,g 172,g 173,g 174,g 175,g 176,g 177,g 178,g 179,g 180,g 181,g 182,g 183,g 184,g 185,g 186,g 187,g 188,g 189,g 190,g 191,g 192,g 193,g 194,g 195,g 196,g 197,g 198,g 199,g 200,g 201,g 202,g 203,g 204,g 205,g 206,g 207,g 208,g 209,g 210,g 211,g 212,g 213,g 214,g 215,g 216,g 217,g 218,g 219,g 220,g 221,g 222,g 223,g 224,g 225,g 226,g 227,g 228,g 229,g 230,g 231,g 232,g 233,g 234,g 235,g 236,g 237,g 238,g 239,g 240,g 241,g 242,g 243,g 244,g 245,g 246,g 247,g 248,g 249],[]⟩ := by
 refine ⟨slot a,?_⟩
 have e := h.wide.opens
 rw [h.s0,h.s1,h.s3,h.s9,h.s30] at e
 exact e
structure FR (a : Act) (x : Int) : Prop where
 wide : Wide a
 s8 : slot a 8 = .int .i64 x
theorem FR.opens {a : Act} {x : Int} (h : FR a x) : ∃ g : Nat → Value,a = ⟨#[g 0,g 1,g 2,g 3,g 4,g 5,g 6,g 7,.int .i64 x,g 9,g 10,g 11,g 12,g 13,g 14,g 15,g 16,g 17,g 18,g 19,g 20,g 21,g 22,g 23,g 24,g 25,g 26,g 27,g 28,g 29,g 30,g 31,g 32,g 33,g 34,g 35,g 36,g 37,g 38,g 39,g 40,g 41,g 42,g 43,g 44,g 45,g 46,g 47,g 48,g 49,g 50,g 51,g 52,g 53,g 54,g 55,g 56,g 57,g 58,g 59,g 60,g 61,g 62,g 63,g 64,g 65,g 66,g 67,g 68,g 69,g 70,g 71,g 72,g 73,g 74,g 75,g 76,g 77,g 78,g 79,g 80,g 81,g 82,g 83,g 84,g 85,g 86,g 87,g 88,g 89,g 90,g 91,g 92,g 93,g 94,g 95,g 96,g 97,g 98,g 99,g 100,g 101,g 102,g 103,g 104,g 105,g 106,g 107,g 108,g 109,g 110,g 111,g 112,g 113,g 114,g 115,g 116,g 117,g 118,g 119,g 120,g 121,g 122,g 123,g 124,g 125,g 126,g 127,g 128,g 129,g 130,g 131,g 132,g 133,g 134,g 135,g 136,g 137,g 138,g 139,g 140,g 141,g 142,g 143,g 144,g 145,g 146,g 147,g 148,g 149,g 150,g 151,g 152,g 153,g 154,g 155,g 156,g 157,g 158,g 159,g 160,g 161,g 162,g 163,g 164,g 165,g 166,g 167,g 168,g 169,g 170,g 171,g 172,g 173,g 174,g 175,g 176,g 177,g 178,g 179,g 180,g 181,g 182,g 183,g 184,g 185,g 186,g 187,g 188,g 189,g 190,g 191,g 192,g 193,g 194,g 195,g 196,g 197,g 198,g 199,g 200,g 201,g 202,g 203,g 204,g 205,g 206,g 207,g 208,g 209,g 210,g 211,g 212,g 213,g 214,g 215,g 216,g 217,g 218,g 219,g 220,g 221,g 222,g 223,g 224,g 225,g 226,g 227,g 228,g 229,g 230,g 231,g 232,g 233,g 234,g 235,g 236,g 237,g 238,g 239,g 240,g 241,g 242,g 243,g 244,g 245,g 246,g 247,g 248,g 249],[]⟩ := by
 refine ⟨slot a,?_⟩
 have e := h.wide.opens
 rw [h.s8] at e
 exact e
noncomputable def bCopy : Code := rndC (inC (sndC (fstC (sndC (sndC bAll)))))
theorem rdN_form {v : Value} {y : DataW Unit × List MemPlace} (h : rdN v = some y) : ∃ c : Nm,v = valN c := by
 unfold rdN at h
 split at h
 ·rename_i a b
  exact ⟨⟨[],a,b⟩,rfl⟩
 ·cases h
theorem cp_zero {w : World} {a : Act} {k bN : Nat} {dark : Bool} {p : Option Addr} {n c : Nat} (hF : FZ a k bN dark p n c) : (fstC bAll).wp Tryz.prog (OnP fun a' w' => FZ a' k bN dark p n c ∧ w' = w) a w := by
 obtain ⟨gg,rfl⟩ := hF.opens
 clear hF
 conv => arg 2; whnf
 go_wp2
 exact ⟨rfl,⟨⟨rfl,rfl⟩,rfl,rfl,rfl,rfl⟩,rfl⟩
theorem cp_made {w : World} {a : Act} {k bN : Nat} {dark : Bool} {p : Option Addr} {n c : Nat} (hF : FZ a k bN dark p n c) : (fstC (sndC bAll)).wp Tryz.prog (OnP fun a' w' => FY a' k bN w.heap.size dark p n c ∧ w' = w.alloc (.map #[] 0)) a w := by
 have hmm := @run_makeMap Tryz.prog
 obtain ⟨gg,rfl⟩ := hF.opens
 clear hF
 conv => arg 2; whnf
 go_wp2
 exact ⟨rfl,⟨⟨rfl,rfl⟩,rfl,rfl,rfl,rfl,rfl⟩,rfl⟩
theorem cp_range {w : World} {a : Act} {k bN bI : Nat} {dark : Bool} {p : Option Addr} {n c : Nat} {nN : Nat} {D : DataW Unit} (hF : FY a k bN bI dark p n c) (hown : w.ownsMap Tryz.prog 9 rdN bN nN D) : (fstC (fstC (sndC (sndC bAll)))).wp Tryz.prog (OnP fun a' w' => FC a' k bI w.heap.size dark p n c ∧ w'.ranges Tryz.prog 9 rdN bN w.heap.size nN D (Maps.has D) (Maps.size D) ∧ w.grownBy w' none) a w := by
 obtain ⟨gg,rfl⟩ := hF.opens
 clear hF
 conv => arg 2; whnf
 go_wp2_with (first
  | (at_range; refine wpList_range_own _ rfl _ 62 rfl 9 64 str_keyed Tryz.underlying62 _ bN nN _ rfl hown ?_; intro w0 hrg0 hg0 hs0)
  | go_in)
 exact ⟨rfl,⟨⟨rfl,rfl⟩,rfl,rfl,rfl,rfl,rfl⟩,hrg0,hg0⟩
def CpP (w : World) (k bN bI it : Nat) (dark : Bool) (p : Option Addr) (n c nN : Nat) (D0 : DataW Unit) (left : Lit → Bool) (cnt nI : Nat) (e : Exit) (a : Act) (w' : World) : Prop :=
 (e = .normal ∧ FC a k bI it dark p n c ∧ ∃ left' cnt' Dout,w'.ranges Tryz.prog 9 rdN bN it nN D0 left' cnt' ∧ cnt' < cnt ∧ w'.ownsMap Tryz.prog 9 rdN bI (nI + 1) Dout ∧ Agree Dout D0 left' ∧ Below bI w w') ∨
 (e = .exit 0 ∧ FC a k bI it dark p n c ∧ cnt = 0 ∧ (∀ kl,left kl = false) ∧ w' = w)
theorem cp_round {w : World} {a : Act} {k bI it : Nat} {dark : Bool} {p : Option Addr} {n c : Nat} {bN nN nI cnt : Nat} {D0 Dout : DataW Unit} {left : Lit → Bool} (hF : FC a k bI it dark p n c) (hrg : w.ranges Tryz.prog 9 rdN bN it nN D0 left cnt) (hout : w.ownsMap Tryz.prog 9 rdN bI nI Dout) (hnI : nI < maxLen) (hA : Agree Dout D0 left) (hNI : bN < bI) (hIt : bI < it) : bCopy.wp Tryz.prog (CpP w k bN bI it dark p n c nN D0 left cnt nI) a w := by
 obtain ⟨gg,rfl⟩ := hF.opens
 have hlt0 := hout.lt
 clear hF
 conv => arg 2; whnf
 go_wp2_with (first
  | (at_next; refine wpList_next_ranges (α := ByteArray) (β := Nm) _ rfl _ rfl 9 str_keyed rdN Value.string valN (fun key kl hkey => by obtain ⟨s,rfl,_,_⟩ := string_of_keyOf Tryz.underlying9 hkey; exact ⟨s,rfl⟩) (fun v y hv => by exact rdN_form hv) bN it nN D0 left cnt rfl hrg ?_ ?_)
  | go_in)
 ·intro hc0 hl0
  go_wp2
  exact .inr ⟨rfl,⟨⟨rfl,rfl⟩,rfl,rfl,rfl,rfl,rfl⟩,hc0,hl0,rfl⟩
 ·intro x cc kl y1 y2 w1 cnt1 hkey hlk hv hat hrg1 hlt hg1 hs1 hen
  obtain ⟨cn,cs,cl⟩ := cc
  rw [rdN_val] at hv
  have hy : y1 = datN ⟨cn,cs,cl⟩ := by injection hv with hv; injection hv with h1 h2; exact h1.symm
  subst hy
  unfold valN at hen
  dsimp only [valN] at hen ⊢
  have hout1 := hout.kept hg1 (fun e => by have := Option.some.inj e; omega)
  obtain ⟨w2,hw2⟩ : ∃ x,w1.alloc (.cells #[.bool cs,.bool cl] 64) = x := ⟨_,rfl⟩
  have hout2 : w2.ownsMap Tryz.prog 9 rdN bI nI Dout := by rw [← hw2]; exact hout1.alloc _
  have hrg2 : w2.ranges Tryz.prog 9 rdN bN it nN D0 (fun z => left z && !z.sameKey kl) cnt1 := by rw [← hw2]; exact hrg1.alloc _
  have hB2 : Bk w2 w1.heap.size [.bool cs,.bool cl] 64 := by rw [← hw2]; exact Bk.new _ _ _
  have b0 := hB2.cell 0 rfl
  have b1 := hB2.cell 1 rfl
  obtain ⟨w3,hrun,hout3,hg3⟩ := hout2.update str_keyed Tryz.underlying62 hnI hkey (rdN_val ⟨cn,cs,cl⟩)
  unfold valN at hrun
  dsimp only at hrun
  have hb12 : Below bI w w2 := by
   have h1 : Below bI w w1 := ⟨hg1.os,hg1.tape,hg1.output,hg1.size,fun i hi => hg1.block i (by omega) (fun e => by have := Option.some.inj e; omega)⟩
   rw [← hw2]; exact h1.alloc (by omega) _
  have HE : Hid (∃ left' cnt' Dout,w3.ranges Tryz.prog 9 rdN bN it nN D0 left' cnt' ∧ cnt' < cnt ∧ w3.ownsMap Tryz.prog 9 rdN bI (nI + 1) Dout ∧ Agree Dout D0 left' ∧ Below bI w w3) := by
   obtain ⟨s,e1,rfl,_⟩ := string_of_keyOf Tryz.underlying9 hkey
   exact ⟨_,cnt1,_,hrg2.kept hg3 (fun e => by have := Option.some.inj e; omega) (fun e => by have := Option.some.inj e; omega),hlt,hout3,agree_step hA hout.isMap trivial hat,hb12.trans ⟨hg3.os,hg3.tape,hg3.output,hg3.size,fun i hi => hg3.block i (by have := hb12.size; omega) (fun e => by have := Option.some.inj e; omega)⟩⟩
  have HW2 := keep hw2
  clear hrg hout hA hkey hlk hv hat hrg1 hlt hg1 hs1 hout1 hw2 hout2 hrg2 hB2 hout3 hg3 hb12 hlt0
  go_wp2_with (first | rw [HW2.out])
  exact .inl ⟨rfl,⟨⟨rfl,rfl⟩,rfl,rfl,rfl,rfl,rfl⟩,HE.out⟩
theorem exit_then {next : Act → World → Prop} {Q : Exit → Act → World → Prop} {id : Nat} {a : Act} {w : World} (h : Q (.exit id) a w) : Exit.then next Q (.exit id) a w := h
theorem cp_loop {w : World} {a : Act} {k bI it : Nat} {dark : Bool} {p : Option Addr} {n c : Nat} {bN nN : Nat} {D0 : DataW Unit} (hF : FC a k bI it dark p n c) (hrg : w.ranges Tryz.prog 9 rdN bN it nN D0 (Maps.has D0) (Maps.size D0)) (hout : w.ownsMap Tryz.prog 9 rdN bI 0 (.map [])) (hsz : Maps.size D0 ≤ 2000) (hNI : bN < bI) (hIt : bI < it) :
  (Code.block 0 (Code.loop bCopy)).wp Tryz.prog (OnP fun a' w' => FC a' k bI it dark p n c ∧ w'.ownsMap Tryz.prog 9 rdN bI (Maps.size D0) D0 ∧ Below bI w w') a w := by
 refine wp_block (wp_loop (fun a' w' => ∃ left cnt Dout,FC a' k bI it dark p n c ∧ w'.ranges Tryz.prog 9 rdN bN it nN D0 left cnt ∧ cnt ≤ Maps.size D0 ∧ w'.ownsMap Tryz.prog 9 rdN bI (Maps.size D0 - cnt) Dout ∧ Agree Dout D0 left ∧ Below bI w w') (fun _ w' => w'.rangeLeft bN it) ⟨_,_,_,hF,hrg,Nat.le_refl _,hout.mono (Nat.zero_le _),agree_start D0,Below.refl _ _⟩ ?_)
 rintro a' w' ⟨left,cnt,Dout,hF',hrg',hcnt,hout',hA,hb⟩
 refine wp_mono (cp_round hF' hrg' hout' (by unfold maxLen; omega) hA hNI hIt) ?_
 rintro e a5 w5 (⟨rfl,hF5,left',cnt',Dout',hrg5,hlt,hout5,hA5,hb5⟩ | ⟨rfl,hF5,hc0,hl0,rfl⟩)
 ·refine ⟨⟨left',cnt',Dout',hF5,hrg5,by omega,hout5.mono (by omega),hA5,hb.trans hb5⟩,?_⟩
  show w5.rangeLeft bN it < w'.rangeLeft bN it
  rw [hrg5.left_eq,hrg'.left_eq]; exact hlt
 ·refine exit_then (in_block_here ?_)
  refine ⟨rfl,hF5,?_,hb⟩
  have e := agree_end hA hl0 (hout'.canon str_keyed) (hrg'.owns.canon str_keyed)
  subst e
  subst hc0
  simpa using hout'
theorem blk_six {w : World} {a : Act} {k bI it : Nat} {dark : Bool} {p : Option Addr} {n c : Nat} (hF : FC a k bI it dark p n c) : (fstC (fstC (sndC (sndC (sndC bAll))))).wp Tryz.prog (OnP fun a' w' => FB a' k bI 0 dark p n c ∧ w' = w) a w := by
 obtain ⟨gg,rfl⟩ := hF.opens
 clear hF
 conv => arg 2; whnf
 go_wp2
 exact ⟨rfl,⟨⟨rfl,rfl⟩,rfl,rfl,rfl,rfl,rfl,rfl⟩,rfl⟩
theorem blk_end {w : World} {a : Act} (hF : Wide a) : (sndC (sndC (sndC (sndC bAll)))).wp Tryz.prog (fun e a' w' => Hid (e = .ret ∧ FR a' 0 ∧ w' = w)) a w := by
 rw [hF.opens]
 generalize slot a = gg
 clear hF
 conv => arg 2; whnf
 go_wp2
 exact ⟨⟨rfl,rfl⟩,rfl⟩
theorem rd_test {w : World} {a : Act} {k bI j : Nat} {dark : Bool} {p : Option Addr} {n c : Nat} {b : Bool} (hF : FB a k bI j dark p n c) (hb : decide (j < n) = b) : (fstC bRound).wp Tryz.prog (OnP fun a' w' => FB a' k bI j dark p n c ∧ slot a' 42 = .bool b ∧ w' = w) a w := by
 obtain ⟨gg,rfl⟩ := hF.opens
 clear hF
 conv => arg 2; whnf
 go_wp2
 exact ⟨rfl,⟨⟨rfl,rfl⟩,rfl,rfl,rfl,rfl,rfl,rfl⟩,rfl,rfl⟩
theorem rd_next {w : World} {a : Act} {k bI j : Nat} {dark : Bool} {p : Option Addr} {n c : Nat} (hF : FB a k bI j dark p n c) (hj : j < n) (hn : n ≤ 281474976710656) : (sndC (sndC (sndC bRound))).wp Tryz.prog (OnP fun a' w' => FB a' k bI (j + 1) dark p n c ∧ w' = w) a w := by
 obtain ⟨gg,rfl⟩ := hF.opens
 have hwr : IntKind.i64.wrap ((j : Int) + 1) = (j : Int) + 1 := by rw [IntKind.wrap_i64]; omega
 clear hF
 conv => arg 2; whnf
 go_wp2
 exact ⟨rfl,⟨⟨rfl,rfl⟩,rfl,rfl,rfl,rfl,rfl,rfl⟩,rfl⟩
theorem blk_loop (m K B : Nat) (ih : ∀ m',m = m' + 1 → KBlock m') (w0 w : World) (k bA nA bI nI : Nat) (dark : Bool) (p : Option Addr) (n c : Nat) (rs : List Vr) (k0 : Ks) (l : List St) (a : Act) (hF : FB a k bI 0 dark p n c) (hn : n ≤ 281474976710656) (hl : l.length = n) (hK : KS w0 w k bA nA bI nI rs k0) (hk0 : k < w0.heap.size) (hI0 : w0.heap.size ≤ bI) (hBk : B ≤ k) (hmK : m ≤ K) (hm : m ≤ 10) (hwf : ∀ t ∈ l,wfS m t)
  (hqa : ∀ j t,l[j]? = some t → ∃ g o s1 s2 s3,p = some ⟨g,o,none⟩ ∧ g < B ∧ StAt w0 g (o + j * 7) t s1 s2 s3 ∧ ExIs w0 B 11 (ar t.args) s1 ∧ StIs w0 B 10 K t.thn s2 ∧ StIs w0 B 10 K t.els s3) :
  (Code.block 2 (Code.loop bRound)).wp Tryz.prog (BkP (fun a' w' => Wide a' ∧ ∃ k1 nI,stmtsK (stmtK rs m dark) l k0 = .ok k1 ∧ KS w0 w' k bA nA bI nI rs k1) (fun x w' => stmtsK (stmtK rs m dark) l k0 = .error x ∧ Fs [k] w0 w')) a w := by
 refine wp_block (wp_loop (fun a' w' => ∃ j k1 nI,j ≤ n ∧ FB a' k bI j dark p n c ∧ stmtsK (stmtK rs m dark) l k0 = stmtsK (stmtK rs m dark) (l.drop j) k1 ∧ KS w0 w' k bA nA bI nI rs k1) (fun a' _ => n - (intOf (slot a' 41)).toNat) ⟨0,k0,nI,Nat.zero_le _,hF,rfl,hK⟩ ?_)
 rintro a' w' ⟨j,k1,nI',hjn,hF',hr,hK'⟩
 show (Code.seq (fstC bRound) (Code.seq (Code.cond (.tmp 42) Code.skip (Code.exit 2)) (Code.seq (Code.block 3 bOne) (sndC (sndC (sndC bRound)))))).wp Tryz.prog _ a' w'
 by_cases hjl : j < n
 ·refine OnP.go (rd_test hF' (b:=true) (decide_eq_true (by omega))) ?_
  rintro a2 w2 ⟨hF2,hs2,rfl⟩
  refine wp_seq (wp_cond_true (by rw [eval_slot]; exact hs2) (wp_skip ?_))
  obtain ⟨t,ht⟩ : ∃ t,l[j]? = some t := ⟨_,List.getElem?_eq_getElem (by rw [hl]; exact hjl)⟩
  have hwt := hwf t (List.mem_of_getElem? ht)
  obtain ⟨g,o,s1,s2,s3,rfl,hg,hat,h1,h2,h3⟩ := hqa j t ht
  have hb0 : Below B w0 w2 := hK'.fs.below (by omega) (by simpa using hBk)
  obtain ⟨m',rfl⟩ : ∃ m',m = m' + 1 := by
   cases m with
   | zero => exact hwt.elim
   | succ m' => exact ⟨m',rfl⟩
  obtain ⟨K',rfl⟩ : ∃ K',K = K' + 1 := ⟨K - 1,by omega⟩
  obtain ⟨ns1,wk1,lt1⟩ := k1
  have hone := one_all m' K' B (ih m' rfl) w0 w2 k bA nA bI nI' j dark g o n c rs ns1 wk1 lt1 t s1 s2 s3 a2 hF2 hjl hn hK' hk0 hI0 hBk (by omega) (by omega) hwt (hat.below hb0 hg) (h1.below hb0) (h2.below hb0) (h3.below hb0)
  refine wp_seq (wp_block (wp_mono hone ?_))
  rintro e a3 w3 (⟨rfl,hF3,k2,nI2,hr2,hK2⟩ | ⟨rfl,x,hx1,hx2,hr2,hf2⟩)
  ·show (sndC (sndC (sndC bRound))).wp Tryz.prog _ a3 w3
   refine wp_mono (rd_next hF3 hjl hn) ?_
   rintro e a4 w4 ⟨rfl,hF4,rfl⟩
   refine ⟨⟨j + 1,k2,nI2,hjl,hF4,?_,hK2⟩,?_⟩
   ·rw [hr,stmts_step ht,hr2,thenK_ok]
   ·show n - (intOf (slot a4 41)).toNat < n - (intOf (slot a' 41)).toNat
    rw [hF4.s41,hF'.s41]
    simp [intOf]; omega
  ·exact .inr ⟨rfl,x,hx1,hx2,by rw [hr,stmts_step ht,hr2]; rfl,hf2⟩
 ·have hje : j = n := by omega
  refine OnP.go (rd_test hF' (b:=false) (decide_eq_false (by omega))) ?_
  rintro a2 w2 ⟨hF2,hs2,rfl⟩
  refine wp_seq (wp_cond_false (by rw [eval_slot]; exact hs2) (wp_exit ?_))
  refine exit_then (exit_then (in_block_here ?_))
  refine .inl ⟨rfl,hF2.wide,k1,nI',?_,hK'⟩
  rw [hr,List.drop_of_length_le (by omega)]; rfl
def BlP (w0 : World) (k bA nA : Nat) (rs : List Vr) (ns : List Nm) (res : Except Int Ks) (e : Exit) (a : Act) (w' : World) : Prop := e = .ret ∧ FR a (resK res) ∧ Fs [k] w0 w' ∧ ∀ k',res = .ok k' → KK w' k bA nA rs k'.work k'.lets
theorem blk_all (m K B : Nat) (ih : ∀ m',m = m' + 1 → KBlock m') (w : World) (k bA nA bN nN : Nat) (dark : Bool) (p : Option Addr) (n c : Nat) (rs : List Vr) (ns : List Nm) (wk lt : Nat) (l : List St) (a : Act) (hF : FZ a k bN dark p n c) (hn : n ≤ 281474976710656) (hl : l.length = n) (hkk : KK w k bA nA rs wk lt) (hmp : MapN w bN nN ns) (hNk : bN ≠ k) (hnn : nN ≤ 1000 + wk) (hfew : Few ns wk lt) (hBk : B ≤ k) (hmK : m ≤ K) (hm : m ≤ 10) (hwf : ∀ t ∈ l,wfS m t)
  (hqa : ∀ j t,l[j]? = some t → ∃ g o s1 s2 s3,p = some ⟨g,o,none⟩ ∧ g < B ∧ StAt w g (o + j * 7) t s1 s2 s3 ∧ ExIs w B 11 (ar t.args) s1 ∧ StIs w B 10 K t.thn s2 ∧ StIs w B 10 K t.els s3) :
  bAll.wp Tryz.prog (BlP w k bA nA rs ns (blockK (stmtK rs m dark) l ⟨ns,wk,lt⟩)) a w := by
 show (Code.seq (fstC bAll) (Code.seq (fstC (sndC bAll)) (Code.seq (Code.seq (fstC (fstC (sndC (sndC bAll)))) (Code.block 0 (Code.loop bCopy))) (Code.seq (Code.seq (fstC (fstC (sndC (sndC (sndC bAll))))) (Code.block 2 (Code.loop bRound))) (sndC (sndC (sndC (sndC bAll)))))))).wp Tryz.prog _ a w
 have hk0 := hkk.box.lt
 have hNl := hmp.lt
 have hlt := hkk.lt
 refine OnP.go (cp_zero hF) ?_
 rintro a1 w1 ⟨hF1,rfl⟩
 refine OnP.go (cp_made hF1) ?_
 rintro a2 w2' ⟨hF2,rfl⟩
 obtain ⟨w2,hw2⟩ : ∃ x,w1.alloc (.map #[] 0) = x := ⟨_,rfl⟩
 have hb2 : Below w1.heap.size w1 w2 := by rw [← hw2]; exact (Below.refl _ _).alloc (Nat.le_refl _) _
 have hnil : w2.ownsMap (H:=Unit) Tryz.prog 9 rdN w1.heap.size 0 (.map []) := by rw [← hw2]; exact World.ownsMap_made _ _ _ _
 rw [hw2]
 clear hw2
 obtain ⟨D,hown,hD⟩ := hmp.below hb2
 have hnil_lt := hnil.lt
 refine wp_seq (OnP.go (cp_range hF2 hown) ?_)
 rintro a3 w3 ⟨hF3,hrg,hg3⟩
 have hb3 : Below w2.heap.size w2 w3 := ⟨hg3.os,hg3.tape,hg3.output,hg3.size,fun i hi => hg3.block i hi (by simp)⟩
 have hwk := hfew.2.1
 refine wp_mono (cp_loop hF3 hrg (hnil.kept hg3 (by simp)) (by have := hown.size_le; omega) (by omega) (by omega)) ?_
 rintro e a4 w4 ⟨rfl,hF4,hown4,hb4⟩
 have hb04 : Below w1.heap.size w1 w4 := (hb2.trans (hb3.mono hb2.size)).trans hb4
 have hK4 : KS w1 w4 k bA nA w1.heap.size (Maps.size D) rs ⟨ns,wk,lt⟩ := ⟨hkk.below hb04,⟨D,hown4,hD⟩,Fs.of_below hb04,hfew,by have := hown.size_le; dsimp only; omega⟩
 refine wp_seq (OnP.go (blk_six hF4) ?_)
 rintro a5 w5 ⟨hF5,rfl⟩
 refine wp_mono (blk_loop m K B ih w1 w5 k bA nA w1.heap.size (Maps.size D) dark p n c rs ⟨ns,wk,lt⟩ l a5 hF5 hn hl hK4 hk0 (Nat.le_refl _) hBk hmK hm hwf hqa) ?_
 rintro e a6 w6 (⟨rfl,hW6,k1,nI,hr,hK6⟩ | ⟨rfl,x,hx1,hx2,hr,hf6⟩)
 ·refine wp_mono (blk_end hW6) ?_
  intro e a7 w7 h7
  obtain ⟨rfl,hF7,rfl⟩ := h7.out
  have hres : blockK (stmtK rs m dark) l ⟨ns,wk,lt⟩ = .ok ⟨ns,k1.work,k1.lets⟩ := by unfold blockK; rw [hr,thenK_ok]
  rw [hres]
  exact ⟨rfl,hF7,hK6.fs,fun k' hk' => by cases hk'; exact hK6.kk⟩
 ·have hres : blockK (stmtK rs m dark) l ⟨ns,wk,lt⟩ = .error x := by unfold blockK; rw [hr]; rfl
  rw [hres]
  exact ⟨rfl,⟨hx1,hx2⟩,hf6,fun k' hk' => by cases hk'⟩
theorem kblock_succ (m : Nat) (ih : ∀ m',m = m' + 1 → KBlock m') : KBlock m := by
 intro K B k bA nA bN nN rs ns wk lt dark l sl w hmK hm hwf hkk hmp hNk hnn hfew hBk hi
 obtain ⟨p,n,c,rfl,hl,hnc,hn,hqa⟩ := hi
 have HA := keep (fun a hF => blk_all m K B ih w k bA nA bN nN dark p n c rs ns wk lt l a hF hn hl hkk hmp hNk hnn hfew hBk hmK hm hwf hqa)
 clear hkk hmp hfew hqa hwf ih
 go_enter Tryz.func28,Tryz.ntmps28
 refine wp_mono (HA.out _ ⟨⟨rfl,rfl⟩,rfl,rfl,rfl,rfl⟩) ?_
 rintro e a' w' ⟨rfl,hF,hfs,hkk⟩
 obtain ⟨g,rfl⟩ := hF.opens
 clear hF HA
 go_ret
 exact ⟨rfl,hfs,hkk⟩
theorem kblock_ok : ∀ m,KBlock m
 | 0 => kblock_succ 0 fun m' h => by cases h
 | m + 1 => kblock_succ (m + 1) fun m' h => by cases h; exact kblock_ok m
end Go.Proofs.YtemdnmfldihalaaGreatDoor.Lr
