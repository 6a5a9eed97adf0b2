/- Laid together: LmSwIf, LmForA, LmForB, LmSwFor, LmSwRet, LmSwLet, LmSwSet. -/
import Derived.Test.YtemdnmfldihalaaGreatDoorGr42
import Derived.Test.YtemdnmfldihalaaGreatDoorLmCut
namespace Go.Proofs.YtemdnmfldihalaaGreatDoor.Lr
set_option linter.unusedVariables false
set_option linter.unusedSimpArgs false
open Go.ChangeShapes Go.WideShapes Go.ChangeAt Go.RowKit Go.Maps Go.WideMaps Lg
theorem block_ok {rs : List Vr} {m : Nat} {dark : Bool} {l : List St} {ns : List Nm} {wk lt : Nat} {k1 : Ks} (hf : Few ns wk lt) (h : blockK (stmtK rs m dark) l ⟨ns,wk,lt⟩ = .ok k1) : k1.ns = ns ∧ wk ≤ k1.work ∧ Few ns k1.work k1.lets := by
 obtain ⟨h1,h2⟩ := (block_gd l (fun u _ k a b => stmt_gd rs m dark u k a b) ⟨ns,wk,lt⟩ hf.2.1 hf.2.2).2 k1 h
 have hw := h1.work
 dsimp only at hw h2
 exact ⟨h2,hw,by have := hf.1; omega,h1.most,h1.lets⟩
theorem sw_if (m K B : Nat) (hKB : KBlock m) (w0 w : World) (k bA nA bI nI j : Nat) (dark : Bool) (p : Option Addr) (n c bT : Nat) (rs : List Vr) (ns : List Nm) (wk lt : Nat) (tn : Int) (tx : List UInt8) (tsec : Bool) (ta : List Ex) (tth tel : List St) (s1 s2 s3 : Value) (a : Act) (s : Bool) (gS cS : Nat) (hS : w.cell? ⟨gS,0,none⟩ = some (.bool s)) (hgS : w0.heap.size ≤ gS) (hgl : gS < w.heap.size) (had arr : Bool) (hF : FT a k bI j dark p n c bT (.slice (some ⟨gS,0,none⟩) 1 cS) had arr 4) (hK : KS w0 w k bA nA bI nI rs ⟨ns,wk,lt⟩) (hk0 : k < w0.heap.size) (hI0 : w0.heap.size ≤ bI) (hT : Bk w bT [.int .i64 4,.int .i64 tn,.string ⟨tx.toArray⟩,.bool tsec,s1,s2,s3] 89) (hTk : w0.heap.size ≤ bT)
  (hmK : m ≤ K) (hm : m ≤ 10) (hw2 : ∀ t ∈ tth,wfS m t) (hw3 : ∀ t ∈ tel,wfS m t) (hBk : B ≤ k) (hi2 : StIs w B 10 (K + 1) tth s2) (hi3 : StIs w B 10 (K + 1) tel s3) :
  bKind.wp Tryz.prog (SwP w0 k bA nA bI j dark p n c rs (thenK (blockK (stmtK rs m (s || dark)) tth ⟨ns,wk,lt⟩) fun k => blockK (stmtK rs m (s || dark)) tel k)) a w := by
 refine no_let hF (by decide) fun a1 hF1 => no_set hF1 (by decide) fun a2 hF2 => no_put hF2 (by decide) fun a3 hF3 => yes_if hF3 fun a4 hF4 => ?_
 show (Code.seq bThen bElse).wp Tryz.prog _ a4 w
 obtain ⟨p2,n2,c2,rfl⟩ := hi2.slice
 obtain ⟨p3,n3,c3,rfl⟩ := hi3.slice
 have hIk : bI ≠ k := by omega
 have h1 := sw_then m K B hKB w k bA nA bI nI j dark s p n c bT gS cS p2 n2 c2 rs ns wk lt tth a4 hF4.fa (hT.cell 5 rfl) hT.lt (by omega) hS hgl (by omega) hmK hm hw2 hK.kk hK.mp hIk hK.nn hK.few hBk hi2
 refine wp_seq (wp_mono h1 ?_)
 rintro e a5 w5 (⟨rfl,hF5,k1,hr1,hkk1,hf1⟩ | ⟨rfl,x,hx1,hx2,hr1,hf1⟩)
 ·obtain ⟨hns,hwk,hfew⟩ := block_ok (ns:=ns) (wk:=wk) (lt:=lt) hK.few hr1
  have hm5 : MapN w5 bI nI ns := hK.mp.stay (hf1.block bI hK.mp.lt (by simpa using hIk))
  have hl5 := hf1.size
  have h2 := sw_else m K B hKB w5 k bA nA bI nI j dark s p n c bT gS cS p3 n3 c3 rs ns k1.work k1.lets tel a5 hF5 (cell_fs hf1 (hT.cell 6 rfl) hT.lt (by omega)) (by have := hT.lt; omega) (by omega) (cell_fs hf1 hS hgl (by omega)) (by omega) (by omega) hmK hm hw3 hkk1 hm5 hIk (by have := hK.nn; dsimp only at this; omega) hfew hBk (hi3.below (hf1.below (by have := hK.kk.box.lt; omega) (by simpa using hBk)))
  refine wp_mono h2 ?_
  have e1 : k1 = ⟨ns,k1.work,k1.lets⟩ := by obtain ⟨x,y,z⟩ := k1; dsimp only at hns; rw [hns]
  rintro e a6 w6 (⟨rfl,hF6,k2,hr2,hkk2,hf2⟩ | ⟨rfl,x,hx1,hx2,hr2,hf2⟩)
  ·obtain ⟨hns2,hwk2,hfew2⟩ := block_ok hfew hr2
   refine .ok (k1:=k2) (nI:=nI) hF6.fb (by rw [hr1,thenK_ok,e1]; exact hr2) ⟨hkk2,?_,(hK.fs.trans hf1).trans hf2,by rw [hns2]; exact hfew2,by have := hK.nn; dsimp only at this; omega⟩
   rw [hns2]
   exact hm5.stay (hf2.block bI hm5.lt (by simpa using hIk))
  ·exact .err hx1 hx2 (by rw [hr1,thenK_ok,e1]; exact hr2) ((hK.fs.trans hf1).trans hf2)
 ·exact .err hx1 hx2 (by rw [hr1]; rfl) (hK.fs.trans hf1)
set_option maxHeartbeats 32000000
set_option maxRecDepth 100000
noncomputable def cFor : Code := yesC (sndC bFor)
noncomputable def bRnd : Code := rndC (inC (sndC (fstC (sndC (sndC cFor)))))
structure FL (a : Act) (k bI j : Nat) (dark : Bool) (p : Option Addr) (n c bT : Nat) (sv : Value) (N i : Nat) : Prop where
 fa : FA a k bI j dark p n c bT sv
 s230 : slot a 230 = .int .i64 (N : Int)
 s231 : slot a 231 = .int .i64 (i : Int)
theorem FL.opens {a : Act} {k bI j : Nat} {dark : Bool} {p : Option Addr} {n c bT : Nat} {sv : Value} {N i : Nat} (h : FL a k bI j dark p n c bT sv N i) : ∃ g : Nat → Value,a = ⟨#[.pointer (some ⟨k,0,none⟩),g 1,g 2,.bool dark,g 4,g 5,g 6,g 7,g 8,.map (some bI),g 10,g 11,g 12,.pointer (some ⟨bT,0,none⟩),sv,g 15,g 16,g 17,g 18,g 19,g 20,g 21,g 22,g 23,g 24,g 25,g 26,g 27,g 28,g 29,g 30,g 31,g 32,g 33,g 34,g 35,g 36,g 37,g 38,.slice p n c,.int .i64 (n : Int),.int .i64 (j : Int),g 42,g 43,g 44,g 45,g 46,g 47,g 48,g 49,g 50,g 51,g 52,g 53,g 54,g 55,g 56,g 57,g 58,g 59,g 60,g 61,g 62,g 63,g 64,g 65,g 66,g 67,g 68,g 69,g 70,g 71,g 72,g 73,g 74,g 75,g 76,g 77,g 78,g 79,g 80,g 81,g 82,g 83,g 84,g 85,g 86,g 87,g 88,g 89,g 90,g 91,g 92,g 93,g 94,g 95,g 96,g 97,g 98,g 99,g 100,g 101,g 102,g 103,g 104,g 105,g 106,g 107,g 108,g 109,g 110,g 111,g 112,g 113,g 114,g 115,g 116,g 117,g 118,g 119,g 120,g 121,g 122,g 123,g 124,g 125,g 126,g 127,g 128,g 129,g 130,g 131,g 132,g 133,g 134,g 135,g 136,g 137,g 138,g 139,g 140,g 141,g 142,g 143,g 144,g 145,g 146,g 147,g 148,g 149,g 150,g 151,g 152,g 153,g 154,g 155,g 156,g 157,g 158,g 159,g 160,g 161,g 162,g 163,g 164,g 165,g 166,g 167,g 168,g 169,g 170,g 171,g 172,g 173,g 174,g 175,g 176,g 177,g 178,g 179,g 180,g 181,g 182,g 183,g 184,g 185,g 186,g 187,g 188,g 189,g 190,g 191,g 192,g 193,g 194,g 195,g 196,g 197,g 198,g 199,g 200,g 201,g 202,g 203,g 204,g 205,g 206,g 207,g 208,g 209,g 210,g 211,g 212,g 213,g 214,g 215,g 216,g 217,g 218,g 219,g 220,g 221,g 222,g 223,g 224,g 225,g 226,g 227,g 228,g 229,.int .i64 (N : Int),.int .i64 (i : Int),g 232,g 233,g 234,g 235,g 236,g 237,g 238,g 239,g 240,g 241,g 242,g 243,g 244,g 245,g 246,g 247,g 248,g 249],[]⟩ := by
 refine ⟨slot a,?_⟩
 have e := h.fa.fb.wide.opens
 rw [h.fa.fb.s0,h.fa.fb.s3,h.fa.fb.s9,h.fa.s13,h.fa.s14,h.fa.fb.s39,h.fa.fb.s40,h.fa.fb.s41,h.s230,h.s231] at e
 exact e
def RdP (w : World) (k bA nA bI j : Nat) (dark : Bool) (p : Option Addr) (n c bT : Nat) (sv : Value) (N i : Nat) (rs : List Vr) (res : Except Int Ks) (e : Exit) (a : Act) (w' : World) : Prop :=
 (i < N ∧ e = .normal ∧ FL a k bI j dark p n c bT sv N (i + 1) ∧ ∃ k1,res = .ok k1 ∧ KK w' k bA nA rs k1.work k1.lets ∧ Fs [k] w w') ∨
 (i < N ∧ e = .ret ∧ ∃ x,Wide a ∧ slot a 8 = .int .i64 x ∧ res = .error x ∧ Fs [k] w w') ∨ (N ≤ i ∧ e = .exit 7 ∧ FL a k bI j dark p n c bT sv N i ∧ w' = w)
theorem for_round (m K B : Nat) (hKB : KBlock m) (w : World) (k bA nA bI nI j : Nat) (dark : Bool) (p : Option Addr) (n c bT : Nat) (sv : Value) (N i : Nat) (hN : N ≤ 8) (p2 : Option Addr) (n2 c2 : Nat) (rs : List Vr) (ns : List Nm) (wk lt : Nat) (l : List St) (a : Act)
  (hF : FL a k bI j dark p n c bT sv N i) (hT : w.cell? ⟨bT,5,none⟩ = some (.slice p2 n2 c2))
  (hmK : m ≤ K) (hm : m ≤ 10) (hwf : ∀ t ∈ l,wfS m t) (hkk : KK w k bA nA rs wk lt) (hmp : MapN w bI nI ns) (hIk : bI ≠ k) (hnn : nI ≤ 1000 + wk) (hfew : Few ns wk lt) (hBk : B ≤ k) (hi : StIs w B 10 (K + 1) l (.slice p2 n2 c2)) :
  bRnd.wp Tryz.prog (RdP w k bA nA bI j dark p n c bT sv N i rs (blockK (stmtK rs m dark) l ⟨ns,wk,lt⟩)) a w := by
 obtain ⟨g,rfl⟩ := hF.opens
 have HC := keep (hKB K B k bA nA bI nI rs ns wk lt dark l (.slice p2 n2 c2) w hmK hm hwf hkk hmp hIk hnn hfew hBk hi)
 have HNz := keep (fun (e : Int) (h : blockK (stmtK rs m dark) l ⟨ns,wk,lt⟩ = .error e) => block_nz rs m dark l ⟨ns,wk,lt⟩ hfew h)
 clear hF hkk hmp hfew hi hKB hwf
 conv => arg 2; whnf
 by_cases hil : i < N
 ·have d1 : decide ((i : Int) < (N : Int)) = true := decide_eq_true (by omega)
  have hwr : IntKind.i64.wrap ((i : Int) + 1) = (i : Int) + 1 := wrap_one i (by omega)
  have HIl := keep hil
  clear hil
  go_wp2_with fail
  refine HC.out.mono ?_
  rintro r w5 ⟨rfl,hf5,hk5⟩
  have HF5 := keep hf5
  have HK5 := keep hk5
  obtain ⟨res,hres⟩ : ∃ r,blockK (stmtK rs m dark) l ⟨ns,wk,lt⟩ = r := ⟨_,rfl⟩
  rw [hres] at HNz HK5 ⊢
  have HRes := keep hres
  clear hf5 hk5 HC hres
  cases res with
  | error e =>
   have d2 : (e != 0) = true := by simpa using HNz.out e rfl
   dsimp only [resK]
   go_wp2
   exact .inr (.inl ⟨HIl.out,rfl,e,⟨rfl,rfl⟩,rfl,HRes.out,HF5.out⟩)
  | ok k1 =>
   dsimp only [resK]
   go_wp2
   exact .inl ⟨HIl.out,rfl,⟨⟨⟨⟨rfl,rfl⟩,rfl,rfl,rfl,rfl,rfl,rfl⟩,rfl,rfl⟩,rfl,rfl⟩,k1,HRes.out,HK5.out k1 rfl,HF5.out⟩
 ·have d1 : decide ((i : Int) < (N : Int)) = false := decide_eq_false (by omega)
  have HIl := keep hil
  clear hil
  go_wp2
  exact .inr (.inr ⟨Nat.le_of_not_lt HIl.out,rfl,⟨⟨⟨⟨rfl,rfl⟩,rfl,rfl,rfl,rfl,rfl,rfl⟩,rfl,rfl⟩,rfl,rfl⟩,rfl⟩)
set_option maxHeartbeats 32000000
set_option maxRecDepth 100000
theorem rounds_step {f : Ks → Except Int Ks} {N i : Nat} (h : i < N) (k : Ks) : roundsK f (N - i) k = thenK (f k) fun k => roundsK f (N - (i + 1)) k := by
 obtain ⟨d,hd⟩ : ∃ d,N - i = d + 1 := ⟨N - i - 1,by omega⟩
 rw [hd,roundsK,show N - (i + 1) = d by omega]
def LpP (w : World) (k bA nA bI j : Nat) (dark : Bool) (p : Option Addr) (n c bT : Nat) (sv : Value) (N : Nat) (rs : List Vr) (ns : List Nm) (wk : Nat) (res : Except Int Ks) (e : Exit) (a : Act) (w' : World) : Prop :=
 (e = .exit 7 ∧ FL a k bI j dark p n c bT sv N N ∧ ∃ k1,res = .ok k1 ∧ k1.ns = ns ∧ wk ≤ k1.work ∧ Few ns k1.work k1.lets ∧ KK w' k bA nA rs k1.work k1.lets ∧ Fs [k] w w') ∨
 (e = .ret ∧ ∃ x,Wide a ∧ slot a 8 = .int .i64 x ∧ res = .error x ∧ Fs [k] w w')
theorem for_loop (m K B : Nat) (hKB : KBlock m) (w : World) (k bA nA bI nI j : Nat) (dark : Bool) (p : Option Addr) (n c bT : Nat) (sv : Value) (N : Nat) (hN : N ≤ 8) (p2 : Option Addr) (n2 c2 : Nat) (rs : List Vr) (ns : List Nm) (wk lt : Nat) (l : List St) (a : Act)
  (hF : FL a k bI j dark p n c bT sv N 0) (hT : w.cell? ⟨bT,5,none⟩ = some (.slice p2 n2 c2)) (hTl : bT < w.heap.size) (hTk : bT ≠ k)
  (hmK : m ≤ K) (hm : m ≤ 10) (hwf : ∀ t ∈ l,wfS m t) (hkk : KK w k bA nA rs wk lt) (hmp : MapN w bI nI ns) (hIk : bI ≠ k) (hnn : nI ≤ 1000 + wk) (hfew : Few ns wk lt) (hBk : B ≤ k) (hi : StIs w B 10 (K + 1) l (.slice p2 n2 c2)) :
  (Code.loop bRnd).wp Tryz.prog (LpP w k bA nA bI j dark p n c bT sv N rs ns wk (roundsK (blockK (stmtK rs m dark) l) N ⟨ns,wk,lt⟩)) a w := by
 refine wp_loop (fun a' w' => ∃ i k1,i ≤ N ∧ FL a' k bI j dark p n c bT sv N i ∧ roundsK (blockK (stmtK rs m dark) l) N ⟨ns,wk,lt⟩ = roundsK (blockK (stmtK rs m dark) l) (N - i) k1 ∧ k1.ns = ns ∧ wk ≤ k1.work ∧ Few ns k1.work k1.lets ∧ KK w' k bA nA rs k1.work k1.lets ∧ Fs [k] w w') (fun a' _ => N - (intOf (slot a' 231)).toNat) ⟨0,⟨ns,wk,lt⟩,Nat.zero_le _,hF,rfl,rfl,Nat.le_refl _,hfew,hkk,Fs.refl _ _⟩ ?_
 rintro a' w' ⟨i,k1,hiN,hF',hr,hns,hwk,hf',hkk',hfs⟩
 have e1 : k1 = ⟨ns,k1.work,k1.lets⟩ := by obtain ⟨x,y,z⟩ := k1; dsimp only at hns; rw [hns]
 have h := for_round m K B hKB w' k bA nA bI nI j dark p n c bT sv N i hN p2 n2 c2 rs ns k1.work k1.lets l a' hF' (cell_fs hfs hT hTl hTk) hmK hm hwf hkk' (hmp.stay (hfs.block bI hmp.lt (by simpa using hIk))) hIk (by omega) hf' hBk (hi.below (hfs.below (by have := hkk.box.lt; omega) (by simpa using hBk)))
 refine wp_mono h ?_
 rintro e a5 w5 (⟨hlt,rfl,hF5,k2,hr2,hkk2,hf2⟩ | ⟨hlt,rfl,x,hx1,hx2,hr2,hf2⟩ | ⟨hge,rfl,hF5,rfl⟩)
 ·obtain ⟨hns2,hwk2,hfew2⟩ := block_ok hf' hr2
  refine ⟨⟨i + 1,k2,hlt,hF5,?_,hns2,Nat.le_trans hwk hwk2,hfew2,hkk2,hfs.trans hf2⟩,?_⟩
  ·rw [hr,rounds_step hlt,e1,hr2,thenK_ok]
  ·show N - (intOf (slot a5 231)).toNat < N - (intOf (slot a' 231)).toNat
   rw [hF5.s231,hF'.s231]
   simp [intOf]; omega
 ·refine .inr ⟨rfl,x,hx1,hx2,?_,hfs.trans hf2⟩
  rw [hr,rounds_step hlt,e1,hr2]; rfl
 ·have hiN' : i = N := by omega
  subst hiN'
  refine .inl ⟨rfl,hF5,k1,?_,hns,hwk,hf',hkk',hfs⟩
  rw [hr,Nat.sub_self]; rfl
theorem for_taken {w : World} {a : Act} {k bI j : Nat} {dark : Bool} {p : Option Addr} {n c bT : Nat} {sv : Value} {had arr : Bool} (hF : FT a k bI j dark p n c bT sv had arr 5) : (fstC cFor).wp Tryz.prog (BkP (fun a' w' => FA a' k bI j dark p n c bT sv ∧ w' = w ∧ (had || arr) = false) (fun x w' => x = 7 ∧ w' = w ∧ (had || arr) = true)) a w := by
 obtain ⟨g,rfl⟩ := hF.opens
 clear hF
 conv => arg 2; whnf
 cases had with
 | true =>
  go_wp2
  exact .inr ⟨rfl,7,⟨rfl,rfl⟩,rfl,rfl,rfl,rfl⟩
 | false =>
  cases arr with
  | true =>
   go_wp2
   exact .inr ⟨rfl,7,⟨rfl,rfl⟩,rfl,rfl,rfl,rfl⟩
  | false =>
   go_wp2
   exact .inl ⟨rfl,⟨⟨⟨rfl,rfl⟩,rfl,rfl,rfl,rfl,rfl,rfl⟩,rfl,rfl⟩,rfl,rfl⟩
theorem for_lay {w w2 : World} {a : Act} {k bI j : Nat} {dark : Bool} {p : Option Addr} {n c bT : Nat} {sv : Value} {tx : List UInt8} (hF : FA a k bI j dark p n c bT sv) (h2 : w.cell? ⟨bT,2,none⟩ = some (.string ⟨tx.toArray⟩)) (hrun : (Instr.mapUpdate 62 (.map (some bI)) (.string ⟨tx.toArray⟩) (.agg #[.bool false,.bool true])).run Tryz.prog w = .ok () w2) : (fstC (sndC cFor)).wp Tryz.prog (fun e a' w' => e = .normal ∧ FA a' k bI j dark p n c bT sv ∧ w' = w2) a w := by
 obtain ⟨g,rfl⟩ := hF.opens
 clear hF
 conv => arg 2; whnf
 go_wp2
 exact ⟨⟨⟨rfl,rfl⟩,rfl,rfl,rfl,rfl,rfl,rfl⟩,rfl,rfl⟩
theorem for_begin {w : World} {a : Act} {k bI j : Nat} {dark : Bool} {p : Option Addr} {n c bT : Nat} {sv : Value} {N : Nat} (hF : FA a k bI j dark p n c bT sv) (h2 : w.cell? ⟨bT,1,none⟩ = some (.int .i64 (N : Int))) : (fstC (fstC (sndC (sndC cFor)))).wp Tryz.prog (fun e a' w' => e = .normal ∧ FL a' k bI j dark p n c bT sv N 0 ∧ w' = w) a w := by
 obtain ⟨g,rfl⟩ := hF.opens
 clear hF
 conv => arg 2; whnf
 go_wp2
 exact ⟨⟨⟨⟨rfl,rfl⟩,rfl,rfl,rfl,rfl,rfl,rfl⟩,rfl,rfl⟩,rfl,rfl⟩
theorem for_end {w w2 : World} {a : Act} {k bI j : Nat} {dark : Bool} {p : Option Addr} {n c bT : Nat} {sv : Value} {N i : Nat} {tx : List UInt8} (hF : FL a k bI j dark p n c bT sv N i) (h2 : w.cell? ⟨bT,2,none⟩ = some (.string ⟨tx.toArray⟩)) (hrun : (Builtin.delete_ #[62,9] 0 #[.map (some bI),.string ⟨tx.toArray⟩]).run Tryz.prog w = .ok (.tuple #[]) w2) : (sndC (sndC (sndC cFor))).wp Tryz.prog (fun e a' w' => e = .normal ∧ FB a' k bI j dark p n c ∧ w' = w2) a w := by
 obtain ⟨g,rfl⟩ := hF.opens
 clear hF
 conv => arg 2; whnf
 go_wp2
 exact ⟨⟨rfl,rfl⟩,rfl,rfl,rfl,rfl,rfl,rfl⟩
theorem in_block_here {id : Nat} {Q : Exit → Act → World → Prop} {a : Act} {w : World} (h : Q .normal a w) : Exit.inBlock id Q (.exit id) a w := by
 show (if id = id then Q .normal a w else Q (.exit id) a w)
 rw [if_pos rfl]; exact h
theorem sw_for (m K B : Nat) (hKB : KBlock m) (w0 w : World) (k bA nA bI nI j : Nat) (dark : Bool) (p : Option Addr) (n c bT : Nat) (rs : List Vr) (ns : List Nm) (wk lt : Nat) (tn : Int) (tx : List UInt8) (tsec : Bool) (ta : List Ex) (tth tel : List St) (s1 s2 s3 : Value) (a : Act) (N : Nat) (hN : N ≤ 8) (htn : tn = (N : Int)) (hx : tx.length ≤ maxLen) (sv : Value) (hF : FT a k bI j dark p n c bT sv (byN ns tx).isSome (byV rs tx).isSome 5) (hK : KS w0 w k bA nA bI nI rs ⟨ns,wk,lt⟩) (hk0 : k < w0.heap.size) (hI0 : w0.heap.size ≤ bI) (hT : Bk w bT [.int .i64 5,.int .i64 tn,.string ⟨tx.toArray⟩,.bool tsec,s1,s2,s3] 89) (hTk : w0.heap.size ≤ bT) (hnn : nI + 1 ≤ 1000 + wk) (hns : ns.length + 1 ≤ 4 + wk)
  (hmK : m ≤ K) (hm : m ≤ 10) (hw2 : ∀ t ∈ tth,wfS m t) (hBk : B ≤ k) (hi2 : StIs w B 10 (K + 1) tth s2) :
  bKind.wp Tryz.prog (SwP w0 k bA nA bI j dark p n c rs (if takenK rs ns tx = true then .error 7 else thenK (roundsK (blockK (stmtK rs m dark) tth) tn.toNat ⟨ns ++ [⟨tx,false,true⟩],wk,lt⟩) fun k' => .ok ⟨ns,k'.work,k'.lets⟩)) a w := by
 subst htn
 refine no_let hF (by decide) fun a1 hF1 => no_set hF1 (by decide) fun a2 hF2 => no_put hF2 (by decide) fun a3 hF3 => no_if hF3 (by decide) fun a4 hF4 => yes_for hF4 fun a5 hF5 => ?_
 show (Code.seq (fstC cFor) (Code.seq (fstC (sndC cFor)) (Code.seq (Code.seq (fstC (fstC (sndC (sndC cFor)))) (Code.block 7 (Code.loop bRnd))) (sndC (sndC (sndC cFor)))))).wp Tryz.prog _ a5 w
 obtain ⟨p2,n2,c2,rfl⟩ := hi2.slice
 have hIk : bI ≠ k := by omega
 refine wp_seq (wp_mono (for_taken hF5) ?_)
 rintro e a6 w6 (⟨rfl,hF6,rfl,ht⟩ | ⟨rfl,x,hx1,hx2,rfl,rfl,ht⟩)
 ·have htk : takenK rs ns tx = false := ht
  have hno : byN ns tx = none := none_of (Bool.or_eq_false_iff.1 ht).1
  have hTI : bT ≠ bI := fun e => by
   obtain ⟨D,⟨es,cl,h1,_⟩,_⟩ := hK.mp
   have h2 := hT
   unfold Bk at h2
   rw [e,h1] at h2
   cases h2
  obtain ⟨w7,hrun,hN7,hg7⟩ := hK.mp.put ⟨tx,false,true⟩ hx (by unfold maxLen; have := hK.few.2.1; dsimp only at this; omega) hno
  have hK7 := ks_map hK.fs hK.kk hk0 hI0 hN7 hg7 ⟨by simp; omega,hK.few.2.1,hK.few.2.2⟩ hnn
  have hT7 : Bk w7 bT [.int .i64 5,.int .i64 (N : Int),.string ⟨tx.toArray⟩,.bool tsec,s1,.slice p2 n2 c2,s3] 89 := by
   have h := hT
   unfold Bk at h ⊢
   rw [hg7.block bT hT.lt (fun e => hTI (Option.some.inj e))]; exact h
  have hb7 : Below B w6 w7 := ⟨hg7.os,hg7.tape,hg7.output,hg7.size,fun i hi => hg7.block i (by have := hK.kk.box.lt; omega) (fun e => by have := Option.some.inj e; omega)⟩
  refine wp_seq (wp_mono (for_lay hF6 (hT.cell 2 rfl) hrun) ?_)
  rintro e a7 w7' ⟨rfl,hF7,rfl⟩
  refine wp_seq (wp_seq (wp_mono (for_begin (N:=N) hF7 (hT7.cell 1 rfl)) ?_))
  rintro e a8 w8 ⟨rfl,hF8,rfl⟩
  have hloop := for_loop m K B hKB w8 k bA nA bI (nI + 1) j dark p n c bT sv N hN p2 n2 c2 rs (ns ++ [⟨tx,false,true⟩]) wk lt tth a8 hF8 (hT7.cell 5 rfl) hT7.lt (by omega) hmK hm hw2 hK7.kk hN7 hIk hnn hK7.few hBk (hi2.below hb7)
  refine wp_block (wp_mono hloop ?_)
  rintro e a9 w9 (⟨rfl,hF9,k1,hr1,hns1,hwk1,hfew1,hkk1,hf1⟩ | ⟨rfl,x,hx1,hx2,hr1,hf1⟩)
  ·refine in_block_here ?_
   have hN9 : MapN w9 bI (nI + 1) (ns ++ [⟨tx,false,true⟩]) := hN7.stay (hf1.block bI hN7.lt (by simpa using hIk))
   obtain ⟨w10,hrun2,hN10,hg10⟩ := hN9.cut hx hno 0
   refine wp_mono (for_end hF9 (cell_fs hf1 (hT7.cell 2 rfl) hT7.lt (by omega)) hrun2) ?_
   rintro e a10 w10' ⟨rfl,hF10,rfl⟩
   have hfw : Few ns k1.work k1.lets := ⟨by have := hfew1.1; simp at this; omega,hfew1.2⟩
   refine .ok (k1:=⟨ns,k1.work,k1.lets⟩) (nI:=nI + 1) hF10 ?_ (ks_map (hK7.fs.trans hf1) hkk1 hk0 hI0 hN10 hg10 hfw (by omega))
   rw [if_neg (by rw [htk]; simp),Int.toNat_natCast,hr1,thenK_ok]
  ·refine .err hx1 hx2 ?_ (hK7.fs.trans hf1)
   rw [if_neg (by rw [htk]; simp),Int.toNat_natCast,hr1]; rfl
 ·refine .err hx1 hx2 ?_ hK.fs
  rw [if_pos (show takenK rs ns tx = true from ht)]
set_option maxHeartbeats 32000000
set_option maxRecDepth 100000
theorem sw_ret (w0 w : World) (k bA nA bI nI j : Nat) (dark : Bool) (p : Option Addr) (n c bT : Nat) (rs : List Vr) (ns : List Nm) (wk lt : Nat) (tn : Int) (tx : List UInt8) (tsec : Bool) (ta : List Ex) (tth tel : List St) (s1 s2 s3 : Value) (a : Act) (sv : Value) (had arr : Bool) (hF : FT a k bI j dark p n c bT sv had arr 6) (hK : KS w0 w k bA nA bI nI rs ⟨ns,wk,lt⟩) (hk0 : k < w0.heap.size) (hI0 : w0.heap.size ≤ bI) (hT : Bk w bT [.int .i64 6,.int .i64 tn,.string ⟨tx.toArray⟩,.bool tsec,s1,s2,s3] 89) (hTk : w0.heap.size ≤ bT) :
  bKind.wp Tryz.prog (SwP w0 k bA nA bI j dark p n c rs (if dark = true then .error 10 else .ok ⟨ns,wk,lt⟩)) a w := by
 obtain ⟨g,rfl⟩ := hF.opens
 have HK := keep hK
 clear hF hK hT
 conv => arg 2; whnf
 cases dark with
 | true =>
  go_wp2
  exact .err ⟨rfl,rfl⟩ rfl rfl HK.out.fs
 | false =>
  go_wp2
  exact .ok ⟨⟨rfl,rfl⟩,rfl,rfl,rfl,rfl,rfl,rfl⟩ rfl HK.out
set_option maxHeartbeats 32000000
set_option maxRecDepth 100000
theorem sw_let (w0 w : World) (k bA nA bI nI j : Nat) (dark : Bool) (p : Option Addr) (n c bT : Nat) (rs : List Vr) (ns : List Nm) (wk lt : Nat) (tn : Int) (tx : List UInt8) (tsec : Bool) (ta : List Ex) (tth tel : List St) (s1 s2 s3 : Value) (a : Act) (s : Bool) (gS cS : Nat) (hS : w.cell? ⟨gS,0,none⟩ = some (.bool s)) (hgS : w0.heap.size ≤ gS) (hx : tx.length ≤ maxLen) (hF : FT a k bI j dark p n c bT (.slice (some ⟨gS,0,none⟩) 1 cS) (byN ns tx).isSome (byV rs tx).isSome 1) (hK : KS w0 w k bA nA bI nI rs ⟨ns,wk,lt⟩) (hk0 : k < w0.heap.size) (hI0 : w0.heap.size ≤ bI) (hT : Bk w bT [.int .i64 1,.int .i64 tn,.string ⟨tx.toArray⟩,.bool tsec,s1,s2,s3] 89) (hTk : w0.heap.size ≤ bT) (hnn : nI + 1 ≤ 1000 + wk) (hns : ns.length + 1 ≤ 4 + wk) :
  bKind.wp Tryz.prog (SwP w0 k bA nA bI j dark p n c rs (letK rs ⟨1,tn,tx,tsec,ta,tth,tel⟩ dark s ⟨ns,wk,lt⟩)) a w := by
 obtain ⟨g,rfl⟩ := hF.opens
 obtain ⟨hd,hhd⟩ : ∃ b,(byN ns tx).isSome = b := ⟨_,rfl⟩
 obtain ⟨ar,har⟩ : ∃ b,(byV rs tx).isSome = b := ⟨_,rfl⟩
 have HL : Hid (letK rs ⟨1,tn,tx,tsec,ta,tth,tel⟩ dark s ⟨ns,wk,lt⟩ = if (hd || ar) = true then .error 7 else if (!tsec && (s || dark)) = true then .error 10 else if 24 < lt + 1 then .error 4 else .ok ⟨ns ++ [⟨tx,tsec,false⟩],wk,lt + 1⟩) := by
  show letK _ _ _ _ _ = _
  unfold letK takenK
  rw [hhd,har]
 rw [hhd,har]
 have HK := keep hK
 have HT := keep hT
 have hfew := hK.few
 have hbk := hK.kk.box
 obtain ⟨w1,hw1⟩ : ∃ w1,w.setCell ⟨k,2,none⟩ (.int .i64 ((lt : Int) + 1)) = w1 := ⟨_,rfl⟩
 have hf1 : Fs [k] w w1 := by rw [← hw1]; exact (Fs.refl _ _).set (by simp) _ _
 have HB1 : Hid (Bk w1 k [.map (some bA),.int .i64 (wk : Int),.int .i64 ((lt + 1 : Nat) : Int)] 61) := by
  show Bk _ _ _ _
  rw [← hw1]; exact hbk.set 2 _
 have c2 := hbk.cell 2 rfl
 have cf := hbk.fr 2
 have v2 : w1.cell? ⟨k,2,none⟩ = some (.int .i64 ((lt : Int) + 1)) := HB1.out.cell 2 rfl
 have hwr : IntKind.i64.wrap ((lt : Int) + 1) = (lt : Int) + 1 := wrap_one lt (by have := hfew.2.2; dsimp only at this; omega)
 have x3 := hT.cell 3 rfl
 have HX1 := keep (hT.fs hf1 (by simp; omega))
 have y2 := HX1.out.cell 2 rfl
 have y3 := HX1.out.cell 3 rfl
 have hIk : bI ≠ k := by omega
 have HN1 := keep (hK.mp.stay (w' := w1) (hf1.block bI hK.mp.lt (by simp; exact hIk)))
 have HA1 := keep (hK.kk.arr.stay (w' := w1) (hf1.block bA (by have := hK.kk.lt; have := hbk.lt; omega) (by simp; have := hK.kk.lt; omega)))
 have HF1 := keep (hK.fs.trans hf1)
 have HW1 := keep hw1
 have HHd := keep hhd
 have hfs0 := hK.fs
 clear hF hK hT hbk hf1 hw1 hhd har
 conv => arg 2; whnf
 cases hd with
 | true =>
  go_wp2
  exact .err ⟨rfl,rfl⟩ rfl (by rw [HL.out]; rfl) HK.out.fs
 | false =>
  cases ar with
  | true =>
   go_wp2
   exact .err ⟨rfl,rfl⟩ rfl (by rw [HL.out]; rfl) HK.out.fs
  | false =>
   obtain ⟨w2,hrun,hN2,hg2⟩ := HN1.out.put ⟨tx,tsec,false⟩ hx (by unfold maxLen; have := hfew.2.1; dsimp only at this; omega) (none_of HHd.out)
   unfold valN at hrun
   dsimp only at hrun
   have HE := keep (fun (h24 : ¬ 24 < lt + 1) => ks_map HF1.out ⟨HB1.out,HA1.out,HK.out.kk.lt⟩ hk0 hI0 hN2 hg2 ⟨by simp; omega,hfew.2.1,by omega⟩ hnn)
   clear hN2 hg2 hfew
   by_cases hlab : (!tsec && (s || dark)) = true
   ·have HR : Hid (letK rs ⟨1,tn,tx,tsec,ta,tth,tel⟩ dark s ⟨ns,wk,lt⟩ = .error 10) := by
     show letK _ _ _ _ _ = _
     rw [HL.out,if_neg (by simp),if_pos hlab]
    clear HL HE
    cases tsec with
    | true => cases hlab
    | false =>
     cases s with
     | true =>
      clear hlab
      go_wp2
      exact .err ⟨rfl,rfl⟩ rfl HR.out HK.out.fs
     | false =>
      cases dark with
      | true =>
       clear hlab
       go_wp2
       exact .err ⟨rfl,rfl⟩ rfl HR.out HK.out.fs
      | false => cases hlab
   ·by_cases h24 : 24 < lt + 1
    ·have d24 : decide (24 < (lt : Int) + 1) = true := decide_eq_true (by omega)
     have HR : Hid (letK rs ⟨1,tn,tx,tsec,ta,tth,tel⟩ dark s ⟨ns,wk,lt⟩ = .error 4) := by
      show letK _ _ _ _ _ = _
      rw [HL.out,if_neg (by simp),if_neg hlab,if_pos h24]
     clear HL HE h24
     cases tsec with
     | true =>
      clear hlab
      go_wp2_with (first | rw [HW1.out])
      exact .err ⟨rfl,rfl⟩ rfl HR.out HF1.out
     | false =>
      cases s with
      | true => exact absurd rfl hlab
      | false =>
       cases dark with
       | true => exact absurd rfl hlab
       | false =>
        clear hlab
        go_wp2_with (first | rw [HW1.out])
        exact .err ⟨rfl,rfl⟩ rfl HR.out HF1.out
    ·have d24 : decide (24 < (lt : Int) + 1) = false := decide_eq_false (by omega)
     have HE2 := keep (HE.out h24)
     have HR : Hid (letK rs ⟨1,tn,tx,tsec,ta,tth,tel⟩ dark s ⟨ns,wk,lt⟩ = .ok ⟨ns ++ [⟨tx,tsec,false⟩],wk,lt + 1⟩) := by
      show letK _ _ _ _ _ = _
      rw [HL.out,if_neg (by simp),if_neg hlab,if_neg h24]
     clear HL HE h24
     cases tsec with
     | true =>
      clear hlab
      go_wp2_with (first | rw [HW1.out])
      exact .ok ⟨⟨rfl,rfl⟩,rfl,rfl,rfl,rfl,rfl,rfl⟩ HR.out HE2.out
     | false =>
      cases s with
      | true => exact absurd rfl hlab
      | false =>
       cases dark with
       | true => exact absurd rfl hlab
       | false =>
        clear hlab
        go_wp2_with (first | rw [HW1.out])
        exact .ok ⟨⟨rfl,rfl⟩,rfl,rfl,rfl,rfl,rfl,rfl⟩ HR.out HE2.out
set_option maxHeartbeats 32000000
set_option maxRecDepth 100000
theorem sw_set (w0 w : World) (k bA nA bI nI j : Nat) (dark : Bool) (p : Option Addr) (n c bT : Nat) (rs : List Vr) (ns : List Nm) (wk lt : Nat) (tn : Int) (tx : List UInt8) (tsec : Bool) (ta : List Ex) (tth tel : List St) (s1 s2 s3 : Value) (a : Act) (s : Bool) (gS cS : Nat) (hS : w.cell? ⟨gS,0,none⟩ = some (.bool s)) (hgS : w0.heap.size ≤ gS) (hx : tx.length ≤ maxLen) (arr : Bool) (hF : FT a k bI j dark p n c bT (.slice (some ⟨gS,0,none⟩) 1 cS) (byN ns tx).isSome arr 2) (hK : KS w0 w k bA nA bI nI rs ⟨ns,wk,lt⟩) (hk0 : k < w0.heap.size) (hI0 : w0.heap.size ≤ bI) (hT : Bk w bT [.int .i64 2,.int .i64 tn,.string ⟨tx.toArray⟩,.bool tsec,s1,s2,s3] 89) (hTk : w0.heap.size ≤ bT) :
  bKind.wp Tryz.prog (SwP w0 k bA nA bI j dark p n c rs (setK ⟨2,tn,tx,tsec,ta,tth,tel⟩ dark s ⟨ns,wk,lt⟩)) a w := by
 obtain ⟨g,rfl⟩ := hF.opens
 have hl := hK.mp.look1 tx hx
 have hf0 := field0
 have hf1 := field1
 have HK := keep hK
 have x2 := hT.cell 2 rfl
 have HL : Hid (setK ⟨2,tn,tx,tsec,ta,tth,tel⟩ dark s ⟨ns,wk,lt⟩ = match byN ns tx with
   | none => .error 6
   | some v => if v.loop = true then .error 6 else if (!v.secret && (s || dark)) = true then .error 10 else .ok ⟨ns,wk,lt⟩) := by
  show setK _ _ _ _ = _
  rfl
 obtain ⟨on,hon⟩ : ∃ o,byN ns tx = o := ⟨_,rfl⟩
 rw [hon] at hl HL
 rw [hon]
 clear hF hK hT hon
 conv => arg 2; whnf
 cases on with
 | none =>
  go_wp2
  exact .err ⟨rfl,rfl⟩ rfl HL.out HK.out.fs
 | some v =>
  obtain ⟨vn,vs,vl⟩ := v
  unfold nmO valN at hl
  dsimp only [Option.getD] at hl
  dsimp only at HL
  dsimp only [Option.isSome]
  cases vl with
  | true =>
   go_wp2
   exact .err ⟨rfl,rfl⟩ rfl HL.out HK.out.fs
  | false =>
   cases vs with
   | true =>
    go_wp2
    exact .ok ⟨⟨rfl,rfl⟩,rfl,rfl,rfl,rfl,rfl,rfl⟩ HL.out HK.out
   | false =>
    cases s with
    | true =>
     go_wp2
     exact .err ⟨rfl,rfl⟩ rfl HL.out HK.out.fs
    | false =>
     cases dark with
     | true =>
      go_wp2
      exact .err ⟨rfl,rfl⟩ rfl HL.out HK.out.fs
     | false =>
      go_wp2
      exact .ok ⟨⟨rfl,rfl⟩,rfl,rfl,rfl,rfl,rfl,rfl⟩ HL.out HK.out
end Go.Proofs.YtemdnmfldihalaaGreatDoor.Lr
