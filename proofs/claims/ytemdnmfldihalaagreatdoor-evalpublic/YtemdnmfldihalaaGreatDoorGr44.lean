/- Laid together: LmSwPut, LmArg, LmPre, LmBeh. -/
import Derived.Test.YtemdnmfldihalaaGreatDoorLmCut
import Derived.Test.YtemdnmfldihalaaGreatDoorGr43
namespace Go.Proofs.YtemdnmfldihalaaGreatDoor.Lr
set_option maxHeartbeats 32000000
set_option maxRecDepth 100000
set_option linter.unusedVariables false
set_option linter.unusedSimpArgs false
open Go.ChangeShapes Go.WideShapes Go.ChangeAt Go.RowKit Go.Maps Go.WideMaps Lg
theorem sw_put (w0 w : World) (k bA nA bI nI j : Nat) (dark : Bool) (p : Option Addr) (n c bT : Nat) (rs : List Vr) (ns : List Nm) (wk lt : Nat) (tn : Int) (tx : List UInt8) (tsec : Bool) (ta : List Ex) (tth tel : List St) (s1 s2 s3 : Value) (a : Act) (s u : Bool) (gS cS ge oe ce : Nat) (pk pn : Int) (px : List UInt8) (pa : List Ex) (tp : Option Addr) (tq tc : Nat) (hS : w.cell? ⟨gS,0,none⟩ = some (.bool s)) (hU : w.cell? ⟨gS,1,none⟩ = some (.bool u)) (hgS : gS < w.heap.size) (hx : tx.length ≤ maxLen) (hat : ExAt w ge oe ⟨pk,pn,px,pa⟩ (.slice tp tq tc)) (hge : ge < w.heap.size) (had arr : Bool) (hs1 : s1 = .slice (some ⟨ge,oe,none⟩) 2 ce) (hF : FT a k bI j dark p n c bT (.slice (some ⟨gS,0,none⟩) 2 cS) had arr 3) (hK : KS w0 w k bA nA bI nI rs ⟨ns,wk,lt⟩) (hk0 : k < w0.heap.size) (hI0 : w0.heap.size ≤ bI) (hT : Bk w bT [.int .i64 3,.int .i64 tn,.string ⟨tx.toArray⟩,.bool tsec,s1,s2,s3] 89) (hTk : w0.heap.size ≤ bT) :
  bKind.wp Tryz.prog (SwP w0 k bA nA bI j dark p n c rs (thenK (placeK rs dark tx ⟨pk,pn,px,pa⟩ s) fun to => if (!to && (u || dark)) = true then .error 10 else .ok (⟨ns,wk,lt⟩ : Ks))) a w := by
 subst hs1
 obtain ⟨g,rfl⟩ := hF.opens
 have HK := keep hK
 have HSS : Hid (∀ W' : World,Below w.heap.size w W' → (W'.cell? ⟨bT,2,none⟩ = some (.string ⟨tx.toArray⟩) ∧ W'.cell? ⟨bT,4,none⟩ = some (.slice (some ⟨ge,oe,none⟩) 2 ce) ∧ W'.cell? ⟨ge,oe,none⟩ = some (.int .i64 pk) ∧ W'.cell? ⟨ge,oe + 1,none⟩ = some (.int .i64 pn) ∧ W'.cell? ⟨ge,oe + 2,none⟩ = some (.string ⟨px.toArray⟩) ∧ W'.cell? ⟨ge,oe + 3,none⟩ = some (.slice tp tq tc) ∧ W'.cell? ⟨gS,0,none⟩ = some (.bool s))) := fun W' hb => ⟨cell_old hb (hT.cell 2 rfl) hT.lt,cell_old hb (hT.cell 4 rfl) hT.lt,cell_old hb hat.c0 hge,cell_old hb hat.c1 hge,cell_old hb hat.c2 hge,cell_old hb hat.c3 hge,cell_old hb hS hgS⟩
 have HU : Hid (∀ W' : World,Below w.heap.size w W' → W'.cell? ⟨gS,1,none⟩ = some (.bool u)) := fun W' hb => cell_old hb hU hgS
 have HPl := keep (fun W hW => place_any k bA nA rs wk lt tx hx ⟨pk,pn,px,pa⟩ (.slice tp tq tc) ⟨_,_,_,rfl⟩ s dark W (hK.kk.below hW))
 unfold exA at HPl
 obtain ⟨rs0,hr0⟩ : ∃ r,(thenK (placeK rs dark tx ⟨pk,pn,px,pa⟩ s) fun to => if (!to && (u || dark)) = true then .error 10 else .ok (⟨ns,wk,lt⟩ : Ks)) = r := ⟨_,rfl⟩
 have HR := keep hr0
 rw [hr0]
 clear hF hK hT hat hS hU hr0
 conv => arg 2; whnf
 go_wp2_with fail
 refine wp_region_noPanic ?_
 refine Ord.wpM_begin (fun W' : World => W'.cell? ⟨bT,2,none⟩ = some (.string ⟨tx.toArray⟩) ∧ W'.cell? ⟨bT,4,none⟩ = some (.slice (some ⟨ge,oe,none⟩) 2 ce) ∧ W'.cell? ⟨ge,oe,none⟩ = some (.int .i64 pk) ∧ W'.cell? ⟨ge,oe + 1,none⟩ = some (.int .i64 pn) ∧ W'.cell? ⟨ge,oe + 2,none⟩ = some (.string ⟨px.toArray⟩) ∧ W'.cell? ⟨ge,oe + 3,none⟩ = some (.slice tp tq tc) ∧ W'.cell? ⟨gS,0,none⟩ = some (.bool s)) [0,1,2,3,4,5,6,7,8,9,10,11,12,13,14,15,16] (by kernel_rfl) ?_
 have HB4 : Hid (Below w.heap.size w w.drew) := Below.drew (Below.refl _ _)
 generalize w.drew = w4 at *
 have hS := HSS.out w4 HB4.out
 refine Ord.tk (i:=0) (v:=.pointer (some ⟨k,0,none⟩)) (hy:=Or.inl ⟨by rfl,by rintro W' ⟨q0,q1,q2,q3,q4,q5,q6⟩; go_simp⟩) (hS:=hS) (h:=?_)
 try simp only [Act.put,Ord.t,Ord.z,Ord.s]
 refine Ord.tk (i:=1) (v:=.pointer (some ⟨bT,2,none⟩)) (hy:=Or.inl ⟨by rfl,by rintro W' ⟨q0,q1,q2,q3,q4,q5,q6⟩; go_simp⟩) (hS:=hS) (h:=?_)
 try simp only [Act.put,Ord.t,Ord.z,Ord.s]
 refine Ord.tk (i:=2) (v:=.string ⟨tx.toArray⟩) (hy:=Or.inl ⟨by rfl,by rintro W' ⟨q0,q1,q2,q3,q4,q5,q6⟩; go_simp⟩) (hS:=hS) (h:=?_)
 try simp only [Act.put,Ord.t,Ord.z,Ord.s]
 refine Ord.tk (i:=3) (v:=.pointer (some ⟨bT,4,none⟩)) (hy:=Or.inl ⟨by rfl,by rintro W' ⟨q0,q1,q2,q3,q4,q5,q6⟩; go_simp⟩) (hS:=hS) (h:=?_)
 try simp only [Act.put,Ord.t,Ord.z,Ord.s]
 refine Ord.tk (i:=4) (v:=.slice (some ⟨ge,oe,none⟩) 2 ce) (hy:=Or.inl ⟨by rfl,by rintro W' ⟨q0,q1,q2,q3,q4,q5,q6⟩; go_simp⟩) (hS:=hS) (h:=?_)
 try simp only [Act.put,Ord.t,Ord.z,Ord.s]
 refine Ord.tk (i:=5) (v:=.pointer (some ⟨ge,oe,none⟩)) (hy:=Or.inl ⟨by rfl,by rintro W' ⟨q0,q1,q2,q3,q4,q5,q6⟩; go_simp⟩) (hS:=hS) (h:=?_)
 try simp only [Act.put,Ord.t,Ord.z,Ord.s]
 refine Ord.tk (i:=6) (v:=.agg #[.int .i64 pk,.int .i64 pn,.string ⟨px.toArray⟩,.slice tp tq tc]) (hy:=Or.inl ⟨by rfl,by rintro W' ⟨q0,q1,q2,q3,q4,q5,q6⟩; go_simp⟩) (hS:=hS) (h:=?_)
 try simp only [Act.put,Ord.t,Ord.z,Ord.s]
 refine Ord.tk (i:=7) (v:=.slice (some ⟨gS,0,none⟩) 2 cS) (hy:=Or.inl ⟨by rfl,by rintro W' ⟨q0,q1,q2,q3,q4,q5,q6⟩; go_simp⟩) (hS:=hS) (h:=?_)
 try simp only [Act.put,Ord.t,Ord.z,Ord.s]
 refine Ord.tk (i:=8) (v:=.pointer (some ⟨gS,0,none⟩)) (hy:=Or.inl ⟨by rfl,by rintro W' ⟨q0,q1,q2,q3,q4,q5,q6⟩; go_simp⟩) (hS:=hS) (h:=?_)
 try simp only [Act.put,Ord.t,Ord.z,Ord.s]
 refine Ord.tk (i:=9) (v:=.bool s) (hy:=Or.inl ⟨by rfl,by rintro W' ⟨q0,q1,q2,q3,q4,q5,q6⟩; go_simp⟩) (hS:=hS) (h:=?_)
 try simp only [Act.put,Ord.t,Ord.z,Ord.s]
 refine Ord.tk (i:=10) (v:=.bool dark) (hy:=Or.inl ⟨by rfl,by rintro W' ⟨q0,q1,q2,q3,q4,q5,q6⟩; go_simp⟩) (hS:=hS) (h:=?_)
 try simp only [Act.put,Ord.t,Ord.z,Ord.s]
 refine Ord.on (i:=11) (h:=fun K hK => ?_)
 go_simp
 refine (HPl.out w4 HB4.out).mono ?_
 rintro r w5 ⟨rfl,hb5⟩
 have HB5 := keep (HB4.out.trans (hb5.mono HB4.out.size))
 obtain ⟨res,hres⟩ : ∃ r,placeK rs dark tx ⟨pk,pn,px,pa⟩ s = r := ⟨_,rfl⟩
 have H3 := keep (place_three rs dark tx ⟨pk,pn,px,pa⟩ s)
 rw [hres] at HR H3 ⊢
 obtain ⟨rb,hrb⟩ : ∃ b,resB res = b := ⟨_,rfl⟩
 obtain ⟨re,hre⟩ : ∃ b,resE res = b := ⟨_,rfl⟩
 have htw : two res = .tuple #[.bool rb,.int .i64 re] := by unfold two; rw [hrb,hre]
 rw [htw]
 have HRb := keep hrb
 have HRe := keep hre
 clear hb5 hS HPl HB4 hres htw hrb hre
 go_simp
 refine hK.out _ _ (fun _ => HSS.out _ HB5.out) ?_
 clear hK K
 try simp only [Act.put,Ord.t,Ord.z,Ord.s]
 have hS := HSS.out w5 HB5.out
 refine Ord.tk (i:=12) (v:=.tuple #[.bool rb,.int .i64 re]) (hy:=Or.inl ⟨by rfl,by rintro W' ⟨q0,q1,q2,q3,q4,q5,q6⟩; go_simp⟩) (hS:=hS) (h:=?_)
 try simp only [Act.put,Ord.t,Ord.z,Ord.s]
 refine Ord.tk (i:=13) (v:=.bool rb) (hy:=Or.inl ⟨by rfl,by rintro W' ⟨q0,q1,q2,q3,q4,q5,q6⟩; go_simp⟩) (hS:=hS) (h:=?_)
 try simp only [Act.put,Ord.t,Ord.z,Ord.s]
 refine Ord.tk (i:=14) (v:=.int .i64 re) (hy:=Or.inl ⟨by rfl,by rintro W' ⟨q0,q1,q2,q3,q4,q5,q6⟩; go_simp⟩) (hS:=hS) (h:=?_)
 try simp only [Act.put,Ord.t,Ord.z,Ord.s]
 refine Ord.on (i:=15) (h:=fun K hK => ?_)
 go_simp
 refine hK.out _ _ (fun _ => HSS.out _ HB5.out) ?_
 clear hK K
 try simp only [Act.put,Ord.t,Ord.z,Ord.s]
 refine Ord.on (i:=16) (h:=fun K hK => ?_)
 go_simp
 refine hK.out _ _ (fun _ => HSS.out _ HB5.out) ?_
 clear hK K
 try simp only [Act.put,Ord.t,Ord.z,Ord.s]
 refine Ord.wpM_done (by kernel_rfl) ?_ _
 refine NoPanic.normal ?_
 have HK5 := keep (HK.out.below HB5.out)
 have u1 := HU.out w5 HB5.out
 clear hS HSS HU HK
 rcases H3.out with rfl | rfl | ⟨to,rfl⟩
 ·have e1 : re = 6 := HRe.out.symm
  subst e1
  go_wp2
  exact .err ⟨rfl,rfl⟩ rfl HR.out.symm HK5.out.fs
 ·have e1 : re = 10 := HRe.out.symm
  subst e1
  go_wp2
  exact .err ⟨rfl,rfl⟩ rfl HR.out.symm HK5.out.fs
 ·have e1 : re = 0 := HRe.out.symm
  have e2 : rb = to := HRb.out.symm
  subst e1 e2
  cases rb with
  | true =>
   go_wp2
   exact .ok (k1:=⟨ns,wk,lt⟩) ⟨⟨rfl,rfl⟩,rfl,rfl,rfl,rfl,rfl,rfl⟩ HR.out.symm HK5.out
  | false =>
   cases u with
   | true =>
    go_wp2
    exact .err ⟨rfl,rfl⟩ rfl HR.out.symm HK5.out.fs
   | false =>
    cases dark with
    | true =>
     go_wp2
     exact .err ⟨rfl,rfl⟩ rfl HR.out.symm HK5.out.fs
    | false =>
     go_wp2
     exact .ok (k1:=⟨ns,wk,lt⟩) ⟨⟨rfl,rfl⟩,rfl,rfl,rfl,rfl,rfl,rfl⟩ HR.out.symm HK5.out
theorem infoB : (Tryz.prog.info? 4).map (fun i => (i.zero,i.size,i.bytes)) = some (some (.bool false),1,1) := by kernel_rfl
theorem row_below {w w' : World} {base : Nat} {e : TypeId} {size : Nat} {v : Value} {n : Nat} {xs : List Value} (h : w.ownsRow base e size v n xs) (hb : Below w.heap.size w w') : w'.ownsRow base e size v n xs :=
 h.kept (row:=none) ⟨hb.os,hb.tape,hb.output,hb.size,fun k hk _ => hb.block k hk⟩ (by cases v.ownBlock <;> simp)
def eachK (f : Ex → Except Int Bool) : List Ex → Except Int (List Bool)
 | [] => .ok []
 | a :: l => thenK (f a) fun b => thenK (eachK f l) fun bs => .ok (b :: bs)
noncomputable def bArg : Code := rndC (inC (sndC (fstC (sndC (sndC (sndC (sndC bOne)))))))
structure FG (a : Act) (k bI j : Nat) (dark : Bool) (p : Option Addr) (n c bT : Nat) (sv : Value) (p1 : Option Addr) (n1 c1 i : Nat) : Prop where
 fa : FA a k bI j dark p n c bT sv
 s58 : slot a 58 = .slice p1 n1 c1
 s59 : slot a 59 = .int .i64 (n1 : Int)
 s60 : slot a 60 = .int .i64 (i : Int)
theorem FG.opens {a : Act} {k bI j : Nat} {dark : Bool} {p : Option Addr} {n c bT : Nat} {sv : Value} {p1 : Option Addr} {n1 c1 i : Nat} (h : FG a k bI j dark p n c bT sv p1 n1 c1 i) : ∃ g : Nat → Value,a = ⟨#[.pointer (some ⟨k,0,none⟩),g 1,g 2,.bool dark,g 4,g 5,g 6,g 7,g 8,.map (some bI),g 10,g 11,g 12,.pointer (some ⟨bT,0,none⟩),sv,g 15,g 16,g 17,g 18,g 19,g 20,g 21,g 22,g 23,g 24,g 25,g 26,g 27,g 28,g 29,g 30,g 31,g 32,g 33,g 34,g 35,g 36,g 37,g 38,.slice p n c,.int .i64 (n : Int),.int .i64 (j : Int),g 42,g 43,g 44,g 45,g 46,g 47,g 48,g 49,g 50,g 51,g 52,g 53,g 54,g 55,g 56,g 57,.slice p1 n1 c1,.int .i64 (n1 : Int),.int .i64 (i : Int),g 61,g 62,g 63,g 64,g 65,g 66,g 67,g 68,g 69,g 70,g 71,g 72,g 73,g 74,g 75,g 76,g 77,g 78,g 79,g 80,g 81,g 82,g 83,g 84,g 85,g 86,g 87,g 88,g 89,g 90,g 91,g 92,g 93,g 94,g 95,g 96,g 97,g 98,g 99,g 100,g 101,g 102,g 103,g 104,g 105,g 106,g 107,g 108,g 109,g 110,g 111,g 112,g 113,g 114,g 115,g 116,g 117,g 118,g 119,g 120,g 121,g 122,g 123,g 124,g 125,g 126,g 127,g 128,g 129,g 130,g 131,g 132,g 133,g 134,g 135,g 136,g 137,g 138,g 139,g 140,g 141,g 142,g 143,g 144,g 145,g 146,g 147,g 148,g 149,g 150,g 151,g 152,g 153,g 154,g 155,g 156,g 157,g 158,g 159,g 160,g 161,g 162,g 163,g 164,g 165,g 166,g 167,g 168,g 169,g 170,g 171,g 172,g 173,g 174,g 175,g 176,g 177,g 178,g 179,g 180,g 181,g 182,g 183,g 184,g 185,g 186,g 187,g 188,g 189,g 190,g 191,g 192,g 193,g 194,g 195,g 196,g 197,g 198,g 199,g 200,g 201,g 202,g 203,g 204,g 205,g 206,g 207,g 208,g 209,g 210,g 211,g 212,g 213,g 214,g 215,g 216,g 217,g 218,g 219,g 220,g 221,g 222,g 223,g 224,g 225,g 226,g 227,g 228,g 229,g 230,g 231,g 232,g 233,g 234,g 235,g 236,g 237,g 238,g 239,g 240,g 241,g 242,g 243,g 244,g 245,g 246,g 247,g 248,g 249],[]⟩ := by
 refine ⟨slot a,?_⟩
 have e := h.fa.fb.wide.opens
 rw [h.fa.fb.s0,h.fa.fb.s3,h.fa.fb.s9,h.fa.s13,h.fa.s14,h.fa.fb.s39,h.fa.fb.s40,h.fa.fb.s41,h.s58,h.s59,h.s60] at e
 exact e
def AgP (w : World) (lo k bI j : Nat) (dark : Bool) (p : Option Addr) (n c bT : Nat) (p1 : Option Addr) (n1 c1 i : Nat) (sv : Value) (bs : List Bool) (res : Except Int Bool) (e : Exit) (a : Act) (w' : World) : Prop :=
 (i < n1 ∧ e = .normal ∧ ∃ b sv',res = .ok b ∧ FG a k bI j dark p n c bT sv' p1 n1 c1 (i + 1) ∧ w'.ownsRow lo 4 1 sv' (i + 1) ((bs ++ [b]).map Value.bool) ∧ Below lo w w') ∨
 (i < n1 ∧ e = .ret ∧ ∃ x,Wide a ∧ slot a 8 = .int .i64 x ∧ res = .error x ∧ Below lo w w') ∨ (n1 ≤ i ∧ e = .exit 4 ∧ FG a k bI j dark p n c bT sv p1 n1 c1 i ∧ w' = w)
theorem arg_round (m M B lo : Nat) (w : World) (k bA nA bI nI j : Nat) (dark : Bool) (p : Option Addr) (n c bT : Nat) (sv : Value) (g o n1 c1 i : Nat) (hn1 : n1 ≤ 2) (rs : List Vr) (ns : List Nm) (wk lt : Nat) (bs : List Bool) (ex : Ex) (sa : Value) (a : Act)
  (hF : FG a k bI j dark p n c bT sv (some ⟨g,o,none⟩) n1 c1 i) (hil : i < n1) (hM : m ≤ M) (hwf : wfE m ex) (hkk : KK w k bA nA rs wk lt) (hmp : MapN w bI nI ns) (hB : B ≤ w.heap.size) (hlo : lo ≤ w.heap.size) (hat : ExAt w g (o + i * 4) ex sa) (hi : ExIs w B M ex sa) (hrow : w.ownsRow lo 4 1 sv i (bs.map Value.bool)) (hbs : bs.length = i) :
  bArg.wp Tryz.prog (AgP w lo k bI j dark p n c bT (some ⟨g,o,none⟩) n1 c1 i sv bs (exprK rs ns dark m ex)) a w := by
 obtain ⟨gg,rfl⟩ := hF.opens
 obtain ⟨tp,tq,tc,rfl⟩ := hi.slice
 have a0 := hat.c0
 have a1 := hat.c1
 have a2 := hat.c2
 have a3 := hat.c3
 obtain ⟨ak,an,ax,aa⟩ := ex
 simp only at a0 a1 a2 a3
 obtain ⟨i0,hi0,j0,j1,j2⟩ := info_parts infoB
 obtain ⟨w2,hw2⟩ : ∃ w2,w.alloc (.cells #[.int .i64 ak,.int .i64 an,.string ⟨ax.toArray⟩,.slice tp tq tc] 93) = w2 := ⟨_,rfl⟩
 have hb2 : Below w.heap.size w w2 := by rw [← hw2]; exact (Below.refl _ _).alloc (Nat.le_refl _) _
 have HC := keep (kexpr_ok m M B k bA nA bI nI rs ns wk lt dark ⟨ak,an,ax,aa⟩ (.slice tp tq tc) w2 hM hwf (hkk.below hb2) (hmp.below hb2) (Nat.le_trans hB hb2.size) (hi.below (hb2.mono hB)))
 have HY2 : Hid (Bk w2 w.heap.size [.int .i64 ak,.int .i64 an,.string ⟨ax.toArray⟩,.slice tp tq tc] 93) := by
  show Bk _ _ _ _
  rw [← hw2]; exact Bk.new _ _ _
 have HNz := keep (expr_nz rs ns dark m ⟨ak,an,ax,aa⟩)
 have HB2 := keep hb2
 have HW2 := keep hw2
 have HRow := keep (row_below hrow hb2)
 have HOwn := keep (World.ownsRow.lt hrow)
 have d1 : decide ((i : Int) < (n1 : Int)) = true := decide_eq_true (by omega)
 have hjz : (i : Int) < (n1 : Int) := by omega
 have hj0 : (0 : Int) ≤ (i : Int) := by omega
 have hwr : IntKind.i64.wrap ((i : Int) + 1) = (i : Int) + 1 := wrap_one i (by omega)
 have HIl := keep hil
 unfold exA at HC
 clear hF hat hi hkk hmp hb2 hw2 hrow hil hwf
 conv => arg 2; whnf
 go_wp2_with (first
  | rw [HW2.out]
  | refine wpList_load_row rfl 93 (.tmp 16) rfl w.heap.size rfl 93 #[.int .i64 ak,.int .i64 an,.string ⟨ax.toArray⟩,.slice tp tq tc] (0,0) _ HY2.out Tryz.underlying93 rfl (info_E [.int .i64 ak,.int .i64 an,.string ⟨ax.toArray⟩,.slice tp tq tc] rfl) ?_)
 refine HC.out.mono ?_
 rintro r w3 ⟨rfl,hb3⟩
 have HB3 := keep (HB2.out.trans (hb3.mono HB2.out.size))
 have HRow3 := keep (row_below HRow.out hb3)
 clear hb3 HC HY2 HB2 HW2 HRow a0 a1 a2 a3
 obtain ⟨res,hres⟩ : ∃ r,exprK rs ns dark m ⟨ak,an,ax,aa⟩ = r := ⟨_,rfl⟩
 rw [hres] at HNz ⊢
 cases res with
 | error e =>
  have d2 : (e != 0) = true := by simpa using HNz.out.1 e rfl
  have HR := keep hres
  rw [two_err]
  clear hres
  go_wp2
  exact .inr (.inl ⟨HIl.out,rfl,e,⟨rfl,rfl⟩,rfl,HR.out,HB3.out.mono hlo⟩)
 | ok b =>
  have HR := keep hres
  rw [two_ok]
  have hown := (HRow3.out).alloc (.cells #[.bool b] 4)
  have HSz := keep HB3.out.size
  clear hres
  go_wp2_with (first
   | (at_builtin; refine wpList_append_lies _ rfl (.tmp 75) (.tmp 77) 91 rfl lo 4 i0 _ 1 1 Tryz.underlying91 hi0 j0 j1 j2 rfl (by decide) sv i (bs.map Value.bool) rfl hown ⟨w3.heap.size,0,none⟩ 1 1 [.bool b] rfl rfl ?c1 ?c2 (by decide) ?c3 ?c4 ?c5 (w3.heap.size + 1) (by simp) ?_)
   | fail)
  case c1 =>
   intro j u hj
   exact new_cell w3 _ _ j u hj
  case c2 =>
   intro u hu
   rw [List.mem_singleton] at hu
   subst hu; rfl
  case c3 => unfold maxLen; omega
  case c4 => omega
  case c5 => simp; have := HSz.out; omega
  ·intro g2 cap2 w6 hown2 hgrow hat2 hlt2
   have HOwn2 := keep hown2
   have hk6 : ∀ i,i < lo → w6.heap[i]? = w3.heap[i]? := fun i hi =>
    (hgrow.block i (by simp; have := HSz.out; omega) (fun e => by have := (HOwn.out i e.symm).1; omega)).trans (((Below.refl w3.heap.size w3).alloc (Nat.le_refl _) _).block i (by have := HSz.out; omega))
   have HB6 : Hid (Below lo w w6) := (HB3.out.mono hlo).trans ⟨hgrow.os,hgrow.tape,hgrow.output,by have := hgrow.size; simp at this; omega,fun i hi => hk6 i hi⟩
   clear hown2 hgrow hat2 hk6 hown
   go_wp2
   exact .inl ⟨HIl.out,rfl,b,_,HR.out,⟨⟨⟨⟨rfl,rfl⟩,rfl,rfl,rfl,rfl,rfl,rfl⟩,rfl,rfl⟩,rfl,rfl,rfl⟩,by rw [List.map_append]; exact HOwn2.out,HB6.out⟩
def OnP (N : Act → World → Prop) (e : Exit) (a : Act) (w : World) : Prop := e = .normal ∧ N a w
theorem OnP.go {c d : Code} {N : Act → World → Prop} {Q : Exit → Act → World → Prop} {a : Act} {w : World} (h : c.wp Tryz.prog (OnP N) a w) (hq : ∀ a' w',N a' w' → d.wp Tryz.prog Q a' w') : (Code.seq c d).wp Tryz.prog Q a w := by
 refine wp_seq (wp_mono h ?_)
 rintro e a' w' ⟨rfl,hn⟩
 exact hq a' w' hn
structure FS (a : Act) (k bI j : Nat) (dark : Bool) (p : Option Addr) (n c bT : Nat) : Prop where
 fb : FB a k bI j dark p n c
 s13 : slot a 13 = .pointer (some ⟨bT,0,none⟩)
structure FH (a : Act) (k bI j : Nat) (dark : Bool) (p : Option Addr) (n c bT : Nat) (sv : Value) (had : Bool) : Prop where
 fa : FA a k bI j dark p n c bT sv
 s20 : slot a 20 = .bool had
structure FI (a : Act) (k bI j : Nat) (dark : Bool) (p : Option Addr) (n c bT : Nat) (sv : Value) (had arr : Bool) : Prop where
 fh : FH a k bI j dark p n c bT sv had
 s22 : slot a 22 = .bool arr
theorem FS.opens {a : Act} {k bI j : Nat} {dark : Bool} {p : Option Addr} {n c bT : Nat} (h : FS a k bI j dark p n c bT) : ∃ g : Nat → Value,a = ⟨#[.pointer (some ⟨k,0,none⟩),g 1,g 2,.bool dark,g 4,g 5,g 6,g 7,g 8,.map (some bI),g 10,g 11,g 12,.pointer (some ⟨bT,0,none⟩),g 14,g 15,g 16,g 17,g 18,g 19,g 20,g 21,g 22,g 23,g 24,g 25,g 26,g 27,g 28,g 29,g 30,g 31,g 32,g 33,g 34,g 35,g 36,g 37,g 38,.slice p n c,.int .i64 (n : Int),.int .i64 (j : Int),g 42,g 43,g 44,g 45,g 46,g 47,g 48,g 49,g 50,g 51,g 52,g 53,g 54,g 55,g 56,g 57,g 58,g 59,g 60,g 61,g 62,g 63,g 64,g 65,g 66,g 67,g 68,g 69,g 70,g 71,g 72,g 73,g 74,g 75,g 76,g 77,g 78,g 79,g 80,g 81,g 82,g 83,g 84,g 85,g 86,g 87,g 88,g 89,g 90,g 91,g 92,g 93,g 94,g 95,g 96,g 97,g 98,g 99,g 100,g 101,g 102,g 103,g 104,g 105,g 106,g 107,g 108,g 109,g 110,g 111,g 112,g 113,g 114,g 115,g 116,g 117,g 118,g 119,g 120,g 121,g 122,g 123,g 124,g 125,g 126,g 127,g 128,g 129,g 130,g 131,g 132,g 133,g 134,g 135,g 136,g 137,g 138,g 139,g 140,g 141,g 142,g 143,g 144,g 145,g 146,g 147,g 148,g 149,g 150,g 151,g 152,g 153,g 154,g 155,g 156,g 157,g 158,g 159,g 160,g 161,g 162,g 163,g 164,g 165,g 166,g 167,g 168,g 169,g 170,g 171,g 172,g 173,g 174,g 175,g 176,g 177,g 178,g 179,g 180,g 181,g 182,g 183,g 184,g 185,g 186,g 187,g 188,g 189,g 190,g 191,g 192,g 193,g 194,g 195,g 196,g 197,g 198,g 199,g 200,g 201,g 202,g 203,g 204,g 205,g 206,g 207,g 208,g 209,g 210,g 211,g 212,g 213,g 214,g 215,g 216,g 217,g 218,g 219,g 220,g 221,g 222,g 223,g 224,g 225,g 226,g 227,g 228,g 229,g 230,g 231,g 232,g 233,g 234,g 235,g 236,g 237,g 238,g 239,g 240,g 241,g 242,g 243,g 244,g 245,g 246,g 247,g 248,g 249],[]⟩ := by
 refine ⟨slot a,?_⟩
 have e := h.fb.wide.opens
 rw [h.fb.s0,h.fb.s3,h.fb.s9,h.s13,h.fb.s39,h.fb.s40,h.fb.s41] at e
 exact e
theorem FH.opens {a : Act} {k bI j : Nat} {dark : Bool} {p : Option Addr} {n c bT : Nat} {sv : Value} {had : Bool} (h : FH a k bI j dark p n c bT sv had) : ∃ g : Nat → Value,a = ⟨#[.pointer (some ⟨k,0,none⟩),g 1,g 2,.bool dark,g 4,g 5,g 6,g 7,g 8,.map (some bI),g 10,g 11,g 12,.pointer (some ⟨bT,0,none⟩),sv,g 15,g 16,g 17,g 18,g 19,.bool had,g 21,g 22,g 23,g 24,g 25,g 26,g 27,g 28,g 29,g 30,g 31,g 32,g 33,g 34,g 35,g 36,g 37,g 38,.slice p n c,.int .i64 (n : Int),.int .i64 (j : Int),g 42,g 43,g 44,g 45,g 46,g 47,g 48,g 49,g 50,g 51,g 52,g 53,g 54,g 55,g 56,g 57,g 58,g 59,g 60,g 61,g 62,g 63,g 64,g 65,g 66,g 67,g 68,g 69,g 70,g 71,g 72,g 73,g 74,g 75,g 76,g 77,g 78,g 79,g 80,g 81,g 82,g 83,g 84,g 85,g 86,g 87,g 88,g 89,g 90,g 91,g 92,g 93,g 94,g 95,g 96,g 97,g 98,g 99,g 100,g 101,g 102,g 103,g 104,g 105,g 106,g 107,g 108,g 109,g 110,g 111,g 112,g 113,g 114,g 115,g 116,g 117,g 118,g 119,g 120,g 121,g 122,g 123,g 124,g 125,g 126,g 127,g 128,g 129,g 130,g 131,g 132,g 133,g 134,g 135,g 136,g 137,g 138,g 139,g 140,g 141,g 142,g 143,g 144,g 145,g 146,g 147,g 148,g 149,g 150,g 151,g 152,g 153,g 154,g 155,g 156,g 157,g 158,g 159,g 160,g 161,g 162,g 163,g 164,g 165,g 166,g 167,g 168,g 169,g 170,g 171,g 172,g 173,g 174,g 175,g 176,g 177,g 178,g 179,g 180,g 181,g 182,g 183,g 184,g 185,g 186,g 187,g 188,g 189,g 190,g 191,g 192,g 193,g 194,g 195,g 196,g 197,g 198,g 199,g 200,g 201,g 202,g 203,g 204,g 205,g 206,g 207,g 208,g 209,g 210,g 211,g 212,g 213,g 214,g 215,g 216,g 217,g 218,g 219,g 220,g 221,g 222,g 223,g 224,g 225,g 226,g 227,g 228,g 229,g 230,g 231,g 232,g 233,g 234,g 235,g 236,g 237,g 238,g 239,g 240,g 241,g 242,g 243,g 244,g 245,g 246,g 247,g 248,g 249],[]⟩ := by
 refine ⟨slot a,?_⟩
 have e := h.fa.fb.wide.opens
 rw [h.fa.fb.s0,h.fa.fb.s3,h.fa.fb.s9,h.fa.s13,h.fa.s14,h.s20,h.fa.fb.s39,h.fa.fb.s40,h.fa.fb.s41] at e
 exact e
theorem FI.opens {a : Act} {k bI j : Nat} {dark : Bool} {p : Option Addr} {n c bT : Nat} {sv : Value} {had arr : Bool} (h : FI a k bI j dark p n c bT sv had arr) : ∃ g : Nat → Value,a = ⟨#[.pointer (some ⟨k,0,none⟩),g 1,g 2,.bool dark,g 4,g 5,g 6,g 7,g 8,.map (some bI),g 10,g 11,g 12,.pointer (some ⟨bT,0,none⟩),sv,g 15,g 16,g 17,g 18,g 19,.bool had,g 21,.bool arr,g 23,g 24,g 25,g 26,g 27,g 28,g 29,g 30,g 31,g 32,g 33,g 34,g 35,g 36,g 37,g 38,.slice p n c,.int .i64 (n : Int),.int .i64 (j : Int),g 42,g 43,g 44,g 45,g 46,g 47,g 48,g 49,g 50,g 51,g 52,g 53,g 54,g 55,g 56,g 57,g 58,g 59,g 60,g 61,g 62,g 63,g 64,g 65,g 66,g 67,g 68,g 69,g 70,g 71,g 72,g 73,g 74,g 75,g 76,g 77,g 78,g 79,g 80,g 81,g 82,g 83,g 84,g 85,g 86,g 87,g 88,g 89,g 90,g 91,g 92,g 93,g 94,g 95,g 96,g 97,g 98,g 99,g 100,g 101,g 102,g 103,g 104,g 105,g 106,g 107,g 108,g 109,g 110,g 111,g 112,g 113,g 114,g 115,g 116,g 117,g 118,g 119,g 120,g 121,g 122,g 123,g 124,g 125,g 126,g 127,g 128,g 129,g 130,g 131,g 132,g 133,g 134,g 135,g 136,g 137,g 138,g 139,g 140,g 141,g 142,g 143,g 144,g 145,g 146,g 147,g 148,g 149,g 150,g 151,g 152,g 153,g 154,g 155,g 156,g 157,g 158,g 159,g 160,g 161,g 162,g 163,g 164,g 165,g 166,g 167,g 168,g 169,g 170,g 171,g 172,g 173,g 174,g 175,g 176,g 177,g 178,g 179,g 180,g 181,g 182,g 183,g 184,g 185,g 186,g 187,g 188,g 189,g 190,g 191,g 192,g 193,g 194,g 195,g 196,g 197,g 198,g 199,g 200,g 201,g 202,g 203,g 204,g 205,g 206,g 207,g 208,g 209,g 210,g 211,g 212,g 213,g 214,g 215,g 216,g 217,g 218,g 219,g 220,g 221,g 222,g 223,g 224,g 225,g 226,g 227,g 228,g 229,g 230,g 231,g 232,g 233,g 234,g 235,g 236,g 237,g 238,g 239,g 240,g 241,g 242,g 243,g 244,g 245,g 246,g 247,g 248,g 249],[]⟩ := by
 refine ⟨slot a,?_⟩
 have e := h.fh.fa.fb.wide.opens
 rw [h.fh.fa.fb.s0,h.fh.fa.fb.s3,h.fh.fa.fb.s9,h.fh.fa.s13,h.fh.fa.s14,h.fh.s20,h.s22,h.fh.fa.fb.s39,h.fh.fa.fb.s40,h.fh.fa.fb.s41] at e
 exact e
theorem one_load {w : World} {a : Act} {k bI j : Nat} {dark : Bool} {g o n c : Nat} {tk tn : Int} {tx : List UInt8} {tsec : Bool} {ta : List Ex} {tth tel : List St} {p1 : Option Addr} {n1 c1 : Nat} {p2 : Option Addr} {n2 c2 : Nat} {p3 : Option Addr} {n3 c3 : Nat} (hF : FB a k bI j dark (some ⟨g,o,none⟩) n c) (hjn : j < n) (hn : n ≤ 281474976710656) (hat : StAt w g (o + j * 7) ⟨tk,tn,tx,tsec,ta,tth,tel⟩ (.slice p1 n1 c1) (.slice p2 n2 c2) (.slice p3 n3 c3)) :
  (fstC bOne).wp Tryz.prog (OnP fun a' w' => FS a' k bI j dark (some ⟨g,o,none⟩) n c w.heap.size ∧ w' = w.alloc (.cells #[.int .i64 tk,.int .i64 tn,.string ⟨tx.toArray⟩,.bool tsec,.slice p1 n1 c1,.slice p2 n2 c2,.slice p3 n3 c3] 89)) a w := by
 obtain ⟨gg,rfl⟩ := hF.opens
 have a0 := hat.c0
 have a1 := hat.c1
 have a2 := hat.c2
 have a3 := hat.c3
 have a4 := hat.c4
 have a5 := hat.c5
 have a6 := hat.c6
 simp only at a0 a1 a2 a3
 have hjz : (j : Int) < (n : Int) := by omega
 have hj0 : (0 : Int) ≤ (j : Int) := by omega
 clear hF hat
 conv => arg 2; whnf
 go_wp2
 exact ⟨rfl,⟨⟨⟨rfl,rfl⟩,rfl,rfl,rfl,rfl,rfl,rfl⟩,rfl⟩,rfl⟩
theorem one_work {w : World} {a : Act} {k bI j : Nat} {dark : Bool} {p : Option Addr} {n c bT : Nat} {bA wk lt : Nat} (hF : FS a k bI j dark p n c bT) (hb : Bk w k [.map (some bA),.int .i64 (wk : Int),.int .i64 (lt : Int)] 61) (hwk : wk ≤ 300) :
  (fstC (sndC bOne)).wp Tryz.prog (OnP fun a' w' => FS a' k bI j dark p n c bT ∧ w' = w.setCell ⟨k,1,none⟩ (.int .i64 ((wk : Int) + 1))) a w := by
 obtain ⟨gg,rfl⟩ := hF.opens
 have c1 := hb.cell 1 rfl
 have f1 := hb.fr 1
 have hwr : IntKind.i64.wrap ((wk : Int) + 1) = (wk : Int) + 1 := wrap_one wk (by omega)
 clear hF hb
 conv => arg 2; whnf
 go_wp2
 exact ⟨rfl,⟨⟨⟨rfl,rfl⟩,rfl,rfl,rfl,rfl,rfl,rfl⟩,rfl⟩,rfl⟩
theorem one_much {w : World} {a : Act} {k bI j : Nat} {dark : Bool} {p : Option Addr} {n c bT : Nat} {wk : Nat} (hF : FS a k bI j dark p n c bT) (hc : w.cell? ⟨k,1,none⟩ = some (.int .i64 ((wk : Int) + 1))) :
  (fstC (sndC (sndC bOne))).wp Tryz.prog (BkP (fun a' w' => FS a' k bI j dark p n c bT ∧ w' = w ∧ ¬ 300 < wk + 1) (fun x w' => x = 4 ∧ w' = w ∧ 300 < wk + 1)) a w := by
 obtain ⟨gg,rfl⟩ := hF.opens
 clear hF
 conv => arg 2; whnf
 by_cases h : 300 < wk + 1
 ·have d1 : decide (300 < (wk : Int) + 1) = true := decide_eq_true (by omega)
  have H := keep h
  clear h
  go_wp2
  exact .inr ⟨rfl,4,⟨rfl,rfl⟩,rfl,rfl,rfl,H.out⟩
 ·have d1 : decide (300 < (wk : Int) + 1) = false := decide_eq_false (by omega)
  have H := keep h
  clear h
  go_wp2
  exact .inl ⟨rfl,⟨⟨⟨rfl,rfl⟩,rfl,rfl,rfl,rfl,rfl,rfl⟩,rfl⟩,rfl,H.out⟩
theorem one_nil {w : World} {a : Act} {k bI j : Nat} {dark : Bool} {p : Option Addr} {n c bT : Nat} (hF : FS a k bI j dark p n c bT) :
  (fstC (sndC (sndC (sndC bOne)))).wp Tryz.prog (OnP fun a' w' => FA a' k bI j dark p n c bT (.slice none 0 0) ∧ w' = w) a w := by
 obtain ⟨gg,rfl⟩ := hF.opens
 clear hF
 conv => arg 2; whnf
 go_wp2
 exact ⟨rfl,⟨⟨⟨rfl,rfl⟩,rfl,rfl,rfl,rfl,rfl,rfl⟩,rfl,rfl⟩,rfl⟩
theorem one_args {w : World} {a : Act} {k bI j : Nat} {dark : Bool} {p : Option Addr} {n c bT : Nat} {sv : Value} {p1 : Option Addr} {n1 c1 : Nat} (hF : FA a k bI j dark p n c bT sv) (hc : w.cell? ⟨bT,4,none⟩ = some (.slice p1 n1 c1)) :
  (fstC (fstC (sndC (sndC (sndC (sndC bOne)))))).wp Tryz.prog (OnP fun a' w' => FG a' k bI j dark p n c bT sv p1 n1 c1 0 ∧ w' = w) a w := by
 obtain ⟨gg,rfl⟩ := hF.opens
 clear hF
 conv => arg 2; whnf
 go_wp2
 exact ⟨rfl,⟨⟨⟨⟨rfl,rfl⟩,rfl,rfl,rfl,rfl,rfl,rfl⟩,rfl,rfl⟩,rfl,rfl,rfl⟩,rfl⟩
theorem arg_exit {w : World} {a : Act} {k bI j : Nat} {dark : Bool} {p : Option Addr} {n c bT : Nat} {sv : Value} {p1 : Option Addr} {n1 c1 : Nat} (hF : FG a k bI j dark p n c bT sv p1 n1 c1 n1) :
  bArg.wp Tryz.prog (fun e a' w' => Hid (e = .exit 4 ∧ FG a' k bI j dark p n c bT sv p1 n1 c1 n1 ∧ w' = w)) a w := by
 obtain ⟨gg,rfl⟩ := hF.opens
 have d1 : decide ((n1 : Int) < (n1 : Int)) = false := decide_eq_false (by omega)
 clear hF
 conv => arg 2; whnf
 go_wp2
 exact ⟨⟨⟨⟨rfl,rfl⟩,rfl,rfl,rfl,rfl,rfl,rfl⟩,rfl,rfl⟩,rfl,rfl,rfl⟩
theorem each_step {f : Ex → Except Int Bool} {l : List Ex} {i : Nat} {a : Ex} (h : l[i]? = some a) : eachK f (l.drop i) = thenK (f a) fun b => thenK (eachK f (l.drop (i + 1))) fun bs => .ok (b :: bs) := by
 obtain ⟨hk,rfl⟩ := List.getElem?_eq_some_iff.1 h
 rw [List.drop_eq_getElem_cons hk,eachK]
theorem thenK_thenK {α β γ : Type} (x : Except Int α) (f : α → Except Int β) (g : β → Except Int γ) : thenK (thenK x f) g = thenK x fun a => thenK (f a) g := by cases x <;> rfl
def ArP (w : World) (k bI j : Nat) (dark : Bool) (p : Option Addr) (n c bT : Nat) (p1 : Option Addr) (n1 c1 : Nat) (res : Except Int (List Bool)) (e : Exit) (a : Act) (w' : World) : Prop :=
 (e = .exit 4 ∧ ∃ bs sv,res = .ok bs ∧ FA a k bI j dark p n c bT sv ∧ w'.ownsRow w.heap.size 4 1 sv n1 (bs.map Value.bool) ∧ Below w.heap.size w w') ∨
 (e = .ret ∧ ∃ x,Wide a ∧ slot a 8 = .int .i64 x ∧ res = .error x ∧ Below w.heap.size w w')
theorem arg_loop (m M B : Nat) (w : World) (k bA nA bI nI j : Nat) (dark : Bool) (p : Option Addr) (n c bT : Nat) (p1 : Option Addr) (n1 c1 : Nat) (hn1 : n1 ≤ 2) (rs : List Vr) (ns : List Nm) (wk lt : Nat) (l : List Ex) (hl : l.length = n1) (a : Act)
  (hF : FG a k bI j dark p n c bT (.slice none 0 0) p1 n1 c1 0) (hM : m ≤ M) (hwf : ∀ x ∈ l,wfE m x) (hkk : KK w k bA nA rs wk lt) (hmp : MapN w bI nI ns) (hB : B ≤ w.heap.size) (hqa : ∀ i x,l[i]? = some x → ∃ g o sa,p1 = some ⟨g,o,none⟩ ∧ g < B ∧ ExAt w g (o + i * 4) x sa ∧ ExIs w B M x sa) :
  (Code.loop bArg).wp Tryz.prog (ArP w k bI j dark p n c bT p1 n1 c1 (eachK (exprK rs ns dark m) l)) a w := by
 refine wp_loop (fun a' w' => ∃ i bs sv,i ≤ n1 ∧ FG a' k bI j dark p n c bT sv p1 n1 c1 i ∧ bs.length = i ∧ eachK (exprK rs ns dark m) l = (thenK (eachK (exprK rs ns dark m) (l.drop i)) fun r => .ok (bs ++ r)) ∧ w'.ownsRow w.heap.size 4 1 sv i (bs.map Value.bool) ∧ Below w.heap.size w w') (fun a' _ => n1 - (intOf (slot a' 60)).toNat) ⟨0,[],_,Nat.zero_le _,hF,rfl,?_,World.ownsRow_nil _ _ _ _,Below.refl _ _⟩ ?_
 ·rw [List.drop_zero]
  cases eachK (exprK rs ns dark m) l <;> rfl
 rintro a' w' ⟨i,bs,sv,hi,hF',hbs,hr,hrow,hb⟩
 by_cases hil : i < n1
 ·obtain ⟨x,hx⟩ : ∃ x,l[i]? = some x := ⟨_,List.getElem?_eq_getElem (by rw [hl]; exact hil)⟩
  obtain ⟨g,o,sa,rfl,hg,hat,hsub⟩ := hqa i x hx
  have h := arg_round m M B w.heap.size w' k bA nA bI nI j dark p n c bT sv g o n1 c1 i hn1 rs ns wk lt bs x sa a' hF' hil hM (hwf x (List.mem_of_getElem? hx)) (hkk.below hb) (hmp.below hb) (Nat.le_trans hB hb.size) hb.size (hat.below (hb.mono hB) hg) (hsub.below (hb.mono hB)) hrow hbs
  refine wp_mono h ?_
  rintro e a5 w5 (⟨_,rfl,b,sv',hr2,hF5,hrow2,hb2⟩ | ⟨_,rfl,y,hx1,hx2,hr2,hb2⟩ | ⟨hge,_⟩)
  ·refine ⟨⟨i + 1,bs ++ [b],sv',hil,hF5,by simp [hbs],?_,hrow2,hb.trans hb2⟩,?_⟩
   ·rw [hr,each_step hx,hr2,thenK_ok,thenK_thenK]
    cases eachK (exprK rs ns dark m) (l.drop (i + 1)) with
    | error e => rfl
    | ok r => simp [thenK]
   ·show n1 - (intOf (slot a5 60)).toNat < n1 - (intOf (slot a' 60)).toNat
    rw [hF5.s60,hF'.s60]
    simp [intOf]; omega
  ·exact .inr ⟨rfl,y,hx1,hx2,by rw [hr,each_step hx,hr2]; rfl,hb.trans hb2⟩
  ·omega
 ·have hie : i = n1 := by omega
  subst hie
  refine wp_mono (arg_exit hF') ?_
  intro e a5 w5 h5
  obtain ⟨rfl,hF5,rfl⟩ := h5.out
  refine .inl ⟨rfl,bs,sv,?_,hF5.fa,hrow,hb⟩
  rw [hr,List.drop_of_length_le (by omega)]
  show Except.ok (bs ++ []) = _
  rw [List.append_nil]
theorem behind_name {w : World} {a : Act} {k bI j : Nat} {dark : Bool} {p : Option Addr} {n c bT : Nat} {sv : Value} {tx : List UInt8} {vs vl had : Bool} (hF : FA a k bI j dark p n c bT sv) (hT : w.cell? ⟨bT,2,none⟩ = some (.string ⟨tx.toArray⟩)) (hl : (Instr.lookup 62 (.map (some bI)) (.string ⟨tx.toArray⟩) true).run Tryz.prog w = .ok (.tuple #[.agg #[.bool vs,.bool vl],.bool had]) w) :
  (fstC bBehind).wp Tryz.prog (OnP fun a' w' => FH a' k bI j dark p n c bT sv had ∧ w' = w.alloc (.cells #[.bool vs,.bool vl] 64)) a w := by
 obtain ⟨gg,rfl⟩ := hF.opens
 clear hF
 conv => arg 2; whnf
 go_wp2
 exact ⟨rfl,⟨⟨⟨⟨rfl,rfl⟩,rfl,rfl,rfl,rfl,rfl,rfl⟩,rfl,rfl⟩,rfl⟩,rfl⟩
theorem behind_array {w : World} {a : Act} {k bI j : Nat} {dark : Bool} {p : Option Addr} {n c bT : Nat} {sv : Value} {bA : Nat} {tx yn : List UInt8} {had ys arr : Bool} {yz : Int} (hF : FH a k bI j dark p n c bT sv had) (HSS : Hid (∀ W' : World,Below w.heap.size w W' → (W'.cell? ⟨k,0,none⟩ = some (.map (some bA)) ∧ W'.cell? ⟨bT,2,none⟩ = some (.string ⟨tx.toArray⟩) ∧ (Instr.lookup 59 (.map (some bA)) (.string ⟨tx.toArray⟩) true).run Tryz.prog W' = .ok (.tuple #[.agg #[.string ⟨yn.toArray⟩,.bool ys,.int .i64 yz],.bool arr]) W'))) :
  (fstC (sndC bBehind)).wp Tryz.prog (OnP fun a' w' => FI a' k bI j dark p n c bT sv had arr ∧ Below w.heap.size w w') a w := by
 obtain ⟨gg,rfl⟩ := hF.opens
 clear hF
 conv => arg 2; whnf
 refine wp_region_noPanic ?_
 refine Ord.wpM_begin (fun W' : World => W'.cell? ⟨k,0,none⟩ = some (.map (some bA)) ∧ W'.cell? ⟨bT,2,none⟩ = some (.string ⟨tx.toArray⟩) ∧ (Instr.lookup 59 (.map (some bA)) (.string ⟨tx.toArray⟩) true).run Tryz.prog W' = .ok (.tuple #[.agg #[.string ⟨yn.toArray⟩,.bool ys,.int .i64 yz],.bool arr]) W') [0,1,2,3,4,5,6,7,8,9,10,11,12] (by kernel_rfl) ?_
 have HB4 : Hid (Below w.heap.size w w.drew) := Below.drew (Below.refl _ _)
 generalize w.drew = w4 at *
 have hS := HSS.out w4 HB4.out
 refine Ord.tk (i:=0) (v:=.pointer (some ⟨k,0,none⟩)) (hy:=Or.inl ⟨by rfl,by rintro W' ⟨q0,q1,q2⟩; go_simp⟩) (hS:=hS) (h:=?_)
 try simp only [Act.put,Ord.t,Ord.z,Ord.s]
 refine Ord.tk (i:=1) (v:=.pointer (some ⟨k,0,none⟩)) (hy:=Or.inl ⟨by rfl,by rintro W' ⟨q0,q1,q2⟩; go_simp⟩) (hS:=hS) (h:=?_)
 try simp only [Act.put,Ord.t,Ord.z,Ord.s]
 refine Ord.tk (i:=2) (v:=.pointer (some ⟨k,0,none⟩)) (hy:=Or.inl ⟨by rfl,by rintro W' ⟨q0,q1,q2⟩; go_simp⟩) (hS:=hS) (h:=?_)
 try simp only [Act.put,Ord.t,Ord.z,Ord.s]
 refine Ord.tk (i:=3) (v:=.map (some bA)) (hy:=Or.inl ⟨by rfl,by rintro W' ⟨q0,q1,q2⟩; go_simp⟩) (hS:=hS) (h:=?_)
 try simp only [Act.put,Ord.t,Ord.z,Ord.s]
 refine Ord.tk (i:=4) (v:=.pointer (some ⟨bT,2,none⟩)) (hy:=Or.inl ⟨by rfl,by rintro W' ⟨q0,q1,q2⟩; go_simp⟩) (hS:=hS) (h:=?_)
 try simp only [Act.put,Ord.t,Ord.z,Ord.s]
 refine Ord.tk (i:=5) (v:=.string ⟨tx.toArray⟩) (hy:=Or.inl ⟨by rfl,by rintro W' ⟨q0,q1,q2⟩; go_simp⟩) (hS:=hS) (h:=?_)
 try simp only [Act.put,Ord.t,Ord.z,Ord.s]
 refine Ord.tk (i:=6) (v:=.tuple #[.agg #[.string ⟨yn.toArray⟩,.bool ys,.int .i64 yz],.bool arr]) (hy:=Or.inl ⟨by rfl,by rintro W' ⟨q0,q1,q2⟩; go_simp⟩) (hS:=hS) (h:=?_)
 try simp only [Act.put,Ord.t,Ord.z,Ord.s]
 refine Ord.tk (i:=7) (v:=.tuple #[.agg #[.string ⟨yn.toArray⟩,.bool ys,.int .i64 yz],.bool arr]) (hy:=Or.inl ⟨by rfl,by rintro W' ⟨q0,q1,q2⟩; go_simp⟩) (hS:=hS) (h:=?_)
 try simp only [Act.put,Ord.t,Ord.z,Ord.s]
 refine Ord.tk (i:=8) (v:=.agg #[.string ⟨yn.toArray⟩,.bool ys,.int .i64 yz]) (hy:=Or.inl ⟨by rfl,by rintro W' ⟨q0,q1,q2⟩; go_simp⟩) (hS:=hS) (h:=?_)
 try simp only [Act.put,Ord.t,Ord.z,Ord.s]
 refine Ord.tk (i:=9) (v:=.bool arr) (hy:=Or.inl ⟨by rfl,by rintro W' ⟨q0,q1,q2⟩; go_simp⟩) (hS:=hS) (h:=?_)
 try simp only [Act.put,Ord.t,Ord.z,Ord.s]
 refine Ord.on (i:=10) (h:=fun K hK => ?_)
 go_simp
 obtain ⟨w5,hw5⟩ : ∃ x,w4.alloc (.cells #[.string ⟨#[]⟩,.bool false,.int .i64 0] 46) = x := ⟨_,rfl⟩
 have hb5 : Below w4.heap.size w4 w5 := by rw [← hw5]; exact (Below.refl _ _).alloc (Nat.le_refl _) _
 have HG5 : Hid (Bk w5 w4.heap.size [.string ⟨#[]⟩,.bool false,.int .i64 0] 46) := by
  show Bk _ _ _ _
  rw [← hw5]; exact Bk.new _ _ _
 rw [hw5]
 have HB5 := keep (HB4.out.trans (hb5.mono HB4.out.size))
 clear hb5 hw5 hS
 refine hK.out _ _ (fun _ => HSS.out _ HB5.out) ?_
 clear hK K
 try simp only [Act.put,Ord.t,Ord.z,Ord.s]
 refine Ord.on (i:=11) (h:=fun K hK => ?_)
 rw [if_pos (by simp [Region.wanted])]
 refine wp_store_row 46 (.tmp 21) (.tmp 95) rfl w4.heap.size #[.string ⟨yn.toArray⟩,.bool ys,.int .i64 yz] rfl rfl 46 #[.string ⟨#[]⟩,.bool false,.int .i64 0] HG5.out (info_V [.string ⟨yn.toArray⟩,.bool ys,.int .i64 yz] rfl) rfl (by simp [Value.oneCell']) ?_
 obtain ⟨w6,hw6⟩ : ∃ x,w5.setRow w4.heap.size #[.string ⟨yn.toArray⟩,.bool ys,.int .i64 yz] = x := ⟨_,rfl⟩
 have HB6 : Hid (Below w.heap.size w w6) := by
  show Below _ _ _
  rw [← hw6]; exact below_setRow HB5.out HB4.out.size _
 rw [hw6]
 clear hw6
 refine hK.out _ _ (fun _ => HSS.out _ HB6.out) ?_
 clear hK K
 try simp only [Act.put,Ord.t,Ord.z,Ord.s]
 refine Ord.on (i:=12) (h:=fun K hK => ?_)
 go_simp
 refine hK.out _ _ (fun _ => HSS.out _ HB6.out) ?_
 clear hK K
 try simp only [Act.put,Ord.t,Ord.z,Ord.s]
 refine Ord.wpM_done (by kernel_rfl) ?_ _
 refine NoPanic.normal ?_
 exact ⟨rfl,⟨⟨⟨⟨⟨rfl,rfl⟩,rfl,rfl,rfl,rfl,rfl,rfl⟩,rfl,rfl⟩,rfl⟩,rfl⟩,HB6.out⟩
theorem behind_kind {w : World} {a : Act} {k bI j : Nat} {dark : Bool} {p : Option Addr} {n c bT : Nat} {sv : Value} {had arr : Bool} {kd : Int} (hF : FI a k bI j dark p n c bT sv had arr) (hT : w.cell? ⟨bT,0,none⟩ = some (.int .i64 kd)) :
  (fstC (sndC (sndC bBehind))).wp Tryz.prog (OnP fun a' w' => FT a' k bI j dark p n c bT sv had arr kd ∧ w' = w) a w := by
 obtain ⟨gg,rfl⟩ := hF.opens
 clear hF
 conv => arg 2; whnf
 go_wp2
 exact ⟨rfl,⟨⟨⟨⟨rfl,rfl⟩,rfl,rfl,rfl,rfl,rfl,rfl⟩,rfl,rfl⟩,rfl,rfl,rfl⟩,rfl⟩
end Go.Proofs.YtemdnmfldihalaaGreatDoor.Lr
