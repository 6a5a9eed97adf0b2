/- The program's machine as it begins: begin. Written by tools/gen_mhbegin.py. -/
import Derived.Test.YtpnacanbknejiaaMhEnd
import Derived.Test.YtpnacanbknejiaaFrMach
namespace Go.Proofs.Ytpnacanbknejiaa.Mh
set_option maxHeartbeats 32000000
set_option maxRecDepth 100000
set_option linter.unusedVariables false
set_option linter.unusedSimpArgs false
open Go.ChangeShapes Go.WideShapes Go.ChangeAt Go.RowKit Lg Lr Fl
def MBeg (ws : List Int) (aa : List (List Int)) (cv : Value) (mode : Int) (w : World) (r : Ending) (w' : World) : Prop :=
 ∃ (MB PB AO : Nat) (ps : List (Nat × List Int)),r = .returned (.pointer (some ⟨MB,0,none⟩)) ∧ MaIs w' MB PB AO cv ⟨fromP 120 1 ws,aa,mode⟩ ps 0 ∧ Below w.heap.size w w' ∧ w.heap.size ≤ MB ∧ w.heap.size ≤ PB ∧ w.heap.size ≤ AO ∧ ∀ p ∈ ps,w.heap.size ≤ p.1
theorem step_copy_fs {P : Program} {ops : Array Oper} {o : Oper} {a : Act} {w : World} {K : Act → World → Prop} {Q : Exit → Act → World → Prop} {E : Prop} (hgd : o.guard = none) (d s : Operand) (dT sT : TypeId)
  (ho : o.op = .call { callee := .builtin .copy,args := #[d,s],argTypes := #[dT,sT] }) (elem : TypeId) (hu : P.underlying dT = some (.slice elem)) (hsz : (P.info? elem).map (·.size) = some 1)
  (dp sp : Option Addr) (dLen dCap sLen sCap : Nat) (hd : a.eval d = .slice dp dLen dCap) (hs : a.eval s = .slice sp sLen sCap)
  (g off : Nat) (cur : List Value) (t : TypeId) (hg : w.heap[g]? = some (.cells cur.toArray t (0,0))) (cs : List Value) (hn : cs.length = Nat.min sLen dLen)
  (hpos : 0 < cs.length → dp = some ⟨g,off,none⟩ ∧ ∃ ad,sp = some ad ∧ ∀ j v,cs[j]? = some v → w.cell? (ad.add j) = some v)
  (hfit : off + cs.length ≤ cur.length) (h1 : ∀ v ∈ cs,v.oneCell' = true)
  (h : ∀ w',Hid (Bk w' g (splice cur off cs) t) → Fs [g] w w' → K (a.put o.dst (goInt cs.length)) w') :
  if Region.wanted o (yielded ops a.tmps) = true then Oper.wp P o a w K Q else E := by
 have hw : Region.wanted o (yielded ops a.tmps) = true := by simp [Region.wanted,hgd]
 rw [if_pos hw]
 by_cases h0 : cs.length = 0
 ·obtain rfl : cs = [] := List.eq_nil_of_length_eq_zero h0
  have hrun := run_copy_none (P:=P) w dT sT o.type elem dp sp dLen dCap sLen sCap hu hsz (by simpa using hn.symm)
  unfold Oper.wp
  simp [execOp,ho,resolve,invoke,builtin,hd,hs,hrun,Result.andThen]
  exact h w (show Bk _ _ _ _ by unfold Bk; simpa [splice] using hg) (Fs.refl _ _)
 ·obtain ⟨rfl,ad,rfl,hsrc⟩ := hpos (by omega)
  have hrun := run_copy_row (P:=P) w dT sT o.type elem g off dLen dCap ad sLen sCap cur.toArray t cs hu hsz hg hn hsrc (by simpa using hfit) h1
  unfold Oper.wp
  simp [execOp,ho,resolve,invoke,builtin,hd,hs,hrun,Result.andThen]
  exact h _ (show Bk _ _ _ _ by unfold Bk; simpa [splice] using setRow_heap w g _ _ t _ hg) ⟨rfl,rfl,rfl,by simp,fun k hk hl => setRow_other _ _ _ _ (by simpa using hl)⟩
theorem fromP_map {n : Nat} {ws : List Int} (h : 1 + ws.length ≤ n) : splice (List.replicate n (Value.int .i64 0)) 1 (ws.map (Value.int .i64)) = (fromP n 1 ws).map (Value.int .i64) := by
 unfold splice fromP
 rw [List.take_replicate,List.length_map,List.drop_replicate,List.map_append,List.map_append,List.map_replicate,List.map_replicate,Nat.min_eq_left (by omega),show n - (1 + ws.length) = n - 1 - ws.length by omega]
def RegM (n2 : Nat) (aa : List (List Int)) (T : Value → Value → Value → Value → Array Value) (lo : Nat) (w3 : World) (e : Exit) (a' : Act) (w' : World) : Prop := e = .normal ∧ ∃ (SB PB AO : Nat) (ps : List (Nat × List Int)),a' = ⟨T (.pointer (some ⟨SB,0,none⟩)) (.slice (some ⟨PB,0,none⟩) n2 n2) (.slice (some ⟨AO,0,none⟩) aa.length aa.length) (.agg #[.slice (some ⟨PB,0,none⟩) n2 n2,.slice (some ⟨AO,0,none⟩) aa.length aa.length]),[]⟩ ∧
 Below w3.heap.size w3 w' ∧ Bk w' SB [.slice (some ⟨PB,0,none⟩) n2 n2,.slice (some ⟨AO,0,none⟩) aa.length aa.length] 91 ∧ Bk w' PB (List.replicate n2 (Value.int .i64 0)) 3 ∧ ArX w' AO lo ps ∧ ps.map Prod.snd = aa ∧ (AO ≠ PB ∧ ∀ p ∈ ps,p.1 ≠ PB) ∧ SB ≠ PB ∧ w3.heap.size ≤ SB ∧ lo ≤ PB
theorem RegM.mk {n2 : Nat} {aa : List (List Int)} {T : Value → Value → Value → Value → Array Value} {lo : Nat} {w3 v : World} {a' : Act} (SB PB AO : Nat) (ps : List (Nat × List Int)) (ha : a' = ⟨T (.pointer (some ⟨SB,0,none⟩)) (.slice (some ⟨PB,0,none⟩) n2 n2) (.slice (some ⟨AO,0,none⟩) aa.length aa.length) (.agg #[.slice (some ⟨PB,0,none⟩) n2 n2,.slice (some ⟨AO,0,none⟩) aa.length aa.length]),[]⟩)
  (hb : Below w3.heap.size w3 v) (hs : Bk v SB [.slice none 0 0,.slice none 0 0] 91) (hp : Bk v PB (List.replicate n2 (Value.int .i64 0)) 3) (hA : ArX v AO lo ps) (hps : ps.map Prod.snd = aa) (h1 : AO ≠ PB ∧ ∀ p ∈ ps,p.1 ≠ PB) (h2 : SB ≠ PB) (h3 : AO ≠ SB ∧ ∀ p ∈ ps,p.1 ≠ SB) (h4 : w3.heap.size ≤ SB) (h5 : lo ≤ PB) :
  RegM n2 aa T lo w3 .normal a' (v.setCells SB 0 [.slice (some ⟨PB,0,none⟩) n2 n2,.slice (some ⟨AO,0,none⟩) aa.length aa.length]) := by
 obtain ⟨k1,k2⟩ := set_two hs (.slice (some ⟨PB,0,none⟩) n2 n2) (.slice (some ⟨AO,0,none⟩) aa.length aa.length)
 exact ⟨rfl,SB,PB,AO,ps,ha,hb.trans (k2.below hb.size (fun k hk => by simp at hk; omega)),k1,hp.fs k2 (by simpa using Ne.symm h2),hA.fs k2 h3.1 h3.2,hps,h1,h2,h4,h5⟩
theorem mbegin_any (B : Nat) (pc : Option Addr) (nc cc : Nat) (mode : Int) (ws : List Int) (aa : List (List Int)) (gv : Value) (w : World) (hB : B ≤ w.heap.size) (hg : GvIs w B ws aa gv) (hW : ws.length ≤ 119) :
  Calls Try.prog 56 #[.slice pc nc cc,gv,.int .i64 mode] w fun r w' => MBeg ws aa (.slice pc nc cc) mode w r w' := by
 obtain ⟨t1,t2,rfl,hi,ha⟩ := hg
 have HInt := keep hi
 obtain ⟨p4,n4,c4,hs4,hl4,_,_,hq4⟩ := id hi
 obtain ⟨p5,n5,c5,hs5,hl5,_⟩ := id ha
 subst hs4 hs5
 obtain ⟨n2,hn2⟩ : ∃ y,y = 120 := ⟨_,rfl⟩
 have HN2 := keep hn2
 obtain ⟨w2,hw2⟩ : ∃ y,w.alloc (.cells #[.slice p4 n4 c4,.slice p5 n5 c5] 33) = y := ⟨_,rfl⟩
 obtain ⟨G,hG⟩ : ∃ y,w.heap.size = y := ⟨_,rfl⟩
 have b12 : Below w.heap.size w w2 := by rw [← hw2]; exact (Below.refl _ _).alloc (Nat.le_refl _) _
 have kG : Bk w2 G [.slice p4 n4 c4,.slice p5 n5 c5] 33 := by rw [← hw2,← hG]; exact Bk.new _ _ _
 obtain ⟨w3,hw3⟩ : ∃ y,w2 = y := ⟨_,rfl⟩
 rw [hw3] at hw2 b12 kG
 clear hw3
 have HFG : Hid (∀ W',Below w3.heap.size w3 W' → Bk W' G [.slice p4 n4 c4,.slice p5 n5 c5] 33) := fun W' hW' => kG.fs (Fs.of_below (l:=[]) hW') (by simp)
 have HSS : Hid (∀ W',Below w3.heap.size w3 W' → W'.cell? ⟨G,1,none⟩ = some (.slice p5 n5 c5)) := fun W' hW' => (HFG.out W' hW').cell 1 rfl
 have HBw : Hid (∀ W,Below w3.heap.size w3 W → Below w.heap.size w W) := fun W hW' => b12.trans (hW'.mono b12.size)
 have HLo : Hid (G < w3.heap.size ∧ w.heap.size ≤ w3.heap.size) := ⟨kG.lt,b12.size⟩
 have HAr := keep (fun W (hW : Below w3.heap.size w3 W) => arrays_any B aa _ W (by have h1 := (HBw.out W hW).size; omega) (ha.below ((HBw.out W hW).mono hB)))
 have HMk : Hid (∀ W : World,(Instr.makeSlice 30 (.int .i64 120) (.int .i64 120)).run Try.prog W = .ok (.slice (some ⟨W.heap.size,0,none⟩) n2 n2) (W.alloc (.cells (Array.replicate n2 (Value.int .i64 0)) 3))) := fun W => by
  subst hn2
  exact make_ints 120 (by decide) W
 have HW2 := keep hw2
 have HG := keep hG
 have HL4 := keep hl4
 have HL5 := keep hl5
 have HBB := keep hB
 have HWl := keep hW
 clear hw2 hG b12 kG hi ha hB hq4 hl4 hl5 hW hn2
 go_enter Try.func56,Try.ntmps56
 go_wp2_with (first | rw [HW2.out] | rw [HG.out] | fail)
 refine wp_mono (Q:=RegM n2 aa (fun x y z t => #[.slice pc nc cc,.agg #[.slice p4 n4 c4,.slice p5 n5 c5],.int .i64 mode,undef,.pointer (some ⟨G,0,none⟩),undef,.pointer none,x,y,.pointer (some ⟨G,1,none⟩),.slice p5 n5 c5,z,t,undef,undef,undef,undef,undef,undef,undef,undef,undef,undef,undef]) w3.heap.size w3) ?_ ?_
 ·refine wp_region_noPanic ?_
  refine Ord.wpM_begin (fun W' : World => W'.cell? ⟨G,1,none⟩ = some (.slice p5 n5 c5)) [0,1,2,3,4,5] (by kernel_rfl) ?_
  have HD : Hid (Below w3.heap.size w3 w3.drew) := Below.drew (Below.refl _ _)
  generalize w3.drew = wd at *
  have hS := HSS.out wd HD.out
  refine Ord.tk (i:=1) (v:=.pointer (some ⟨G,1,none⟩)) (hy:=Or.inl ⟨by rfl,by intro W' hW; have q0 := hW; go_simp⟩) (hS:=hS) (h:=?_)
  try simp only [Act.put,Ord.t,Ord.z,Ord.s]
  refine Ord.tk (i:=2) (v:=.slice p5 n5 c5) (hy:=Or.inl ⟨by rfl,by intro W' hW; have q0 := hW; go_simp⟩) (hS:=hS) (h:=?_)
  try simp only [Act.put,Ord.t,Ord.z,Ord.s]
  refine Ord.wpM_three (i:=0) (j:=3) (k:=5) (by kernel_rfl) (by simp only [List.getElem?_toArray,List.getElem?_cons_zero,List.getElem?_cons_succ]; rfl) (by simp only [List.getElem?_toArray,List.getElem?_cons_zero,List.getElem?_cons_succ]; rfl) (by simp only [List.getElem?_toArray,List.getElem?_cons_zero,List.getElem?_cons_succ]; rfl) (fun K hK => ?_) (fun K hK => ?_) (fun K hK => ?_)
  ·have hmk := HMk.out wd
   obtain ⟨v1,hv1⟩ : ∃ y,wd.alloc (.cells (Array.replicate n2 (Value.int .i64 0)) 3) = y := ⟨_,rfl⟩
   obtain ⟨PB,hPB⟩ : ∃ y,wd.heap.size = y := ⟨_,rfl⟩
   have hb : Below wd.heap.size wd v1 := by rw [← hv1]; exact (Below.refl _ _).alloc (Nat.le_refl _) _
   have PB_1 : Hid (Bk v1 PB (List.replicate n2 (Value.int .i64 0)) 3) := by show Bk _ _ _ _; rw [← hv1,← hPB]; exact Bk.rep _ _ _ _
   rw [hPB,hv1] at hmk
   have HB_1 := keep (HD.out.trans (hb.mono HD.out.size))
   have HPlo : Hid (w3.heap.size ≤ PB) := by have h2 := HD.out.size; show _ ≤ _; omega
   clear hPB hv1 hb
   go_simp
   refine hK.out _ _ (fun _ => HSS.out v1 HB_1.out) ?_
   clear hK K hmk
   try simp only [Act.put,Ord.t,Ord.z,Ord.s]
   have hS := HSS.out v1 HB_1.out
   refine Ord.wpM_two (i:=3) (j:=5) (by kernel_rfl) (by simp only [List.getElem?_toArray,List.getElem?_cons_zero,List.getElem?_cons_succ]; rfl) (by simp only [List.getElem?_toArray,List.getElem?_cons_zero,List.getElem?_cons_succ]; rfl) (fun K hK => ?_) (fun K hK => ?_)
   ·go_simp
    refine (HAr.out v1 HB_1.out).mono ?_
    rintro r v2 ⟨ps,rfl,hps,hI⟩
    obtain ⟨AO,hAO⟩ : ∃ y,v1.heap.size = y := ⟨_,rfl⟩
    have hb : Below v1.heap.size v1 v2 := hI.lo
    have HPs := keep hps
    rw [hAO] at hI
    have AR_2 : Hid (ArX v2 AO w3.heap.size ps) := ArX.of hI hAO.symm _ (by have h2 := HB_1.out.size; omega)
    have HB_2 := keep (HB_1.out.trans (hb.mono HB_1.out.size))
    have HNpa : Hid (AO ≠ PB ∧ ∀ p ∈ ps,p.1 ≠ PB) := ⟨by have := PB_1.out.lt; omega,fun p hp => by have := PB_1.out.lt; have := (AR_2.out.at' p hp).1; omega⟩
    have PB_3 := keep (PB_1.out.fs (Fs.of_below (l:=[]) hb) (by simp))
    rw [hAO]
    clear hAO hI hps hb
    go_simp
    refine hK.out _ _ (fun _ => HSS.out v2 HB_2.out) ?_
    clear hK K
    try simp only [Act.put,Ord.t,Ord.z,Ord.s]
    have hS := HSS.out v2 HB_2.out
    refine Ord.tk (i:=4) (v:=.agg #[.slice (some ⟨PB,0,none⟩) n2 n2,.slice (some ⟨AO,0,none⟩) aa.length aa.length]) (hy:=Or.inl ⟨by rfl,by intro W' hW; have q0 := hW; go_simp⟩) (hS:=hS) (h:=?_)
    try simp only [Act.put,Ord.t,Ord.z,Ord.s]
    refine Ord.on (i:=5) (h:=fun K hK => ?_)
    obtain ⟨v4,hv4⟩ : ∃ y,v2.alloc (.cells #[.slice none 0 0,.slice none 0 0] 91) = y := ⟨_,rfl⟩
    obtain ⟨SB,hSB⟩ : ∃ y,v2.heap.size = y := ⟨_,rfl⟩
    have hb : Below v2.heap.size v2 v4 := by rw [← hv4]; exact (Below.refl _ _).alloc (Nat.le_refl _) _
    have SB_4 : Hid (Bk v4 SB [.slice none 0 0,.slice none 0 0] 91) := by show Bk _ _ _ _; rw [← hv4,← hSB]; exact Bk.new _ _ _
    have HB_4 := keep (HB_2.out.trans (hb.mono HB_2.out.size))
    have HNsr : Hid (w3.heap.size ≤ SB) := by have h2 := HB_2.out.size; show _ ≤ _; omega
    have HNsp : Hid (SB ≠ PB) := by have := PB_3.out.lt; show _ ≠ _; omega
    have HNsa : Hid (AO ≠ SB ∧ ∀ p ∈ ps,p.1 ≠ SB) := ⟨by have := AR_2.out.row.lt; omega,fun p hp => by have := (AR_2.out.at' p hp).2.lt; omega⟩
    have PB_5 := keep (PB_3.out.fs (Fs.of_below (l:=[]) hb) (by simp))
    have AR_6 := keep (AR_2.out.below hb)
    go_simp
    clear hSB hv4 hb
    refine hK.out _ _ (fun _ => HSS.out v4 HB_4.out) ?_
    clear hK K
    try simp only [Act.put,Ord.t,Ord.z,Ord.s]
    have hS := HSS.out v4 HB_4.out
    refine Ord.on (i:=6) (h:=fun K hK => ?_)
    refine step_store_mid rfl 91 (.tmp 7) (.tmp 12) rfl SB 0 #[.slice (some ⟨PB,0,none⟩) n2 n2,.slice (some ⟨AO,0,none⟩) aa.length aa.length] rfl rfl (two_there SB_4.out) (by kernel_rfl) (by simp [Value.oneCell']) ?_
    refine hK.out _ _ (fun h => absurd h (by decide)) ?_
    clear hK K
    try simp only [Act.put,Ord.t,Ord.z,Ord.s]
    refine Ord.wpM_done (by kernel_rfl) ?_ _
    refine NoPanic.normal ?_
    exact RegM.mk SB PB AO ps rfl HB_4.out SB_4.out PB_5.out AR_6.out HPs.out HNpa.out HNsp.out HNsa.out HNsr.out HPlo.out
   ·obtain ⟨v7,hv7⟩ : ∃ y,v1.alloc (.cells #[.slice none 0 0,.slice none 0 0] 91) = y := ⟨_,rfl⟩
    obtain ⟨SB,hSB⟩ : ∃ y,v1.heap.size = y := ⟨_,rfl⟩
    have hb : Below v1.heap.size v1 v7 := by rw [← hv7]; exact (Below.refl _ _).alloc (Nat.le_refl _) _
    have SB_7 : Hid (Bk v7 SB [.slice none 0 0,.slice none 0 0] 91) := by show Bk _ _ _ _; rw [← hv7,← hSB]; exact Bk.new _ _ _
    have HB_7 := keep (HB_1.out.trans (hb.mono HB_1.out.size))
    have HNsr : Hid (w3.heap.size ≤ SB) := by have h2 := HB_1.out.size; show _ ≤ _; omega
    have HNsp : Hid (SB ≠ PB) := by have := PB_1.out.lt; show _ ≠ _; omega
    have PB_8 := keep (PB_1.out.fs (Fs.of_below (l:=[]) hb) (by simp))
    go_simp
    clear hSB hv7 hb
    refine hK.out _ _ (fun _ => HSS.out v7 HB_7.out) ?_
    clear hK K
    try simp only [Act.put,Ord.t,Ord.z,Ord.s]
    have hS := HSS.out v7 HB_7.out
    refine Ord.on (i:=3) (h:=fun K hK => ?_)
    go_simp
    refine (HAr.out v7 HB_7.out).mono ?_
    rintro r v9 ⟨ps,rfl,hps,hI⟩
    obtain ⟨AO,hAO⟩ : ∃ y,v7.heap.size = y := ⟨_,rfl⟩
    have hb : Below v7.heap.size v7 v9 := hI.lo
    have HPs := keep hps
    rw [hAO] at hI
    have AR_9 : Hid (ArX v9 AO w3.heap.size ps) := ArX.of hI hAO.symm _ (by have h2 := HB_7.out.size; omega)
    have HB_9 := keep (HB_7.out.trans (hb.mono HB_7.out.size))
    have HNpa : Hid (AO ≠ PB ∧ ∀ p ∈ ps,p.1 ≠ PB) := ⟨by have := PB_8.out.lt; omega,fun p hp => by have := PB_8.out.lt; have := (AR_9.out.at' p hp).1; omega⟩
    have HNsa : Hid (AO ≠ SB ∧ ∀ p ∈ ps,p.1 ≠ SB) := ⟨by have := SB_7.out.lt; omega,fun p hp => by have := SB_7.out.lt; have := (AR_9.out.at' p hp).1; omega⟩
    have PB_10 := keep (PB_8.out.fs (Fs.of_below (l:=[]) hb) (by simp))
    have SB_11 := keep (SB_7.out.fs (Fs.of_below (l:=[]) hb) (by simp))
    rw [hAO]
    clear hAO hI hps hb
    go_simp
    refine hK.out _ _ (fun _ => HSS.out v9 HB_9.out) ?_
    clear hK K
    try simp only [Act.put,Ord.t,Ord.z,Ord.s]
    have hS := HSS.out v9 HB_9.out
    refine Ord.tk (i:=4) (v:=.agg #[.slice (some ⟨PB,0,none⟩) n2 n2,.slice (some ⟨AO,0,none⟩) aa.length aa.length]) (hy:=Or.inl ⟨by rfl,by intro W' hW; have q0 := hW; go_simp⟩) (hS:=hS) (h:=?_)
    try simp only [Act.put,Ord.t,Ord.z,Ord.s]
    refine Ord.on (i:=6) (h:=fun K hK => ?_)
    refine step_store_mid rfl 91 (.tmp 7) (.tmp 12) rfl SB 0 #[.slice (some ⟨PB,0,none⟩) n2 n2,.slice (some ⟨AO,0,none⟩) aa.length aa.length] rfl rfl (two_there SB_11.out) (by kernel_rfl) (by simp [Value.oneCell']) ?_
    refine hK.out _ _ (fun h => absurd h (by decide)) ?_
    clear hK K
    try simp only [Act.put,Ord.t,Ord.z,Ord.s]
    refine Ord.wpM_done (by kernel_rfl) ?_ _
    refine NoPanic.normal ?_
    exact RegM.mk SB PB AO ps rfl HB_9.out SB_11.out PB_10.out AR_9.out HPs.out HNpa.out HNsp.out HNsa.out HNsr.out HPlo.out
  ·go_simp
   refine (HAr.out wd HD.out).mono ?_
   rintro r v12 ⟨ps,rfl,hps,hI⟩
   obtain ⟨AO,hAO⟩ : ∃ y,wd.heap.size = y := ⟨_,rfl⟩
   have hb : Below wd.heap.size wd v12 := hI.lo
   have HPs := keep hps
   rw [hAO] at hI
   have AR_12 : Hid (ArX v12 AO w3.heap.size ps) := ArX.of hI hAO.symm _ (by have h2 := HD.out.size; omega)
   have HB_12 := keep (HD.out.trans (hb.mono HD.out.size))
   rw [hAO]
   clear hAO hI hps hb
   go_simp
   refine hK.out _ _ (fun _ => HSS.out v12 HB_12.out) ?_
   clear hK K
   try simp only [Act.put,Ord.t,Ord.z,Ord.s]
   have hS := HSS.out v12 HB_12.out
   refine Ord.wpM_two (i:=0) (j:=5) (by kernel_rfl) (by simp only [List.getElem?_toArray,List.getElem?_cons_zero,List.getElem?_cons_succ]; rfl) (by simp only [List.getElem?_toArray,List.getElem?_cons_zero,List.getElem?_cons_succ]; rfl) (fun K hK => ?_) (fun K hK => ?_)
   ·have hmk := HMk.out v12
    obtain ⟨v13,hv13⟩ : ∃ y,v12.alloc (.cells (Array.replicate n2 (Value.int .i64 0)) 3) = y := ⟨_,rfl⟩
    obtain ⟨PB,hPB⟩ : ∃ y,v12.heap.size = y := ⟨_,rfl⟩
    have hb : Below v12.heap.size v12 v13 := by rw [← hv13]; exact (Below.refl _ _).alloc (Nat.le_refl _) _
    have PB_13 : Hid (Bk v13 PB (List.replicate n2 (Value.int .i64 0)) 3) := by show Bk _ _ _ _; rw [← hv13,← hPB]; exact Bk.rep _ _ _ _
    rw [hPB,hv13] at hmk
    have HB_13 := keep (HB_12.out.trans (hb.mono HB_12.out.size))
    have HPlo : Hid (w3.heap.size ≤ PB) := by have h2 := HB_12.out.size; show _ ≤ _; omega
    have HNpa : Hid (AO ≠ PB ∧ ∀ p ∈ ps,p.1 ≠ PB) := ⟨by have := AR_12.out.row.lt; omega,fun p hp => by have := (AR_12.out.at' p hp).2.lt; omega⟩
    have AR_14 := keep (AR_12.out.below hb)
    clear hPB hv13 hb
    go_simp
    refine hK.out _ _ (fun _ => HSS.out v13 HB_13.out) ?_
    clear hK K hmk
    try simp only [Act.put,Ord.t,Ord.z,Ord.s]
    have hS := HSS.out v13 HB_13.out
    refine Ord.tk (i:=4) (v:=.agg #[.slice (some ⟨PB,0,none⟩) n2 n2,.slice (some ⟨AO,0,none⟩) aa.length aa.length]) (hy:=Or.inl ⟨by rfl,by intro W' hW; have q0 := hW; go_simp⟩) (hS:=hS) (h:=?_)
    try simp only [Act.put,Ord.t,Ord.z,Ord.s]
    refine Ord.on (i:=5) (h:=fun K hK => ?_)
    obtain ⟨v15,hv15⟩ : ∃ y,v13.alloc (.cells #[.slice none 0 0,.slice none 0 0] 91) = y := ⟨_,rfl⟩
    obtain ⟨SB,hSB⟩ : ∃ y,v13.heap.size = y := ⟨_,rfl⟩
    have hb : Below v13.heap.size v13 v15 := by rw [← hv15]; exact (Below.refl _ _).alloc (Nat.le_refl _) _
    have SB_15 : Hid (Bk v15 SB [.slice none 0 0,.slice none 0 0] 91) := by show Bk _ _ _ _; rw [← hv15,← hSB]; exact Bk.new _ _ _
    have HB_15 := keep (HB_13.out.trans (hb.mono HB_13.out.size))
    have HNsr : Hid (w3.heap.size ≤ SB) := by have h2 := HB_13.out.size; show _ ≤ _; omega
    have HNsp : Hid (SB ≠ PB) := by have := PB_13.out.lt; show _ ≠ _; omega
    have HNsa : Hid (AO ≠ SB ∧ ∀ p ∈ ps,p.1 ≠ SB) := ⟨by have := AR_14.out.row.lt; omega,fun p hp => by have := (AR_14.out.at' p hp).2.lt; omega⟩
    have AR_16 := keep (AR_14.out.below hb)
    have PB_17 := keep (PB_13.out.fs (Fs.of_below (l:=[]) hb) (by simp))
    go_simp
    clear hSB hv15 hb
    refine hK.out _ _ (fun _ => HSS.out v15 HB_15.out) ?_
    clear hK K
    try simp only [Act.put,Ord.t,Ord.z,Ord.s]
    have hS := HSS.out v15 HB_15.out
    refine Ord.on (i:=6) (h:=fun K hK => ?_)
    refine step_store_mid rfl 91 (.tmp 7) (.tmp 12) rfl SB 0 #[.slice (some ⟨PB,0,none⟩) n2 n2,.slice (some ⟨AO,0,none⟩) aa.length aa.length] rfl rfl (two_there SB_15.out) (by kernel_rfl) (by simp [Value.oneCell']) ?_
    refine hK.out _ _ (fun h => absurd h (by decide)) ?_
    clear hK K
    try simp only [Act.put,Ord.t,Ord.z,Ord.s]
    refine Ord.wpM_done (by kernel_rfl) ?_ _
    refine NoPanic.normal ?_
    exact RegM.mk SB PB AO ps rfl HB_15.out SB_15.out PB_17.out AR_16.out HPs.out HNpa.out HNsp.out HNsa.out HNsr.out HPlo.out
   ·obtain ⟨v18,hv18⟩ : ∃ y,v12.alloc (.cells #[.slice none 0 0,.slice none 0 0] 91) = y := ⟨_,rfl⟩
    obtain ⟨SB,hSB⟩ : ∃ y,v12.heap.size = y := ⟨_,rfl⟩
    have hb : Below v12.heap.size v12 v18 := by rw [← hv18]; exact (Below.refl _ _).alloc (Nat.le_refl _) _
    have SB_18 : Hid (Bk v18 SB [.slice none 0 0,.slice none 0 0] 91) := by show Bk _ _ _ _; rw [← hv18,← hSB]; exact Bk.new _ _ _
    have HB_18 := keep (HB_12.out.trans (hb.mono HB_12.out.size))
    have HNsr : Hid (w3.heap.size ≤ SB) := by have h2 := HB_12.out.size; show _ ≤ _; omega
    have HNsa : Hid (AO ≠ SB ∧ ∀ p ∈ ps,p.1 ≠ SB) := ⟨by have := AR_12.out.row.lt; omega,fun p hp => by have := (AR_12.out.at' p hp).2.lt; omega⟩
    have AR_19 := keep (AR_12.out.below hb)
    go_simp
    clear hSB hv18 hb
    refine hK.out _ _ (fun _ => HSS.out v18 HB_18.out) ?_
    clear hK K
    try simp only [Act.put,Ord.t,Ord.z,Ord.s]
    have hS := HSS.out v18 HB_18.out
    refine Ord.on (i:=0) (h:=fun K hK => ?_)
    have hmk := HMk.out v18
    obtain ⟨v20,hv20⟩ : ∃ y,v18.alloc (.cells (Array.replicate n2 (Value.int .i64 0)) 3) = y := ⟨_,rfl⟩
    obtain ⟨PB,hPB⟩ : ∃ y,v18.heap.size = y := ⟨_,rfl⟩
    have hb : Below v18.heap.size v18 v20 := by rw [← hv20]; exact (Below.refl _ _).alloc (Nat.le_refl _) _
    have PB_20 : Hid (Bk v20 PB (List.replicate n2 (Value.int .i64 0)) 3) := by show Bk _ _ _ _; rw [← hv20,← hPB]; exact Bk.rep _ _ _ _
    rw [hPB,hv20] at hmk
    have HB_20 := keep (HB_18.out.trans (hb.mono HB_18.out.size))
    have HPlo : Hid (w3.heap.size ≤ PB) := by have h2 := HB_18.out.size; show _ ≤ _; omega
    have HNpa : Hid (AO ≠ PB ∧ ∀ p ∈ ps,p.1 ≠ PB) := ⟨by have := AR_19.out.row.lt; omega,fun p hp => by have := (AR_19.out.at' p hp).2.lt; omega⟩
    have HNsp : Hid (SB ≠ PB) := by have := SB_18.out.lt; show _ ≠ _; omega
    have AR_21 := keep (AR_19.out.below hb)
    have SB_22 := keep (SB_18.out.fs (Fs.of_below (l:=[]) hb) (by simp))
    clear hPB hv20 hb
    go_simp
    refine hK.out _ _ (fun _ => HSS.out v20 HB_20.out) ?_
    clear hK K hmk
    try simp only [Act.put,Ord.t,Ord.z,Ord.s]
    have hS := HSS.out v20 HB_20.out
    refine Ord.tk (i:=4) (v:=.agg #[.slice (some ⟨PB,0,none⟩) n2 n2,.slice (some ⟨AO,0,none⟩) aa.length aa.length]) (hy:=Or.inl ⟨by rfl,by intro W' hW; have q0 := hW; go_simp⟩) (hS:=hS) (h:=?_)
    try simp only [Act.put,Ord.t,Ord.z,Ord.s]
    refine Ord.on (i:=6) (h:=fun K hK => ?_)
    refine step_store_mid rfl 91 (.tmp 7) (.tmp 12) rfl SB 0 #[.slice (some ⟨PB,0,none⟩) n2 n2,.slice (some ⟨AO,0,none⟩) aa.length aa.length] rfl rfl (two_there SB_22.out) (by kernel_rfl) (by simp [Value.oneCell']) ?_
    refine hK.out _ _ (fun h => absurd h (by decide)) ?_
    clear hK K
    try simp only [Act.put,Ord.t,Ord.z,Ord.s]
    refine Ord.wpM_done (by kernel_rfl) ?_ _
    refine NoPanic.normal ?_
    exact RegM.mk SB PB AO ps rfl HB_20.out SB_22.out PB_20.out AR_21.out HPs.out HNpa.out HNsp.out HNsa.out HNsr.out HPlo.out
  ·obtain ⟨v23,hv23⟩ : ∃ y,wd.alloc (.cells #[.slice none 0 0,.slice none 0 0] 91) = y := ⟨_,rfl⟩
   obtain ⟨SB,hSB⟩ : ∃ y,wd.heap.size = y := ⟨_,rfl⟩
   have hb : Below wd.heap.size wd v23 := by rw [← hv23]; exact (Below.refl _ _).alloc (Nat.le_refl _) _
   have SB_23 : Hid (Bk v23 SB [.slice none 0 0,.slice none 0 0] 91) := by show Bk _ _ _ _; rw [← hv23,← hSB]; exact Bk.new _ _ _
   have HB_23 := keep (HD.out.trans (hb.mono HD.out.size))
   have HNsr : Hid (w3.heap.size ≤ SB) := by have h2 := HD.out.size; show _ ≤ _; omega
   go_simp
   clear hSB hv23 hb
   refine hK.out _ _ (fun _ => HSS.out v23 HB_23.out) ?_
   clear hK K
   try simp only [Act.put,Ord.t,Ord.z,Ord.s]
   have hS := HSS.out v23 HB_23.out
   refine Ord.wpM_two (i:=0) (j:=3) (by kernel_rfl) (by simp only [List.getElem?_toArray,List.getElem?_cons_zero,List.getElem?_cons_succ]; rfl) (by simp only [List.getElem?_toArray,List.getElem?_cons_zero,List.getElem?_cons_succ]; rfl) (fun K hK => ?_) (fun K hK => ?_)
   ·have hmk := HMk.out v23
    obtain ⟨v24,hv24⟩ : ∃ y,v23.alloc (.cells (Array.replicate n2 (Value.int .i64 0)) 3) = y := ⟨_,rfl⟩
    obtain ⟨PB,hPB⟩ : ∃ y,v23.heap.size = y := ⟨_,rfl⟩
    have hb : Below v23.heap.size v23 v24 := by rw [← hv24]; exact (Below.refl _ _).alloc (Nat.le_refl _) _
    have PB_24 : Hid (Bk v24 PB (List.replicate n2 (Value.int .i64 0)) 3) := by show Bk _ _ _ _; rw [← hv24,← hPB]; exact Bk.rep _ _ _ _
    rw [hPB,hv24] at hmk
    have HB_24 := keep (HB_23.out.trans (hb.mono HB_23.out.size))
    have HPlo : Hid (w3.heap.size ≤ PB) := by have h2 := HB_23.out.size; show _ ≤ _; omega
    have HNsp : Hid (SB ≠ PB) := by have := SB_23.out.lt; show _ ≠ _; omega
    have SB_25 := keep (SB_23.out.fs (Fs.of_below (l:=[]) hb) (by simp))
    clear hPB hv24 hb
    go_simp
    refine hK.out _ _ (fun _ => HSS.out v24 HB_24.out) ?_
    clear hK K hmk
    try simp only [Act.put,Ord.t,Ord.z,Ord.s]
    have hS := HSS.out v24 HB_24.out
    refine Ord.on (i:=3) (h:=fun K hK => ?_)
    go_simp
    refine (HAr.out v24 HB_24.out).mono ?_
    rintro r v26 ⟨ps,rfl,hps,hI⟩
    obtain ⟨AO,hAO⟩ : ∃ y,v24.heap.size = y := ⟨_,rfl⟩
    have hb : Below v24.heap.size v24 v26 := hI.lo
    have HPs := keep hps
    rw [hAO] at hI
    have AR_26 : Hid (ArX v26 AO w3.heap.size ps) := ArX.of hI hAO.symm _ (by have h2 := HB_24.out.size; omega)
    have HB_26 := keep (HB_24.out.trans (hb.mono HB_24.out.size))
    have HNpa : Hid (AO ≠ PB ∧ ∀ p ∈ ps,p.1 ≠ PB) := ⟨by have := PB_24.out.lt; omega,fun p hp => by have := PB_24.out.lt; have := (AR_26.out.at' p hp).1; omega⟩
    have HNsa : Hid (AO ≠ SB ∧ ∀ p ∈ ps,p.1 ≠ SB) := ⟨by have := SB_25.out.lt; omega,fun p hp => by have := SB_25.out.lt; have := (AR_26.out.at' p hp).1; omega⟩
    have SB_27 := keep (SB_25.out.fs (Fs.of_below (l:=[]) hb) (by simp))
    have PB_28 := keep (PB_24.out.fs (Fs.of_below (l:=[]) hb) (by simp))
    rw [hAO]
    clear hAO hI hps hb
    go_simp
    refine hK.out _ _ (fun _ => HSS.out v26 HB_26.out) ?_
    clear hK K
    try simp only [Act.put,Ord.t,Ord.z,Ord.s]
    have hS := HSS.out v26 HB_26.out
    refine Ord.tk (i:=4) (v:=.agg #[.slice (some ⟨PB,0,none⟩) n2 n2,.slice (some ⟨AO,0,none⟩) aa.length aa.length]) (hy:=Or.inl ⟨by rfl,by intro W' hW; have q0 := hW; go_simp⟩) (hS:=hS) (h:=?_)
    try simp only [Act.put,Ord.t,Ord.z,Ord.s]
    refine Ord.on (i:=6) (h:=fun K hK => ?_)
    refine step_store_mid rfl 91 (.tmp 7) (.tmp 12) rfl SB 0 #[.slice (some ⟨PB,0,none⟩) n2 n2,.slice (some ⟨AO,0,none⟩) aa.length aa.length] rfl rfl (two_there SB_27.out) (by kernel_rfl) (by simp [Value.oneCell']) ?_
    refine hK.out _ _ (fun h => absurd h (by decide)) ?_
    clear hK K
    try simp only [Act.put,Ord.t,Ord.z,Ord.s]
    refine Ord.wpM_done (by kernel_rfl) ?_ _
    refine NoPanic.normal ?_
    exact RegM.mk SB PB AO ps rfl HB_26.out SB_27.out PB_28.out AR_26.out HPs.out HNpa.out HNsp.out HNsa.out HNsr.out HPlo.out
   ·go_simp
    refine (HAr.out v23 HB_23.out).mono ?_
    rintro r v29 ⟨ps,rfl,hps,hI⟩
    obtain ⟨AO,hAO⟩ : ∃ y,v23.heap.size = y := ⟨_,rfl⟩
    have hb : Below v23.heap.size v23 v29 := hI.lo
    have HPs := keep hps
    rw [hAO] at hI
    have AR_29 : Hid (ArX v29 AO w3.heap.size ps) := ArX.of hI hAO.symm _ (by have h2 := HB_23.out.size; omega)
    have HB_29 := keep (HB_23.out.trans (hb.mono HB_23.out.size))
    have HNsa : Hid (AO ≠ SB ∧ ∀ p ∈ ps,p.1 ≠ SB) := ⟨by have := SB_23.out.lt; omega,fun p hp => by have := SB_23.out.lt; have := (AR_29.out.at' p hp).1; omega⟩
    have SB_30 := keep (SB_23.out.fs (Fs.of_below (l:=[]) hb) (by simp))
    rw [hAO]
    clear hAO hI hps hb
    go_simp
    refine hK.out _ _ (fun _ => HSS.out v29 HB_29.out) ?_
    clear hK K
    try simp only [Act.put,Ord.t,Ord.z,Ord.s]
    have hS := HSS.out v29 HB_29.out
    refine Ord.on (i:=0) (h:=fun K hK => ?_)
    have hmk := HMk.out v29
    obtain ⟨v31,hv31⟩ : ∃ y,v29.alloc (.cells (Array.replicate n2 (Value.int .i64 0)) 3) = y := ⟨_,rfl⟩
    obtain ⟨PB,hPB⟩ : ∃ y,v29.heap.size = y := ⟨_,rfl⟩
    have hb : Below v29.heap.size v29 v31 := by rw [← hv31]; exact (Below.refl _ _).alloc (Nat.le_refl _) _
    have PB_31 : Hid (Bk v31 PB (List.replicate n2 (Value.int .i64 0)) 3) := by show Bk _ _ _ _; rw [← hv31,← hPB]; exact Bk.rep _ _ _ _
    rw [hPB,hv31] at hmk
    have HB_31 := keep (HB_29.out.trans (hb.mono HB_29.out.size))
    have HPlo : Hid (w3.heap.size ≤ PB) := by have h2 := HB_29.out.size; show _ ≤ _; omega
    have HNpa : Hid (AO ≠ PB ∧ ∀ p ∈ ps,p.1 ≠ PB) := ⟨by have := AR_29.out.row.lt; omega,fun p hp => by have := (AR_29.out.at' p hp).2.lt; omega⟩
    have HNsp : Hid (SB ≠ PB) := by have := SB_30.out.lt; show _ ≠ _; omega
    have SB_32 := keep (SB_30.out.fs (Fs.of_below (l:=[]) hb) (by simp))
    have AR_33 := keep (AR_29.out.below hb)
    clear hPB hv31 hb
    go_simp
    refine hK.out _ _ (fun _ => HSS.out v31 HB_31.out) ?_
    clear hK K hmk
    try simp only [Act.put,Ord.t,Ord.z,Ord.s]
    have hS := HSS.out v31 HB_31.out
    refine Ord.tk (i:=4) (v:=.agg #[.slice (some ⟨PB,0,none⟩) n2 n2,.slice (some ⟨AO,0,none⟩) aa.length aa.length]) (hy:=Or.inl ⟨by rfl,by intro W' hW; have q0 := hW; go_simp⟩) (hS:=hS) (h:=?_)
    try simp only [Act.put,Ord.t,Ord.z,Ord.s]
    refine Ord.on (i:=6) (h:=fun K hK => ?_)
    refine step_store_mid rfl 91 (.tmp 7) (.tmp 12) rfl SB 0 #[.slice (some ⟨PB,0,none⟩) n2 n2,.slice (some ⟨AO,0,none⟩) aa.length aa.length] rfl rfl (two_there SB_32.out) (by kernel_rfl) (by simp [Value.oneCell']) ?_
    refine hK.out _ _ (fun h => absurd h (by decide)) ?_
    clear hK K
    try simp only [Act.put,Ord.t,Ord.z,Ord.s]
    refine Ord.wpM_done (by kernel_rfl) ?_ _
    refine NoPanic.normal ?_
    exact RegM.mk SB PB AO ps rfl HB_31.out SB_32.out PB_31.out AR_33.out HPs.out HNpa.out HNsp.out HNsa.out HNsr.out HPlo.out
 ·rintro e a' v ⟨rfl,SB,PB,AO,ps,rfl,hb,hS,hP,hA,hps,hne,hsp,hsr,hlo⟩
  have hG' := HFG.out v hb
  have HV := keep hb
  have HPs := keep hps
  have HNe := keep hne
  have HLo2 := keep hlo
  have HSB := keep hS
  have HPB := keep hP
  have HAX := keep hA
  have HSp := keep hsp
  have HGk := keep hG'
  have HSr := keep hsr
  have HSS2 : Hid (∀ W',Below v.heap.size v W' → W'.cell? ⟨SB,0,none⟩ = some (.slice (some ⟨PB,0,none⟩) n2 n2) ∧ W'.cell? ⟨G,0,none⟩ = some (.slice p4 n4 c4)) := fun W' hW => ⟨(HSB.out.fs (Fs.of_below (l:=[]) hW) (by simp)).cell 0 rfl,(HGk.out.fs (Fs.of_below (l:=[]) hW) (by simp)).cell 0 rfl⟩
  clear hb hP hA hps hne hsp hsr hlo hS hG'
  have f1 : (1 : Int) ≤ (n2 : Int) := by have := HN2.out; omega
  have f2 : ¬ n2 = 1 := by have := HN2.out; omega
  obtain ⟨n3,hn3⟩ : ∃ y,n2 - 1 = y := ⟨_,rfl⟩
  have HN3 : Hid (n3 = 119) := by have := HN2.out; show _ = _; omega
  have HW4 : Hid (ws.length = n4 ∧ n4 ≤ 119) := ⟨HL4.out,by have h1 := HWl.out; have h2 := HL4.out; omega⟩
  have HCN : Hid ((ws.map (Value.int .i64)).length = Nat.min n4 n3) := by
   show _ = _
   rw [List.length_map,HW4.out.1,HN3.out]
   exact (Nat.min_eq_left HW4.out.2).symm
  have HFit : Hid (1 + (ws.map (Value.int .i64)).length ≤ (List.replicate n2 (Value.int .i64 0)).length) := by
   have h1 := HW4.out
   have h2 := HN2.out
   show _ ≤ _
   rw [List.length_replicate,List.length_map]; omega
  have HOne : Hid (∀ u ∈ ws.map (Value.int .i64),u.oneCell' = true) := by
   intro u hu
   obtain ⟨y,_,rfl⟩ := List.mem_map.1 hu
   rfl
  go_wp2_with fail
  refine wp_region_noPanic ?_
  refine Ord.wpM_begin (fun W' : World => W'.cell? ⟨SB,0,none⟩ = some (.slice (some ⟨PB,0,none⟩) n2 n2) ∧ W'.cell? ⟨G,0,none⟩ = some (.slice p4 n4 c4)) [0,1,2,3,4,5] (by kernel_rfl) ?_
  have HD : Hid (Below v.heap.size v v.drew) := Below.drew (Below.refl _ _)
  generalize v.drew = wd at *
  have hS := HSS2.out wd HD.out
  refine Ord.tk (i:=0) (v:=.pointer (some ⟨SB,0,none⟩)) (hy:=Or.inl ⟨by rfl,by rintro W' ⟨q0,q1⟩; go_simp⟩) (hS:=hS) (h:=?_)
  try simp only [Act.put,Ord.t,Ord.z,Ord.s]
  refine Ord.tk (i:=1) (v:=.slice (some ⟨PB,0,none⟩) n2 n2) (hy:=Or.inl ⟨by rfl,by rintro W' ⟨q0,q1⟩; go_simp⟩) (hS:=hS) (h:=?_)
  try simp only [Act.put,Ord.t,Ord.z,Ord.s]
  refine Ord.tk (i:=2) (v:=.slice (some ⟨PB,1,none⟩) n3 n3) (hy:=Or.inl ⟨by rfl,by rintro W' ⟨q0,q1⟩; go_simp⟩) (hS:=hS) (h:=?_)
  try simp only [Act.put,Ord.t,Ord.z,Ord.s]
  refine Ord.tk (i:=3) (v:=.pointer (some ⟨G,0,none⟩)) (hy:=Or.inl ⟨by rfl,by rintro W' ⟨q0,q1⟩; go_simp⟩) (hS:=hS) (h:=?_)
  try simp only [Act.put,Ord.t,Ord.z,Ord.s]
  refine Ord.tk (i:=4) (v:=.slice p4 n4 c4) (hy:=Or.inl ⟨by rfl,by rintro W' ⟨q0,q1⟩; go_simp⟩) (hS:=hS) (h:=?_)
  try simp only [Act.put,Ord.t,Ord.z,Ord.s]
  have hPBd := HPB.out.fs (Fs.of_below (l:=[]) HD.out) (by simp)
  have HPBd := keep hPBd
  have HPos : Hid (0 < (ws.map (Value.int .i64)).length → some (⟨PB,1,none⟩ : Addr) = some ⟨PB,1,none⟩ ∧ ∃ ad,p4 = some ad ∧ ∀ k u,(ws.map (Value.int .i64))[k]? = some u → wd.cell? (ad.add k) = some u) := by
   have HIv := (HInt.out.below ((HBw.out v HV.out).mono HBB.out)).below (HD.out.mono (Nat.le_trans HBB.out (HBw.out v HV.out).size))
   intro hp
   refine ⟨rfl,?_⟩
   obtain ⟨q1,q2,q3,q4,q5,q6,q7,q8⟩ := HIv
   cases q4
   obtain ⟨x,hx⟩ : ∃ x,ws[0]? = some x := ⟨_,List.getElem?_eq_getElem (by rw [List.length_map] at hp; exact hp)⟩
   obtain ⟨g',o',e1,q2,_⟩ := q8 0 x hx
   refine ⟨⟨g',o',none⟩,e1,fun k u hk => ?_⟩
   rw [List.getElem?_map,Option.map_eq_some_iff] at hk
   obtain ⟨y,hy,rfl⟩ := hk
   obtain ⟨g2,o2,e2,q3,q4⟩ := q8 k y hy
   rw [e1] at e2
   cases e2
   rw [show (⟨g',o',none⟩ : Addr).add k = ⟨g',o' + k,none⟩ from by simp [Addr.add]]
   exact q4
  clear hPBd
  refine Ord.on (i:=5) (h:=fun K hK => ?_)
  refine step_copy_fs rfl (.tmp 15) (.tmp 17) 30 30 rfl 3 (by kernel_rfl) (by kernel_rfl) _ _ _ _ _ _ rfl rfl PB 1 (List.replicate n2 (Value.int .i64 0)) 3 HPBd.out (ws.map (Value.int .i64)) HCN.out HPos.out HFit.out HOne.out ?_
  intro x hgx hfx
  have hfx2 := (Fs.of_below (l:=[PB]) HD.out).trans hfx
  refine hK.out _ _ (fun _ => ⟨(HSB.out.fs hfx2 (by simpa using HSp.out)).cell 0 rfl,(HGk.out.fs hfx2 (by simp; have h1 := HLo.out.1; have h2 := HLo2.out; omega)).cell 0 rfl⟩) ?_
  clear hfx2
  clear hK K
  try simp only [Act.put,Ord.t,Ord.z,Ord.s]
  refine Ord.wpM_done (by kernel_rfl) ?_ _
  refine NoPanic.normal ?_
  have HPx : Hid (Bk x PB ((fromP 120 1 ws).map (Value.int .i64)) 3) := by
   have h1 := hgx.out
   rw [fromP_map (by have := HW4.out; have := HN2.out; omega),HN2.out] at h1
   exact h1
  have HFd : Hid (Fs [PB] v x) := (Fs.of_below HD.out).trans hfx
  have HAx := keep (HAX.out.fs HFd.out HNe.out.1 HNe.out.2)
  have kSx := HSB.out.fs HFd.out (by simpa using HSp.out)
  have HFx : Hid (Below w.heap.size w x) := by
   have h1 := HBw.out v HV.out
   exact h1.trans (HFd.out.below h1.size (fun k hk => by simp at hk; have h3 := HLo2.out; have h4 := HLo.out.2; omega))
  have s0 := kSx.cell 0 rfl
  have s1 := kSx.cell 1 rfl
  obtain ⟨wm,hwm⟩ : ∃ y,x.alloc (.cells #[.slice pc nc cc,.slice (some ⟨PB,0,none⟩) n2 n2,.slice (some ⟨AO,0,none⟩) aa.length aa.length,.int .i64 mode,.int .i64 0] 112) = y := ⟨_,rfl⟩
  obtain ⟨MB,hMB⟩ : ∃ y,x.heap.size = y := ⟨_,rfl⟩
  have bm : Below x.heap.size x wm := by rw [← hwm]; exact (Below.refl _ _).alloc (Nat.le_refl _) _
  have kM : Bk wm MB [.slice pc nc cc,.slice (some ⟨PB,0,none⟩) n2 n2,.slice (some ⟨AO,0,none⟩) aa.length aa.length,.int .i64 mode,.int .i64 0] 112 := by rw [← hwm,← hMB]; exact Bk.new _ _ _
  have HG9 : Hid (MBeg ws aa (.slice pc nc cc) mode w (.returned (.pointer (some ⟨MB,0,none⟩))) wm) := by
   have hl : aa.length = ps.length := by rw [← HPs.out,List.length_map]
   have hA := HAx.out.below bm
   have hP := HPx.out.fs (Fs.of_below (l:=[]) bm) (by simp)
   have h1 := HLo2.out
   have h2 := HAX.out.lo
   have h3 := HLo.out.2
   have h5 := HFx.out.size
   have h6 := HPx.out.lt
   have h7 := HAx.out.row.lt
   refine ⟨MB,PB,AO,ps,rfl,⟨?_,⟨hP,hA.row,fun p hp => (hA.at' p hp).2,hA.nd,HNe.out.1,fun p hp => ⟨HNe.out.2 p hp,by have := (hA.at' p hp).1; omega⟩⟩,HPs.out,fromP_len (by have := HW4.out; omega),by omega,by omega,fun p hp => by have := ((HAx.out.at' p hp).2).lt; omega⟩,HFx.out.trans (bm.mono HFx.out.size),by omega,by omega,by omega,fun p hp => by have := (hA.at' p hp).1; omega⟩
   rw [← hl]
   have e := HN2.out
   rw [e] at kM
   exact kM
  have HWm := keep hwm
  have HMb := keep hMB
  clear hgx hfx kSx hwm hMB bm kM hS HSS2 HPos
  go_wp2_with (first | rw [HWm.out,HMb.out] | fail)
  go_ret
  exact HG9.out
end Go.Proofs.Ytpnacanbknejiaa.Mh
