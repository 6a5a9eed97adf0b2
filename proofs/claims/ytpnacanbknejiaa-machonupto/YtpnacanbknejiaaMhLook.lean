/- The two looks of mach's Run: steps are counted; leaks are kept. Written by tools/gen_mhlook.py. -/
import Derived.Test.YtpnacanbknejiaaMhBegin
namespace Go.Proofs.Ytpnacanbknejiaa.Mh
set_option maxHeartbeats 32000000
set_option maxRecDepth 100000
set_option linter.unusedVariables false
set_option linter.unusedSimpArgs false
open Go.ChangeShapes Go.WideShapes Go.ChangeAt Go.RowKit Lg Lr Fl
theorem fs_new {l m : List Nat} {w0 w w' : World} (h : Fs l w0 w) (h' : Fs m w w') (hm : ∀ b ∈ m,b < w0.heap.size → b ∈ l) : Fs l w0 w' :=
 ⟨h'.os.trans h.os,h'.tape.trans h.tape,h'.output.trans h.output,Nat.le_trans h.size h'.size,fun k hk hl => (h'.block k (Nat.lt_of_lt_of_le hk h.size) (fun hx => hl (hm k hx hk))).trans (h.block k hk hl)⟩
theorem CodeIs.fs {w w' : World} {B : Nat} {l : List Ix} {v : Value} {m : List Nat} (h : CodeIs w B l v) (hf : Fs m w w') (hB : B ≤ w.heap.size) (hm : ∀ k ∈ m,B ≤ k) : CodeIs w' B l v := h.below (hf.below hB hm)
structure J1 (w1 : World) (CB : Nat) (hs : List (Nat × Ix × Ms)) (B : Nat) (w : World) : Prop where
 bk : Bk w CB [.int .i64 (hs.length : Int)] 3
 fs : Fs [CB] w1 w
 cb : CB < B
theorem look1_any (CB : Nat) (n : Nat) (iv : Array Value) (i : Ix) (w : World) (hn : n ≤ 36000) (h : Bk w CB [.int .i64 (n : Int)] 3) :
  Calls Try.prog 58 #[.agg (ixA i),.pointer (some ⟨CB,0,none⟩)] w fun r w' => r = .returned (.tuple #[]) ∧ Bk w' CB [.int .i64 ((n + 1 : Nat) : Int)] 3 ∧ Fs [CB] w w' := by
 obtain ⟨op,d,a,b,c,imm⟩ := i
 obtain ⟨w1,hw1⟩ : ∃ y,w.alloc (.cells #[.int .i64 op,.int .i64 d,.int .i64 a,.int .i64 b,.int .i64 c,.int .i64 imm] 35) = y := ⟨_,rfl⟩
 obtain ⟨X,hX⟩ : ∃ y,w.heap.size = y := ⟨_,rfl⟩
 have b1 : Below w.heap.size w w1 := by rw [← hw1]; exact (Below.refl _ _).alloc (Nat.le_refl _) _
 have kC := h.fs (Fs.of_below (l:=[]) b1) (by simp)
 have x0 := kC.cell 0 rfl
 have xf := kC.fr 0
 have HW1 := keep hw1
 have HX := keep hX
 have hwr : IntKind.i64.wrap ((n : Int) + 1) = (n : Int) + 1 := by rw [IntKind.wrap_i64]; omega
 have HG : Hid (Bk (w1.setCell ⟨CB,0,none⟩ (.int .i64 ((n : Int) + 1))) CB [.int .i64 ((n + 1 : Nat) : Int)] 3 ∧ Fs [CB] w (w1.setCell ⟨CB,0,none⟩ (.int .i64 ((n : Int) + 1)))) := ⟨kC.set 0 _,(Fs.of_below b1).set (by simp) 0 _⟩
 unfold ixA
 dsimp only
 clear hw1 hX b1 kC h
 go_enter Try.func58,Try.ntmps58
 go_wp2_with (first | rw [HW1.out] | rw [HX.out] | fail)
 refine bodyPost_end (results_none rfl _ _ _) rfl ?_
 first | exact ⟨rfl,HG.out⟩ | (rw [hwr]; exact ⟨rfl,HG.out⟩)
theorem look1_is (code : List Ix) (MB PB AO KB : Nat) (cv : Value) (bl : List Nat) (w1 : World) (CB : Nat) (hC : CodeIs w1 KB code cv) (hKB : KB ≤ CB) (hCB : CB < w1.heap.size) (hM : w1.heap.size ≤ MB) (hP : w1.heap.size ≤ PB) (hbl : ∀ b ∈ bl,w1.heap.size ≤ b) (hA : CB < AO) :
  LookIs code MB PB AO cv bl 58 #[.pointer (some ⟨CB,0,none⟩)] (J1 w1 CB) := by
 have hno : CB ∉ MB :: PB :: bl := by
  intro h
  rcases List.mem_cons.1 h with q | q
  ·omega
  ·rcases List.mem_cons.1 q with q | q
   ·omega
   ·have := hbl _ q; omega
 refine ⟨fun args w => by first | rfl | kernel_rfl,fun hs B w w' hJ hf => ⟨hJ.bk.fs hf hno,fs_new hJ.fs hf (fun b hb hlt => ?_),hJ.cb⟩,fun hs B w hJ => ?_,fun hs B w at' i s ps hJ hB hMa hps hi hl => ?_⟩
 ·exfalso
  rcases List.mem_cons.1 hb with q | q
  ·omega
  ·rcases List.mem_cons.1 q with q | q
   ·omega
   ·have := hbl _ q; omega
 ·exact (CodeIs.fs hC hJ.fs (by omega) (by simpa using hKB)).mono (by have := hJ.fs.size; omega)
 ·refine (look1_any CB hs.length #[] i w hl hJ.bk).mono ?_
  rintro r w' ⟨rfl,hb,hf⟩
  refine ⟨rfl,⟨?_,hJ.fs.trans hf,by have := hJ.cb; have := hf.size; omega⟩,hMa.fs hf ?_ ?_ ?_ ?_,hf.size,fun b h1 h2 => hf.block b h2 (by have := hJ.cb; simp; omega)⟩
  ·rw [List.length_append]; exact hb
  ·simp; omega
  ·simp; omega
  ·simp; omega
  ·intro p hp
   have : p.1 ∈ bl := by rw [← hps]; exact List.mem_map.2 ⟨p,hp,rfl⟩
   have := hbl _ this
   simp; omega
def nestJ (S2 : Nat) (w : World) (X : Nat → Prop) (p : Lk × Value) : Prop := IntsX w (fun i => X i ∧ S2 ≤ i) p.1.vs p.2
theorem nestJ_nest (S2 : Nat) : Nest (nestJ S2) := by
 refine ⟨fun w w' X p h hb => ?_,fun w X Y p h hb => ?_⟩
 ·exact nestL_nest.keep w w' _ p h (fun i hi => hb i hi.1)
 ·exact nestL_nest.mono w _ _ p h (fun i hi => ⟨hb i hi.1,hi.2⟩)
def RowJ (S2 : Nat) (w : World) (lo : Nat) (v : Value) (es : List (Lk × Value)) : Prop := RowX (nestJ S2) cellsL 3 61 w lo v es
theorem RowJ.rowL {S2 : Nat} {w : World} {lo : Nat} {v : Value} {es : List (Lk × Value)} (h : RowJ S2 w lo v es) : RowL w lo v es :=
 ⟨h.own,fun p hp => nestL_nest.mono w _ _ p (h.sub p hp) (fun i hi => hi.1)⟩
theorem RowJ.keep {S2 : Nat} {w w' : World} {lo : Nat} {v : Value} {es : List (Lk × Value)} {l : List Nat} (h : RowJ S2 w lo v es) (hv : ∀ i,v.ownBlock = some i → i ∉ l) (hf : Fs l w w') (hl : ∀ i ∈ l,i < S2) : RowJ S2 w' lo v es := by
 refine ⟨?_,fun p hp => ?_⟩
 ·obtain ⟨h1,h2⟩ := h.own
  refine ⟨h1,?_⟩
  rcases h2 with h2 | ⟨g,cap,cur,a1,a2,a3,a4⟩
  ·exact .inl h2
  ·exact .inr ⟨g,cap,cur,a1,a2,by rw [hf.block g (Array.getElem?_eq_some_iff.1 a3).1 (hv g (by rw [a1]; rfl))]; exact a3,a4⟩
 ·have h1 := h.sub p hp
  have h2 := nestL_nest.keep w w' _ p h1 (fun i hi => hf.block i hi.1.2.1 (fun hx => by have := hl i hx; omega))
  exact nestL_nest.mono w' _ _ p h2 (fun i hi => ⟨⟨hi.1.1,Nat.lt_of_lt_of_le hi.1.2.1 hf.size,hi.1.2.2⟩,hi.2⟩)
structure E2 (code : List Ix) (cv : Value) (T : Nat → Int) (w2 : World) (LO LX MX TB MB PB AO KB : Nat) (bl : List Nat) : Prop where
 mx : Bk w2 MX [.pointer (some ⟨MB,0,none⟩)] 105
 tb : Tb.Blk w2 TB T
 code : CodeIs w2 KB code cv
 t7 : T7 T
 kb : KB ≤ LO ∧ KB ≤ LX ∧ KB ≤ MB ∧ KB ≤ PB ∧ ∀ b ∈ bl,KB ≤ b
 nm : MX ≠ LO ∧ MX ≠ LX ∧ MX ≠ MB ∧ MX ≠ PB ∧ MX ∉ bl
 nt : TB ≠ LO ∧ TB ≠ LX ∧ TB ≠ MB ∧ TB ≠ PB ∧ TB ∉ bl
 nl : LX ≠ LO ∧ LX ≠ MB ∧ LX ≠ PB ∧ LX ≠ AO ∧ LX ∉ bl
 no : LO ≠ MB ∧ LO ≠ PB ∧ LO ≠ AO ∧ LO ∉ bl
 lt : LO < w2.heap.size ∧ LX < w2.heap.size ∧ MB < w2.heap.size ∧ PB < w2.heap.size ∧ AO < w2.heap.size ∧ (∀ b ∈ bl,b < w2.heap.size) ∧ KB ≤ w2.heap.size
structure J2 (T : Nat → Int) (w2 : World) (LO LX MB PB : Nat) (bl : List Nat) (hs : List (Nat × Ix × Ms)) (B : Nat) (w : World) : Prop where
 fs : Fs (LO :: LX :: MB :: PB :: bl) w2 w
 bd : w2.heap.size ≤ B
 row : ∃ v es,Bk w LX [v] 52 ∧ RowJ w2.heap.size w LO v es ∧ (∀ i,v.ownBlock = some i → i = LO ∨ (w2.heap.size ≤ i ∧ i < B)) ∧ es.map Prod.fst = hs.map (fun x => lkM T x.1 x.2.1 x.2.2)
theorem look2_any (code : List Ix) (cv : Value) (T : Nat → Int) (w2 : World) (LO LX MX TB MB PB AO KB : Nat) (bl : List Nat) (hE : E2 code cv T w2 LO LX MX TB MB PB AO KB bl) (hs : List (Nat × Ix × Ms)) (B : Nat) (w : World) (at' : Nat) (i : Ix) (s : Ms) (ps : List (Nat × List Int)) (hJ : J2 T w2 LO LX MB PB bl hs B w) (hB : B ≤ w.heap.size) (hM : MaIs w MB PB AO cv s ps at') (hps : ps.map Prod.fst = bl) (hl : hs.length ≤ 36000) :
  Calls Try.prog 59 #[.agg (ixA i),.pointer (some ⟨LX,0,none⟩),.pointer (some ⟨MX,0,none⟩),.pointer (some ⟨TB,0,none⟩)] w fun r w' => r = .returned (.tuple #[]) ∧ J2 T w2 LO LX MB PB bl (hs ++ [(at',i,s)]) w'.heap.size w' ∧ MaIs w' MB PB AO cv s ps at' ∧ w.heap.size ≤ w'.heap.size ∧ ∀ b,B ≤ b → b < w.heap.size → w'.heap[b]? = w.heap[b]? := by
 obtain ⟨v,es,hbk,hrow,hown,hmap⟩ := hJ.row
 have hlen : es.length = hs.length := by have := congrArg List.length hmap; simpa using this
 obtain ⟨pv,nv,cvv,rfl⟩ := RowX.slice hrow
 have hnv : nv = es.length := RowX.len hrow
 subst hnv
 have hno : ∀ b,b ≠ LO → b ≠ LX → b ≠ MB → b ≠ PB → b ∉ bl → b ∉ LO :: LX :: MB :: PB :: bl := fun b h1 h2 h3 h4 h5 h => by
  simp only [List.mem_cons] at h
  rcases h with q | q | q | q | q
  ·exact h1 q
  ·exact h2 q
  ·exact h3 q
  ·exact h4 q
  ·exact h5 q
 have hmx := hE.mx.fs hJ.fs (hno MX hE.nm.1 hE.nm.2.1 hE.nm.2.2.1 hE.nm.2.2.2.1 hE.nm.2.2.2.2)
 have htb : Tb.Blk w TB T := by
  have h1 := hE.tb
  unfold Tb.Blk at h1 ⊢
  rw [hJ.fs.block TB (Tb.Blk.lt hE.tb) (hno TB hE.nt.1 hE.nt.2.1 hE.nt.2.2.1 hE.nt.2.2.2.1 hE.nt.2.2.2.2)]; exact h1
 obtain ⟨op,d,a,b,c,imm⟩ := i
 obtain ⟨w1,hw1⟩ : ∃ y,w.alloc (.cells #[.int .i64 op,.int .i64 d,.int .i64 a,.int .i64 b,.int .i64 c,.int .i64 imm] 35) = y := ⟨_,rfl⟩
 obtain ⟨IB,hI⟩ : ∃ y,w.heap.size = y := ⟨_,rfl⟩
 have b1 : Below w.heap.size w w1 := by rw [← hw1]; exact (Below.refl _ _).alloc (Nat.le_refl _) _
 have kI : Bk w1 IB [.int .i64 op,.int .i64 d,.int .i64 a,.int .i64 b,.int .i64 c,.int .i64 imm] 35 := by rw [← hw1,← hI]; exact Bk.new _ _ _
 have HMa := keep (hM.below b1)
 have HkI := keep kI
 have HLx := keep (hbk.fs (Fs.of_below (l:=[]) b1) (by simp))
 have HMx := keep (hmx.fs (Fs.of_below (l:=[]) b1) (by simp))
 have HTb : Hid (Tb.Blk w1 TB T) := htb.below b1 htb.lt
 have HRow : Hid (RowJ w2.heap.size w1 LO (.slice pv es.length cvv) es) := hrow.keep (l:=[]) (fun _ _ => by simp) (Fs.of_below b1) (by simp)
 have HB1 := keep b1
 have HW1 := keep hw1
 have HI := keep hI
 have HE := keep hE
 have HJ := keep hJ
 have HOw := keep hown
 have HMp := keep hmap
 have HLn : Hid (es.length ≤ 36000) := by show _ ≤ _; omega
 have HBB := keep hB
 have HPs := keep hps
 have HSS : Hid (∀ W',Below w1.heap.size w1 W' → Tb.Blk W' TB T ∧ W'.cell? ⟨LX,0,none⟩ = some (.slice pv es.length cvv) ∧ W'.cell? ⟨MX,0,none⟩ = some (.pointer (some ⟨MB,0,none⟩)) ∧ W'.cell? ⟨IB,0,none⟩ = some (.int .i64 op) ∧ W'.cell? ⟨IB,1,none⟩ = some (.int .i64 d) ∧ W'.cell? ⟨IB,2,none⟩ = some (.int .i64 a) ∧ W'.cell? ⟨IB,3,none⟩ = some (.int .i64 b) ∧ W'.cell? ⟨IB,4,none⟩ = some (.int .i64 c) ∧ W'.cell? ⟨IB,5,none⟩ = some (.int .i64 imm)) := fun W' hW => by
  have u1 := HLx.out.fs (Fs.of_below (l:=[]) hW) (by simp)
  have u2 := HMx.out.fs (Fs.of_below (l:=[]) hW) (by simp)
  have u3 := HkI.out.fs (Fs.of_below (l:=[]) hW) (by simp)
  exact ⟨HTb.out.below hW HTb.out.lt,u1.cell 0 rfl,u2.cell 0 rfl,u3.cell 0 rfl,u3.cell 1 rfl,u3.cell 2 rfl,u3.cell 3 rfl,u3.cell 4 rfl,u3.cell 5 rfl⟩
 have HLk := keep (fun W (hW : Below w1.heap.size w1 W) => leak_any MB PB AO cv s ps at' T ⟨op,d,a,b,c,imm⟩ W (HMa.out.below hW) hE.t7)
 unfold ixA at HLk ⊢
 dsimp only at HLk ⊢
 clear hw1 hI b1 kI hM hbk hmx htb hrow hown hmap hlen hno hE hJ hB hps hl
 go_enter Try.func59,Try.ntmps59
 go_wp2_with (first | rw [HW1.out] | rw [HI.out] | fail)
 refine wp_region_noPanic ?_
 refine Ord.wpM_begin (fun W' : World => Tb.Blk W' TB T ∧ W'.cell? ⟨LX,0,none⟩ = some (.slice pv es.length cvv) ∧ W'.cell? ⟨MX,0,none⟩ = some (.pointer (some ⟨MB,0,none⟩)) ∧ W'.cell? ⟨IB,0,none⟩ = some (.int .i64 op) ∧ W'.cell? ⟨IB,1,none⟩ = some (.int .i64 d) ∧ W'.cell? ⟨IB,2,none⟩ = some (.int .i64 a) ∧ W'.cell? ⟨IB,3,none⟩ = some (.int .i64 b) ∧ W'.cell? ⟨IB,4,none⟩ = some (.int .i64 c) ∧ W'.cell? ⟨IB,5,none⟩ = some (.int .i64 imm)) [0,1,2,3,4,5,6] (by kernel_rfl) ?_
 have HD : Hid (Below w1.heap.size w1 w1.drew) := Below.drew (Below.refl _ _)
 generalize w1.drew = wd at *
 have hS := HSS.out wd HD.out
 refine Ord.tk (i:=0) (v:=.slice pv es.length cvv) (hy:=Or.inl ⟨by rfl,by rintro W' ⟨q0,q1,q2,q3,q4,q5,q6,q7,q8⟩; go_simp⟩) (hS:=hS) (h:=?_)
 try simp only [Act.put,Ord.t,Ord.z,Ord.s]
 refine Ord.tk (i:=1) (v:=.pointer (some ⟨MB,0,none⟩)) (hy:=Or.inl ⟨by rfl,by rintro W' ⟨q0,q1,q2,q3,q4,q5,q6,q7,q8⟩; go_simp⟩) (hS:=hS) (h:=?_)
 try simp only [Act.put,Ord.t,Ord.z,Ord.s]
 refine Ord.tk (i:=2) (v:=.agg #[.int .i64 op,.int .i64 d,.int .i64 a,.int .i64 b,.int .i64 c,.int .i64 imm]) (hy:=Or.inl ⟨by rfl,by rintro W' ⟨q0,q1,q2,q3,q4,q5,q6,q7,q8⟩; go_simp⟩) (hS:=hS) (h:=?_)
 try simp only [Act.put,Ord.t,Ord.z,Ord.s]
 refine Ord.wpM_take (i:=3) (v:=.agg (Tb.tabA T)) (by simp only [List.getElem?_toArray,List.getElem?_cons_zero,List.getElem?_cons_succ]; rfl) (by kernel_rfl) (by kernel_rfl) (by kernel_rfl) (by kernel_rfl) (fun _ _ _ h => h) (tab_yields rfl (.tmp 3) rfl TB rfl T (fun W hW => hW.1)) hS ?_
 try simp only [Act.put,Ord.t,Ord.z,Ord.s]
 refine Ord.on (i:=4) (h:=fun K hK => ?_)
 go_simp
 refine (HLk.out wd HD.out).mono ?_
 rintro r we ⟨vv,rfl,hvv,hbe⟩
 have HBe := keep (HD.out.trans (hbe.mono HD.out.size))
 have HSz := keep hbe.size
 obtain ⟨pq,nq,cq,rfl⟩ := RowX.slice hvv
 have HVv := keep hvv
 clear hvv hbe HLk
 dsimp only
 go_simp
 refine hK.out _ _ (fun _ => HSS.out we HBe.out) ?_
 clear hK K
 try simp only [Act.put,Ord.t,Ord.z,Ord.s]
 refine Ord.on (i:=5) (h:=fun K hK => ?_)
 go_simp
 obtain ⟨wz,hwz⟩ : ∃ y,we.alloc (.cells #[.int .i64 (at' : Int),.int .i64 op,.slice pq nq cq] 61) = y := ⟨_,rfl⟩
 obtain ⟨ZB,hZB⟩ : ∃ y,we.heap.size = y := ⟨_,rfl⟩
 have bz : Below we.heap.size we wz := by rw [← hwz]; exact (Below.refl _ _).alloc (Nat.le_refl _) _
 have kZ : Bk wz ZB [.int .i64 (at' : Int),.int .i64 op,.slice pq nq cq] 61 := by rw [← hwz,← hZB]; exact Bk.new _ _ _
 have HkZ := keep kZ
 have HBz := keep (HBe.out.trans (bz.mono HBe.out.size))
 have Hbz := keep bz
 rw [hwz,hZB]
 clear hwz hZB bz kZ
 refine hK.out _ _ (fun _ => HSS.out wz HBz.out) ?_
 clear hK K
 try simp only [Act.put,Ord.t,Ord.z,Ord.s]
 have HNe : Hid (nestJ w2.heap.size wz (In LO (.slice pv es.length cvv) wz) (⟨at',op,seenM T ⟨op,d,a,b,c,imm⟩ s⟩,.slice pq nq cq)) := by
  have h1 := HD.out.size
  have h2 := HJ.out.bd
  have h3 := HBB.out
  have h4 := HB1.out.size
  have h5 := HE.out.lt.1
  have hi := RowI.intsX HVv.out (by have h6 := valsW_len (bitsG T op (decide (s.m = 0))) s.P (rds ⟨op,d,a,b,c,imm⟩) 0; have h7 := rds_len ⟨op,d,a,b,c,imm⟩; unfold seenM; dsimp only; omega) (fun i => In LO (.slice pv es.length cvv) we i ∧ w2.heap.size ≤ i) (fun i q1 q2 => ⟨⟨by omega,q2,fun e => by rcases HOw.out i e with q | q <;> omega⟩,by omega⟩)
  exact nestL_nest.mono wz _ _ _ (nestL_nest.keep we wz _ _ hi (fun i q => Hbz.out.block i q.1.2.1)) (fun i q => ⟨⟨q.1.1,Nat.lt_of_lt_of_le q.1.2.1 Hbz.out.size,q.1.2.2⟩,q.2⟩)
 have HRz : Hid (RowJ w2.heap.size wz LO (.slice pv es.length cvv) es) := HRow.out.keep (l:=[]) (fun _ _ => by simp) (Fs.of_below HBz.out) (by simp)
 have hrz := HRz.out
 have hown := RowX.own hrz
 obtain ⟨i0,hi0,j0,j1,j2⟩ := info_parts infoL
 have HLOz : Hid (LO ≤ wz.heap.size) := by have h1 := HE.out.lt.1; have h2 := HJ.out.fs.size; have h3 := HB1.out.size; have h4 := HBz.out.size; show _ ≤ _; omega
 refine Ord.on (i:=6) (h:=fun K hK => ?_)
 refine step_append_lies _ rfl (.tmp 5) (.tmp 10) 52 rfl LO 61 i0 _ 3 40 Try.underlying52 hi0 j0 j1 j2 rfl (by decide) (.slice pv es.length cvv) es.length (es.flatMap cellsL) rfl hown ⟨ZB,0,none⟩ 1 1 (cellsL (⟨at',op,seenM T ⟨op,d,a,b,c,imm⟩ s⟩,.slice pq nq cq)) rfl rfl (fun j u hj => bk_add HkZ.out j u hj) ?c2 (by decide) ?c3 ?c4 HLOz.out wz.heap.size rfl ?_
 case c2 =>
  intro u hu
  simp only [cellsL,List.mem_cons,List.not_mem_nil,or_false] at hu
  rcases hu with rfl | rfl | rfl <;> rfl
 case c3 => have := HLn.out; unfold maxLen; omega
 case c4 => have := HLn.out; omega
 intro gz cz wf hown2 hgrow hat hlt
 have hrf : RowJ w2.heap.size wf LO (.slice (some ⟨gz,0,none⟩) (es.length + 1) cz) (es ++ [(⟨at',op,seenM T ⟨op,d,a,b,c,imm⟩ s⟩,.slice pq nq cq)]) := RowX.push (nestJ_nest _) hrz HNe.out hown2 hgrow (by simpa using hat)
 have hgz : gz = LO ∨ (w2.heap.size ≤ gz ∧ gz < wf.heap.size) := by
  rcases hat with q | q
  ·rcases HOw.out gz q with e | e
   ·exact .inl e
   ·have h3 := HBB.out; have h4 := HB1.out.size; have h5 := HBz.out.size; have h6 := hgrow.size; exact .inr ⟨e.1,by omega⟩
  ·exact .inr ⟨by have h2 := HJ.out.bd; have h3 := HBB.out; have h4 := HB1.out.size; have h5 := HBz.out.size; omega,hlt⟩
 have HGz := keep hgz
 have HRf := keep hrf
 have hfr : ∀ i,i < wz.heap.size → i ≠ LO → (i < w2.heap.size ∨ B ≤ i) → wf.heap[i]? = wz.heap[i]? := fun i h1 h2 h3 => hgrow.block i h1 (fun e => by
  rcases HOw.out i e.symm with q | q
  ·exact h2 q
  ·omega)
 have HFr := keep hfr
 have HGs : Hid (wz.heap.size ≤ wf.heap.size) := hgrow.size
 have HGo : Hid (wf.os = wz.os ∧ wf.tape = wz.tape ∧ wf.output = wz.output) := ⟨hgrow.os,hgrow.tape,hgrow.output⟩
 have HLxf : Hid (Bk wf LX [.slice pv es.length cvv] 52) := by
  have h1 := HLx.out.fs (Fs.of_below (l:=[]) HBz.out) (by simp)
  show Bk _ _ _ _
  unfold Bk at h1 ⊢
  rw [hfr LX (by have := h1; exact (Array.getElem?_eq_some_iff.1 h1).1) HE.out.nl.1 (.inl HE.out.lt.2.1)]; exact h1
 have hSf : (fun W' : World => Tb.Blk W' TB T ∧ W'.cell? ⟨LX,0,none⟩ = some (.slice pv es.length cvv) ∧ W'.cell? ⟨MX,0,none⟩ = some (.pointer (some ⟨MB,0,none⟩)) ∧ W'.cell? ⟨IB,0,none⟩ = some (.int .i64 op) ∧ W'.cell? ⟨IB,1,none⟩ = some (.int .i64 d) ∧ W'.cell? ⟨IB,2,none⟩ = some (.int .i64 a) ∧ W'.cell? ⟨IB,3,none⟩ = some (.int .i64 b) ∧ W'.cell? ⟨IB,4,none⟩ = some (.int .i64 c) ∧ W'.cell? ⟨IB,5,none⟩ = some (.int .i64 imm)) wf := by
  have u2 := HMx.out.fs (Fs.of_below (l:=[]) HBz.out) (by simp)
  have u3 := HkI.out.fs (Fs.of_below (l:=[]) HBz.out) (by simp)
  have u4 : Tb.Blk wz TB T := HTb.out.below HBz.out HTb.out.lt
  have hT2 : TB < w2.heap.size := HE.out.tb.lt
  have hM2 : MX < w2.heap.size := HE.out.mx.lt
  have hIB : w.heap.size ≤ IB := by have := HI.out; omega
  have v2 : Bk wf MX [.pointer (some ⟨MB,0,none⟩)] 105 := by unfold Bk at u2 ⊢; rw [hfr MX (Array.getElem?_eq_some_iff.1 u2).1 HE.out.nm.1 (.inl hM2)]; exact u2
  have v3 : Bk wf IB [.int .i64 op,.int .i64 d,.int .i64 a,.int .i64 b,.int .i64 c,.int .i64 imm] 35 := by
   unfold Bk at u3 ⊢
   rw [hfr IB (Array.getElem?_eq_some_iff.1 u3).1 (by have h1 := HE.out.lt.1; have h2 := HJ.out.fs.size; omega) (.inr (by have := HBB.out; omega))]; exact u3
  have v4 : Tb.Blk wf TB T := by unfold Tb.Blk at u4 ⊢; rw [hfr TB (Array.getElem?_eq_some_iff.1 u4).1 HE.out.nt.1 (.inl hT2)]; exact u4
  exact ⟨v4,HLxf.out.cell 0 rfl,v2.cell 0 rfl,v3.cell 0 rfl,v3.cell 1 rfl,v3.cell 2 rfl,v3.cell 3 rfl,v3.cell 4 rfl,v3.cell 5 rfl⟩
 clear hown2 hgrow hat hlt hown hrz hrf hgz hfr
 refine hK.out _ _ (fun _ => hSf) ?_
 clear hK K
 try simp only [Act.put,Ord.t,Ord.z,Ord.s]
 have l0 := HLxf.out.cell 0 rfl
 have lf := HLxf.out.fr 0
 refine Ord.on (i:=7) (h:=fun K hK => ?_)
 go_simp
 refine hK.out _ _ (fun h => absurd h (by decide)) ?_
 clear hK K
 try simp only [Act.put,Ord.t,Ord.z,Ord.s]
 refine Ord.wpM_done (by kernel_rfl) ?_ _
 refine NoPanic.normal ?_
 clear hS hSf HSS l0 lf
 go_wp2
 refine bodyPost_end (results_none rfl _ _ _) rfl ?_
 obtain ⟨wg,hwg⟩ : ∃ y,wf.setCell ⟨LX,0,none⟩ (.slice (some ⟨gz,0,none⟩) (es.length + 1) cz) = y := ⟨_,rfl⟩
 have hsz : wg.heap.size = wf.heap.size := by rw [← hwg]; simp [World.setCell]
 have hkL : Bk wg LX [.slice (some ⟨gz,0,none⟩) (es.length + 1) cz] 52 := by rw [← hwg]; exact HLxf.out.set 0 _
 have hfL : Fs [LX] wf wg := by rw [← hwg]; exact (Fs.refl [LX] wf).set (by simp) 0 _
 rw [hwg]
 have h58 : Fs (LO :: LX :: MB :: PB :: bl) w2 wg := by
  have h1 := HJ.out.fs
  have h2 := HB1.out.trans (HBz.out.mono HB1.out.size)
  refine ⟨(hfL.os.trans HGo.out.1).trans (h2.os.trans h1.os),(hfL.tape.trans HGo.out.2.1).trans (h2.tape.trans h1.tape),(hfL.output.trans HGo.out.2.2).trans (h2.output.trans h1.output),by have h3 := h1.size; have h4 := h2.size; have h5 := HGs.out; omega,fun k hk hn => ?_⟩
  simp only [List.mem_cons,not_or] at hn
  have h3 := h1.size; have h4 := h2.size
  rw [hfL.block k (by have h5 := HGs.out; omega) (by simpa using hn.2.1),HFr.out k (by omega) hn.1 (.inl hk),h2.block k (by omega)]
  exact h1.block k hk (by simp only [List.mem_cons,not_or]; exact hn)
 have hlk : ∀ k,B ≤ k → k < w.heap.size → wg.heap[k]? = w.heap[k]? := fun k h1 h2 => by
  have h3 := HB1.out.trans (HBz.out.mono HB1.out.size)
  have h4 := h3.size; have h5 := HGs.out; have h6 := HJ.out.bd; have h7 := HE.out.lt
  rw [hfL.block k (by omega) (by simp; omega),HFr.out k (by omega) (by omega) (.inr h1),h3.block k h2]
 refine ⟨rfl,⟨h58,by have h1 := h58.size; exact h1,_,_,hkL,RowJ.keep HRf.out (l:=[LX]) (fun k e => ?_) hfL (by simpa using HE.out.lt.2.1),fun k e => ?_,?_⟩,?_,by have h1 := HB1.out.size; have h2 := HBz.out.size; have h3 := HGs.out; omega,hlk⟩
 ·have e' : gz = k := by simpa [Value.ownBlock] using e
  have h7 := HE.out.lt; have h8 := HE.out.nl.1
  rcases HGz.out with q | q <;> simp <;> omega
 ·have e' : gz = k := by simpa [Value.ownBlock] using e
  rcases HGz.out with q | q
  ·exact .inl (by omega)
  ·exact .inr (by omega)
 ·rw [List.map_append,List.map_append,HMp.out]; rfl
 ·have h1 := HMa.out.below HBz.out
  have hE := HE.out
  have hb : ∀ k,k ≠ LO → k ≠ LX → k < w2.heap.size → k < wz.heap.size → wg.heap[k]? = wz.heap[k]? := fun k q1 q2 q3 q4 => by
   rw [hfL.block k (by have h5 := HGs.out; omega) (by simpa using q2),HFr.out k q4 q1 (.inl q3)]
  have hbl : ∀ p ∈ ps,p.1 ∈ bl := fun p hp => by rw [← HPs.out]; exact List.mem_map.2 ⟨p,hp,rfl⟩
  have key : ∀ (k : Nat) (l : List Value) (ty : TypeId),Bk wz k l ty → k ≠ LO → k ≠ LX → k < w2.heap.size → Bk wg k l ty := fun k l ty q q1 q2 q3 => by
   unfold Bk at q ⊢
   rw [hb k q1 q2 q3 (Array.getElem?_eq_some_iff.1 q).1]; exact q
  refine ⟨key _ _ _ h1.m (Ne.symm hE.no.1) (Ne.symm hE.nl.2.1) hE.lt.2.2.1,⟨key _ _ _ h1.mc.pl (Ne.symm hE.no.2.1) (Ne.symm hE.nl.2.2.1) hE.lt.2.2.2.1,key _ _ _ h1.mc.row (Ne.symm hE.no.2.2.1) (Ne.symm hE.nl.2.2.2.1) hE.lt.2.2.2.2.1,fun p hp => key _ _ _ (h1.mc.at' p hp) (fun e => hE.no.2.2.2 (by rw [← e]; exact hbl p hp)) (fun e => hE.nl.2.2.2.2 (by rw [← e]; exact hbl p hp)) (hE.lt.2.2.2.2.2.1 _ (hbl p hp)),h1.mc.nd,h1.mc.ne,h1.mc.np⟩,h1.ar,h1.len,h1.nm⟩
theorem look2_is (code : List Ix) (cv : Value) (T : Nat → Int) (w2 : World) (LO LX MX TB MB PB AO KB : Nat) (bl : List Nat) (hE : E2 code cv T w2 LO LX MX TB MB PB AO KB bl) :
  LookIs code MB PB AO cv bl 59 #[.pointer (some ⟨LX,0,none⟩),.pointer (some ⟨MX,0,none⟩),.pointer (some ⟨TB,0,none⟩)] (J2 T w2 LO LX MB PB bl) := by
 refine ⟨fun args w => by first | rfl | kernel_rfl,fun hs B w w' hJ hf => ?_,fun hs B w hJ => ?_,fun hs B w at' i s ps hJ hB hMa hps hi hl => look2_any code cv T w2 LO LX MX TB MB PB AO KB bl hE hs B w at' i s ps hJ hB hMa hps hl⟩
 ·obtain ⟨v,es,h1,h2,h3,h4⟩ := hJ.row
  have hlt : ∀ b ∈ MB :: PB :: bl,b < w2.heap.size := fun b hb => by
   rcases List.mem_cons.1 hb with q | q
   ·rw [q]; exact hE.lt.2.2.1
   ·rcases List.mem_cons.1 q with q | q
    ·rw [q]; exact hE.lt.2.2.2.1
    ·exact hE.lt.2.2.2.2.2.1 b q
  have hn : ∀ b,b ≠ MB → b ≠ PB → b ∉ bl → b ∉ MB :: PB :: bl := fun b q1 q2 q3 h => by
   rcases List.mem_cons.1 h with q | q
   ·exact q1 q
   ·rcases List.mem_cons.1 q with q | q
    ·exact q2 q
    ·exact q3 q
  refine ⟨fs_new hJ.fs hf (fun b hb _ => List.mem_cons_of_mem _ (List.mem_cons_of_mem _ hb)),hJ.bd,v,es,h1.fs hf (hn LX hE.nl.2.1 hE.nl.2.2.1 hE.nl.2.2.2.2),h2.keep (fun k e hk => ?_) hf hlt,h3,h4⟩
  rcases h3 k e with q | q
  ·rw [q] at hk; exact hn LO hE.no.1 hE.no.2.1 hE.no.2.2.2 hk
  ·have := hlt k hk; omega
 ·exact (CodeIs.fs hE.code hJ.fs hE.lt.2.2.2.2.2.2 (fun k hk => by
   simp only [List.mem_cons] at hk
   rcases hk with q | q | q | q | q
   ·rw [q]; exact hE.kb.1
   ·rw [q]; exact hE.kb.2.1
   ·rw [q]; exact hE.kb.2.2.1
   ·rw [q]; exact hE.kb.2.2.2.1
   ·exact hE.kb.2.2.2.2 k q)).mono (Nat.le_trans hE.lt.2.2.2.2.2.2 hJ.fs.size)
end Go.Proofs.Ytpnacanbknejiaa.Mh
