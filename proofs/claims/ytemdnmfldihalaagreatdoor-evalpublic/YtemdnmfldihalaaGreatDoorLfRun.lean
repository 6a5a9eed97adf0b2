/- What comes of a program: Run. -/
import Derived.Test.YtemdnmfldihalaaGreatDoorGr24
namespace Go.Proofs.YtemdnmfldihalaaGreatDoor.Lr
set_option maxHeartbeats 32000000
set_option maxRecDepth 100000
set_option linter.unusedVariables false
set_option linter.unusedSimpArgs false
open Go.ChangeShapes Go.WideShapes Go.ChangeAt Go.RowKit Lg
theorem info_End (l : List Value) (h : l.length = 3) : (Tryz.prog.info? 38).map (·.size) = some l.toArray.size := by
 rw [List.size_toArray,h]; kernel_rfl
theorem results_end {fn : Func} {p u : Tmp} (hf : fn.results = #[.cell p 38,.tmp u]) (tmps : Array Value) (w : World) (g : Nat) (cs : Array Value) (e : Int) (h2 : tmps.getD p undef = .pointer (some ⟨g,0,none⟩)) (h3 : tmps.getD u undef = .int .i64 e) (hg : w.heap[g]? = some (.cells cs 38 (0,0))) (hi : (Tryz.prog.info? 38).map (·.size) = some cs.size) :
  (results fn tmps).run Tryz.prog w = .ok (.tuple #[.agg cs,.int .i64 e]) w := by
 rw [results_cell_tmp hf,h2,h3]
 have := run_loadVar_row (P:=Tryz.prog) w g _ 38 cs _ _ hg Tryz.underlying38 rfl hi
 simp [asAddr,Result.andThen,this]
def EndR : Rs → Int → Bool → List (List Int) → Prop
 | .go k,wd,tr,a => wd = 0 ∧ tr = false ∧ a = k.arr
 | .over t w b _,wd,tr,a => wd = w ∧ tr = t ∧ a = b
theorem ResIs.ended {t : Rt} {sc : List (List UInt8 × Nat)} {W : World} {res : Rs} (h : ResIs t sc W res) : ∃ wd tr a ov wk,EndR res wd tr a ∧ Bk W t.R [.int .i64 wd,.bool tr,.slice (some ⟨t.AO,0,none⟩) a.length a.length,.bool ov,.int .i64 wk,.int .i64 0] 74 ∧ ArrM t W a := by
 cases res with
 | go k => exact ⟨0,false,k.arr,_,_,⟨rfl,rfl,rfl⟩,h.run,h.arr⟩
 | over tr wd a n => exact ⟨wd,tr,a,_,_,⟨rfl,rfl,rfl⟩,h.run,h.arr⟩
theorem ArrM.keep {t : Rt} {W W' : World} {arr : List (List Int)} (h : ArrM t W arr) (hb : ∀ b ∈ t.AO :: t.ab,W'.heap[b]? = W.heap[b]?) : ArrM t W' arr := fun i row hi => by
 obtain ⟨b,h1,h2,h3⟩ := h i row hi
 refine ⟨b,h1,by rw [World.cell?_of_block (hb t.AO (by simp))]; exact h2,?_⟩
 have := hb b (by simp [List.mem_of_getElem? h1])
 unfold Bk at h3 ⊢
 rw [this]; exact h3
theorem ArrI.arrM {w0 : World} {AO n : Nat} {ps : List (Nat × List Int)} {w' : World} (h : ArrI w0 AO n n ps w') (R M : Nat) : ArrM ⟨R,M,AO,ps.map Prod.fst⟩ w' (ps.map Prod.snd) := fun i row hi => by
 rw [List.getElem?_map,Option.map_eq_some_iff] at hi
 obtain ⟨p,hp,rfl⟩ := hi
 refine ⟨p.1,by rw [List.getElem?_map,hp]; rfl,?_,(h.at' p (List.mem_of_getElem? hp)).2⟩
 exact h.row.cell i (u:=slV p) (by rw [List.getElem?_append_left (by rw [List.length_map]; exact (List.getElem?_eq_some_iff.1 hp).1),List.getElem?_map,hp]; rfl)
structure RnP (rs ps : List Vr) (ws : List Int) (aa : List (List Int)) (body : List St) (w : World) (r : Ending) (w' : World) (wd : Int) (tr : Bool) (arr : List (List Int)) (AO : Nat) (ab : List Nat) : Prop where
 r : r = .returned (.tuple #[.agg #[.int .i64 wd,.bool tr,.slice (some ⟨AO,0,none⟩) arr.length arr.length],.int .i64 0])
 ev : EndR (evB (evS rs 9) body ⟨envOf ps ws,aa,0⟩) wd tr arr
 bel : Below w.heap.size w w'
 arr : ∀ R M,ArrM ⟨R,M,AO,ab⟩ w' arr
 len : ab.length = aa.length
 new : ∀ b ∈ AO :: ab,w.heap.size ≤ b ∧ b < w'.heap.size
def RunP (rs ps : List Vr) (ws : List Int) (aa : List (List Int)) (body : List St) (w : World) (r : Ending) (w' : World) : Prop := ∃ wd tr arr AO ab,RnP rs ps ws aa body w r w' wd tr arr AO ab
theorem GA.of {ps rs : List Vr} {ws : List Int} {aa : List (List Int)} (h : Shape ps rs ws aa) (k : AllW ws aa) : GA rs aa := ⟨h.a,fun i row v h1 h2 => h.s i v row h2 h1,k.2⟩
theorem envOf_words {ps : List Vr} {ws : List Int} {aa : List (List Int)} (k : AllW ws aa) : GE (envOf ps ws) := fun p hp => by
 unfold envOf at hp
 obtain ⟨i,hi⟩ := List.getElem?_of_mem hp
 rw [List.getElem?_zipWith] at hi
 split at hi
 ·cases hi
  exact k.1 _ (List.mem_of_getElem? (by assumption))
 ·cases hi
theorem envOf_names {ps : List Vr} {ws : List Int} (h : ws.length = ps.length) : (envOf ps ws).map Prod.fst = (ps.map nmOf).map Nm.name := by
 unfold envOf
 induction ps generalizing ws with
 | nil => simp
 | cons p ps ih =>
  cases ws with
  | nil => simp at h
  | cons x ws =>
   simp only [List.length_cons] at h
   simp only [List.zipWith_cons_cons,List.map_cons]
   rw [ih (by omega)]
   rfl
theorem run_fits (B : Nat) (ps rs : List Vr) (body : List St) (s1 s2 s3 : Value) (ws : List Int) (aa : List (List Int)) (gv : Value) (w : World) (hB : B ≤ w.heap.size) (h1 : VrIs w B ps s1) (h2 : VrIs w B rs s2) (h3 : StIs w B 10 11 body s3) (hg : GvIs w B ws aa gv) (hT : sumL aa ≤ 1048576) (hp4 : ps.length ≤ 100) (hroom : ps.length + szL 9 body ≤ 900) (hr : rs.length ≤ 1000) (hsm : ∀ v ∈ rs,v.size ≤ 8) (hwf : ∀ s ∈ body,wfS 9 s) (hS : Shape ps rs ws aa) (hA : AllW ws aa) (ks' : Ks) (hck : blockK (stmtK rs 9 false) body ⟨ps.map nmOf,0,0⟩ = .ok ks') :
  Calls Tryz.prog 12 #[.agg #[s1,s2,s3],gv] w fun r w' => RunP rs ps ws aa body w r w' := by
 obtain ⟨p1,n1,c1,rfl⟩ := h1.slice
 obtain ⟨p2,n2,c2,rfl⟩ := h2.slice
 obtain ⟨p3,n3,c3,rfl⟩ := h3.slice
 obtain ⟨t1,t2,rfl,hi,ha⟩ := hg
 obtain ⟨p4,n4,c4,rfl⟩ := hi.slice
 obtain ⟨p5,n5,c5,rfl⟩ := ha.slice
 obtain ⟨w0,hw0⟩ : ∃ y,w.alloc (.cells #[.slice p1 n1 c1,.slice p2 n2 c2,.slice p3 n3 c3] 29) = y := ⟨_,rfl⟩
 obtain ⟨w1,hw1⟩ : ∃ y,w0.alloc (.cells #[.slice p4 n4 c4,.slice p5 n5 c5] 25) = y := ⟨_,rfl⟩
 obtain ⟨w2,hw2⟩ : ∃ y,w1.alloc (.cells #[.int .i64 0,.bool false,.slice none 0 0] 38) = y := ⟨_,rfl⟩
 have z0 : w0.heap.size = w.heap.size + 1 := by rw [← hw0]; exact Array.size_push ..
 have z1 : w1.heap.size = w.heap.size + 2 := by rw [← hw1]; exact (Array.size_push ..).trans (by omega)
 have z2 : w2.heap.size = w.heap.size + 3 := by rw [← hw2]; exact (Array.size_push ..).trans (by omega)
 have b0 : Below w.heap.size w w0 := by rw [← hw0]; exact (Below.refl _ _).alloc (Nat.le_refl _) _
 have b1 : Below w0.heap.size w0 w1 := by rw [← hw1]; exact (Below.refl _ _).alloc (Nat.le_refl _) _
 have b2 : Below w1.heap.size w1 w2 := by rw [← hw2]; exact (Below.refl _ _).alloc (Nat.le_refl _) _
 have b12 := b1.trans (b2.mono b1.size)
 have b02 := b0.trans (b12.mono b0.size)
 have kF0 : Bk w0 w.heap.size [.slice p1 n1 c1,.slice p2 n2 c2,.slice p3 n3 c3] 29 := by rw [← hw0]; exact Bk.new _ _ _
 have kF := kF0.fs (Fs.of_below (l:=[]) b12) (by simp)
 have kG1 : Bk w1 w0.heap.size [.slice p4 n4 c4,.slice p5 n5 c5] 25 := by rw [← hw1]; exact Bk.new _ _ _
 have kG := kG1.fs (Fs.of_below (l:=[]) b2) (by simp)
 have kE : Bk w2 w1.heap.size [.int .i64 0,.bool false,.slice none 0 0] 38 := by rw [← hw2]; exact Bk.new _ _ _
 have HW0 := keep hw0
 have HW1 := keep hw1
 have HW2 := keep hw2
 have HZ : Hid (w0.heap.size = w.heap.size + 1 ∧ w1.heap.size = w.heap.size + 2 ∧ w2.heap.size = w.heap.size + 3) := ⟨z0,z1,z2⟩
 have HB02 := keep b02
 have HkF := keep kF
 have HkG := keep kG
 have HkE := keep kE
 have hfit := fits_any B ps rs (.slice p1 n1 c1) (.slice p2 n2 c2) (.slice p3 n3 c3) ws aa (.agg #[.slice p4 n4 c4,.slice p5 n5 c5]) w2 (Nat.le_trans hB b02.size) (h1.below (b02.mono hB)) (h2.below (b02.mono hB)) ⟨_,_,_,rfl⟩ ⟨_,_,rfl,hi.below (b02.mono hB),ha.below (b02.mono hB)⟩ (fun _ => hT)
 have HFit := keep hfit
 have HArr : Hid (∀ W,Below w2.heap.size w2 W → Calls Tryz.prog 11 #[.slice p5 n5 c5] W fun r w' => ∃ ps : List (Nat × List Int),r = .returned (.slice (some ⟨W.heap.size,0,none⟩) aa.length aa.length) ∧ ps.map Prod.snd = aa ∧ ArrI W W.heap.size aa.length aa.length ps w') := fun W hW => by
  have hb := b02.trans (hW.mono b02.size)
  exact arrays_any B aa (.slice p5 n5 c5) W (Nat.le_trans hB hb.size) (ha.below (hb.mono hB))
 have HProg : Hid (∀ W R AO ab,Below w.heap.size w W → (R :: AO :: ab).Nodup → (∀ b ∈ R :: AO :: ab,b < W.heap.size) → Calls Tryz.prog 33 #[.agg #[.slice p1 n1 c1,.slice p2 n2 c2,.slice p3 n3 c3],.slice p4 n4 c4,.pointer (some ⟨R,0,none⟩)] W fun r w' => ∃ v sc nv' Ls lo,r = .returned v ∧ PgP ⟨R,W.heap.size + 1,AO,ab⟩ rs ps ws body W v w' sc nv' Ls lo) := fun W R AO ab hb hnd hold =>
  program_make B R AO ab ps rs body _ _ _ ws _ W (Nat.le_trans hB hb.size) (h1.below (hb.mono hB)) (h2.below (hb.mono hB)) (h3.below (hb.mono hB)) (hi.below (hb.mono hB)) hS.w hp4 hroom hr hsm hwf hnd hold
 have HSA : Hid (Shape ps rs ws aa ∧ AllW ws aa) := ⟨hS,hA⟩
 have HCk : Hid (CkB rs 9 false (ps.map nmOf) body ⟨envOf ps ws,aa,0⟩) := by
  obtain ⟨k1,hk1⟩ := blockK_stmts hck
  exact ⟨⟨ps.map nmOf,0,0⟩,k1,rfl,Nat.zero_le _,Nat.zero_le _,hk1,envOf_names hS.w,Nat.le_refl _⟩
 have f0 := kF.cell 0 rfl
 have f1 := kF.cell 1 rfl
 have f2 := kF.cell 2 rfl
 have g0 := kG.cell 0 rfl
 have g1 := kG.cell 1 rfl
 clear hw0 hw1 hw2 z0 z1 z2 b0 b1 b2 b12 b02 kF0 kF kG1 kG kE hfit hi ha h1 h2 h3 hS hA hck hwf
 go_enter Tryz.func12,Tryz.ntmps12
 go_wp2_with (first | rw [HW0.out] | rw [HW1.out] | rw [HW2.out])
 refine HFit.out.mono ?_
 rintro r w3 ⟨c,rfl,hc,hb3⟩
 have hc0 : c = 0 := hc.same (.ok HSA.out.1 HSA.out.2)
 subst hc0
 have HB3 := keep hb3
 have g1 := (HkG.out.fs (Fs.of_below (l:=[]) hb3) (by simp)).cell 1 rfl
 clear hc hb3 HFit f0 f1 f2 g0
 go_wp2_with fail
 refine (HArr.out w3 HB3.out).mono ?_
 rintro r w4 ⟨pp,rfl,hpp,hI⟩
 obtain ⟨AO,hAO⟩ : ∃ y,w3.heap.size = y := ⟨_,rfl⟩
 rw [hAO] at hI
 have HAO := keep hAO
 have HPP := keep hpp
 have HI := keep hI
 obtain ⟨w5,hw5⟩ : ∃ y,w4.alloc (.cells #[.int .i64 0,.bool false,.slice (some ⟨AO,0,none⟩) aa.length aa.length,.bool false,.int .i64 0,.int .i64 0] 74) = y := ⟨_,rfl⟩
 obtain ⟨R,hR⟩ : ∃ y,w4.heap.size = y := ⟨_,rfl⟩
 have hz2 := HZ.out
 have hz3 := HB3.out.size
 have hAl := HI.out.lt
 have b4 : Below w3.heap.size w3 w4 := by rw [hAO]; exact HI.out.lo
 have b5 : Below w4.heap.size w4 w5 := by rw [← hw5]; exact (Below.refl _ _).alloc (Nat.le_refl _) _
 have z5 : w5.heap.size = w4.heap.size + 1 := by rw [← hw5]; exact Array.size_push ..
 have b35 := b4.trans (b5.mono b4.size)
 have b25 : Below w2.heap.size w2 w5 := HB3.out.trans (b35.mono HB3.out.size)
 have b05 := HB02.out.trans (b25.mono HB02.out.size)
 have kR : Bk w5 R [.int .i64 0,.bool false,.slice (some ⟨AO,0,none⟩) aa.length aa.length,.bool false,.int .i64 0,.int .i64 0] 74 := by rw [← hw5,← hR]; exact Bk.new _ _ _
 have kF5 := HkF.out.fs (Fs.of_below (l:=[]) b25) (by simp)
 have kG5 := HkG.out.fs (Fs.of_below (l:=[]) b25) (by simp)
 have HkE5 := keep (HkE.out.fs (Fs.of_below (l:=[]) b25) (by simp))
 have hnd : (R :: AO :: pp.map Prod.fst).Nodup := by
  rw [List.nodup_cons,List.nodup_cons]
  refine ⟨fun e => ?_,fun e => ?_,HI.out.nd⟩
  ·rcases List.mem_cons.1 e with e | e
   ·omega
   ·obtain ⟨p,hp,he⟩ := List.mem_map.1 e
    have := (HI.out.at' p hp).2.lt
    omega
  ·obtain ⟨p,hp,he⟩ := List.mem_map.1 e
   have := (HI.out.at' p hp).1
   omega
 have hold : ∀ b ∈ R :: AO :: pp.map Prod.fst,b < w5.heap.size ∧ w2.heap.size ≤ b := fun b hb => by
  rcases List.mem_cons.1 hb with rfl | hb
  ·omega
  ·rcases List.mem_cons.1 hb with rfl | hb
   ·omega
   ·obtain ⟨p,hp,rfl⟩ := List.mem_map.1 hb
    have q1 := (HI.out.at' p hp).1
    have q2 := (HI.out.at' p hp).2.lt
    omega
 have HPr := keep (HProg.out w5 R AO (pp.map Prod.fst) b05 hnd (fun b hb => (hold b hb).1))
 have HArM : Hid (∀ M,ArrM ⟨R,M,AO,pp.map Prod.fst⟩ w5 aa) := fun M => by
  have h := HI.out.arrM R M
  rw [HPP.out] at h
  refine h.keep fun b hb => b5.block b ?_
  rcases List.mem_cons.1 hb with rfl | hb
  ·exact hAl
  ·obtain ⟨p,hp,rfl⟩ := List.mem_map.1 hb
   exact (HI.out.at' p hp).2.lt
 have HB25 := keep b25
 have HB05 := keep b05
 have HkR := keep kR
 have HOld := keep hold
 have HLen : Hid (pp.length = aa.length) := by
  show _ = _
  rw [← HPP.out,List.length_map]
 have f0 := kF5.cell 0 rfl
 have f1 := kF5.cell 1 rfl
 have f2 := kF5.cell 2 rfl
 have g0 := kG5.cell 0 rfl
 have HW5 := keep hw5
 have HRe := keep hR
 clear hpp hI hw5 b4 b5 z5 b35 b25 b05 kR kF5 kG5 hnd hold g1 hz2 hz3 hAl HProg HArr HI
 go_wp2_with (first | rw [HW5.out] | rw [HRe.out])
 refine HPr.out.mono ?_
 rintro r w6 ⟨v,sc,nv',Ls,lo,rfl,hP⟩
 obtain ⟨t,ht⟩ : ∃ t : Rt,t = ⟨R,w5.heap.size + 1,AO,pp.map Prod.fst⟩ := ⟨_,rfl⟩
 rw [← ht] at hP
 have hRb : t.R = R := by rw [ht]
 have hRM : RM t sc w6 (envOf ps ws) aa (on 0) := by
  refine ⟨hP.mkr,?_,?_,hP.env⟩
  ·rw [ht]
   exact HkR.out.fs (Fs.of_below (l:=[]) hP.bel) (by simp)
  ·rw [ht]
   refine (HArM.out _).keep fun b hb => hP.bel.block b ?_
   exact (HOld.out b (List.mem_cons_of_mem _ hb)).1
 obtain ⟨hgl,k,d,⟨rfl,eg⟩,hcall⟩ := hP.good
 have HC := keep (hcall w6 ⟨fun i _ _ _ _ => rfl,hP.ints⟩ (Nat.le_refl _) ⟨envOf ps ws,aa,0⟩ hRM (envOf_words HSA.out.2) (GA.of HSA.out.1 HSA.out.2) HCk.out)
 have HBel6 := keep hP.bel
 have HChg : Hid (∀ c ∈ Chg t sc Ls,w2.heap.size ≤ c) := by
  intro c hc
  simp only [Chg,List.mem_cons,List.mem_append] at hc
  rcases hc with hc | (hc | hc) | hc
  ·exact (HOld.out c (by rw [hc,ht]; simp)).2
  ·rw [ht] at hc
   exact (HOld.out c (by simp only [List.mem_cons]; exact .inr (.inr hc))).2
  ·have := hP.new c (List.mem_append.2 (.inl hc))
   have := HB25.out.size
   omega
  ·have := hP.new c (List.mem_append.2 (.inr hc))
   have := HB25.out.size
   omega
 have HT := keep ht
 have HkE6 := keep (HkE5.out.fs (Fs.of_below (l:=[]) hP.bel) (by simp))
 clear hP hRM hcall HPr f0 f1 f2 g0 hgl hAO
 go_wp2_with fail
 refine HC.out.mono ?_
 rintro r w7 ⟨rfl,hf7,_,hr7⟩
 obtain ⟨wd,tr,arr,ov,wk,hE,hkR,hAr⟩ := hr7.ended
 rw [hRb] at hkR
 have hz := HZ.out
 have hE7 := HkE6.out.fs hf7 (fun hc => by have := HChg.out _ hc; omega)
 have HkE7 := keep hE7
 have eAO : t.AO = AO := by rw [HT.out]
 rw [eAO] at hkR
 have r5 := hkR.cell 5 rfl
 have r0 := hkR.cell 0 rfl
 have r1 := hkR.cell 1 rfl
 have r2 := hkR.cell 2 rfl
 obtain ⟨w8,hw8⟩ : ∃ y,w7.setRow w1.heap.size #[.int .i64 wd,.bool tr,.slice (some ⟨AO,0,none⟩) arr.length arr.length] = y := ⟨_,rfl⟩
 have HFin : Hid (RunP rs ps ws aa body w (.returned (.tuple #[.agg #[.int .i64 wd,.bool tr,.slice (some ⟨AO,0,none⟩) arr.length arr.length],.int .i64 0])) w8) := by
  have hlow : Below w.heap.size w w7 := by
   refine HB05.out.trans ((HBel6.out.mono HB05.out.size).trans ⟨hf7.os,hf7.tape,hf7.output,hf7.size,fun k hk => hf7.block k (by have := HBel6.out.size; have := HB05.out.size; omega) (fun hc => by have := HChg.out k hc; omega)⟩)
  have hsz8 : w8.heap.size = w7.heap.size := by rw [← hw8]; simp [World.setRow]
  have hz7 := hf7.size
  have hz6 := HBel6.out.size
  refine ⟨wd,tr,arr,AO,pp.map Prod.fst,rfl,hE,by rw [← hw8]; exact below_setRow hlow (by omega) _,fun R' M' => ?_,by rw [List.length_map]; exact HLen.out,fun b hb => ?_⟩
  ·have h := hAr.keep (W' := w8) fun b hb => by
    rw [← hw8]
    refine setRow_other w7 _ _ _ ?_
    rw [HT.out] at hb
    have := (HOld.out b (List.mem_cons_of_mem _ hb)).2
    omega
   rw [HT.out] at h
   exact h
  ·have := HOld.out b (List.mem_cons_of_mem _ hb)
   rw [hsz8]
   omega
 have HW8 := keep hw8
 clear hf7 hr7 hE hkR hAr hE7 hw8 hz HC HChg HkE6 HkE5 HBel6
 go_wp2_with (first
  | refine wpList_store_row rfl 38 (.tmp 4) (.tmp 40) rfl w1.heap.size #[.int .i64 wd,.bool tr,.slice (some ⟨AO,0,none⟩) arr.length arr.length] rfl rfl 38 #[.int .i64 0,.bool false,.slice none 0 0] HkE7.out (info_End [.int .i64 wd,.bool tr,.slice (some ⟨AO,0,none⟩) arr.length arr.length] rfl) rfl (by simp [Value.oneCell']) ?_)
 (try simp only [Exit.inBlock,Exit.then])
 refine bodyPost_ret (results_end rfl _ _ w1.heap.size #[.int .i64 wd,.bool tr,.slice (some ⟨AO,0,none⟩) arr.length arr.length] 0 rfl rfl (setRow_heap _ _ _ _ _ _ HkE7.out) (info_End [.int .i64 wd,.bool tr,.slice (some ⟨AO,0,none⟩) arr.length arr.length] rfl)) rfl ?_
 rw [HW8.out]
 exact HFin.out
end Go.Proofs.YtemdnmfldihalaaGreatDoor.Lr
