/- Whether what is given fits: flow's fits. Written by tools/gen_flfit.py. -/
import Derived.Test.YtpnacanbknejiaaFlChk
namespace Go.Proofs.Ytpnacanbknejiaa.Fl
set_option maxHeartbeats 32000000
set_option maxRecDepth 100000
set_option linter.unusedVariables false
set_option linter.unusedSimpArgs false
open Go.ChangeShapes Go.WideShapes Go.ChangeAt Go.RowKit Lg Lr
theorem madeC_at (z : Array Value) (N k : Nat) (hk : k < N) : (madeCells z N)[k]? = some z[k % z.size]! := by
 unfold madeCells
 rw [Array.getElem?_map,Array.getElem?_range,if_pos hk]; rfl
theorem var_info : (Try.prog.info? 82).map (fun i => (i.zero,i.size,i.bytes)) = some (some (.agg #[.string ⟨#[]⟩,.bool false,.int .i64 0]),3,32) := by kernel_rfl
def zV : Vr := ⟨[],false,0⟩
theorem make_vars (n : Nat) (hn : n ≤ 8796093022208) (w : World) : (Instr.makeSlice 24 (.int .i64 (n : Int)) (.int .i64 (n : Int))).run Try.prog w = .ok (.slice (some ⟨w.heap.size,0,none⟩) n n) (w.alloc (.cells (madeCells #[.string ⟨#[]⟩,.bool false,.int .i64 0] (n * 3)) 82)) := by
 obtain ⟨i,hi,hz0,hz1,hz2⟩ := info_parts var_info
 have h := run_make (P:=Try.prog) w 24 82 i (.agg #[.string ⟨#[]⟩,.bool false,.int .i64 0]) (by kernel_rfl) hi hz0 .i64 .i64 (n : Int) (n : Int) (by omega) (Int.le_refl _) (by rw [hz2]; omega) (by omega)
 rw [h,hz1,Int.toNat_natCast]
 rfl
theorem vars_zero (w : World) (n : Nat) (hn : n ≤ 8796093022208) : VrIs (w.alloc (.cells (madeCells #[.string ⟨#[]⟩,.bool false,.int .i64 0] (n * 3)) 82)) (w.heap.size + 1) (List.replicate n zV) (.slice (some ⟨w.heap.size,0,none⟩) n n) := by
 have hc : ∀ j i u,j < n → i < 3 → (#[Value.string ⟨#[]⟩,.bool false,.int .i64 0])[i]? = some u → (w.alloc (.cells (madeCells #[.string ⟨#[]⟩,.bool false,.int .i64 0] (n * 3)) 82)).cell? ⟨w.heap.size,0 + j * 3 + i,none⟩ = some u := fun j i u hj hi hu => by
  rw [World.cell?_alloc_new,madeC_at _ _ _ (by omega)]
  have e : (0 + j * 3 + i) % (#[Value.string ⟨#[]⟩,.bool false,.int .i64 0]).size = i := by
   show (0 + j * 3 + i) % 3 = i
   omega
  rw [e,getElem!_pos _ i (by simpa using hi)]
  rw [Array.getElem?_eq_getElem (by simpa using hi)] at hu
  exact hu
 refine ⟨_,n,n,rfl,by rw [List.length_replicate],Nat.le_refl _,by omega,fun j v hj => ?_⟩
 have hjl : j < n := by
  have := (List.getElem?_eq_some_iff.1 hj).1
  rw [List.length_replicate] at this; exact this
 rw [List.getElem?_replicate,if_pos hjl] at hj
 cases hj
 exact ⟨_,0,rfl,by omega,hc j 0 _ hjl (by omega) rfl,hc j 1 _ hjl (by omega) rfl,hc j 2 _ hjl (by omega) rfl⟩
def FtP (f : Fx) (ws : List Int) (aa : List (List Int)) (w : World) (r : Ending) (w' : World) : Prop := ∃ b : Bool,r = .returned (.bool b) ∧ (b = true ↔ Shape (List.replicate f.params.toNat zV) f.arrs ws aa ∧ AllW ws aa) ∧ Below w.heap.size w w'
theorem fit_any (B : Nat) (f : Fx) (s1 s2 s3 : Value) (ws : List Int) (aa : List (List Int)) (gv : Value) (w : World) (hB : B ≤ w.heap.size) (h : FxIs w B f s1 s2 s3) (hg : GvIs w B ws aa gv) (hp0 : 0 ≤ f.params) (hp1 : f.params ≤ 8796093022208) (hT : Shape (List.replicate f.params.toNat zV) f.arrs ws aa → sumL aa ≤ 1048576) :
  Calls Try.prog 44 #[.agg (fxA f s1 s2 s3),gv] w fun r w' => FtP f ws aa w r w' := by
 obtain ⟨p1,n1,c1,hs1,_⟩ := id h.code
 obtain ⟨p2,n2,c2,hs2,_⟩ := id h.sec
 obtain ⟨p3,n3,c3,hs3,_⟩ := id h.arrs
 subst hs1 hs2 hs3
 have HG0 := keep hg
 obtain ⟨t1,t2,rfl,hi,ha⟩ := hg
 obtain ⟨p4,n4,c4,hs4,_⟩ := id hi
 obtain ⟨p5,n5,c5,hs5,_⟩ := id ha
 subst hs4 hs5
 obtain ⟨pr,hpr⟩ : ∃ k : Nat,f.params = (k : Int) := ⟨f.params.toNat,by omega⟩
 have HPr := keep hpr
 rw [hpr] at hp0 hp1 hT
 rw [Int.toNat_natCast] at hT
 obtain ⟨w1,hw1⟩ : ∃ y,w.alloc (.cells #[.slice p1 n1 c1,.slice p2 n2 c2,.int .i64 (pr : Int),.slice p3 n3 c3] 26) = y := ⟨_,rfl⟩
 obtain ⟨w2,hw2⟩ : ∃ y,w1.alloc (.cells #[.slice p4 n4 c4,.slice p5 n5 c5] 33) = y := ⟨_,rfl⟩
 obtain ⟨F,hF⟩ : ∃ y,w.heap.size = y := ⟨_,rfl⟩
 obtain ⟨G,hG⟩ : ∃ y,w1.heap.size = y := ⟨_,rfl⟩
 have b1 : Below w.heap.size w w1 := by rw [← hw1]; exact (Below.refl _ _).alloc (Nat.le_refl _) _
 have b2 : Below w1.heap.size w1 w2 := by rw [← hw2]; exact (Below.refl _ _).alloc (Nat.le_refl _) _
 have b12 := b1.trans (b2.mono b1.size)
 have kF1 : Bk w1 F [.slice p1 n1 c1,.slice p2 n2 c2,.int .i64 (pr : Int),.slice p3 n3 c3] 26 := by rw [← hw1,← hF]; exact Bk.new _ _ _
 have kF := kF1.fs (Fs.of_below (l:=[]) b2) (by simp)
 have kG : Bk w2 G [.slice p4 n4 c4,.slice p5 n5 c5] 33 := by rw [← hw2,← hG]; exact Bk.new _ _ _
 have HSS : Hid (∀ W',Below w2.heap.size w2 W' → W'.cell? ⟨F,2,none⟩ = some (.int .i64 (pr : Int)) ∧ W'.cell? ⟨F,3,none⟩ = some (.slice p3 n3 c3) ∧ W'.cell? ⟨G,0,none⟩ = some (.slice p4 n4 c4) ∧ W'.cell? ⟨G,1,none⟩ = some (.slice p5 n5 c5)) := fun W' hW => by
  have q1 := kF.fs (Fs.of_below (l:=[]) hW) (by simp)
  have q2 := kG.fs (Fs.of_below (l:=[]) hW) (by simp)
  exact ⟨q1.cell 2 rfl,q1.cell 3 rfl,q2.cell 0 rfl,q2.cell 1 rfl⟩
 have HBw : Hid (∀ W,Below w2.heap.size w2 W → Below w.heap.size w W) := fun W hW => b12.trans (hW.mono b12.size)
 have HC : Hid (∀ W,Below w2.heap.size w2 W → Calls Try.prog 65 #[.agg #[.slice (some ⟨W.heap.size,0,none⟩) pr pr,.slice p3 n3 c3,.slice none 0 0],.agg #[.slice p4 n4 c4,.slice p5 n5 c5]] (W.alloc (.cells (madeCells #[.string ⟨#[]⟩,.bool false,.int .i64 0] (pr * 3)) 82)) fun r w' => FitP (List.replicate pr zV) f.arrs ws aa (W.alloc (.cells (madeCells #[.string ⟨#[]⟩,.bool false,.int .i64 0] (pr * 3)) 82)) r w') := fun W hW => by
  have hb := HBw.out W hW
  have hn : Below W.heap.size W (W.alloc (.cells (madeCells #[.string ⟨#[]⟩,.bool false,.int .i64 0] (pr * 3)) 82)) := (Below.refl _ _).alloc (Nat.le_refl _) _
  have hbn := (hb.trans (hn.mono hb.size)).mono hB
  have hs : (W.alloc (.cells (madeCells #[.string ⟨#[]⟩,.bool false,.int .i64 0] (pr * 3)) 82)).heap.size = W.heap.size + 1 := by simp
  refine fits_any (W.heap.size + 1) (List.replicate pr zV) f.arrs _ _ _ ws aa _ _ (by rw [hs]; exact Nat.le_refl _) (vars_zero W pr (by omega)) (VrIs_mono (h.arrs.below hbn) (by have := hb.size; omega)) ⟨_,_,_,rfl⟩ ?_ hT
  obtain ⟨u1,u2,e,i1,i2⟩ := HG0.out.below hbn
  exact ⟨u1,u2,e,i1.mono (by have := hb.size; omega),ArrsIs_mono i2 (by have := hb.size; omega)⟩
 have hmk := make_vars pr (by omega)
 have HMk := keep hmk
 have HW1 := keep hw1
 have HW2 := keep hw2
 have HF := keep hF
 have HG := keep hG
 have hz0 : (0 : Int) ≤ (pr : Int) := by omega
 unfold fxA
 rw [hpr]
 clear hw1 hw2 hF hG b1 b2 b12 kF1 kF kG hi ha hT hpr h hB hmk
 go_enter Try.func44,Try.ntmps44
 go_wp2_with (first | rw [HW1.out] | rw [HW2.out] | rw [HF.out] | rw [HG.out] | fail)
 refine wp_region_noPanic ?_
 refine Ord.wpM_begin (fun W' : World => W'.cell? ⟨F,2,none⟩ = some (.int .i64 (pr : Int)) ∧ W'.cell? ⟨F,3,none⟩ = some (.slice p3 n3 c3) ∧ W'.cell? ⟨G,0,none⟩ = some (.slice p4 n4 c4) ∧ W'.cell? ⟨G,1,none⟩ = some (.slice p5 n5 c5)) [0,1,2,3,4,5,6,7,8] (by kernel_rfl) ?_
 have HD : Hid (Below w2.heap.size w2 w2.drew) := Below.drew (Below.refl _ _)
 generalize w2.drew = wd at *
 have hS := HSS.out wd HD.out
 refine Ord.tk (i:=0) (v:=.pointer (some ⟨F,2,none⟩)) (hy:=Or.inl ⟨by rfl,by rintro W' ⟨q0,q1,q2,q3⟩; go_simp⟩) (hS:=hS) (h:=?_)
 try simp only [Act.put,Ord.t,Ord.z,Ord.s]
 refine Ord.tk (i:=1) (v:=.int .i64 (pr : Int)) (hy:=Or.inl ⟨by rfl,by rintro W' ⟨q0,q1,q2,q3⟩; go_simp⟩) (hS:=hS) (h:=?_)
 try simp only [Act.put,Ord.t,Ord.z,Ord.s]
 refine Ord.tk (i:=3) (v:=.pointer (some ⟨F,3,none⟩)) (hy:=Or.inl ⟨by rfl,by rintro W' ⟨q0,q1,q2,q3⟩; go_simp⟩) (hS:=hS) (h:=?_)
 try simp only [Act.put,Ord.t,Ord.z,Ord.s]
 refine Ord.tk (i:=4) (v:=.slice p3 n3 c3) (hy:=Or.inl ⟨by rfl,by rintro W' ⟨q0,q1,q2,q3⟩; go_simp⟩) (hS:=hS) (h:=?_)
 try simp only [Act.put,Ord.t,Ord.z,Ord.s]
 refine Ord.tk (i:=6) (v:=.agg #[.slice p4 n4 c4,.slice p5 n5 c5]) (hy:=Or.inl ⟨by rfl,by rintro W' ⟨q0,q1,q2,q3⟩; go_simp⟩) (hS:=hS) (h:=?_)
 try simp only [Act.put,Ord.t,Ord.z,Ord.s]
 have HC1 := keep (HC.out wd HD.out)
 have hmk := HMk.out wd
 obtain ⟨w3,hw3⟩ : ∃ y,wd.alloc (.cells (madeCells #[.string ⟨#[]⟩,.bool false,.int .i64 0] (pr * 3)) 82) = y := ⟨_,rfl⟩
 have HB3 : Hid (Below w2.heap.size w2 w3) := by show Below _ _ _; rw [← hw3]; exact HD.out.trans ((Below.refl _ _).alloc HD.out.size _)
 rw [hw3] at HC1 hmk
 clear hw3
 refine Ord.on (i:=2) (h:=fun K hK => ?_)
 go_simp
 refine hK.out _ _ (fun _ => HSS.out w3 HB3.out) ?_
 clear hK K
 try simp only [Act.put,Ord.t,Ord.z,Ord.s]
 have hS := HSS.out w3 HB3.out
 refine Ord.tk (i:=5) (v:=.agg #[.slice (some ⟨wd.heap.size,0,none⟩) pr pr,.slice p3 n3 c3,.slice none 0 0]) (hy:=Or.inl ⟨by rfl,by rintro W' ⟨q0,q1,q2,q3⟩; go_simp⟩) (hS:=hS) (h:=?_)
 try simp only [Act.put,Ord.t,Ord.z,Ord.s]
 refine Ord.on (i:=7) (h:=fun K hK => ?_)
 go_simp
 refine HC1.out.mono ?_
 rintro r w4 ⟨c,rfl,hc,hb4⟩
 have HB4 := keep (HB3.out.trans (hb4.mono HB3.out.size))
 go_simp
 refine hK.out _ _ (fun _ => HSS.out w4 HB4.out) ?_
 clear hK K
 try simp only [Act.put,Ord.t,Ord.z,Ord.s]
 have HE : Hid (FtP f ws aa w (.returned (.bool (c == 0))) w4) := by
  refine ⟨_,rfl,?_,HBw.out w4 HB4.out⟩
  rw [HPr.out,Int.toNat_natCast]
  cases hc with
  | many h => exact ⟨fun h => (by cases h),fun h' => absurd h'.1 h⟩
  | range h1 h2 => exact ⟨fun h => (by cases h),fun h' => absurd h'.2 h2⟩
  | ok h1 h2 => exact ⟨fun _ => ⟨h1,h2⟩,fun _ => rfl⟩
 clear hc hb4
 refine Ord.on (i:=8) (h:=fun K hK => ?_)
 go_simp
 refine hK.out _ _ (fun _ => HSS.out w4 HB4.out) ?_
 clear hK K
 try simp only [Act.put,Ord.t,Ord.z,Ord.s]
 refine Ord.on (i:=9) (h:=fun K hK => ?_)
 go_simp
 refine hK.out _ _ (fun h => absurd h (by decide)) ?_
 clear hK K
 try simp only [Act.put,Ord.t,Ord.z,Ord.s]
 refine Ord.wpM_done (by kernel_rfl) ?_ _
 refine NoPanic.normal ?_
 clear HC HC1 HSS hS HMk hmk
 go_wp2
 go_ret
 exact HE.out
end Go.Proofs.Ytpnacanbknejiaa.Fl
