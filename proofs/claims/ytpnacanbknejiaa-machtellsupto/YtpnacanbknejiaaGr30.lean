/- Laid together: FlAlive, FlLeaks. -/
import Derived.Test.YtpnacanbknejiaaGr19
namespace Go.Proofs.Ytpnacanbknejiaa.Fl
set_option linter.unusedVariables false
set_option linter.unusedSimpArgs false
open Go.ChangeShapes Go.WideShapes Go.ChangeAt Go.RowKit Lg Lr
def i8 : Ix := ⟨8,1,0,0,0,0⟩
def i20 : Ix := ⟨20,0,1,0,0,0⟩
def fA : Fx := ⟨[i8,i20],[true,true],1,[]⟩
theorem lks_slice {w : World} {B : Nat} {ls : List Lk} {v : Value} (h : LksIs w B ls v) : ∃ p c,v = .slice p ls.length c := by
 obtain ⟨p,n,cap,h1,h2,_⟩ := h
 exact ⟨p,cap,by rw [h1,h2]⟩
set_option maxHeartbeats 32000000
set_option maxRecDepth 100000
theorem LksIs.mono {w : World} {B B' : Nat} {ls : List Lk} {v : Value} (h : LksIs w B ls v) (hB : B ≤ B') : LksIs w B' ls v := by
 obtain ⟨p,n,cap,h1,h2,h3,h4,h5⟩ := h
 refine ⟨p,n,cap,h1,h2,h3,h4,fun j x hj => ?_⟩
 obtain ⟨g,o,s,k1,k2,k3,k4,k5,k6⟩ := h5 j x hj
 exact ⟨g,o,s,k1,by omega,k3,k4,k5,k6.mono hB⟩
theorem sameLeaks_any (B : Nat) (ls : List Lk) (v1 v2 : Value) (w : World) (hB : B ≤ w.heap.size) (h1 : LksIs w B ls v1) (h2 : LksIs w B ls v2) :
  Calls Try.prog 25 #[v1,v2] w fun r w' => r = .returned (.bool true) ∧ Below w.heap.size w w' := by
 obtain ⟨p1,cap1,rfl⟩ := lks_slice h1
 obtain ⟨p2,cap2,rfl⟩ := lks_slice h2
 have HA := keep h1
 have HC := keep h2
 have HB0 := keep hB
 have HL : Hid (ls.length ≤ 281474976710656) := by obtain ⟨_,_,_,e,q5,_,q7,_⟩ := h1; cases e; exact q7
 obtain ⟨n,hn⟩ : ∃ n,ls.length = n := ⟨_,rfl⟩
 rw [hn] at HA HC HL
 rw [hn]
 have HN := keep hn
 clear h1 h2 hB hn
 go_enter Try.func25,Try.ntmps25
 go_wp2
 go_loopw [13] (fun i wx => ∃ j : Nat,j ≤ n ∧ i = .int .i64 (j : Int) ∧ Below w.heap.size w wx) (fun i _ => n - (intOf i).toNat)
 case atStart => exact ⟨0,by omega,rfl,Below.refl _ _⟩
 case round =>
  obtain ⟨j,hjn,rfl,hbx⟩ := hrel
  have HX := keep hbx
  by_cases hjl : j < n
  ·have d1 : decide ((j : Int) < (n : Int)) = true := decide_eq_true (by omega)
   have hjz : (j : Int) < (n : Int) := by omega
   have hj0 : (0 : Int) ≤ (j : Int) := by omega
   obtain ⟨l,hl⟩ : ∃ l,ls[j]? = some l := ⟨_,List.getElem?_eq_getElem (by rw [HN.out]; exact hjl)⟩
   have A := HA.out.below (hbx.mono HB0.out)
   have C := HC.out.below (hbx.mono HB0.out)
   obtain ⟨q1,q2,q3,q4,q5,q6,q7,q8⟩ := A
   cases q4
   obtain ⟨g,o,s,rfl,hgB,c0,c1,c2,hi⟩ := q8 j l hl
   obtain ⟨y1,y2,y3,y4,y5,y6,y7,y8⟩ := C
   cases y4
   obtain ⟨g',o',s',rfl,hgB',c0',c1',c2',hi'⟩ := y8 j l hl
   obtain ⟨px,nx,cx,rfl⟩ := hi.slice
   obtain ⟨py,ny,cy,rfl⟩ := hi'.slice
   have hwr : IntKind.i64.wrap ((j : Int) + 1) = (j : Int) + 1 := by rw [IntKind.wrap_i64]; have := HL.out; omega
   have hBw : B ≤ wr.heap.size := Nat.le_trans HB0.out hbx.size
   have HSi : Hid (∀ W,Below wr.heap.size wr W → Calls Try.prog 11 #[.slice px nx cx,.slice py ny cy] W fun r w' => r = .returned (.bool true) ∧ Below W.heap.size W w') := fun W hW =>
    (sameInts_any B l.vs l.vs _ _ W (Nat.le_trans hBw hW.size) (hi.below (hW.mono hBw)) (hi'.below (hW.mono hBw))).mono fun r w' ⟨b,hr,hb,hw⟩ => ⟨by rw [hr,hb.2 rfl],hw⟩
   obtain ⟨la,hla⟩ : ∃ y,(l.at' : Int) = y := ⟨_,rfl⟩
   obtain ⟨lo,hlo⟩ : ∃ y,l.op = y := ⟨_,rfl⟩
   rw [hla] at c0 c0'
   rw [hlo] at c1 c1'
   have HSS : Hid (∀ W',Below wr.heap.size wr W' → W'.cell? ⟨g,o + j * 3,none⟩ = some (.int .i64 la) ∧ W'.cell? ⟨g,o + j * 3 + 1,none⟩ = some (.int .i64 lo) ∧ W'.cell? ⟨g,o + j * 3 + 2,none⟩ = some (.slice px nx cx) ∧ W'.cell? ⟨g',o' + j * 3,none⟩ = some (.int .i64 la) ∧ W'.cell? ⟨g',o' + j * 3 + 1,none⟩ = some (.int .i64 lo) ∧ W'.cell? ⟨g',o' + j * 3 + 2,none⟩ = some (.slice py ny cy)) := fun W' hW => ⟨keep_cell hW c0,keep_cell hW c1,keep_cell hW c2,keep_cell hW c0',keep_cell hW c1',keep_cell hW c2'⟩
   clear q8 y8 hl hgB hgB' hbx hla hlo hi hi' hBw
   go_wp2_with fail
   refine wp_region_noPanic ?_
   refine Ord.wpM_begin (fun W' : World => W'.cell? ⟨g,o + j * 3,none⟩ = some (.int .i64 la) ∧ W'.cell? ⟨g,o + j * 3 + 1,none⟩ = some (.int .i64 lo) ∧ W'.cell? ⟨g,o + j * 3 + 2,none⟩ = some (.slice px nx cx) ∧ W'.cell? ⟨g',o' + j * 3,none⟩ = some (.int .i64 la) ∧ W'.cell? ⟨g',o' + j * 3 + 1,none⟩ = some (.int .i64 lo) ∧ W'.cell? ⟨g',o' + j * 3 + 2,none⟩ = some (.slice py ny cy)) [0,1,2,3,4,5,6,7,8,9,10,11,12,13,14,15,16,17,18,19,20,21,22,23,24,25,26,27,28,29,30,31,32,33,34,35,36,37] (by kernel_rfl) ?_
   have HD : Hid (Below wr.heap.size wr wr.drew) := Below.drew (Below.refl _ _)
   generalize wr.drew = wd at *
   have hS := HSS.out wd HD.out
   refine Ord.tk (i:=0) (v:=.slice (some ⟨g,o,none⟩) n cap1) (hy:=Or.inl ⟨by rfl,by rintro W' ⟨q0,q1,q2,q3,q4,q5⟩; go_simp⟩) (hS:=hS) (h:=?_)
   try simp only [Act.put,Ord.t,Ord.z,Ord.s]
   refine Ord.tk (i:=1) (v:=.int .i64 (j : Int)) (hy:=Or.inl ⟨by rfl,by rintro W' ⟨q0,q1,q2,q3,q4,q5⟩; go_simp⟩) (hS:=hS) (h:=?_)
   try simp only [Act.put,Ord.t,Ord.z,Ord.s]
   refine Ord.tk (i:=2) (v:=.pointer (some ⟨g,o + j * 3,none⟩)) (hy:=Or.inl ⟨by rfl,by rintro W' ⟨q0,q1,q2,q3,q4,q5⟩; go_simp⟩) (hS:=hS) (h:=?_)
   try simp only [Act.put,Ord.t,Ord.z,Ord.s]
   refine Ord.tk (i:=3) (v:=.pointer (some ⟨g,o + j * 3,none⟩)) (hy:=Or.inl ⟨by rfl,by rintro W' ⟨q0,q1,q2,q3,q4,q5⟩; go_simp⟩) (hS:=hS) (h:=?_)
   try simp only [Act.put,Ord.t,Ord.z,Ord.s]
   refine Ord.tk (i:=4) (v:=.int .i64 la) (hy:=Or.inl ⟨by rfl,by rintro W' ⟨q0,q1,q2,q3,q4,q5⟩; go_simp⟩) (hS:=hS) (h:=?_)
   try simp only [Act.put,Ord.t,Ord.z,Ord.s]
   refine Ord.tk (i:=5) (v:=.slice (some ⟨g',o',none⟩) n cap2) (hy:=Or.inl ⟨by rfl,by rintro W' ⟨q0,q1,q2,q3,q4,q5⟩; go_simp⟩) (hS:=hS) (h:=?_)
   try simp only [Act.put,Ord.t,Ord.z,Ord.s]
   refine Ord.tk (i:=6) (v:=.int .i64 (j : Int)) (hy:=Or.inl ⟨by rfl,by rintro W' ⟨q0,q1,q2,q3,q4,q5⟩; go_simp⟩) (hS:=hS) (h:=?_)
   try simp only [Act.put,Ord.t,Ord.z,Ord.s]
   refine Ord.tk (i:=7) (v:=.pointer (some ⟨g',o' + j * 3,none⟩)) (hy:=Or.inl ⟨by rfl,by rintro W' ⟨q0,q1,q2,q3,q4,q5⟩; go_simp⟩) (hS:=hS) (h:=?_)
   try simp only [Act.put,Ord.t,Ord.z,Ord.s]
   refine Ord.tk (i:=8) (v:=.pointer (some ⟨g',o' + j * 3,none⟩)) (hy:=Or.inl ⟨by rfl,by rintro W' ⟨q0,q1,q2,q3,q4,q5⟩; go_simp⟩) (hS:=hS) (h:=?_)
   try simp only [Act.put,Ord.t,Ord.z,Ord.s]
   refine Ord.tk (i:=9) (v:=.int .i64 la) (hy:=Or.inl ⟨by rfl,by rintro W' ⟨q0,q1,q2,q3,q4,q5⟩; go_simp⟩) (hS:=hS) (h:=?_)
   try simp only [Act.put,Ord.t,Ord.z,Ord.s]
   refine Ord.tk (i:=10) (v:=.bool false) (hy:=Or.inl ⟨by rfl,by rintro W' ⟨q0,q1,q2,q3,q4,q5⟩; go_simp⟩) (hS:=hS) (h:=?_)
   try simp only [Act.put,Ord.t,Ord.z,Ord.s]
   refine Ord.tk (i:=11) (v:=.bool false) (hy:=Or.inl ⟨by rfl,by rintro W' ⟨q0,q1,q2,q3,q4,q5⟩; go_simp⟩) (hS:=hS) (h:=?_)
   try simp only [Act.put,Ord.t,Ord.z,Ord.s]
   refine Ord.tk (i:=12) (v:=.slice (some ⟨g,o,none⟩) n cap1) (hy:=Or.inl ⟨by rfl,by rintro W' ⟨q0,q1,q2,q3,q4,q5⟩; go_simp⟩) (hS:=hS) (h:=?_)
   try simp only [Act.put,Ord.t,Ord.z,Ord.s]
   refine Ord.tk (i:=13) (v:=.int .i64 (j : Int)) (hy:=Or.inl ⟨by rfl,by rintro W' ⟨q0,q1,q2,q3,q4,q5⟩; go_simp⟩) (hS:=hS) (h:=?_)
   try simp only [Act.put,Ord.t,Ord.z,Ord.s]
   refine Ord.tk (i:=14) (v:=.pointer (some ⟨g,o + j * 3,none⟩)) (hy:=Or.inl ⟨by rfl,by rintro W' ⟨q0,q1,q2,q3,q4,q5⟩; go_simp⟩) (hS:=hS) (h:=?_)
   try simp only [Act.put,Ord.t,Ord.z,Ord.s]
   refine Ord.tk (i:=15) (v:=.pointer (some ⟨g,o + j * 3 + 1,none⟩)) (hy:=Or.inl ⟨by rfl,by rintro W' ⟨q0,q1,q2,q3,q4,q5⟩; go_simp⟩) (hS:=hS) (h:=?_)
   try simp only [Act.put,Ord.t,Ord.z,Ord.s]
   refine Ord.tk (i:=16) (v:=.int .i64 lo) (hy:=Or.inl ⟨by rfl,by rintro W' ⟨q0,q1,q2,q3,q4,q5⟩; go_simp⟩) (hS:=hS) (h:=?_)
   try simp only [Act.put,Ord.t,Ord.z,Ord.s]
   refine Ord.tk (i:=17) (v:=.slice (some ⟨g',o',none⟩) n cap2) (hy:=Or.inl ⟨by rfl,by rintro W' ⟨q0,q1,q2,q3,q4,q5⟩; go_simp⟩) (hS:=hS) (h:=?_)
   try simp only [Act.put,Ord.t,Ord.z,Ord.s]
   refine Ord.tk (i:=18) (v:=.int .i64 (j : Int)) (hy:=Or.inl ⟨by rfl,by rintro W' ⟨q0,q1,q2,q3,q4,q5⟩; go_simp⟩) (hS:=hS) (h:=?_)
   try simp only [Act.put,Ord.t,Ord.z,Ord.s]
   refine Ord.tk (i:=19) (v:=.pointer (some ⟨g',o' + j * 3,none⟩)) (hy:=Or.inl ⟨by rfl,by rintro W' ⟨q0,q1,q2,q3,q4,q5⟩; go_simp⟩) (hS:=hS) (h:=?_)
   try simp only [Act.put,Ord.t,Ord.z,Ord.s]
   refine Ord.tk (i:=20) (v:=.pointer (some ⟨g',o' + j * 3 + 1,none⟩)) (hy:=Or.inl ⟨by rfl,by rintro W' ⟨q0,q1,q2,q3,q4,q5⟩; go_simp⟩) (hS:=hS) (h:=?_)
   try simp only [Act.put,Ord.t,Ord.z,Ord.s]
   refine Ord.tk (i:=21) (v:=.int .i64 lo) (hy:=Or.inl ⟨by rfl,by rintro W' ⟨q0,q1,q2,q3,q4,q5⟩; go_simp⟩) (hS:=hS) (h:=?_)
   try simp only [Act.put,Ord.t,Ord.z,Ord.s]
   refine Ord.tk (i:=22) (v:=.bool false) (hy:=Or.inl ⟨by rfl,by rintro W' ⟨q0,q1,q2,q3,q4,q5⟩; go_simp⟩) (hS:=hS) (h:=?_)
   try simp only [Act.put,Ord.t,Ord.z,Ord.s]
   refine Ord.tk (i:=23) (v:=.bool false) (hy:=Or.inl ⟨by rfl,by rintro W' ⟨q0,q1,q2,q3,q4,q5⟩; go_simp⟩) (hS:=hS) (h:=?_)
   try simp only [Act.put,Ord.t,Ord.z,Ord.s]
   refine Ord.tk (i:=24) (v:=.bool false) (hy:=Or.inl ⟨by rfl,by rintro W' ⟨q0,q1,q2,q3,q4,q5⟩; go_simp⟩) (hS:=hS) (h:=?_)
   try simp only [Act.put,Ord.t,Ord.z,Ord.s]
   refine Ord.tk (i:=25) (v:=.slice (some ⟨g,o,none⟩) n cap1) (hy:=Or.inl ⟨by rfl,by rintro W' ⟨q0,q1,q2,q3,q4,q5⟩; go_simp⟩) (hS:=hS) (h:=?_)
   try simp only [Act.put,Ord.t,Ord.z,Ord.s]
   refine Ord.tk (i:=26) (v:=.int .i64 (j : Int)) (hy:=Or.inl ⟨by rfl,by rintro W' ⟨q0,q1,q2,q3,q4,q5⟩; go_simp⟩) (hS:=hS) (h:=?_)
   try simp only [Act.put,Ord.t,Ord.z,Ord.s]
   refine Ord.tk (i:=27) (v:=.pointer (some ⟨g,o + j * 3,none⟩)) (hy:=Or.inl ⟨by rfl,by rintro W' ⟨q0,q1,q2,q3,q4,q5⟩; go_simp⟩) (hS:=hS) (h:=?_)
   try simp only [Act.put,Ord.t,Ord.z,Ord.s]
   refine Ord.tk (i:=28) (v:=.pointer (some ⟨g,o + j * 3 + 2,none⟩)) (hy:=Or.inl ⟨by rfl,by rintro W' ⟨q0,q1,q2,q3,q4,q5⟩; go_simp⟩) (hS:=hS) (h:=?_)
   try simp only [Act.put,Ord.t,Ord.z,Ord.s]
   refine Ord.tk (i:=29) (v:=.slice px nx cx) (hy:=Or.inl ⟨by rfl,by rintro W' ⟨q0,q1,q2,q3,q4,q5⟩; go_simp⟩) (hS:=hS) (h:=?_)
   try simp only [Act.put,Ord.t,Ord.z,Ord.s]
   refine Ord.tk (i:=30) (v:=.slice (some ⟨g',o',none⟩) n cap2) (hy:=Or.inl ⟨by rfl,by rintro W' ⟨q0,q1,q2,q3,q4,q5⟩; go_simp⟩) (hS:=hS) (h:=?_)
   try simp only [Act.put,Ord.t,Ord.z,Ord.s]
   refine Ord.tk (i:=31) (v:=.int .i64 (j : Int)) (hy:=Or.inl ⟨by rfl,by rintro W' ⟨q0,q1,q2,q3,q4,q5⟩; go_simp⟩) (hS:=hS) (h:=?_)
   try simp only [Act.put,Ord.t,Ord.z,Ord.s]
   refine Ord.tk (i:=32) (v:=.pointer (some ⟨g',o' + j * 3,none⟩)) (hy:=Or.inl ⟨by rfl,by rintro W' ⟨q0,q1,q2,q3,q4,q5⟩; go_simp⟩) (hS:=hS) (h:=?_)
   try simp only [Act.put,Ord.t,Ord.z,Ord.s]
   refine Ord.tk (i:=33) (v:=.pointer (some ⟨g',o' + j * 3 + 2,none⟩)) (hy:=Or.inl ⟨by rfl,by rintro W' ⟨q0,q1,q2,q3,q4,q5⟩; go_simp⟩) (hS:=hS) (h:=?_)
   try simp only [Act.put,Ord.t,Ord.z,Ord.s]
   refine Ord.tk (i:=34) (v:=.slice py ny cy) (hy:=Or.inl ⟨by rfl,by rintro W' ⟨q0,q1,q2,q3,q4,q5⟩; go_simp⟩) (hS:=hS) (h:=?_)
   try simp only [Act.put,Ord.t,Ord.z,Ord.s]
   refine Ord.on (i:=35) (h:=fun K hK => ?_)
   go_simp
   refine (HSi.out wd HD.out).mono ?_
   rintro r w7 ⟨rfl,hb7⟩
   have HD := keep (HD.out.trans (hb7.mono HD.out.size))
   have hS := HSS.out w7 HD.out
   clear hb7
   go_simp
   refine hK.out _ _ (fun _ => hS) ?_
   clear hK K
   try simp only [Act.put,Ord.t,Ord.z,Ord.s]
   refine Ord.tk (i:=36) (v:=.bool false) (hy:=Or.inl ⟨by rfl,by rintro W' ⟨q0,q1,q2,q3,q4,q5⟩; go_simp⟩) (hS:=hS) (h:=?_)
   try simp only [Act.put,Ord.t,Ord.z,Ord.s]
   refine Ord.tk (i:=37) (v:=.bool false) (hy:=Or.inl ⟨by rfl,by rintro W' ⟨q0,q1,q2,q3,q4,q5⟩; go_simp⟩) (hS:=hS) (h:=?_)
   try simp only [Act.put,Ord.t,Ord.z,Ord.s]
   refine Ord.wpM_done (by kernel_rfl) ?_ _
   refine NoPanic.normal ?_
   clear HSS hS c0 c1 c0' c1' c2 c2'
   go_wp2
   go_roundw
   case rel => exact ⟨j + 1,by omega,by go_num,HX.out.trans (HD.out.mono HX.out.size)⟩
   case measure => simp [intOf]; omega
  ·have hje : j = n := by omega
   subst hje
   have dl : decide ((j : Int) < (j : Int)) = false := decide_eq_false (by omega)
   clear hjl hbx
   go_wp2
   go_ret
   exact ⟨rfl,HX.out⟩
end Go.Proofs.Ytpnacanbknejiaa.Fl
