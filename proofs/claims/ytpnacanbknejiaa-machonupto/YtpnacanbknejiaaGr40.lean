/- Laid together: FlLeaks, FrSame, MhSame, FrNew. -/
import Derived.Test.YtpnacanbknejiaaFlAlive
import Derived.Test.YtpnacanbknejiaaLfRfit
import Derived.Test.YtpnacanbknejiaaMhAll
import Derived.Test.YtpnacanbknejiaaFrMach
namespace Go.Proofs.Ytpnacanbknejiaa.Fl
set_option linter.unusedVariables false
set_option linter.unusedSimpArgs false
open Go.ChangeShapes Go.WideShapes Go.ChangeAt Go.RowKit Lg Lr
theorem LksIs.mono {w : World} {B B' : Nat} {ls : List Lk} {v : Value} (h : LksIs w B ls v) (hB : B ≤ B') : LksIs w B' ls v := by
 obtain ⟨p,n,cap,h1,h2,h3,h4,h5⟩ := h
 refine ⟨p,n,cap,h1,h2,h3,h4,fun j x hj => ?_⟩
 obtain ⟨g,o,s,k1,k2,k3,k4,k5,k6⟩ := h5 j x hj
 exact ⟨g,o,s,k1,by omega,k3,k4,k5,k6.mono hB⟩
set_option maxHeartbeats 32000000
set_option maxRecDepth 100000
theorem sameArrays_any (B : Nat) (aa : List (List Int)) (v1 v2 : Value) (w : World) (hB : B ≤ w.heap.size) (h1 : ArrsIs w B aa v1) (h2 : ArrsIs w B aa v2) :
  Calls Try.prog 50 #[v1,v2] w fun r w' => r = .returned (.bool true) ∧ Below w.heap.size w w' := by
 have H1 : Hid (∀ W,Below w.heap.size w W → ArrsIs W B aa v1) := fun W hW => h1.below (hW.mono hB)
 have H2 : Hid (∀ W,Below w.heap.size w W → ArrsIs W B aa v2) := fun W hW => h2.below (hW.mono hB)
 obtain ⟨p1,n1,c1,rfl,hl1,_,hb1,_⟩ := h1
 obtain ⟨p2,n2,c2,rfl,hl2,_,_,_⟩ := h2
 obtain rfl : n2 = n1 := by omega
 have HL := keep hl1
 have HBB := keep hB
 clear hl1 hl2 hB
 go_enter Try.func50,Try.ntmps50
 go_wp2
 go_loopw [13] (fun i wx => ∃ j : Nat,j ≤ n2 ∧ i = .int .i64 (j : Int) ∧ Below w.heap.size w wx) (fun i _ => n2 - (intOf i).toNat)
 case atStart => exact ⟨0,by omega,rfl,Below.refl _ _⟩
 case round =>
  obtain ⟨j,hjn,rfl,hbx⟩ := hrel
  have HX := keep hbx
  clear hbx
  by_cases hjl : j < n2
  ·have d1 : decide ((j : Int) < (n2 : Int)) = true := decide_eq_true (by omega)
   have hjz : (j : Int) < (n2 : Int) := by omega
   have hj0 : (0 : Int) ≤ (j : Int) := by omega
   have hwr : IntKind.i64.wrap ((j : Int) + 1) = (j : Int) + 1 := by rw [IntKind.wrap_i64]; omega
   obtain ⟨l,hl⟩ : ∃ l,aa[j]? = some l := ⟨_,List.getElem?_eq_getElem (by rw [HL.out]; exact hjl)⟩
   obtain ⟨_,_,_,e1,_,_,_,q1⟩ := H1.out wr HX.out
   cases e1
   obtain ⟨g,o,s,rfl,hg,hs,hi⟩ := q1 j l hl
   obtain ⟨_,_,_,e2,_,_,_,q2⟩ := H2.out wr HX.out
   cases e2
   obtain ⟨g',o',s',rfl,hg',hs',hi'⟩ := q2 j l hl
   obtain ⟨pa,na,ca,rfl⟩ := hi.slice
   obtain ⟨pb,nb,cb,rfl⟩ := hi'.slice
   have HSS : Hid (∀ W',Below wr.heap.size wr W' → W'.cell? ⟨g,o + j,none⟩ = some (.slice pa na ca) ∧ W'.cell? ⟨g',o' + j,none⟩ = some (.slice pb nb cb)) := fun W' hW => ⟨by rw [cell_below hW (by have := HX.out.size; have := HBB.out; omega)]; exact hs,by rw [cell_below hW (by have := HX.out.size; have := HBB.out; omega)]; exact hs'⟩
   have HC := keep (fun W (hW : Below wr.heap.size wr W) => sameInts_any B l l _ _ W (by have := HX.out.size; have := hW.size; have := HBB.out; omega) (hi.below (hW.mono (by have := HX.out.size; have := HBB.out; omega))) (hi'.below (hW.mono (by have := HX.out.size; have := HBB.out; omega))))
   clear hl q1 q2 hs hs' hi hi' hg hg'
   go_wp2_with fail
   refine wp_region_noPanic ?_
   refine Ord.wpM_begin (fun W' : World => W'.cell? ⟨g,o + j,none⟩ = some (.slice pa na ca) ∧ W'.cell? ⟨g',o' + j,none⟩ = some (.slice pb nb cb)) [0,1,2,3,4,5,6,7,8,9] (by kernel_rfl) ?_
   have HD : Hid (Below wr.heap.size wr wr.drew) := Below.drew (Below.refl _ _)
   generalize wr.drew = wd at *
   have hS := HSS.out wd HD.out
   refine Ord.tk (i:=0) (v:=.slice (some ⟨g,o,none⟩) n2 c1) (hy:=Or.inl ⟨by rfl,by rintro W' ⟨q0,q1⟩; go_simp⟩) (hS:=hS) (h:=?_)
   try simp only [Act.put,Ord.t,Ord.z,Ord.s]
   refine Ord.tk (i:=1) (v:=.int .i64 (j : Int)) (hy:=Or.inl ⟨by rfl,by rintro W' ⟨q0,q1⟩; go_simp⟩) (hS:=hS) (h:=?_)
   try simp only [Act.put,Ord.t,Ord.z,Ord.s]
   refine Ord.tk (i:=2) (v:=.pointer (some ⟨g,o + j,none⟩)) (hy:=Or.inl ⟨by rfl,by rintro W' ⟨q0,q1⟩; go_simp⟩) (hS:=hS) (h:=?_)
   try simp only [Act.put,Ord.t,Ord.z,Ord.s]
   refine Ord.tk (i:=3) (v:=.slice pa na ca) (hy:=Or.inl ⟨by rfl,by rintro W' ⟨q0,q1⟩; go_simp⟩) (hS:=hS) (h:=?_)
   try simp only [Act.put,Ord.t,Ord.z,Ord.s]
   refine Ord.tk (i:=4) (v:=.slice (some ⟨g',o',none⟩) n2 c2) (hy:=Or.inl ⟨by rfl,by rintro W' ⟨q0,q1⟩; go_simp⟩) (hS:=hS) (h:=?_)
   try simp only [Act.put,Ord.t,Ord.z,Ord.s]
   refine Ord.tk (i:=5) (v:=.int .i64 (j : Int)) (hy:=Or.inl ⟨by rfl,by rintro W' ⟨q0,q1⟩; go_simp⟩) (hS:=hS) (h:=?_)
   try simp only [Act.put,Ord.t,Ord.z,Ord.s]
   refine Ord.tk (i:=6) (v:=.pointer (some ⟨g',o' + j,none⟩)) (hy:=Or.inl ⟨by rfl,by rintro W' ⟨q0,q1⟩; go_simp⟩) (hS:=hS) (h:=?_)
   try simp only [Act.put,Ord.t,Ord.z,Ord.s]
   refine Ord.tk (i:=7) (v:=.slice pb nb cb) (hy:=Or.inl ⟨by rfl,by rintro W' ⟨q0,q1⟩; go_simp⟩) (hS:=hS) (h:=?_)
   try simp only [Act.put,Ord.t,Ord.z,Ord.s]
   refine Ord.on (i:=8) (h:=fun K hK => ?_)
   go_simp
   refine (HC.out wd HD.out).mono ?_
   rintro r we ⟨q,rfl,hq,hbe⟩
   obtain rfl : q = true := hq.2 (by first | rfl | trivial)
   have HBe := keep (HD.out.trans (hbe.mono HD.out.size))
   clear hbe hq
   go_simp
   refine hK.out _ _ (fun _ => HSS.out we HBe.out) ?_
   clear hK K
   try simp only [Act.put,Ord.t,Ord.z,Ord.s]
   refine Ord.on (i:=9) (h:=fun K hK => ?_)
   go_simp
   refine hK.out _ _ (fun _ => HSS.out we HBe.out) ?_
   clear hK K
   try simp only [Act.put,Ord.t,Ord.z,Ord.s]
   refine Ord.wpM_done (by kernel_rfl) ?_ _
   refine NoPanic.normal ?_
   have HN : Hid (Below w.heap.size w we) := HX.out.trans (HBe.out.mono HX.out.size)
   clear HSS hS HC
   go_wp2
   go_roundw
   case rel => exact ⟨j + 1,by omega,by go_num,HN.out⟩
   case measure => simp [intOf]; omega
  ·have hje : j = n2 := by omega
   subst hje
   have dl : decide ((j : Int) < (j : Int)) = false := decide_eq_false (by omega)
   clear hjl
   go_wp2
   go_ret
   exact ⟨rfl,HX.out⟩
theorem sameEnded_any (B : Nat) (e : En) (v1 v2 : Value) (w : World) (hB : B ≤ w.heap.size) (h1 : ArrsIs w B e.arr v1) (h2 : ArrsIs w B e.arr v2) :
  Calls Try.prog 24 #[.agg #[.int .i64 e.word,.bool e.trap,v1],.agg #[.int .i64 e.word,.bool e.trap,v2]] w fun r w' => r = .returned (.bool true) ∧ Below w.heap.size w w' := by
 obtain ⟨wo,tr,aa⟩ := e
 dsimp only at h1 h2 ⊢
 have H1 := keep h1
 have H2 := keep h2
 obtain ⟨p1,n1,c1,rfl⟩ := h1.slice
 obtain ⟨p2,n2,c2,rfl⟩ := h2.slice
 obtain ⟨w1,hw1⟩ : ∃ y,w.alloc (.cells #[.int .i64 wo,.bool tr,.slice p1 n1 c1] 51) = y := ⟨_,rfl⟩
 obtain ⟨w2,hw2⟩ : ∃ y,w1.alloc (.cells #[.int .i64 wo,.bool tr,.slice p2 n2 c2] 51) = y := ⟨_,rfl⟩
 obtain ⟨E1,hE1⟩ : ∃ y,w.heap.size = y := ⟨_,rfl⟩
 obtain ⟨E2,hE2⟩ : ∃ y,w1.heap.size = y := ⟨_,rfl⟩
 have b1 : Below w.heap.size w w1 := by rw [← hw1]; exact (Below.refl _ _).alloc (Nat.le_refl _) _
 have b2 : Below w1.heap.size w1 w2 := by rw [← hw2]; exact (Below.refl _ _).alloc (Nat.le_refl _) _
 have b12 := b1.trans (b2.mono b1.size)
 have k1' : Bk w1 E1 [.int .i64 wo,.bool tr,.slice p1 n1 c1] 51 := by rw [← hw1,← hE1]; exact Bk.new _ _ _
 have k1 := k1'.fs (Fs.of_below (l:=[]) b2) (by simp)
 have k2 : Bk w2 E2 [.int .i64 wo,.bool tr,.slice p2 n2 c2] 51 := by rw [← hw2,← hE2]; exact Bk.new _ _ _
 have x0 := k1.cell 0 rfl
 have x1 := k1.cell 1 rfl
 have x2 := k1.cell 2 rfl
 have y0 := k2.cell 0 rfl
 have y1 := k2.cell 1 rfl
 have y2 := k2.cell 2 rfl
 have HC := keep (sameArrays_any B aa _ _ w2 (by have := b12.size; omega) (H1.out.below (b12.mono hB)) (H2.out.below (b12.mono hB)))
 have HB := keep b12
 have HW1 := keep hw1
 have HW2 := keep hw2
 have HE1 := keep hE1
 have HE2 := keep hE2
 clear hw1 hw2 hE1 hE2 b1 b2 b12 k1' k1 k2 h1 h2 H1 H2
 cases tr with
 | true =>
  go_enter Try.func24,Try.ntmps24
  go_wp2_with (first | rw [HW1.out] | rw [HW2.out] | rw [HE1.out] | rw [HE2.out] | fail)
  refine HC.out.mono ?_
  rintro r w3 ⟨rfl,hb3⟩
  have HB3 := keep (HB.out.trans (hb3.mono HB.out.size))
  clear hb3 HC
  go_wp2
  go_ret
  exact ⟨rfl,HB3.out⟩
 | false =>
  go_enter Try.func24,Try.ntmps24
  go_wp2_with (first | rw [HW1.out] | rw [HW2.out] | rw [HE1.out] | rw [HE2.out] | fail)
  refine HC.out.mono ?_
  rintro r w3 ⟨rfl,hb3⟩
  have HB3 := keep (HB.out.trans (hb3.mono HB.out.size))
  clear hb3 HC
  go_wp2
  go_ret
  exact ⟨rfl,HB3.out⟩
end Go.Proofs.Ytpnacanbknejiaa.Fl
namespace Go.Proofs.Ytpnacanbknejiaa.Mh
set_option linter.unusedVariables false
set_option linter.unusedSimpArgs false
open Go.ChangeShapes Go.WideShapes Go.ChangeAt Go.RowKit Lg Lr Fl
end Go.Proofs.Ytpnacanbknejiaa.Mh
namespace Go.Proofs.Ytpnacanbknejiaa.Fl
set_option linter.unusedVariables false
set_option linter.unusedSimpArgs false
open Go.ChangeShapes Go.WideShapes Go.ChangeAt Go.RowKit Lg Lr
theorem Fh.cell {B : Nat} {l : List Nat} {w w' : World} (h : Fh B l w w') {b k : Nat} {u : Value} (hb : b < B) (hn : b ∉ l) (hu : w.cell? ⟨b,k,none⟩ = some u) : w'.cell? ⟨b,k,none⟩ = some u := by rw [World.cell?_of_block (h.block b hb hn)]; exact hu
end Go.Proofs.Ytpnacanbknejiaa.Fl
