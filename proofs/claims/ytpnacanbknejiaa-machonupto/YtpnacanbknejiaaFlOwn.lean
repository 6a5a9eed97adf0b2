/- A copy of flat instructions: flow's Own. Written by tools/gen_flown.py. -/
import Derived.Test.YtpnacanbknejiaaFrLike
namespace Go.Proofs.Ytpnacanbknejiaa.Fl
set_option maxHeartbeats 32000000
set_option maxRecDepth 100000
set_option linter.unusedVariables false
set_option linter.unusedSimpArgs false
open Go.ChangeShapes Go.WideShapes Go.ChangeAt Go.RowKit Lg Lr
def SrcC {α : Type} (cells : α → List Value) (w : World) (es : List α) (v : Value) : Prop := ∃ (p : Option Addr) (n cap : Nat),v = .slice p n cap ∧ es.length = n ∧ n ≤ cap ∧ ∀ j u,(es.flatMap cells)[j]? = some u → ∃ g o,p = some ⟨g,o,none⟩ ∧ w.cell? ⟨g,o + j,none⟩ = some u
def nest0 {α : Type} (w : World) (X : Nat → Prop) (p : α) : Prop := True
theorem nest0_nest {α : Type} : Nest (nest0 (α := α)) := ⟨fun _ _ _ _ _ _ => trivial,fun _ _ _ _ _ _ => trivial⟩
theorem step_copy {α : Type} (cells : α → List Value) (k bytes : Nat) (t e : TypeId) (i0 : TypeInfo) (z : Value) (ht : Try.prog.underlying t = some (.slice e)) (hi : Try.prog.info? e = some i0) (hz : i0.zero = some z) (hs0 : i0.size = k) (hb0 : i0.bytes = bytes) (hzs : z.cells.size = k) (hk : 0 < k) (hcl : ∀ a,(cells a).length = k) (h1 : ∀ a,∀ u ∈ cells a,u.oneCell' = true)
  {ops : Array Oper} {o : Oper} {a : Act} {w : World} {K : Act → World → Prop} {Q : Exit → Act → World → Prop} {E : Prop} (hgd : o.guard = none) (s x : Operand) (ho : o.op = .call { callee := .builtin .append,args := #[s,x],argTypes := #[t,t] }) (es : List α) (v : Value) (hs : a.eval s = .slice none 0 0) (hx : a.eval x = v) (hv : SrcC cells w es v) (hl : es.length ≤ 1048576) (hby : bytes ≤ 100)
  (h : ∀ v' w',RowX nest0 cells k e w' w.heap.size v' es → Below w.heap.size w w' → K (a.put o.dst v') w') : if Region.wanted o (yielded ops a.tmps) = true then Oper.wp Try.prog o a w K Q else E := by
 obtain ⟨p,n,cap,rfl,hn,hc,hq⟩ := hv
 by_cases h0 : es = []
 ·subst h0
  simp at hn
  subst hn
  have hsrc : Src Try.prog i0.size t (.slice p 0 cap) 0 [] w := by
   cases p with
   | none => exact Src.ofNil w ht cap
   | some ad => exact Src.ofSlice w ht ad 0 cap [] (by simp) (by simp) (by simp)
  rw [if_pos (by simp [Region.wanted,hgd])]
  exact Lib.wp_append_run w s x _ _ ho _ _ hs hx _ _ (run_append_nothing (P:=Try.prog) w t t _ e i0 ht hi none 0 0 (Nat.le_refl _) (.slice p 0 cap) hsrc) (h _ _ (RowX.nil _ _) (Below.refl _ _))
 ·have hpos : 0 < es.length := by
   cases es with
   | nil => exact absurd rfl h0
   | cons a l => simp
  have hfl := flat_len7 cells k hcl es
  obtain ⟨u,hu⟩ : ∃ u,(es.flatMap cells)[0]? = some u := ⟨_,List.getElem?_eq_getElem (by rw [hfl]; exact Nat.mul_pos hpos hk)⟩
  obtain ⟨g,of,hp,_⟩ := hq 0 u hu
  subst hp
  have hm1 : (0 + n) * bytes ≤ 140737488355328 := by
   have : (0 + n) * bytes ≤ 1048576 * 100 := Nat.mul_le_mul (by omega) hby
   omega
  refine step_append_lies w hgd s x t ho w.heap.size e i0 z k bytes ht hi hz hs0 hb0 hzs hk (.slice none 0 0) 0 [] hs (World.ownsRow_nil _ _ _ _) ⟨g,of,none⟩ n cap (es.flatMap cells) hx (by rw [hfl,hn]) (fun j u hj => ?_) (fun u hu => ?_) (by omega) (by unfold maxLen; omega) hm1 (Nat.le_refl _) _ rfl ?_
  ·obtain ⟨g',o',e1,e2⟩ := hq j u hj
   cases e1
   rw [show (⟨g,of,none⟩ : Addr).add j = ⟨g,of + j,none⟩ from by simp [Addr.add]]
   exact e2
  ·obtain ⟨q,_,hq'⟩ := List.mem_flatMap.1 hu
   exact h1 q u hq'
  ·intro g2 cap2 w2 hown hgrow hat hlt
   refine h _ _ ⟨?_,fun p hp => trivial⟩ ⟨hgrow.os,hgrow.tape,hgrow.output,hgrow.size,fun i hi => hgrow.block i hi (by simp [Value.ownBlock])⟩
   rw [List.nil_append,Nat.zero_add] at hown
   rw [hn,Nat.zero_add]
   exact hown
def cellsX (i : Ix) : List Value := [.int .i64 i.op,.int .i64 i.d,.int .i64 i.a,.int .i64 i.b,.int .i64 i.c,.int .i64 i.imm]
def cellsB (b : Bool) : List Value := [.bool b]
theorem cellsX_len (p : Ix) : (cellsX p).length = 6 := rfl
theorem cellsB_len (p : Bool) : (cellsB p).length = 1 := rfl
theorem CodeIs.src {w : World} {B : Nat} {l : List Ix} {v : Value} (h : CodeIs w B l v) : SrcC cellsX w l v := by
 obtain ⟨p,n,cap,h1,h2,h3,h4,h5⟩ := h
 refine ⟨p,n,cap,h1,h2,h3,fun j u hj => ?_⟩
 have hlt := (List.getElem?_eq_some_iff.1 hj).1
 rw [flat_len7 cellsX 6 (fun _ => rfl)] at hlt
 have hjm : j = j / 6 * 6 + j % 6 := by omega
 obtain ⟨i,hi⟩ : ∃ i,l[j / 6]? = some i := ⟨_,List.getElem?_eq_getElem (by omega)⟩
 obtain ⟨g,o,k1,k2,k3⟩ := h5 (j / 6) i hi
 refine ⟨g,o,k1,?_⟩
 rw [hjm,flat_at cellsX 6 (fun _ => rfl) l (j / 6) (j % 6) i hi (by omega)] at hj
 have hm : j % 6 = 0 ∨ j % 6 = 1 ∨ j % 6 = 2 ∨ j % 6 = 3 ∨ j % 6 = 4 ∨ j % 6 = 5 := by omega
 rw [hjm,← Nat.add_assoc]
 rcases hm with e | e | e | e | e | e <;> rw [e] at hj ⊢ <;> simp [cellsX] at hj <;> subst hj
 ·exact k3.c0
 ·exact k3.c1
 ·exact k3.c2
 ·exact k3.c3
 ·exact k3.c4
 ·exact k3.c5
theorem BoolsIs.src {w : World} {B : Nat} {l : List Bool} {v : Value} (h : BoolsIs w B l v) : SrcC cellsB w l v := by
 obtain ⟨p,n,cap,h1,h2,h3,h4,h5⟩ := h
 refine ⟨p,n,cap,h1,h2,h3,fun j u hj => ?_⟩
 have hlt := (List.getElem?_eq_some_iff.1 hj).1
 rw [flat_len7 cellsB 1 (fun _ => rfl)] at hlt
 obtain ⟨i,hi⟩ : ∃ i,l[j]? = some i := ⟨_,List.getElem?_eq_getElem (by omega)⟩
 obtain ⟨g,o,k1,k2,k3⟩ := h5 j i hi
 refine ⟨g,o,k1,?_⟩
 rw [show j = j * 1 + 0 by omega,flat_at cellsB 1 (fun _ => rfl) l j 0 i hi (by omega)] at hj
 simp [cellsB] at hj
 subst hj
 exact k3
theorem VrIs_src {w : World} {B : Nat} {l : List Vr} {v : Value} (h : VrIs w B l v) : SrcC cellsW w l v := by
 obtain ⟨p,n,cap,h1,h2,h3,h4,h5⟩ := h
 refine ⟨p,n,cap,h1,h2,h3,fun j u hj => ?_⟩
 have hlt := (List.getElem?_eq_some_iff.1 hj).1
 rw [flat_len7 cellsW 3 (fun _ => rfl)] at hlt
 have hjm : j = j / 3 * 3 + j % 3 := by omega
 obtain ⟨i,hi⟩ : ∃ i,l[j / 3]? = some i := ⟨_,List.getElem?_eq_getElem (by omega)⟩
 obtain ⟨g,o,k1,k2,k3⟩ := h5 (j / 3) i hi
 refine ⟨g,o,k1,?_⟩
 rw [hjm,flat_at cellsW 3 (fun _ => rfl) l (j / 3) (j % 3) i hi (by omega)] at hj
 have hm : j % 3 = 0 ∨ j % 3 = 1 ∨ j % 3 = 2 := by omega
 rw [hjm,← Nat.add_assoc]
 rcases hm with e | e | e <;> rw [e] at hj ⊢ <;> simp [cellsW] at hj <;> subst hj
 ·exact k3.c0
 ·exact k3.c1
 ·exact k3.c2
theorem rowX_code {w : World} {lo : Nat} {v : Value} {es : List Ix} {ty : TypeId} (h : RowX nest0 cellsX 6 ty w lo v es) (hl : es.length ≤ 1048576) : CodeIs w w.heap.size es v := by
 rcases RowX.form cellsX_len h with ⟨h1,h2⟩ | ⟨g,cap,h1,h2,h3,h4,h5⟩
 ·exact ⟨none,0,0,h2,by rw [h1]; rfl,Nat.le_refl _,by omega,fun j t hj => by rw [h1] at hj; simp at hj⟩
 ·refine ⟨some ⟨g,0,none⟩,_,cap,h1,rfl,h2,by omega,fun j l hj => ⟨g,0,rfl,h4,?_,?_,?_,?_,?_,?_⟩⟩
  ·have := h5 j l 0 _ hj rfl; rw [Nat.zero_add]; simpa using this
  ·have := h5 j l 1 _ hj rfl; rw [Nat.zero_add]; exact this
  ·have := h5 j l 2 _ hj rfl; rw [Nat.zero_add]; exact this
  ·have := h5 j l 3 _ hj rfl; rw [Nat.zero_add]; exact this
  ·have := h5 j l 4 _ hj rfl; rw [Nat.zero_add]; exact this
  ·have := h5 j l 5 _ hj rfl; rw [Nat.zero_add]; exact this
theorem rowX_bools {w : World} {lo : Nat} {v : Value} {es : List Bool} {ty : TypeId} (h : RowX nest0 cellsB 1 ty w lo v es) (hl : es.length ≤ 1048576) : BoolsIs w w.heap.size es v := by
 rcases RowX.form cellsB_len h with ⟨h1,h2⟩ | ⟨g,cap,h1,h2,h3,h4,h5⟩
 ·exact ⟨none,0,0,h2,by rw [h1]; rfl,Nat.le_refl _,by omega,fun j t hj => by rw [h1] at hj; simp at hj⟩
 ·refine ⟨some ⟨g,0,none⟩,_,cap,h1,rfl,h2,by omega,fun j l hj => ⟨g,0,rfl,h4,?_⟩⟩
  have := h5 j l 0 _ hj rfl; rw [Nat.zero_add]; simpa using this
theorem rowX_vars {w : World} {lo : Nat} {v : Value} {es : List Vr} {ty : TypeId} (h : RowX nest0 cellsW 3 ty w lo v es) (hl : es.length ≤ 1048576) : VrIs w w.heap.size es v := by
 rcases RowX.form cellsW_len h with ⟨h1,h2⟩ | ⟨g,cap,h1,h2,h3,h4,h5⟩
 ·exact ⟨none,0,0,h2,by rw [h1]; rfl,Nat.le_refl _,by omega,fun j t hj => by rw [h1] at hj; simp at hj⟩
 ·refine ⟨some ⟨g,0,none⟩,_,cap,h1,rfl,h2,by omega,fun j l hj => ⟨g,0,rfl,h4,?_,?_,?_⟩⟩
  ·have := h5 j l 0 _ hj rfl; rw [Nat.zero_add]; simpa using this
  ·have := h5 j l 1 _ hj rfl; rw [Nat.zero_add]; exact this
  ·have := h5 j l 2 _ hj rfl; rw [Nat.zero_add]; exact this
theorem info_X : (Try.prog.info? 35).map (fun i => (i.zero,i.size,i.bytes)) = some (some (.agg #[.int .i64 0,.int .i64 0,.int .i64 0,.int .i64 0,.int .i64 0,.int .i64 0]),6,48) := by kernel_rfl
theorem info_B : (Try.prog.info? 4).map (fun i => (i.zero,i.size,i.bytes)) = some (some (.bool false),1,1) := by kernel_rfl
def OwnP (f : Fx) (w : World) (r : Ending) (w' : World) : Prop := ∃ v1 v2 v3 lo1 lo2 lo3,r = .returned (.agg #[v1,v2,.int .i64 f.params,v3]) ∧ w.heap.size ≤ lo1 ∧ lo1 ≤ lo2 ∧ lo2 ≤ lo3 ∧ (∀ i,v1.ownBlock = some i → i < lo2) ∧ (∀ i,v2.ownBlock = some i → i < lo3) ∧ RowX nest0 cellsX 6 35 w' lo1 v1 f.code ∧ RowX nest0 cellsB 1 4 w' lo2 v2 f.sec ∧ RowX nest0 cellsW 3 82 w' lo3 v3 f.arrs ∧ Below w.heap.size w w'
theorem four_there {w : World} {b : Nat} {u v x y : Value} {ty : TypeId} (h : Bk w b [u,v,x,y] ty) : w.there b 0 4 := fun j hj => by
 refine ⟨?_,h.fr _⟩
 rw [Nat.zero_add]
 have : j = 0 ∨ j = 1 ∨ j = 2 ∨ j = 3 := by omega
 rcases this with rfl | rfl | rfl | rfl
 ·rw [h.cell 0 rfl]; rfl
 ·rw [h.cell 1 rfl]; rfl
 ·rw [h.cell 2 rfl]; rfl
 ·rw [h.cell 3 rfl]; rfl
theorem set_four {w : World} {b : Nat} {u v x x' : Value} {ty : TypeId} (h : Bk w b [u,v,x,x'] ty) (y z t s : Value) : Bk (w.setCells b 0 [y,z,t,s]) b [y,z,t,s] ty ∧ Fs [b] w (w.setCells b 0 [y,z,t,s]) :=
 ⟨((((h.set 0 y).set 1 z).set 2 t).set 3 s : _),((((Fs.refl [b] w).set (by simp) 0 y).set (by simp) 1 z).set (by simp) 2 t).set (by simp) 3 s⟩
theorem own_any (B : Nat) (f : Fx) (s1 s2 s3 : Value) (w : World) (hB : B ≤ w.heap.size) (h : FxIs w B f s1 s2 s3) (hN1 : f.code.length ≤ 1048576) (hN2 : f.sec.length ≤ 1048576) (hN3 : f.arrs.length ≤ 1048576) :
  Calls Try.prog 10 #[.agg (fxA f s1 s2 s3)] w fun r w' => OwnP f w r w' := by
 obtain ⟨p1,n1,c1,hs1,hx1⟩ := id h.code
 obtain ⟨p2,n2,c2,hs2,hx2⟩ := id h.sec
 obtain ⟨p3,n3,c3,hs3,hx3⟩ := id h.arrs
 subst hs1 hs2 hs3
 obtain ⟨pr,hpr⟩ : ∃ k : Int,f.params = k := ⟨f.params,rfl⟩
 obtain ⟨w1,hw1⟩ : ∃ y,w.alloc (.cells #[.slice p1 n1 c1,.slice p2 n2 c2,.int .i64 pr,.slice p3 n3 c3] 26) = y := ⟨_,rfl⟩
 obtain ⟨w2,hw2⟩ : ∃ y,w1.alloc (.cells #[.slice none 0 0,.slice none 0 0,.int .i64 0,.slice none 0 0] 26) = y := ⟨_,rfl⟩
 obtain ⟨F,hF⟩ : ∃ y,w.heap.size = y := ⟨_,rfl⟩
 obtain ⟨R,hR⟩ : ∃ y,w1.heap.size = y := ⟨_,rfl⟩
 have b1 : Below w.heap.size w w1 := by rw [← hw1]; exact (Below.refl _ _).alloc (Nat.le_refl _) _
 have b2 : Below w1.heap.size w1 w2 := by rw [← hw2]; exact (Below.refl _ _).alloc (Nat.le_refl _) _
 have b12 := b1.trans (b2.mono b1.size)
 have kF1 : Bk w1 F [.slice p1 n1 c1,.slice p2 n2 c2,.int .i64 pr,.slice p3 n3 c3] 26 := by rw [← hw1,← hF]; exact Bk.new _ _ _
 have kF := kF1.fs (Fs.of_below (l:=[]) b2) (by simp)
 have kR : Bk w2 R [.slice none 0 0,.slice none 0 0,.int .i64 0,.slice none 0 0] 26 := by rw [← hw2,← hR]; exact Bk.new _ _ _
 have HkF := keep kF
 have HkR := keep kR
 have HRw : Hid (w.heap.size ≤ R ∧ R < w2.heap.size ∧ w.heap.size ≤ w2.heap.size) := ⟨by rw [← hR]; exact b1.size,kR.lt,b12.size⟩
 have HBw := keep b12
 have HFx := keep h
 have HBB := keep hB
 have HLn := keep (And.intro hN1 (And.intro hN2 hN3))
 have HPr := keep hpr
 have HW1 := keep hw1
 have HW2 := keep hw2
 have HF := keep hF
 have HRe := keep hR
 obtain ⟨i1,hi1,x0,x1,x2⟩ := info_parts info_X
 obtain ⟨i2,hi2,y0,y1,y2⟩ := info_parts info_B
 obtain ⟨i3,hi3,u0,u1,u2⟩ := info_parts infoW
 have HSS : Hid (∀ W',Below w2.heap.size w2 W' → W'.cell? ⟨F,0,none⟩ = some (.slice p1 n1 c1) ∧ W'.cell? ⟨F,1,none⟩ = some (.slice p2 n2 c2) ∧ W'.cell? ⟨F,2,none⟩ = some (.int .i64 pr) ∧ W'.cell? ⟨F,3,none⟩ = some (.slice p3 n3 c3)) := fun W' hW => by
  have q := kF.fs (Fs.of_below (l:=[]) hW) (by simp)
  exact ⟨q.cell 0 rfl,q.cell 1 rfl,q.cell 2 rfl,q.cell 3 rfl⟩
 have HFs : Hid (∀ W',Below w2.heap.size w2 W' → FxIs W' B f (.slice p1 n1 c1) (.slice p2 n2 c2) (.slice p3 n3 c3)) := fun W' hW => h.below ((b12.trans (hW.mono b12.size)).mono hB)
 unfold fxA
 rw [hpr]
 clear hw1 hw2 hF hR b1 b2 b12 kF1 kF kR h hB hN1 hN2 hN3 hx1 hx2 hx3 hpr
 go_enter Try.func10,Try.ntmps10
 go_wp2_with (first | rw [HW1.out] | rw [HW2.out] | rw [HF.out] | rw [HRe.out] | fail)
 refine wp_region_noPanic ?_
 refine Ord.wpM_begin (fun W' : World => W'.cell? ⟨F,0,none⟩ = some (.slice p1 n1 c1) ∧ W'.cell? ⟨F,1,none⟩ = some (.slice p2 n2 c2) ∧ W'.cell? ⟨F,2,none⟩ = some (.int .i64 pr) ∧ W'.cell? ⟨F,3,none⟩ = some (.slice p3 n3 c3)) [0,1,2,3,4,5,6,7,8,9,10,11] (by kernel_rfl) ?_
 have HD : Hid (Below w2.heap.size w2 w2.drew) := Below.drew (Below.refl _ _)
 generalize w2.drew = wd at *
 have hS := HSS.out wd HD.out
 refine Ord.tk (i:=0) (v:=.pointer (some ⟨F,0,none⟩)) (hy:=Or.inl ⟨by rfl,by rintro W' ⟨q0,q1,q2,q3⟩; go_simp⟩) (hS:=hS) (h:=?_)
 try simp only [Act.put,Ord.t,Ord.z,Ord.s]
 refine Ord.tk (i:=1) (v:=.slice p1 n1 c1) (hy:=Or.inl ⟨by rfl,by rintro W' ⟨q0,q1,q2,q3⟩; go_simp⟩) (hS:=hS) (h:=?_)
 try simp only [Act.put,Ord.t,Ord.z,Ord.s]
 refine Ord.tk (i:=3) (v:=.pointer (some ⟨F,1,none⟩)) (hy:=Or.inl ⟨by rfl,by rintro W' ⟨q0,q1,q2,q3⟩; go_simp⟩) (hS:=hS) (h:=?_)
 try simp only [Act.put,Ord.t,Ord.z,Ord.s]
 refine Ord.tk (i:=4) (v:=.slice p2 n2 c2) (hy:=Or.inl ⟨by rfl,by rintro W' ⟨q0,q1,q2,q3⟩; go_simp⟩) (hS:=hS) (h:=?_)
 try simp only [Act.put,Ord.t,Ord.z,Ord.s]
 refine Ord.tk (i:=6) (v:=.pointer (some ⟨F,2,none⟩)) (hy:=Or.inl ⟨by rfl,by rintro W' ⟨q0,q1,q2,q3⟩; go_simp⟩) (hS:=hS) (h:=?_)
 try simp only [Act.put,Ord.t,Ord.z,Ord.s]
 refine Ord.tk (i:=7) (v:=.int .i64 pr) (hy:=Or.inl ⟨by rfl,by rintro W' ⟨q0,q1,q2,q3⟩; go_simp⟩) (hS:=hS) (h:=?_)
 try simp only [Act.put,Ord.t,Ord.z,Ord.s]
 refine Ord.tk (i:=8) (v:=.pointer (some ⟨F,3,none⟩)) (hy:=Or.inl ⟨by rfl,by rintro W' ⟨q0,q1,q2,q3⟩; go_simp⟩) (hS:=hS) (h:=?_)
 try simp only [Act.put,Ord.t,Ord.z,Ord.s]
 refine Ord.tk (i:=9) (v:=.slice p3 n3 c3) (hy:=Or.inl ⟨by rfl,by rintro W' ⟨q0,q1,q2,q3⟩; go_simp⟩) (hS:=hS) (h:=?_)
 try simp only [Act.put,Ord.t,Ord.z,Ord.s]
 refine Ord.on (i:=2) (h:=fun K hK => ?_)
 refine step_copy cellsX 6 48 22 35 i1 _ Try.underlying22 hi1 x0 x1 x2 rfl (by decide) (fun _ => rfl) (fun i u hu => by simp only [cellsX,List.mem_cons,List.not_mem_nil,or_false] at hu; rcases hu with rfl | rfl | rfl | rfl | rfl | rfl <;> rfl) rfl (.const (.slice none 0 0)) (.tmp 4) rfl f.code _ rfl rfl ((HFs.out wd HD.out).code.src) HLn.out.1 (by decide) ?_
 intro vwa wa hrwa hb
 have HRwa := keep hrwa
 have HBwa := keep (HD.out.trans (hb.mono HD.out.size))
 have Hbwa := keep hb
 obtain ⟨ppwa,nnwa,ccwa,rfl⟩ := RowX.slice hrwa
 clear hrwa hb
 have hS := HSS.out wa HBwa.out
 refine hK.out _ _ (fun _ => hS) ?_
 clear hK K
 try simp only [Act.put,Ord.t,Ord.z,Ord.s]
 refine Ord.on (i:=5) (h:=fun K hK => ?_)
 refine step_copy cellsB 1 1 23 4 i2 _ Try.underlying23 hi2 y0 y1 y2 rfl (by decide) (fun _ => rfl) (fun i u hu => by simp only [cellsB,List.mem_cons,List.not_mem_nil,or_false] at hu; rcases hu with rfl; rfl) rfl (.const (.slice none 0 0)) (.tmp 7) rfl f.sec _ rfl rfl ((HFs.out wa HBwa.out).sec.src) HLn.out.2.1 (by decide) ?_
 intro vwb wb hrwb hb
 have HRwb := keep hrwb
 have HBwb := keep (HBwa.out.trans (hb.mono HBwa.out.size))
 have Hbwb := keep hb
 obtain ⟨ppwb,nnwb,ccwb,rfl⟩ := RowX.slice hrwb
 clear hrwb hb
 have hS := HSS.out wb HBwb.out
 refine hK.out _ _ (fun _ => hS) ?_
 clear hK K
 try simp only [Act.put,Ord.t,Ord.z,Ord.s]
 refine Ord.on (i:=10) (h:=fun K hK => ?_)
 refine step_copy cellsW 3 32 24 82 i3 _ Try.underlying24 hi3 u0 u1 u2 rfl (by decide) (fun _ => rfl) (fun i u hu => by simp only [cellsW,List.mem_cons,List.not_mem_nil,or_false] at hu; rcases hu with rfl | rfl | rfl <;> rfl) rfl (.const (.slice none 0 0)) (.tmp 12) rfl f.arrs _ rfl rfl (VrIs_src (HFs.out wb HBwb.out).arrs) HLn.out.2.2 (by decide) ?_
 intro vwc wc hrwc hb
 have HRwc := keep hrwc
 have HBwc := keep (HBwb.out.trans (hb.mono HBwb.out.size))
 have Hbwc := keep hb
 obtain ⟨ppwc,nnwc,ccwc,rfl⟩ := RowX.slice hrwc
 clear hrwc hb
 have hS := HSS.out wc HBwc.out
 refine hK.out _ _ (fun _ => hS) ?_
 clear hK K
 try simp only [Act.put,Ord.t,Ord.z,Ord.s]
 refine Ord.on (i:=11) (h:=fun K hK => ?_)
 go_simp
 refine hK.out _ _ (fun _ => hS) ?_
 clear hK K
 try simp only [Act.put,Ord.t,Ord.z,Ord.s]
 have HkRc := keep (HkR.out.fs (Fs.of_below (l:=[]) HBwc.out) (by simp))
 obtain ⟨k1,k2⟩ := set_four HkRc.out (.slice ppwa nnwa ccwa) (.slice ppwb nnwb ccwb) (.int .i64 pr) (.slice ppwc nnwc ccwc)
 have HK1 := keep k1
 have HK2 := keep k2
 clear k1 k2
 refine Ord.on (i:=12) (h:=fun K hK => ?_)
 refine step_store_mid rfl 26 (.tmp 2) (.tmp 14) rfl R 0 #[.slice ppwa nnwa ccwa,.slice ppwb nnwb ccwb,.int .i64 pr,.slice ppwc nnwc ccwc] rfl rfl (four_there HkRc.out) (by kernel_rfl) (by simp [Value.oneCell']) ?_
 refine hK.out _ _ (fun h => absurd h (by decide)) ?_
 clear hK K
 try simp only [Act.put,Ord.t,Ord.z,Ord.s]
 refine Ord.wpM_done (by kernel_rfl) ?_ _
 refine NoPanic.normal ?_
 have HEnd : Hid (OwnP f w (.returned (.agg #[.slice ppwa nnwa ccwa,.slice ppwb nnwb ccwb,.int .i64 pr,.slice ppwc nnwc ccwc])) (wc.setCells R 0 [.slice ppwa nnwa ccwa,.slice ppwb nnwb ccwb,.int .i64 pr,.slice ppwc nnwc ccwc])) := by
  have h1 := HD.out.size
  have h2 := Hbwa.out.size
  have h3 := Hbwb.out.size
  have h4 := Hbwc.out.size
  have h5 := HRw.out
  refine ⟨_,_,_,wd.heap.size,wa.heap.size,wb.heap.size,by rw [HPr.out],by omega,h2,h3,fun i hi => (RowX.own HRwa.out).lt i hi |>.2,fun i hi => (RowX.own HRwb.out).lt i hi |>.2,?_,?_,?_,?_⟩
  ·exact RowX.fs nest0_nest ((RowX.fs (l:=[]) nest0_nest (RowX.fs (l:=[]) nest0_nest HRwa.out (Fs.of_below Hbwb.out) (by simp)) (Fs.of_below Hbwc.out) (by simp))) HK2.out (by simp; omega)
  ·exact RowX.fs nest0_nest (RowX.fs (l:=[]) nest0_nest HRwb.out (Fs.of_below Hbwc.out) (by simp)) HK2.out (by simp; omega)
  ·exact RowX.fs nest0_nest HRwc.out HK2.out (by simp; omega)
  ·have hb := HBw.out.trans (HBwc.out.mono HBw.out.size)
   exact hb.trans (HK2.out.below hb.size (fun z hz => by simp at hz; omega))
 clear HSS hS
 go_wp2
 refine bodyPost_ret (results_cell_row rfl _ _ R _ #[.slice ppwa nnwa ccwa,.slice ppwb nnwb ccwb,.int .i64 pr,.slice ppwc nnwc ccwc] (0,0) _ rfl HK1.out Try.underlying26 rfl (by kernel_rfl)) rfl ?_
 exact HEnd.out
end Go.Proofs.Ytpnacanbknejiaa.Fl
