/- What comes in, opened: flat instructions, what is given, a table; and how much it is at most. -/
import Derived.Test.YtpnacanbknejiaaRows
import Derived.Test.YtpnacanbknejiaaFlRun
import Derived.Deep.Matrix
import Derived.Deep.Grids
import Derived.Lib.SmallJoins
import Derived.SizedLaws
namespace Go.Proofs.Ytpnacanbknejiaa.Fl
set_option linter.unusedVariables false
set_option linter.unusedSimpArgs false
open Go.ChangeShapes Go.WideShapes Go.ChangeAt Go.RowKit Lg Lr
theorem add_flat {a : Addr} (h : a.spot = none) (k : Nat) : a.add k = ⟨a.block,a.off + k,none⟩ := by
 obtain ⟨b,o,s⟩ := a
 dsimp only at h
 subst h
 by_cases hk : k = 0
 ·subst hk; simp [Addr.add]
 ·simp [Addr.add,hk]
theorem addr_eta {a : Addr} (h : a.spot = none) : a = ⟨a.block,a.off,none⟩ := by
 obtain ⟨b,o,s⟩ := a
 dsimp only at h
 subst h; rfl
theorem spot_none {W : World} {a : Addr} {v : Value} (h : W.cell? (a.add 0) = some v) : a.spot = none := by
 have := World.cell?_spot h
 rw [Addr.add,if_pos rfl] at this
 exact this
variable {H : Type} {enc : TypeId × Value → H}
theorem bulk_len (l : List (DataW H)) : l.length ≤ Rows.uptoBulkAll l := by
 induction l with
 | nil => simp [Rows.uptoBulkAll]
 | cons x r ih =>
  have h1 : 1 ≤ Rows.uptoBulk x := by
   cases x with
   | lit l => cases l <;> simp [Rows.uptoBulk]
   | _ => simp [Rows.uptoBulk]
  simp only [Rows.uptoBulkAll,List.length_cons]
  omega
theorem bulk_slice (es sp : List (DataW H)) : Rows.uptoBulk (.slice es sp) = Rows.uptoBulkAll es + Rows.uptoBulkAll sp + 1 := by simp [Rows.uptoBulk]
theorem bulk_agg (es : List (DataW H)) : Rows.uptoBulk (.agg es) = Rows.uptoBulkAll es + 1 := by simp [Rows.uptoBulk]
theorem bulk_cons (x : DataW H) (r : List (DataW H)) : Rows.uptoBulkAll (x :: r) = Rows.uptoBulk x + Rows.uptoBulkAll r := by simp [Rows.uptoBulkAll]
theorem bulk_nil : Rows.uptoBulkAll ([] : List (DataW H)) = 0 := by simp [Rows.uptoBulkAll]
theorem cells_int : Try.prog.cellsOf 3 = 1 := by kernel_rfl
theorem cells_ints : Try.prog.cellsOf 30 = 1 := by kernel_rfl
theorem cells_bool : Try.prog.cellsOf 4 = 1 := by kernel_rfl
theorem ints_cells {W : World} {p : Option Addr} {len cap : Nat} {zs : List Int} (hlen : len ≤ zs.length) (hc : len ≤ cap) (hb : len ≤ 17592186044416) (hcell : ∀ a,p = some a → ∀ i,i < len → W.cell? (a.add i) = some (.int .i64 (zs.getD i 0))) (hn : p = none → len = 0) : IntsIs W W.heap.size (zs.take len) (.slice p len cap) := by
 refine ⟨p,len,cap,rfl,by rw [List.length_take]; omega,hc,hb,fun j x hj => ?_⟩
 have hjl : j < len := by
  have := (List.getElem?_eq_some_iff.1 hj).1
  rw [List.length_take] at this
  omega
 rw [List.getElem?_take_of_lt hjl] at hj
 cases p with
 | none => have := hn rfl; omega
 | some a =>
  have h0 := hcell a rfl 0 (by omega)
  have hs := spot_none h0
  have h1 := hcell a rfl j hjl
  rw [add_flat hs] at h1
  exact ⟨a.block,a.off,by rw [← addr_eta hs],lt_of_cell h1,by rw [h1,List.getD_eq_getElem?_getD,hj]; rfl⟩
theorem open_words {W : World} {fuel : Nat} {v : Value} {y : DataW H × List MemPlace} (h : DataW.trod enc Try.prog W 0 (fun _ => true) true fuel 30 [v] = some y) (hw : Rows.uptoBulk y.1 ≤ 1048576) : ∃ l,IntsIs W W.heap.size l v ∧ l.length ≤ Rows.uptoBulk y.1 := by
 rcases open_ints Try.underlying30 Try.underlying3 cells_int h with ⟨hcs,_⟩ | ⟨a,len,cap,zs,hcs,_,hl,hm,hz,hy,hcell,_⟩
 ·injection hcs with hcs
  subst hcs
  exact ⟨[],⟨none,0,0,rfl,rfl,Nat.le_refl _,by omega,fun j x hj => by cases hj⟩,by simp⟩
 ·injection hcs with hcs
  subst hcs
  subst hy
  rw [if_pos rfl] at hz
  rw [bulk_slice] at hw ⊢
  have h1 := bulk_len (lits (H:=H) .i64 (zs.take len))
  have h2 : (lits (H:=H) .i64 (zs.take len)).length = len := by simp [lits]; omega
  refine ⟨zs.take len,ints_cells (by omega) hl (by omega) (fun a' ha i hi => ?_) (fun e => by cases e),by rw [List.length_take]; omega⟩
  cases ha
  exact hcell i (by omega)
theorem sum_bulk {α : Type} (f : α → List Int) (g : α → DataW H) : ∀ (l : List α),(∀ x ∈ l,(f x).length ≤ Rows.uptoBulk (g x)) → sumL (l.map f) ≤ Rows.uptoBulkAll (l.map g)
 | [],_ => by simp [sumL,Rows.uptoBulkAll]
 | x :: l,h => by
  have h1 := sum_bulk f g l (fun y hy => h y (by simp [hy]))
  have h2 := h x (by simp)
  simp only [sumL,List.map_cons,List.sum_cons] at h1 ⊢
  rw [bulk_cons]
  omega
theorem open_arrs {W : World} {fuel : Nat} {v : Value} {y : DataW H × List MemPlace} (h : DataW.trod enc Try.prog W 0 (fun _ => true) true fuel 31 [v] = some y) (hw : Rows.uptoBulk y.1 ≤ 1048576) : ∃ ll,ArrsIs W W.heap.size ll v ∧ sumL ll ≤ Rows.uptoBulk y.1 := by
 rcases Deep.open_int_rows Try.underlying31 Try.underlying30 Try.underlying3 cells_ints cells_int h with ⟨hcs,_⟩ | ⟨a,len,cap,A,L,C,Z,hcs,_,hl,hm,hy,hrow⟩
 ·injection hcs with hcs
  subst hcs
  exact ⟨[],⟨none,0,0,rfl,rfl,Nat.le_refl _,by omega,fun j x hj => by cases hj⟩,by simp [sumL]⟩
 ·injection hcs with hcs
  subst hcs
  subst hy
  rw [bulk_slice] at hw ⊢
  have hlen := bulk_len ((List.range len).map fun r => Deep.intRow (H:=H) .i64 (A r) (L r) (Z r))
  rw [List.length_map,List.length_range] at hlen
  have hone : ∀ r,r < len → L r ≤ Rows.uptoBulk (Deep.intRow (H:=H) .i64 (A r) (L r) (Z r)) := fun r hr => by
   obtain ⟨_,q1,q2,q3,_,q5,_⟩ := hrow r (by omega)
   cases hA : A r with
   | none => have := q5 hA; omega
   | some a' =>
    unfold Deep.intRow
    rw [bulk_slice]
    have h1 := bulk_len (lits (H:=H) .i64 ((Z r).take (L r)))
    have h2 : (lits (H:=H) .i64 ((Z r).take (L r))).length = L r := by simp [lits]; omega
    omega
  have hsum := sum_bulk (fun r => (Z r).take (L r)) (fun r => Deep.intRow (H:=H) .i64 (A r) (L r) (Z r)) (List.range len) (fun r hr => by
   rw [List.length_take]
   have := hone r (List.mem_range.1 hr)
   omega)
  have hpart : ∀ (l : List (DataW H)) (d : DataW H),d ∈ l → Rows.uptoBulk d ≤ Rows.uptoBulkAll l := by
   intro l
   induction l with
   | nil => intro d hd; cases hd
   | cons x l ih =>
    intro d hd
    rw [bulk_cons]
    rcases List.mem_cons.1 hd with rfl | hd
    ·omega
    ·have := ih d hd; omega
  refine ⟨(List.range len).map fun r => (Z r).take (L r),⟨some a,len,cap,rfl,by simp,hl,by omega,fun j l hj => ?_⟩,by omega⟩
  rw [List.getElem?_map,Option.map_eq_some_iff] at hj
  obtain ⟨r,hr1,rfl⟩ := hj
  have hjl : j < len := by have := (List.getElem?_eq_some_iff.1 hr1).1; simpa using this
  have hrj : r = j := by
   rw [List.getElem?_range hjl] at hr1
   exact (Option.some.inj hr1).symm
  subst hrj
  obtain ⟨q0,q1,q2,q3,_,q5,q6⟩ := hrow r (by omega)
  have h0 := (hrow 0 (by omega)).1
  have hs := spot_none h0
  have hb := hone r hjl
  have hp := hpart _ _ (List.mem_map.2 ⟨r,List.mem_range.2 hjl,rfl⟩ : Deep.intRow (H:=H) .i64 (A r) (L r) (Z r) ∈ (List.range len).map fun r => Deep.intRow (H:=H) .i64 (A r) (L r) (Z r))
  rw [add_flat hs] at q0
  exact ⟨a.block,a.off,.slice (A r) (L r) (C r),by rw [← addr_eta hs],lt_of_cell q0,q0,ints_cells (by omega) q1 (by omega) (fun a' ha i hi => (q6 a' ha).2 i (by omega)) (fun e => by have := q5 e; omega)⟩
theorem ix_fields : (Try.prog.fieldsOf 35)[0]?.map (fun f => (f.type,f.offset)) = some (3,0) ∧ (Try.prog.fieldsOf 35)[1]?.map (fun f => (f.type,f.offset)) = some (3,1) ∧ (Try.prog.fieldsOf 35)[2]?.map (fun f => (f.type,f.offset)) = some (3,2) ∧ (Try.prog.fieldsOf 35)[3]?.map (fun f => (f.type,f.offset)) = some (3,3) ∧ (Try.prog.fieldsOf 35)[4]?.map (fun f => (f.type,f.offset)) = some (3,4) ∧ (Try.prog.fieldsOf 35)[5]?.map (fun f => (f.type,f.offset)) = some (3,5) := ⟨by kernel_rfl,by kernel_rfl,by kernel_rfl,by kernel_rfl,by kernel_rfl,by kernel_rfl⟩
theorem ix_under : Try.prog.underlying 35 = some (.struct (Try.prog.fieldsOf 35)) := by kernel_rfl
theorem vr_under : Try.prog.underlying 82 = some (.struct (Try.prog.fieldsOf 82)) := by kernel_rfl
theorem cells_ix : Try.prog.cellsOf 35 = 6 := by kernel_rfl
theorem cells_vr : Try.prog.cellsOf 82 = 3 := by kernel_rfl
theorem cells_str : Try.prog.cellsOf 9 = 1 := by kernel_rfl
theorem drop_one (cs : List Value) (j : Nat) (v : Value) (h : (cs.drop j).take 1 = [v]) : cs[j]? = some v := by
 have : ((cs.drop j).take 1)[0]? = some v := by rw [h]; rfl
 rw [List.getElem?_take_of_lt (by omega),List.getElem?_drop,Nat.add_zero] at this
 exact this
theorem open_ix {W : World} {fuel : Nat} {cs : List Value} {y : DataW H × List MemPlace} (h : DataW.trod enc Try.prog W 0 (fun _ => true) true fuel 35 cs = some y) : ∃ i : Ix,cs[0]? = some (.int .i64 i.op) ∧ cs[1]? = some (.int .i64 i.d) ∧ cs[2]? = some (.int .i64 i.a) ∧ cs[3]? = some (.int .i64 i.b) ∧ cs[4]? = some (.int .i64 i.c) ∧ cs[5]? = some (.int .i64 i.imm) := by
 obtain ⟨xs,n,_,_,hcl,hxl,hf⟩ := DataW.trod_struct ix_under h
 obtain ⟨f0,f1,f2,f3,f4,f5⟩ := ix_fields
 have hone : ∀ j,(Try.prog.fieldsOf 35)[j]?.map (fun f : Field => (f.type,f.offset)) = some (3,j) → ∃ z : Int,cs[j]? = some (.int .i64 z) := fun j hfd => by
  rw [Option.map_eq_some_iff] at hfd
  obtain ⟨f,hf1,hf2⟩ := hfd
  injection hf2 with e1 e2
  have hjf := (Array.getElem?_eq_some_iff.1 hf1).1
  have hx := hf j f hf1
  rw [e1,e2,cells_int,List.getElem?_eq_getElem (by omega)] at hx
  obtain ⟨z,hz,_⟩ := DataW.trod_int Try.underlying3 hx
  exact ⟨z,drop_one _ _ _ hz⟩
 obtain ⟨z0,h0⟩ := hone 0 f0
 obtain ⟨z1,h1⟩ := hone 1 f1
 obtain ⟨z2,h2⟩ := hone 2 f2
 obtain ⟨z3,h3⟩ := hone 3 f3
 obtain ⟨z4,h4⟩ := hone 4 f4
 obtain ⟨z5,h5⟩ := hone 5 f5
 exact ⟨⟨z0,z1,z2,z3,z4,z5⟩,h0,h1,h2,h3,h4,h5⟩
theorem vr_fields : (Try.prog.fieldsOf 82)[0]?.map (fun f => (f.type,f.offset)) = some (9,0) ∧ (Try.prog.fieldsOf 82)[1]?.map (fun f => (f.type,f.offset)) = some (4,1) ∧ (Try.prog.fieldsOf 82)[2]?.map (fun f => (f.type,f.offset)) = some (3,2) := ⟨by kernel_rfl,by kernel_rfl,by kernel_rfl⟩
theorem open_vr {W : World} {fuel : Nat} {cs : List Value} {y : DataW H × List MemPlace} (h : DataW.trod enc Try.prog W 0 (fun _ => true) true fuel 82 cs = some y) : ∃ v : Vr,cs[0]? = some (.string ⟨v.name.toArray⟩) ∧ cs[1]? = some (.bool v.secret) ∧ cs[2]? = some (.int .i64 v.size) := by
 obtain ⟨xs,n,_,_,hcl,hxl,hf⟩ := DataW.trod_struct vr_under h
 obtain ⟨f0,f1,f2⟩ := vr_fields
 rw [Option.map_eq_some_iff] at f0 f1 f2
 obtain ⟨g0,a0,b0⟩ := f0
 obtain ⟨g1,a1,b1⟩ := f1
 obtain ⟨g2,a2,b2⟩ := f2
 injection b0 with b0 o0
 injection b1 with b1 o1
 injection b2 with b2 o2
 have l2 := (Array.getElem?_eq_some_iff.1 a2).1
 have x0 := hf 0 g0 a0
 have x1 := hf 1 g1 a1
 have x2 := hf 2 g2 a2
 rw [b0,o0,cells_str,List.getElem?_eq_getElem (by omega)] at x0
 rw [b1,o1,cells_bool,List.getElem?_eq_getElem (by omega)] at x1
 rw [b2,o2,cells_int,List.getElem?_eq_getElem (by omega)] at x2
 obtain ⟨s,hs,_⟩ := DataW.trod_string Try.underlying9 x0
 obtain ⟨q,hq,_⟩ := DataW.trod_bool Try.underlying4 x1
 obtain ⟨z,hz,_⟩ := DataW.trod_int Try.underlying3 x2
 exact ⟨⟨s.data.toList,q,z⟩,drop_one _ _ _ hs,drop_one _ _ _ hq,drop_one _ _ _ hz⟩
instance : Inhabited Ix := ⟨⟨0,0,0,0,0,0⟩⟩
instance : Inhabited Vr := ⟨⟨[],false,0⟩⟩
theorem open_code {W : World} {fuel : Nat} {v : Value} {y : DataW H × List MemPlace} (h : DataW.trod enc Try.prog W 0 (fun _ => true) true fuel 22 [v] = some y) (hw : Rows.uptoBulk y.1 ≤ 1048576) : ∃ l,CodeIs W W.heap.size l v ∧ l.length ≤ 1048576 := by
 rcases Deep.open_slice Try.underlying22 h with ⟨hcs,_⟩ | ⟨a,len,cap,m,n,D,Pl,hcs,_,hl,hm,hmm,hy,hx⟩
 ·injection hcs with hcs
  subst hcs
  exact ⟨[],⟨none,0,0,rfl,rfl,Nat.le_refl _,by omega,fun j x hj => by cases hj⟩,by simp⟩
 ·injection hcs with hcs
  subst hcs
  subst hy
  rw [if_pos rfl] at hmm
  rw [bulk_slice] at hw
  have hlen := bulk_len ((List.range len).map D)
  rw [List.length_map,List.length_range] at hlen
  obtain ⟨I,hI⟩ := Deep.choose_lt (α := Ix) (n:=len) (p:=fun k i => ∀ W',W' = W → W'.cell? (a.add (k * 6)) = some (.int .i64 i.op) ∧ W'.cell? (a.add (k * 6 + 1)) = some (.int .i64 i.d) ∧ W'.cell? (a.add (k * 6 + 2)) = some (.int .i64 i.a) ∧ W'.cell? (a.add (k * 6 + 3)) = some (.int .i64 i.b) ∧ W'.cell? (a.add (k * 6 + 4)) = some (.int .i64 i.c) ∧ W'.cell? (a.add (k * 6 + 5)) = some (.int .i64 i.imm)) (fun k hk => by
   obtain ⟨cs',h1,h2⟩ := hx k (by omega)
   rw [cells_ix] at h1
   obtain ⟨_,hcl,hcell⟩ := World.cells?_some h1
   obtain ⟨i,c0,c1,c2,c3,c4,c5⟩ := open_ix h2
   have key : ∀ j,j < 6 → W.cell? (a.add (k * 6 + j)) = cs'[j]? := fun j hj => by
    have := hcell j hj
    rw [Deep.add_add] at this
    exact this
   refine ⟨i,fun W' hW => ?_⟩
   subst hW
   exact ⟨(key 0 (by omega)).trans c0,(key 1 (by omega)).trans c1,(key 2 (by omega)).trans c2,(key 3 (by omega)).trans c3,(key 4 (by omega)).trans c4,(key 5 (by omega)).trans c5⟩)
  refine ⟨(List.range len).map I,⟨some a,len,cap,rfl,by simp,hl,by omega,fun j i hj => ?_⟩,by simp; omega⟩
  rw [List.getElem?_map,Option.map_eq_some_iff] at hj
  obtain ⟨r,hr1,rfl⟩ := hj
  have hjl : j < len := by have := (List.getElem?_eq_some_iff.1 hr1).1; simpa using this
  have hrj : r = j := by
   rw [List.getElem?_range hjl] at hr1
   exact (Option.some.inj hr1).symm
  subst hrj
  obtain ⟨q0,q1,q2,q3,q4,q5⟩ := hI r hjl W rfl
  have h0 := (hI 0 (by omega) W rfl).1
  rw [Nat.zero_mul] at h0
  have hs := spot_none h0
  rw [add_flat hs] at q0 q1 q2 q3 q4 q5
  exact ⟨a.block,a.off,by rw [← addr_eta hs],lt_of_cell q0,q0,q1,q2,q3,q4,q5⟩
theorem open_vars {W : World} {fuel : Nat} {v : Value} {y : DataW H × List MemPlace} (h : DataW.trod enc Try.prog W 0 (fun _ => true) true fuel 24 [v] = some y) (hw : Rows.uptoBulk y.1 ≤ 1048576) : ∃ l,VrIs W W.heap.size l v ∧ l.length ≤ 1048576 := by
 rcases Deep.open_slice Try.underlying24 h with ⟨hcs,_⟩ | ⟨a,len,cap,m,n,D,Pl,hcs,_,hl,hm,hmm,hy,hx⟩
 ·injection hcs with hcs
  subst hcs
  exact ⟨[],⟨none,0,0,rfl,rfl,Nat.le_refl _,by omega,fun j x hj => by cases hj⟩,by simp⟩
 ·injection hcs with hcs
  subst hcs
  subst hy
  rw [if_pos rfl] at hmm
  rw [bulk_slice] at hw
  have hlen := bulk_len ((List.range len).map D)
  rw [List.length_map,List.length_range] at hlen
  obtain ⟨I,hI⟩ := Deep.choose_lt (α := Vr) (n:=len) (p:=fun k i => ∀ W',W' = W → W'.cell? (a.add (k * 3)) = some (.string ⟨i.name.toArray⟩) ∧ W'.cell? (a.add (k * 3 + 1)) = some (.bool i.secret) ∧ W'.cell? (a.add (k * 3 + 2)) = some (.int .i64 i.size)) (fun k hk => by
   obtain ⟨cs',h1,h2⟩ := hx k (by omega)
   rw [cells_vr] at h1
   obtain ⟨_,hcl,hcell⟩ := World.cells?_some h1
   obtain ⟨i,c0,c1,c2⟩ := open_vr h2
   have key : ∀ j,j < 3 → W.cell? (a.add (k * 3 + j)) = cs'[j]? := fun j hj => by
    have := hcell j hj
    rw [Deep.add_add] at this
    exact this
   refine ⟨i,fun W' hW => ?_⟩
   subst hW
   exact ⟨(key 0 (by omega)).trans c0,(key 1 (by omega)).trans c1,(key 2 (by omega)).trans c2⟩)
  refine ⟨(List.range len).map I,⟨some a,len,cap,rfl,by simp,hl,by omega,fun j i hj => ?_⟩,by simp; omega⟩
  rw [List.getElem?_map,Option.map_eq_some_iff] at hj
  obtain ⟨r,hr1,rfl⟩ := hj
  have hjl : j < len := by have := (List.getElem?_eq_some_iff.1 hr1).1; simpa using this
  have hrj : r = j := by
   rw [List.getElem?_range hjl] at hr1
   exact (Option.some.inj hr1).symm
  subst hrj
  obtain ⟨q0,q1,q2⟩ := hI r hjl W rfl
  have h0 := (hI 0 (by omega) W rfl).1
  rw [Nat.zero_mul] at h0
  have hs := spot_none h0
  rw [add_flat hs] at q0 q1 q2
  exact ⟨a.block,a.off,by rw [← addr_eta hs],lt_of_cell q0,q0,q1,q2⟩
end Go.Proofs.Ytpnacanbknejiaa.Fl
