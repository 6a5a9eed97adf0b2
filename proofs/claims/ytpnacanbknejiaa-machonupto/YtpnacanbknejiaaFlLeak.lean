/- What is seen, as it lies: rows of leaks. -/
import Derived.Test.YtpnacanbknejiaaFlBegin
import Derived.Laws.ResultCell
namespace Go.Proofs.Ytpnacanbknejiaa.Fl
set_option linter.unusedVariables false
set_option linter.unusedSimpArgs false
open Go.ChangeShapes Go.WideShapes Go.ChangeAt Go.RowKit Lg Lr
def IntsX (w : World) (X : Nat → Prop) (l : List Int) (v : Value) : Prop := ∃ (p : Option Addr) (n cap : Nat),v = .slice p n cap ∧ l.length = n ∧ n ≤ cap ∧ n ≤ 17592186044416 ∧ ∀ j x,l[j]? = some x → ∃ g o,p = some ⟨g,o,none⟩ ∧ X g ∧ w.cell? ⟨g,o + j,none⟩ = some (.int .i64 x)
def cellsL (p : Lk × Value) : List Value := [.int .i64 (p.1.at' : Int),.int .i64 p.1.op,p.2]
theorem cellsL_len (p : Lk × Value) : (cellsL p).length = 3 := rfl
def nestL (w : World) (X : Nat → Prop) (p : Lk × Value) : Prop := IntsX w X p.1.vs p.2
theorem nestL_nest : Nest nestL := by
 refine ⟨fun w w' X p h hb => ?_,fun w X Y p h hb => ?_⟩
 ·obtain ⟨q,n,cap,h1,h2,h3,h4,h5⟩ := h
  refine ⟨q,n,cap,h1,h2,h3,h4,fun j x hj => ?_⟩
  obtain ⟨g,o,k1,k2,k3⟩ := h5 j x hj
  exact ⟨g,o,k1,k2,by rw [World.cell?_of_block (hb g k2)]; exact k3⟩
 ·obtain ⟨q,n,cap,h1,h2,h3,h4,h5⟩ := h
  refine ⟨q,n,cap,h1,h2,h3,h4,fun j x hj => ?_⟩
  obtain ⟨g,o,k1,k2,k3⟩ := h5 j x hj
  exact ⟨g,o,k1,hb g k2,k3⟩
def RowL (w : World) (lo : Nat) (v : Value) (es : List (Lk × Value)) : Prop := RowX nestL cellsL 3 61 w lo v es
theorem RowI.intsX {w : World} {lo : Nat} {v : Value} {es : List Int} (h : RowI w lo v es) (hl : es.length ≤ 17592186044416) (X : Nat → Prop) (hX : ∀ i,lo ≤ i → i < w.heap.size → X i) : IntsX w X es v := by
 rcases RowX.form cellsI_len h with ⟨h1,h2⟩ | ⟨g,cap,h1,h2,h3,h4,h5⟩
 ·exact ⟨none,0,0,h2,by rw [h1]; rfl,Nat.le_refl _,by omega,fun j t hj => by rw [h1] at hj; simp at hj⟩
 ·refine ⟨some ⟨g,0,none⟩,_,cap,h1,rfl,h2,hl,fun j p hp => ⟨g,0,rfl,hX g h3 h4,?_⟩⟩
  have := h5 j p 0 _ hp rfl
  rw [Nat.zero_add]
  simpa using this
def LksIs (w : World) (B : Nat) (ls : List Lk) (v : Value) : Prop := ∃ (p : Option Addr) (n cap : Nat),v = .slice p n cap ∧ ls.length = n ∧ n ≤ cap ∧ n ≤ 281474976710656 ∧ ∀ j l,ls[j]? = some l → ∃ g o s,p = some ⟨g,o,none⟩ ∧ g < B ∧ w.cell? ⟨g,o + j * 3,none⟩ = some (.int .i64 (l.at' : Int)) ∧ w.cell? ⟨g,o + j * 3 + 1,none⟩ = some (.int .i64 l.op) ∧ w.cell? ⟨g,o + j * 3 + 2,none⟩ = some s ∧ IntsIs w B l.vs s
theorem LksIs.below {w w' : World} {B : Nat} {ls : List Lk} {v : Value} (h : LksIs w B ls v) (hb : Below B w w') : LksIs w' B ls v := by
 obtain ⟨p,n,cap,h1,h2,h3,h4,h5⟩ := h
 refine ⟨p,n,cap,h1,h2,h3,h4,fun j x hj => ?_⟩
 obtain ⟨g,o,s,k1,k2,k3,k4,k5,k6⟩ := h5 j x hj
 exact ⟨g,o,s,k1,k2,by rw [cell_below hb k2]; exact k3,by rw [cell_below hb k2]; exact k4,by rw [cell_below hb k2]; exact k5,k6.below hb⟩
theorem RowL.is {w : World} {lo : Nat} {v : Value} {es : List (Lk × Value)} (h : RowL w lo v es) (hl : es.length ≤ 281474976710656) : LksIs w w.heap.size (es.map Prod.fst) v := by
 rcases RowX.form cellsL_len h with ⟨h1,h2⟩ | ⟨g,cap,h1,h2,h3,h4,h5⟩
 ·exact ⟨none,0,0,h2,by rw [h1]; rfl,Nat.le_refl _,by omega,fun j t hj => by rw [h1] at hj; simp at hj⟩
 ·refine ⟨some ⟨g,0,none⟩,_,cap,h1,by rw [List.length_map],h2,hl,fun j l hj => ?_⟩
  rw [List.getElem?_map,Option.map_eq_some_iff] at hj
  obtain ⟨p,hp,rfl⟩ := hj
  refine ⟨g,0,p.2,rfl,h4,?_,?_,?_,?_⟩
  ·have := h5 j p 0 _ hp rfl; rw [Nat.zero_add]; simpa using this
  ·have := h5 j p 1 _ hp rfl; rw [Nat.zero_add]; exact this
  ·have := h5 j p 2 _ hp rfl; rw [Nat.zero_add]; exact this
  ·obtain ⟨q,n,c,q1,q2,q3,q4,q5⟩ := h.sub p (List.mem_of_getElem? hp)
   refine ⟨q,n,c,q1,q2,q3,q4,fun j x hj => ?_⟩
   obtain ⟨g',o',r1,r2,r3⟩ := q5 j x hj
   exact ⟨g',o',r1,r2.2.1,r3⟩
theorem Mc.arrs {w : World} {PB AO : Nat} {P : List Int} {ps : List (Nat × List Int)} (h : Mc w PB AO P ps) (hl : ps.length ≤ 5864062014805) (hr : ∀ r ∈ ars ps,r.length ≤ 17592186044416) : ArrsIs w w.heap.size (ars ps) (.slice (some ⟨AO,0,none⟩) ps.length ps.length) := by
 refine ⟨_,_,_,rfl,by unfold ars; rw [List.length_map],Nat.le_refl _,hl,fun j l hj => ?_⟩
 have hlt : j < ps.length := by
  have := (List.getElem?_eq_some_iff.1 hj).1
  unfold ars at this
  rw [List.length_map] at this; exact this
 obtain ⟨gb,row,hg,hrow,hc,hk⟩ := h.arr hlt
 have e : l = row := by
  unfold ars at hj
  rw [List.getElem?_map,hg] at hj
  cases hj; rfl
 subst e
 refine ⟨AO,0,_,rfl,h.row.lt,by rw [Nat.zero_add]; exact hc,_,_,_,rfl,rfl,Nat.le_refl _,hr _ (List.mem_of_getElem? hj),fun k x hx => ⟨gb,0,rfl,hk.lt,?_⟩⟩
 rw [Nat.zero_add]
 exact hk.cell k (by rw [List.getElem?_map,hx]; rfl)
theorem tab_yields {ops : Array Oper} {o : Oper} {a : Act} {S : World → Prop} (hgd : o.guard = none) (x : Operand) (ho : o.op = .load 29 x) (g : Nat) (hx : a.eval x = .pointer (some ⟨g,0,none⟩)) (T : Nat → Int) (hS : ∀ w,S w → Tb.Blk w g T) : YieldsIf Try.prog ops S o (.agg (Tb.tabA T)) a :=
 .inl ⟨by simp [Region.wanted,hgd],fun w hw => by
  unfold execOp
  simp only [ho,hx,Instr.loadAt,Instr.sureAddr,Sem.run_bind,Sem.run_pure,Result.andThen_ok,run_loadVar_row w g 29 29 (Tb.tabA T) (0,0) _ (hS w hw) Try.underlying29 rfl (Tb.tab_info T)]⟩
theorem ret_end {fn : Func} {p u : Tmp} (hf : fn.results = #[.cell p 51,.tmp u]) (tmps : Array Value) (w : World) (g : Nat) (a b c v : Value) (h2 : tmps.getD p undef = .pointer (some ⟨g,0,none⟩)) (h3 : tmps.getD u undef = v) (hg : Bk w g [a,b,c] 51) :
  (results fn tmps).run Try.prog w = .ok (.tuple #[.agg #[a,b,c],v]) w := by
 rw [results_cell_tmp hf,h2,h3]
 have := run_loadVar_row (P:=Try.prog) w g _ 51 #[a,b,c] _ _ hg Try.underlying51 rfl (by kernel_rfl)
 simp [asAddr,Result.andThen,this]
theorem infoL : (Try.prog.info? 61).map (fun i => (i.zero,i.size,i.bytes)) = some (some (.agg #[.int .i64 0,.int .i64 0,.slice none 0 0]),3,40) := by kernel_rfl
def RunQ (f : Fx) (T : Nat → Int) (ws : List Int) (aa : List (List Int)) (w : World) (r : Ending) (w' : World) : Prop :=
 ∃ ls e v sA,Runs f.code T 0 (firstP f.sec.length ws) aa ls e ∧ r = .returned (.tuple #[.agg #[.int .i64 e.word,.bool e.trap,sA],v]) ∧ LksIs w' w'.heap.size ls v ∧ ArrsIs w' w'.heap.size e.arr sA ∧ Below w.heap.size w w'
end Go.Proofs.Ytpnacanbknejiaa.Fl
