/- Laid together: MhOpen, TbOpen. -/
import Derived.Test.YtpnacanbknejiaaMhLd
import Derived.Test.YtpnacanbknejiaaFlOpen
import Derived.Deep.Grids
import Derived.Lib.SmallJoins
import Derived.Test.YtpnacanbknejiaaGr11
import Derived.ChangeReads
import Derived.ChangeArms
namespace Go.Proofs.Ytpnacanbknejiaa.Mh
set_option maxHeartbeats 32000000
set_option maxRecDepth 100000
open Go.ChangeShapes Go.WideShapes Go.ChangeAt Go.RowKit Go.WideMaps Go.WideElems Lg Lr Fl
set_option linter.unusedVariables false
variable {H : Type} {enc : TypeId × Value → H}
theorem cells_u8 : Try.prog.cellsOf 5 = 1 := by kernel_rfl
theorem u8_wf {n : Int} (h : (Lit.int .u8 n).wf = true) : 0 ≤ n ∧ n < 256 := by
 have h2 : IntKind.u8.min ≤ n ∧ n ≤ IntKind.u8.max := by simpa [Lit.wf] using h
 have e1 : IntKind.u8.min = 0 := by decide
 have e2 : IntKind.u8.max = 255 := by decide
 omega
theorem open_bytes {W : World} {fuel : Nat} {v : Value} {y : DataW H × List MemPlace} (h : DataW.trod enc Try.prog W 0 (fun _ => true) true fuel 64 [v] = some y) (hw : Rows.uptoBulk y.1 ≤ 1048576) : ∃ l,BysW W W.heap.size l v ∧ l.length ≤ 1048576 := by
 rcases Deep.open_slice1 Try.underlying64 cells_u8 h with ⟨hcs,_⟩ | ⟨a,len,cap,m,n,V,D,Pl,hcs,_,hl,hm,hmm,hy,hx⟩
 ·injection hcs with hcs
  subst hcs
  exact ⟨[],⟨none,0,rfl,Nat.le_refl _,(fun x h => by cases h),fun h => absurd rfl h⟩,by simp⟩
 ·injection hcs with hcs
  subst hcs
  subst hy
  rw [if_pos rfl] at hmm
  rw [bulk_slice] at hw
  have hlen := bulk_len ((List.range len).map D)
  rw [List.length_map,List.length_range] at hlen
  obtain ⟨I,hI⟩ := Deep.choose_lt (α := Int) (n:=len) (p:=fun k i => W.cell? (a.add k) = some (.int .u8 i) ∧ 0 ≤ i ∧ i < 256) (fun k hk => by
   obtain ⟨h1,h2⟩ := hx k (by omega)
   obtain ⟨b,hb,hbw⟩ := DataW.trod_int Try.underlying5 h2
   injection hb with hb
   exact ⟨b,by rw [h1,hb],u8_wf hbw.2⟩)
  by_cases h0 : len = 0
  ·subst h0
   exact ⟨[],⟨some a,cap,rfl,Nat.zero_le _,(fun x h => by cases h),fun h => absurd rfl h⟩,by simp⟩
  ·have hs := spot_none (hI 0 (by omega)).1
   have q0 := (hI 0 (by omega)).1
   rw [add_flat hs] at q0
   refine ⟨(List.range len).map I,⟨some a,cap,by simp,by simpa using hl,fun x hx => ?_,fun _ => ⟨a.block,a.off,by rw [← addr_eta hs],lt_of_cell q0,fun j x hj => ?_⟩⟩,by simp; omega⟩
   ·obtain ⟨k,hk,rfl⟩ := List.mem_map.1 hx
    rw [List.mem_range] at hk
    exact (hI k hk).2
   ·rw [List.getElem?_map,Option.map_eq_some_iff] at hj
    obtain ⟨r,hr1,rfl⟩ := hj
    have hjl : j < len := by have := (List.getElem?_eq_some_iff.1 hr1).1; simpa using this
    have hrj : r = j := by
     rw [List.getElem?_range hjl] at hr1
     exact (Option.some.inj hr1).symm
    subst hrj
    have q1 := (hI r hjl).1
    rw [add_flat hs] at q1
    exact q1
theorem open_image {W : World} {base : Nat} {v : Value} {d : DataW H} {p : List MemPlace} (hval : Value.okWide Try.prog W .any base 66 v) (h : DataW.Trod enc Try.prog W 0 (fun _ => true) true 66 v d p) (hw : Rows.uptoBulk d ≤ 1048576) : ∃ l sb pr pa m ca,v = .agg #[sb,.int .i64 pr,.slice pa m ca] ∧ BysW W W.heap.size l sb ∧ l.length ≤ 1048576 := by
 obtain ⟨v0,v1,v2,y0,y1,y2,n,rfl,rfl,rfl,h0,h1,h2⟩ := Joins.open_agg3 Try.underlying66 (by kernel_rfl) (by kernel_rfl) hval h
 rw [bulk_agg,bulk_cons,bulk_cons,bulk_cons,bulk_nil] at hw
 obtain ⟨l,hl,hn⟩ := open_bytes h0 (by omega)
 obtain ⟨z,hz,_⟩ := DataW.trod_int Try.underlying3 h1
 injection hz with hz
 subst hz
 obtain ⟨l3,k3,e3⟩ := open_vars h2 (by omega)
 obtain ⟨pa,m,ca,rfl,_⟩ := k3
 exact ⟨l,v0,z,pa,m,ca,rfl,hl,hn⟩
theorem arrs_count {W : World} {fuel : Nat} {v : Value} {y : DataW H × List MemPlace} (h : DataW.trod enc Try.prog W 0 (fun _ => true) true fuel 31 [v] = some y) (hw : Rows.uptoBulk y.1 ≤ 1048576) {p : Option Addr} {n c : Nat} (hv : v = .slice p n c) : n ≤ 1048576 := by
 rcases Deep.open_int_rows Try.underlying31 Try.underlying30 Try.underlying3 cells_ints cells_int h with ⟨hcs,_⟩ | ⟨a,len,cap,A,L,C,Z,hcs,_,hl,hm,hy,hrow⟩
 ·injection hcs with hcs
  rw [hv] at hcs
  injection hcs with e1 e2 e3
  omega
 ·injection hcs with hcs
  rw [hv] at hcs
  injection hcs with e1 e2 e3
  subst hy
  rw [bulk_slice] at hw
  have hlen := bulk_len ((List.range len).map fun r => Deep.intRow (H:=H) .i64 (A r) (L r) (Z r))
  rw [List.length_map,List.length_range] at hlen
  omega
theorem open_given2 {W : World} {base : Nat} {v : Value} {d : DataW H} {p : List MemPlace} (hval : Value.okWide Try.prog W .any base 33 v) (h : DataW.Trod enc Try.prog W 0 (fun _ => true) true 33 v d p) (hw : Rows.uptoBulk d ≤ 1048576) : ∃ ws aa,GvIs W W.heap.size ws aa v ∧ sumL aa ≤ 1048576 ∧ aa.length ≤ 1048576 := by
 obtain ⟨v0,v1,y0,y1,n,rfl,rfl,rfl,h0,h1⟩ := Joins.open_agg2 Try.underlying33 (by kernel_rfl) (by kernel_rfl) hval h
 rw [bulk_agg,bulk_cons,bulk_cons,bulk_nil] at hw
 obtain ⟨ws,hws,hl⟩ := open_words h0 (by omega)
 obtain ⟨aa,haa,hs⟩ := open_arrs h1 (by omega)
 refine ⟨ws,aa,⟨v0,v1,rfl,hws,haa⟩,by omega,?_⟩
 obtain ⟨p',n',c',e,hn,_⟩ := id haa
 rw [hn]
 exact arrs_count h1 (by omega) e
end Go.Proofs.Ytpnacanbknejiaa.Mh
namespace Go.Proofs.Ytpnacanbknejiaa.Tb
set_option maxHeartbeats 32000000
set_option maxRecDepth 100000
set_option linter.unusedVariables false
open Go.ChangeShapes Go.WideShapes Go.ChangeAt Go.RowKit
theorem mapM_mem {α β : Type} {f : α → Option β} : ∀ {l : List α} {ys : List β},l.mapM f = some ys → ∀ x ∈ l,∃ y,f x = some y
 | [],_,_,x,hx => by simp at hx
 | a :: l,ys,h,x,hx => by
  rw [List.mapM_cons] at h
  simp only [bind,Option.bind_eq_some_iff,pure,Option.some.injEq] at h
  obtain ⟨y,hy,zs,hz,_⟩ := h
  rcases List.mem_cons.1 hx with e | e
  ·exact ⟨y,by rw [e]; exact hy⟩
  ·exact mapM_mem hz x e
theorem cells_tab : Try.prog.cellsOf 29 = 18 := by kernel_rfl
theorem cells_arr : Try.prog.cellsOf 27 = 18 := by kernel_rfl
theorem cells_int : Try.prog.cellsOf 3 = 1 := by kernel_rfl
def numAt (cs : Array Value) (k : Nat) : Int := match cs[k]? with
 | some (.int _ n) => n
 | _ => 0
theorem open_tab {H : Type} {enc : TypeId × Value → H} {W : World} {base : Nat} {sp : Nat → Bool} {held : Bool} {v : Value} {d : DataW H} {p : List MemPlace} {r : Reach} {b0 : Nat}
  (hok : Value.okWide Try.prog W r b0 29 v) (h : DataW.Trod enc Try.prog W base sp held 29 v d p) : ∃ t,v = .agg (tabA t) ∧ I64 t ∧ ∀ k,18 ≤ k → t k = 0 := by
 obtain ⟨cs,rfl,hsz⟩ := okWide_struct Try.underlying29 hok
 rw [cells_tab] at hsz
 have key : ∀ i,i < 18 → ∃ n : Int,cs[i]? = some (.int .i64 n) ∧ (Lit.int .i64 n).wf = true := by
  obtain ⟨fuel,hf⟩ := h
  cases fuel with
  | zero => simp [DataW.trod] at hf
  | succ m =>
   rw [DataW.trod_step] at hf
   unfold DataW.trodStep at hf
   simp only [Try.underlying29,Value.cells] at hf
   rw [if_pos (by rw [cells_tab]; simpa using hsz)] at hf
   simp only [Option.map_eq_some_iff] at hf
   obtain ⟨ys,hy,_⟩ := hf
   obtain ⟨z,hz⟩ := mapM_mem hy _ (List.mem_singleton.2 rfl)
   simp only [List.drop_zero,cells_arr] at hz
   rw [List.take_of_length_le (by simp; omega)] at hz
   cases m with
   | zero => simp [DataW.trod] at hz
   | succ m =>
    rw [DataW.trod_step] at hz
    unfold DataW.trodStep at hz
    simp only [Try.underlying27] at hz
    rw [if_pos (by rw [cells_arr]; simpa using hsz)] at hz
    simp only [Option.map_eq_some_iff] at hz
    obtain ⟨zs,hzs,_⟩ := hz
    intro i hi
    obtain ⟨u,hu⟩ := mapM_mem hzs i (by simpa using hi)
    obtain ⟨n,e1,_,e3⟩ := DataW.trod_int Try.underlying3 hu
    refine ⟨n,?_,e3⟩
    rw [cells_int,Nat.mul_one] at e1
    have := congrArg (·[0]?) e1
    simpa using this
 have hnum : ∀ i,i < 18 → cs[i]? = some (.int .i64 (numAt cs i)) := fun i hi => by
  obtain ⟨n,hn,_⟩ := key i hi
  rw [hn]
  unfold numAt
  rw [hn]
 have hbig : ∀ k,18 ≤ k → numAt cs k = 0 := fun k hk => by
  unfold numAt
  rw [Array.getElem?_eq_none (by omega)]
 refine ⟨numAt cs,?_,fun k => ?_,hbig⟩
 ·congr 1
  apply Array.ext_getElem?
  intro i
  by_cases hi : i < 18
  ·rw [hnum i hi,tabA_at _ i hi]
  ·rw [Array.getElem?_eq_none (by omega),Array.getElem?_eq_none (by simp; omega)]
 ·by_cases hk : k < 18
  ·obtain ⟨n,hn,hw⟩ := key k hk
   have e : numAt cs k = n := by
    have := hnum k hk
    rw [hn] at this
    injection this with e1
    injection e1 with _ e2
    exact e2.symm
   rw [e]
   exact bounds_i64 hw
  ·rw [hbig k (by omega)]; omega
end Go.Proofs.Ytpnacanbknejiaa.Tb
