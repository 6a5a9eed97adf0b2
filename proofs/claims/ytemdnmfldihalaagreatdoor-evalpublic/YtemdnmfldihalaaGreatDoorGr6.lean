/- Laid together: LeSame, LeSync, LfBase. -/
import Derived.Test.YtemdnmfldihalaaGreatDoorLePub
import Derived.Test.YtemdnmfldihalaaGreatDoorGr2
import Derived.Test.YtemdnmfldihalaaGreatDoorGr3
namespace Go.Proofs.YtemdnmfldihalaaGreatDoor.Lg
set_option linter.unusedVariables false
set_option linter.unusedSimpArgs false
theorem evS_one {rs : List Vr} {m : Nat} {t : St} {k : Mm} {x : Ex} {v : Int} (hx : t.args = [x]) (hv : evE rs k.env k.arr m x = some v) : allE (evE rs k.env k.arr m) t.args = some [v] := by
 rw [hx,allE,hv,allE]
theorem LkE.refl_left {ns : List Nm} {a b : Env} (h : LkE ns a b) : LkE ns a a := h.trans h.symm
theorem LkA.refl_left {rs : List Vr} {a b : List (List Int)} (h : LkA rs a b) : LkA rs a a := h.trans h.symm
theorem cut_go {n : Nat} {k : Mm} : cutR n (.go k) = .go ⟨k.env.take n,k.arr,k.work⟩ := rfl
def DarkR (rs : List Vr) (ns : List Nm) (e2 : Env) (a2 : List (List Int)) (r : Rs) : Prop := ∃ k' ex,r = .go k' ∧ LkE ns k'.env (e2 ++ ex) ∧ LkA rs k'.arr a2
theorem evL_dark {rs : List Vr} {f : St → Mm → Rs} {g : St → Ks → Except Int Ks} : ∀ (l : List St),(∀ t ∈ l,∀ ks ks',ks.work ≤ 300 → ks.lets ≤ 24 → g t ks = .ok ks' → Gd ks ks' ∧ ∀ k e2 a2,LkE ks.ns k.env e2 → LkA rs k.arr a2 → DarkR rs ks'.ns e2 a2 (f t k)) →
  ∀ ks ks',ks.work ≤ 300 → ks.lets ≤ 24 → stmtsK g l ks = .ok ks' → Gd ks ks' ∧ ∀ k e2 a2,LkE ks.ns k.env e2 → LkA rs k.arr a2 → DarkR rs ks'.ns e2 a2 (evL f l k)
 | [],_,ks,ks',h1,h2,h => by
  cases h
  exact ⟨Gd.refl h1 h2,fun k e2 a2 hE hA => ⟨k,[],rfl,by simpa using hE,hA⟩⟩
 | t :: l,hf,ks,ks',h1,h2,h => by
  rw [stmtsK] at h
  obtain ⟨k1,hk1,h⟩ := thenK_inv h
  obtain ⟨hg,hd⟩ := hf t (by simp) ks k1 h1 h2 hk1
  obtain ⟨hg2,hd2⟩ := evL_dark l (fun u hu => hf u (by simp [hu])) k1 ks' hg.most hg.lets h
  refine ⟨hg.trans hg2,fun k e2 a2 hE hA => ?_⟩
  obtain ⟨k',ex,e1,hE1,hA1⟩ := hd k e2 a2 hE hA
  obtain ⟨k2,ex2,e3,hE2,hA2⟩ := hd2 k' (e2 ++ ex) a2 hE1 hA1
  exact ⟨k2,ex ++ ex2,by rw [evL,e1]; exact e3,by rw [← List.append_assoc]; exact hE2,hA2⟩
theorem evB_dark {rs : List Vr} {f : St → Mm → Rs} {g : St → Ks → Except Int Ks} (l : List St) (hf : ∀ t ∈ l,∀ ks ks',ks.work ≤ 300 → ks.lets ≤ 24 → g t ks = .ok ks' → Gd ks ks' ∧ ∀ k e2 a2,LkE ks.ns k.env e2 → LkA rs k.arr a2 → DarkR rs ks'.ns e2 a2 (f t k))
  {ks ks' : Ks} (h1 : ks.work ≤ 300) (h2 : ks.lets ≤ 24) (h : blockK g l ks = .ok ks') : (Gd ks ks' ∧ ks'.ns = ks.ns) ∧ ∀ k e2 a2,LkE ks.ns k.env e2 → LkA rs k.arr a2 → ∃ k',evB f l k = .go k' ∧ LkE ks.ns k'.env e2 ∧ LkA rs k'.arr a2 := by
 unfold blockK at h
 obtain ⟨k1,hk1,h⟩ := thenK_inv h
 cases h
 obtain ⟨hg,hd⟩ := evL_dark l hf ks k1 h1 h2 hk1
 refine ⟨⟨⟨⟨[],by simp⟩,hg.work,hg.most,hg.lets,by have := hg.work; dsimp only; omega⟩,rfl⟩,fun k e2 a2 hE hA => ?_⟩
 obtain ⟨k',ex,e1,hE1,hA1⟩ := hd k e2 a2 hE hA
 obtain ⟨nx,hnx⟩ := hg.ns
 rw [hnx] at hE1
 have ht := hE1.take
 have l1 := hE.len
 refine ⟨⟨k'.env.take ks.ns.length,k'.arr,k'.work⟩,?_,?_,hA1⟩
 ·unfold evB
  rw [e1,l1.1,cut_go]
 ·rw [List.take_left' l1.2] at ht
  exact ht
theorem evS_dark {rs : List Vr} : ∀ (m : Nat) (t : St),wfS m t → ∀ ks ks',ks.work ≤ 300 → ks.lets ≤ 24 → stmtK rs m true t ks = .ok ks' → Gd ks ks' ∧ ∀ k e2 a2,LkE ks.ns k.env e2 → LkA rs k.arr a2 → DarkR rs ks'.ns e2 a2 (evS rs m t k)
 | 0,t,hw,ks,ks',_,_,h => hw.elim
 | m + 1,t,hw,ks,ks',h1,h2,h => by
  have hgd := (stmt_gd rs (m + 1) true t ks h1 h2).2 ks' h
  refine ⟨hgd,fun k e2 a2 hE hA => ?_⟩
  obtain ⟨ns,wk,lt⟩ := ks
  dsimp only at h1 h2 hE
  have hm := hgd.most
  have hwk : wk + 1 ≤ 300 := by
   rw [stmtK] at h
   split at h
   ·cases h
   ·dsimp only at *; omega
  have hwa := wfS_args hw
  rcases stmt_cases hw h with ⟨x,s,hk,hx,hs,hno,hl,rfl⟩ | ⟨x,s,v,hk,hx,hs,hv,hl,rfl⟩ | ⟨x,y,u,v,hk,hx,hs,hu,hv,hd,hl,rfl⟩ | ⟨x,s,k1,hk,hx,hs,hth,hel,hb1,hb2⟩ | ⟨k1,hk,hx,h0,h8,hth,hno,hr,rfl⟩ | ⟨x,s,hk,hx,hs,hd,rfl⟩
  ·obtain ⟨a,ha⟩ := evE_dark (env:=k.env) hA m x (hwa x (by rw [hx]; simp)) s hs
   rw [evS,evS_one hx ha]
   dsimp only
   rw [if_pos hk]
   refine ⟨_,[(t.name,a)],rfl,?_,hA⟩
   exact hE.snoc (v:=⟨t.name,t.secret,false⟩) (fun h => by have := (hl h).2; cases this)
  ·obtain ⟨a,ha⟩ := evE_dark (env:=k.env) hA m x (hwa x (by rw [hx]; simp)) s hs
   rw [evS,evS_one hx ha]
   dsimp only
   rw [if_neg (by rw [hk]; decide),if_pos hk]
   have hvs : v.secret = true := by
    cases hb : v.secret with
    | true => rfl
    | false => have := (hl hb).2; cases this
   exact ⟨_,[],rfl,by rw [List.append_nil]; exact hE.dark hvs hv,hA⟩
  ·obtain ⟨a,ha⟩ := evE_dark (env:=k.env) hA m x (hwa x (by rw [hx]; simp)) false hs
   obtain ⟨b,hb⟩ := evE_dark (env:=k.env) hA m y (hwa y (by rw [hx]; simp)) u hu
   rw [evS,hx,allE,ha,allE,hb,allE]
   dsimp only
   rw [if_neg (by rw [hk]; decide),if_neg (by rw [hk]; decide),if_pos hk]
   have hvs : v.secret = true := by
    cases hb : v.secret with
    | true => rfl
    | false => have := (hl hb).2; cases this
   obtain ⟨hk1,hn1⟩ := hd rfl
   have hax : a = x.n := by
    cases m with
    | zero => exact (hwa x (by rw [hx]; simp)).elim
    | succ m => rw [evE,if_pos hk1] at ha; cases ha; rfl
   obtain ⟨r1,_⟩ := hA.row hv
   rw [if_pos (show nth [a,b] 0 < _ by rw [r1]; show a < _; rw [hax]; exact hn1)]
   exact ⟨_,[],rfl,by rw [List.append_nil]; exact hE,hA.dark hvs hv⟩
  ·obtain ⟨a,ha⟩ := evE_dark (env:=k.env) hA m x (hwa x (by rw [hx]; simp)) s hs
   rw [evS,evS_one hx ha]
   dsimp only
   rw [if_neg (by rw [hk]; decide),if_neg (by rw [hk]; decide),if_neg (by rw [hk]; decide),if_pos hk]
   rw [Bool.or_true] at hb1 hb2
   obtain ⟨⟨hg1,hn1⟩,hd1⟩ := evB_dark t.thn (fun u hu ks ks' a b c => evS_dark m u (hth u hu) ks ks' a b c) (ks:=⟨ns,wk + 1,lt⟩) hwk h2 hb1
   dsimp only at hn1 hd1
   obtain ⟨⟨hg2,hn2⟩,hd2⟩ := evB_dark t.els (fun u hu ks ks' a b c => evS_dark m u (hel u hu) ks ks' a b c) (ks:=k1) hg1.most hg1.lets hb2
   rw [hn1] at hd2 hn2
   rw [hn2]
   by_cases hz : nth [a] 0 = 0
   ·rw [if_pos hz]
    obtain ⟨k',e1,hE',hA'⟩ := hd2 ⟨k.env,k.arr,k.work + 1⟩ e2 a2 hE hA
    exact ⟨k',[],e1,by rw [List.append_nil]; exact hE',hA'⟩
   ·rw [if_neg hz]
    obtain ⟨k',e1,hE',hA'⟩ := hd1 ⟨k.env,k.arr,k.work + 1⟩ e2 a2 hE hA
    exact ⟨k',[],e1,by rw [List.append_nil]; exact hE',hA'⟩
  ·rw [evS,hx,allE]
   dsimp only
   rw [if_neg (by rw [hk]; decide),if_neg (by rw [hk]; decide),if_neg (by rw [hk]; decide),if_neg (by rw [hk]; decide),if_pos hk]
   have key : ∀ (n : Nat) (i : Int) (kc kd : Ks),kc.ns = ns ++ [⟨t.name,false,true⟩] → kc.work ≤ 300 → kc.lets ≤ 24 → roundsK (blockK (stmtK rs m true) t.thn) n kc = .ok kd → ∀ k : Mm,LkE ns k.env e2 → LkA rs k.arr a2 →
     ∃ k',evR (fun i k => cutR k.env.length (evB (evS rs m) t.thn ⟨k.env ++ [(t.name,i)],k.arr,k.work⟩)) n i k = .go k' ∧ LkE ns k'.env e2 ∧ LkA rs k'.arr a2 := by
    intro n
    induction n with
    | zero => intro i kc kd _ _ _ _ k hE hA; exact ⟨k,rfl,hE,hA⟩
    | succ n ih =>
     intro i kc kd hc hc1 hc2 hr k hE hA
     rw [roundsK] at hr
     obtain ⟨ke,he,hr⟩ := thenK_inv hr
     obtain ⟨⟨hg1,hn1⟩,hd1⟩ := evB_dark t.thn (fun u hu ks ks' a b c => evS_dark m u (hth u hu) ks ks' a b c) hc1 hc2 he
     rw [hc] at hd1 hn1
     obtain ⟨k',e1,hE',hA'⟩ := hd1 ⟨k.env ++ [(t.name,i)],k.arr,k.work⟩ (e2 ++ [(t.name,i)]) a2 (hE.snoc (v:=⟨t.name,false,true⟩) (fun _ => rfl)) hA
     have ht := hE'.take
     have l1 := hE.len
     rw [List.take_left' l1.2] at ht
     rw [evR,e1,l1.1,cut_go]
     exact ih (i + 1) ke kd hn1 hg1.most hg1.lets hr ⟨k'.env.take ns.length,k'.arr,k'.work⟩ ht hA'
   obtain ⟨k',e1,hE',hA'⟩ := key t.n.toNat 0 _ k1 rfl hwk h2 hr ⟨k.env,k.arr,k.work + 1⟩ hE hA
   exact ⟨k',[],e1,by rw [List.append_nil]; exact hE',hA'⟩
  ·cases hd
def SameR (rs : List Vr) (ns : List Nm) (r1 r2 : Rs) : Prop := (∃ k1 k2,r1 = .go k1 ∧ r2 = .go k2 ∧ LkE ns k1.env k2.env ∧ LkA rs k1.arr k2.arr) ∨ ∃ t w1 w2 a1 a2 n1 n2,r1 = .over t w1 a1 n1 ∧ r2 = .over t w2 a2 n2 ∧ LkA rs a1 a2
theorem evL_same {rs : List Vr} {f : St → Mm → Rs} {g : St → Ks → Except Int Ks} : ∀ (l : List St),(∀ t ∈ l,∀ ks ks',ks.work ≤ 300 → ks.lets ≤ 24 → g t ks = .ok ks' → Gd ks ks' ∧ ∀ k1 k2,LkE ks.ns k1.env k2.env → LkA rs k1.arr k2.arr → SameR rs ks'.ns (f t k1) (f t k2)) →
  ∀ ks ks',ks.work ≤ 300 → ks.lets ≤ 24 → stmtsK g l ks = .ok ks' → Gd ks ks' ∧ ∀ k1 k2,LkE ks.ns k1.env k2.env → LkA rs k1.arr k2.arr → SameR rs ks'.ns (evL f l k1) (evL f l k2)
 | [],_,ks,ks',h1,h2,h => by
  cases h
  exact ⟨Gd.refl h1 h2,fun k1 k2 hE hA => .inl ⟨k1,k2,rfl,rfl,hE,hA⟩⟩
 | t :: l,hf,ks,ks',h1,h2,h => by
  rw [stmtsK] at h
  obtain ⟨k1,hk1,h⟩ := thenK_inv h
  obtain ⟨hg,hd⟩ := hf t (by simp) ks k1 h1 h2 hk1
  obtain ⟨hg2,hd2⟩ := evL_same l (fun u hu => hf u (by simp [hu])) k1 ks' hg.most hg.lets h
  refine ⟨hg.trans hg2,fun ka kb hE hA => ?_⟩
  rw [evL,evL]
  rcases hd ka kb hE hA with ⟨kc,kd,e1,e2,hE1,hA1⟩ | ⟨tr,w1,w2,a1,a2,n1,n2,e1,e2,hA1⟩
  ·rw [e1,e2]; exact hd2 kc kd hE1 hA1
  ·rw [e1,e2]; exact .inr ⟨tr,w1,w2,a1,a2,n1,n2,rfl,rfl,hA1⟩
theorem evB_same {rs : List Vr} {f : St → Mm → Rs} {g : St → Ks → Except Int Ks} (l : List St) (hf : ∀ t ∈ l,∀ ks ks',ks.work ≤ 300 → ks.lets ≤ 24 → g t ks = .ok ks' → Gd ks ks' ∧ ∀ k1 k2,LkE ks.ns k1.env k2.env → LkA rs k1.arr k2.arr → SameR rs ks'.ns (f t k1) (f t k2))
  {ks ks' : Ks} (h1 : ks.work ≤ 300) (h2 : ks.lets ≤ 24) (h : blockK g l ks = .ok ks') : (Gd ks ks' ∧ ks'.ns = ks.ns) ∧ ∀ k1 k2,LkE ks.ns k1.env k2.env → LkA rs k1.arr k2.arr → SameR rs ks.ns (evB f l k1) (evB f l k2) := by
 unfold blockK at h
 obtain ⟨k1,hk1,h⟩ := thenK_inv h
 cases h
 obtain ⟨hg,hd⟩ := evL_same l hf ks k1 h1 h2 hk1
 refine ⟨⟨⟨⟨[],by simp⟩,hg.work,hg.most,hg.lets,by have := hg.work; dsimp only; omega⟩,rfl⟩,fun ka kb hE hA => ?_⟩
 have l1 := hE.len
 unfold evB
 rcases hd ka kb hE hA with ⟨kc,kd,e1,e2,hE1,hA1⟩ | ⟨tr,w1,w2,a1,a2,n1,n2,e1,e2,hA1⟩
 ·obtain ⟨nx,hnx⟩ := hg.ns
  rw [hnx] at hE1
  rw [e1,e2,l1.1,l1.2,cut_go,cut_go]
  exact .inl ⟨_,_,rfl,rfl,hE1.take,hA1⟩
 ·rw [e1,e2]
  exact .inr ⟨tr,w1,w2,a1,a2,n1,n2,rfl,rfl,hA1⟩
theorem evS_same {rs : List Vr} : ∀ (m : Nat) (t : St),wfS m t → ∀ ks ks',ks.work ≤ 300 → ks.lets ≤ 24 → stmtK rs m false t ks = .ok ks' → Gd ks ks' ∧ ∀ k1 k2,LkE ks.ns k1.env k2.env → LkA rs k1.arr k2.arr → SameR rs ks'.ns (evS rs m t k1) (evS rs m t k2)
 | 0,t,hw,ks,ks',_,_,h => hw.elim
 | m + 1,t,hw,ks,ks',h1,h2,h => by
  have hgd := (stmt_gd rs (m + 1) false t ks h1 h2).2 ks' h
  refine ⟨hgd,fun ka kb hE hA => ?_⟩
  obtain ⟨ns,wk,lt⟩ := ks
  dsimp only at h1 h2 hE
  have hwk : wk + 1 ≤ 300 := by
   rw [stmtK] at h
   split at h
   ·cases h
   ·dsimp only at *; omega
  have hwa := wfS_args hw
  rcases stmt_cases hw h with ⟨x,s,hk,hx,hs,hno,hl,rfl⟩ | ⟨x,s,v,hk,hx,hs,hv,hl,rfl⟩ | ⟨x,y,u,v,hk,hx,hs,hu,hv,hd,hl,rfl⟩ | ⟨x,s,k1,hk,hx,hs,hth,hel,hb1,hb2⟩ | ⟨k1,hk,hx,h0,h8,hth,hno,hr,rfl⟩ | ⟨x,s,hk,hx,hs,hd,rfl⟩
  ·rw [evS,evS,hx,allE,allE,allE,allE]
   rcases evE_both hE hA m x (hwa x (by rw [hx]; simp)) s hs with ⟨e1,e2⟩ | ⟨a,b,e1,e2,hab⟩
   ·rw [e1,e2]; exact .inr ⟨_,_,_,_,_,_,_,rfl,rfl,hA⟩
   ·rw [e1,e2]
    dsimp only
    rw [if_pos hk,if_pos hk]
    exact .inl ⟨_,_,rfl,rfl,hE.snoc (v:=⟨t.name,t.secret,false⟩) (fun h => hab (hl h).1),hA⟩
  ·rw [evS,evS,hx,allE,allE,allE,allE]
   rcases evE_both hE hA m x (hwa x (by rw [hx]; simp)) s hs with ⟨e1,e2⟩ | ⟨a,b,e1,e2,hab⟩
   ·rw [e1,e2]; exact .inr ⟨_,_,_,_,_,_,_,rfl,rfl,hA⟩
   ·rw [e1,e2]
    dsimp only
    rw [if_neg (by rw [hk]; decide),if_pos hk,if_neg (by rw [hk]; decide),if_pos hk]
    exact .inl ⟨_,_,rfl,rfl,hE.set (fun h => hab (hl h).1) hv,hA⟩
  ·rw [evS,evS,hx,allE,allE,allE,allE,allE,allE]
   rcases evE_both hE hA m x (hwa x (by rw [hx]; simp)) false hs with ⟨e1,e2⟩ | ⟨a,b,e1,e2,hab⟩
   ·rw [e1,e2]; exact .inr ⟨_,_,_,_,_,_,_,rfl,rfl,hA⟩
   have hab := hab rfl
   subst hab
   rw [e1,e2]
   dsimp only
   rcases evE_both hE hA m y (hwa y (by rw [hx]; simp)) u hu with ⟨e3,e4⟩ | ⟨c,d,e3,e4,hcd⟩
   ·rw [e3,e4]; exact .inr ⟨_,_,_,_,_,_,_,rfl,rfl,hA⟩
   rw [e3,e4]
   dsimp only
   have q1 : ¬ t.kind = 1 := by rw [hk]; decide
   have q2 : ¬ t.kind = 2 := by rw [hk]; decide
   rw [if_neg q1,if_neg q2,if_pos hk,if_neg q1,if_neg q2,if_pos hk]
   obtain ⟨r1,r2,r3⟩ := hA.row hv
   have hn1 : nth [a,c] 0 = a := rfl
   have hn2 : nth [a,d] 0 = a := rfl
   rw [hn1,hn2]
   by_cases hlt : a < v.size
   ·rw [if_pos (by rw [r1]; exact hlt),if_pos (by rw [r2]; exact hlt)]
    exact .inl ⟨_,_,rfl,rfl,hE,hA.put (fun h => hcd (hl h).1) hv⟩
   ·rw [if_neg (by rw [r1]; exact hlt),if_neg (by rw [r2]; exact hlt)]
    exact .inr ⟨_,_,_,_,_,_,_,rfl,rfl,hA⟩
  ·rw [evS,evS,hx,allE,allE,allE,allE]
   rw [Bool.or_false] at hb1 hb2
   rcases evE_both hE hA m x (hwa x (by rw [hx]; simp)) s hs with ⟨e1,e2⟩ | ⟨a,b,e1,e2,hab⟩
   ·rw [e1,e2]; exact .inr ⟨_,_,_,_,_,_,_,rfl,rfl,hA⟩
   rw [e1,e2]
   dsimp only
   have q1 : ¬ t.kind = 1 := by rw [hk]; decide
   have q2 : ¬ t.kind = 2 := by rw [hk]; decide
   have q3 : ¬ t.kind = 3 := by rw [hk]; decide
   rw [if_neg q1,if_neg q2,if_neg q3,if_pos hk,if_neg q1,if_neg q2,if_neg q3,if_pos hk]
   have hn1 : nth [a] 0 = a := rfl
   have hn2 : nth [b] 0 = b := rfl
   rw [hn1,hn2]
   cases s with
   | false =>
    have hab := hab rfl
    subst hab
    obtain ⟨⟨hg1,hq1⟩,hd1⟩ := evB_same t.thn (fun u hu ks ks' a b c => evS_same m u (hth u hu) ks ks' a b c) (ks:=⟨ns,wk + 1,lt⟩) hwk h2 hb1
    dsimp only at hq1 hd1
    obtain ⟨⟨hg2,hq2⟩,hd2⟩ := evB_same t.els (fun u hu ks ks' a b c => evS_same m u (hel u hu) ks ks' a b c) (ks:=k1) hg1.most hg1.lets hb2
    rw [hq1] at hd2 hq2
    rw [hq2]
    by_cases hz : a = 0
    ·rw [if_pos hz]
     exact hd2 ⟨ka.env,ka.arr,ka.work + 1⟩ ⟨kb.env,kb.arr,kb.work + 1⟩ hE hA
    ·rw [if_neg hz]
     exact hd1 ⟨ka.env,ka.arr,ka.work + 1⟩ ⟨kb.env,kb.arr,kb.work + 1⟩ hE hA
   | true =>
    obtain ⟨⟨hg1,hq1⟩,hd1⟩ := evB_dark t.thn (fun u hu ks ks' a b c => evS_dark m u (hth u hu) ks ks' a b c) (ks:=⟨ns,wk + 1,lt⟩) hwk h2 hb1
    dsimp only at hq1 hd1
    obtain ⟨⟨hg2,hq2⟩,hd2⟩ := evB_dark t.els (fun u hu ks ks' a b c => evS_dark m u (hel u hu) ks ks' a b c) (ks:=k1) hg1.most hg1.lets hb2
    rw [hq1] at hd2 hq2
    rw [hq2]
    have side : ∀ (k : Mm) (z : Int),LkE ns k.env k.env → LkA rs k.arr k.arr → ∃ k',evB (evS rs m) (if z = 0 then t.els else t.thn) ⟨k.env,k.arr,k.work + 1⟩ = .go k' ∧ LkE ns k'.env k.env ∧ LkA rs k'.arr k.arr := by
     intro k z hE hA
     by_cases hz : z = 0
     ·rw [if_pos hz]; exact hd2 ⟨k.env,k.arr,k.work + 1⟩ _ _ hE hA
     ·rw [if_neg hz]; exact hd1 ⟨k.env,k.arr,k.work + 1⟩ _ _ hE hA
    obtain ⟨kc,e3,hE3,hA3⟩ := side ka a hE.refl_left hA.refl_left
    obtain ⟨kd,e4,hE4,hA4⟩ := side kb b hE.symm.refl_left hA.symm.refl_left
    exact .inl ⟨kc,kd,e3,e4,(hE3.trans hE).trans hE4.symm,(hA3.trans hA).trans hA4.symm⟩
  ·rw [evS,evS,hx,allE,allE]
   dsimp only
   rw [if_neg (by rw [hk]; decide),if_neg (by rw [hk]; decide),if_neg (by rw [hk]; decide),if_neg (by rw [hk]; decide),if_pos hk,if_neg (by rw [hk]; decide),if_neg (by rw [hk]; decide),if_neg (by rw [hk]; decide),if_neg (by rw [hk]; decide),if_pos hk]
   have key : ∀ (n : Nat) (i : Int) (kc kd : Ks),kc.ns = ns ++ [⟨t.name,false,true⟩] → kc.work ≤ 300 → kc.lets ≤ 24 → roundsK (blockK (stmtK rs m false) t.thn) n kc = .ok kd → ∀ k1 k2 : Mm,LkE ns k1.env k2.env → LkA rs k1.arr k2.arr →
     SameR rs ns (evR (fun i k => cutR k.env.length (evB (evS rs m) t.thn ⟨k.env ++ [(t.name,i)],k.arr,k.work⟩)) n i k1) (evR (fun i k => cutR k.env.length (evB (evS rs m) t.thn ⟨k.env ++ [(t.name,i)],k.arr,k.work⟩)) n i k2) := by
    intro n
    induction n with
    | zero => intro i kc kd _ _ _ _ k1 k2 hE hA; exact .inl ⟨k1,k2,rfl,rfl,hE,hA⟩
    | succ n ih =>
     intro i kc kd hc hc1 hc2 hr k1 k2 hE hA
     rw [roundsK] at hr
     obtain ⟨ke,he,hr⟩ := thenK_inv hr
     obtain ⟨⟨hg1,hn1⟩,hd1⟩ := evB_same t.thn (fun u hu ks ks' a b c => evS_same m u (hth u hu) ks ks' a b c) hc1 hc2 he
     rw [hc] at hd1 hn1
     have l1 := hE.len
     rw [evR,evR,l1.1,l1.2]
     rcases hd1 ⟨k1.env ++ [(t.name,i)],k1.arr,k1.work⟩ ⟨k2.env ++ [(t.name,i)],k2.arr,k2.work⟩ (hE.snoc (v:=⟨t.name,false,true⟩) (fun _ => rfl)) hA with ⟨kx,ky,e1,e2,hE1,hA1⟩ | ⟨tr,w1,w2,a1,a2,n1,n2,e1,e2,hA1⟩
     ·rw [e1,e2,cut_go,cut_go]
      exact ih (i + 1) ke kd hn1 hg1.most hg1.lets hr ⟨kx.env.take ns.length,kx.arr,kx.work⟩ ⟨ky.env.take ns.length,ky.arr,ky.work⟩ hE1.take hA1
     ·rw [e1,e2]
      exact .inr ⟨tr,w1,w2,a1,a2,n1,n2,rfl,rfl,hA1⟩
   exact key t.n.toNat 0 _ k1 rfl hwk h2 hr ⟨ka.env,ka.arr,ka.work + 1⟩ ⟨kb.env,kb.arr,kb.work + 1⟩ hE hA
  ·rw [evS,evS,hx,allE,allE,allE,allE]
   rcases evE_both hE hA m x (hwa x (by rw [hx]; simp)) s hs with ⟨e1,e2⟩ | ⟨a,b,e1,e2,hab⟩
   ·rw [e1,e2]; exact .inr ⟨_,_,_,_,_,_,_,rfl,rfl,hA⟩
   ·rw [e1,e2]
    dsimp only
    rw [if_neg (by rw [hk]; decide),if_neg (by rw [hk]; decide),if_neg (by rw [hk]; decide),if_neg (by rw [hk]; decide),if_neg (by rw [hk]; decide),if_pos hk,if_neg (by rw [hk]; decide),if_neg (by rw [hk]; decide),if_neg (by rw [hk]; decide),if_neg (by rw [hk]; decide),if_neg (by rw [hk]; decide),if_pos hk]
    exact .inr ⟨_,_,_,_,_,_,_,rfl,rfl,hA⟩
def Sy (ks : Ks) (k : Mm) : Prop := k.env.map Prod.fst = ks.ns.map Nm.name ∧ k.work ≤ ks.work
def SyR (ks : Ks) (r : Rs) : Prop := AllR (Sy ks) (fun _ _ _ n => n ≤ ks.work) r
theorem Sy.len {ks : Ks} {k : Mm} (h : Sy ks k) : k.env.length = ks.ns.length := by
 have := congrArg List.length h.1
 simpa using this
theorem evL_sync {f : St → Mm → Rs} {g : St → Ks → Except Int Ks} : ∀ (l : List St),(∀ t ∈ l,∀ ks ks',ks.work ≤ 300 → ks.lets ≤ 24 → g t ks = .ok ks' → Gd ks ks' ∧ ∀ k,Sy ks k → SyR ks' (f t k)) →
  ∀ ks ks',ks.work ≤ 300 → ks.lets ≤ 24 → stmtsK g l ks = .ok ks' → Gd ks ks' ∧ ∀ k,Sy ks k → SyR ks' (evL f l k)
 | [],_,ks,ks',h1,h2,h => by
  cases h
  exact ⟨Gd.refl h1 h2,fun k hk => hk⟩
 | t :: l,hf,ks,ks',h1,h2,h => by
  rw [stmtsK] at h
  obtain ⟨k1,hk1,h⟩ := thenK_inv h
  obtain ⟨hg,hd⟩ := hf t (by simp) ks k1 h1 h2 hk1
  obtain ⟨hg2,hd2⟩ := evL_sync l (fun u hu => hf u (by simp [hu])) k1 ks' hg.most hg.lets h
  refine ⟨hg.trans hg2,fun k hk => ?_⟩
  rw [evL]
  exact AllR.andThen (p:=Sy k1) ((hd k hk).mono (fun _ h => h) fun _ _ _ n hn => Nat.le_trans hn hg2.work) fun k' hk' => hd2 k' hk'
theorem evB_sync {f : St → Mm → Rs} {g : St → Ks → Except Int Ks} (l : List St) (hf : ∀ t ∈ l,∀ ks ks',ks.work ≤ 300 → ks.lets ≤ 24 → g t ks = .ok ks' → Gd ks ks' ∧ ∀ k,Sy ks k → SyR ks' (f t k))
  {ks ks' : Ks} (h1 : ks.work ≤ 300) (h2 : ks.lets ≤ 24) (h : blockK g l ks = .ok ks') : (Gd ks ks' ∧ ks'.ns = ks.ns) ∧ ∀ k,Sy ks k → SyR ks' (evB f l k) := by
 unfold blockK at h
 obtain ⟨k1,hk1,h⟩ := thenK_inv h
 cases h
 obtain ⟨hg,hd⟩ := evL_sync l hf ks k1 h1 h2 hk1
 refine ⟨⟨⟨⟨[],by simp⟩,hg.work,hg.most,hg.lets,by have := hg.work; dsimp only; omega⟩,rfl⟩,fun k hk => ?_⟩
 unfold evB cutR
 refine (hd k hk).andThen fun k' hk' => ⟨?_,hk'.2⟩
 obtain ⟨nx,hnx⟩ := hg.ns
 show (k'.env.take k.env.length).map Prod.fst = ks.ns.map Nm.name
 rw [List.map_take,hk'.1,hnx,hk.len,List.map_append,List.take_left' (by simp)]
theorem evS_sync {rs : List Vr} : ∀ (m : Nat) (t : St),wfS m t → ∀ dark ks ks',ks.work ≤ 300 → ks.lets ≤ 24 → stmtK rs m dark t ks = .ok ks' → Gd ks ks' ∧ ∀ k,Sy ks k → SyR ks' (evS rs m t k)
 | 0,t,hw,dark,ks,ks',_,_,h => hw.elim
 | m + 1,t,hw,dark,ks,ks',h1,h2,h => by
  have hgd := (stmt_gd rs (m + 1) dark t ks h1 h2).2 ks' h
  refine ⟨hgd,fun k hk => ?_⟩
  obtain ⟨ns,wk,lt⟩ := ks
  have hw1 : wk + 1 ≤ ks'.work := by
   have h' := h
   rcases stmt_cases hw h with ⟨x,s,_,hx,hs,hno,hl,rfl⟩ | ⟨x,s,v,_,hx,hs,hv,hl,rfl⟩ | ⟨x,y,u,v,_,hx,hs,hu,hv,hd,hl,rfl⟩ | ⟨x,s,k1,_,hx,hs,hth,hel,hb1,hb2⟩ | ⟨k1,_,hx,h0,h8,hth,hno,hr,rfl⟩ | ⟨x,s,_,hx,hs,hd,rfl⟩
   ·exact Nat.le_refl _
   ·exact Nat.le_refl _
   ·exact Nat.le_refl _
   ·rw [stmtK] at h
    split at h
    ·cases h
    rename_i hn
    have g1 := ((block_gd t.thn (fun u _ k a b => stmt_gd rs m _ u k a b) ⟨ns,wk + 1,lt⟩ (by dsimp only at *; omega) h2).2 _ hb1).1
    have g2 := ((block_gd t.els (fun u _ k a b => stmt_gd rs m _ u k a b) k1 g1.most g1.lets).2 _ hb2).1
    exact Nat.le_trans g1.work g2.work
   ·rw [stmtK] at h
    split at h
    ·cases h
    rename_i hn
    have g1 := ((rounds_gd (fun k a b => block_gd t.thn (fun u _ k a b => stmt_gd rs m _ u k a b) k a b) t.n.toNat ⟨ns ++ [⟨t.name,false,true⟩],wk + 1,lt⟩ (by dsimp only at *; omega) h2).2 _ hr).1
    exact g1.work
   ·exact Nat.le_refl _
  have hm := hgd.most
  dsimp only at h1 h2
  obtain ⟨hk1,hk2⟩ := hk
  dsimp only at hk1 hk2
  rw [evS]
  cases hl : allE (evE rs k.env k.arr m) t.args with
  | none => show k.work + 1 ≤ _; omega
  | some vs =>
   dsimp only
   rcases stmt_cases hw h with ⟨x,s,hk,hx,hs,hno,hl,rfl⟩ | ⟨x,s,v,hk,hx,hs,hv,hl,rfl⟩ | ⟨x,y,u,v,hk,hx,hs,hu,hv,hd,hl,rfl⟩ | ⟨x,s,k1,hk,hx,hs,hth,hel,hb1,hb2⟩ | ⟨k1,hk,hx,h0,h8,hth,hno,hr,rfl⟩ | ⟨x,s,hk,hx,hs,hd,rfl⟩
   ·rw [if_pos hk]
    exact ⟨by simp [hk1],by dsimp only; omega⟩
   ·rw [if_neg (by rw [hk]; decide),if_pos hk]
    exact ⟨by dsimp only; rw [set_names]; exact hk1,by dsimp only; omega⟩
   ·rw [if_neg (by rw [hk]; decide),if_neg (by rw [hk]; decide),if_pos hk]
    split
    ·exact ⟨hk1,by dsimp only; omega⟩
    ·show k.work + 1 ≤ _; dsimp only; omega
   ·have q1 : ¬ t.kind = 1 := by rw [hk]; decide
    have q2 : ¬ t.kind = 2 := by rw [hk]; decide
    have q3 : ¬ t.kind = 3 := by rw [hk]; decide
    rw [if_neg q1,if_neg q2,if_neg q3,if_pos hk]
    obtain ⟨⟨hg1,hn1⟩,hd1⟩ := evB_sync t.thn (fun u hu ks ks' a b c => evS_sync m u (hth u hu) _ ks ks' a b c) (ks:=⟨ns,wk + 1,lt⟩) (by dsimp only; omega) h2 hb1
    obtain ⟨⟨hg2,hn2⟩,hd2⟩ := evB_sync t.els (fun u hu ks ks' a b c => evS_sync m u (hel u hu) _ ks ks' a b c) (ks:=k1) hg1.most hg1.lets hb2
    have hgw := hg1.work
    dsimp only at hn1 hgw
    split
    ·refine hd2 _ ⟨by rw [hn1]; exact hk1,by dsimp only; omega⟩
    ·have h3 : SyR k1 (evB (evS rs m) t.thn ⟨k.env,k.arr,k.work + 1⟩) := hd1 ⟨k.env,k.arr,k.work + 1⟩ ⟨hk1,by dsimp only; omega⟩
     exact AllR.mono (p:=Sy k1) (p' := Sy ks') h3 (fun k' h' => ⟨by rw [hn2]; exact h'.1,Nat.le_trans h'.2 hg2.work⟩) fun _ _ _ n hn => Nat.le_trans hn hg2.work
   ·have q1 : ¬ t.kind = 1 := by rw [hk]; decide
    have q2 : ¬ t.kind = 2 := by rw [hk]; decide
    have q3 : ¬ t.kind = 3 := by rw [hk]; decide
    have q4 : ¬ t.kind = 4 := by rw [hk]; decide
    rw [if_neg q1,if_neg q2,if_neg q3,if_neg q4,if_pos hk]
    have key : ∀ (n : Nat) (i : Int) (kc kd : Ks),kc.ns = ns ++ [⟨t.name,false,true⟩] → kc.work ≤ 300 → kc.lets ≤ 24 → roundsK (blockK (stmtK rs m dark) t.thn) n kc = .ok kd → ∀ k : Mm,k.env.map Prod.fst = ns.map Nm.name → k.work ≤ kc.work →
      SyR ⟨ns,kd.work,kd.lets⟩ (evR (fun i k => cutR k.env.length (evB (evS rs m) t.thn ⟨k.env ++ [(t.name,i)],k.arr,k.work⟩)) n i k) := by
     intro n
     induction n with
     | zero => intro i kc kd _ _ _ hr k hE hW; cases hr; exact ⟨hE,hW⟩
     | succ n ih =>
      intro i kc kd hc hc1 hc2 hr k hE hW
      rw [roundsK] at hr
      obtain ⟨ke,he,hr⟩ := thenK_inv hr
      obtain ⟨⟨hg1,hn1⟩,hd1⟩ := evB_sync t.thn (fun u hu ks ks' a b c => evS_sync m u (hth u hu) _ ks ks' a b c) hc1 hc2 he
      have g2 := ((rounds_gd (fun k a b => block_gd t.thn (fun u _ k a b => stmt_gd rs m _ u k a b) k a b) n ke hg1.most hg1.lets).2 _ hr).1
      rw [evR]
      have hl : k.env.length = ns.length := by have := congrArg List.length hE; simpa using this
      have h1 := hd1 ⟨k.env ++ [(t.name,i)],k.arr,k.work⟩ ⟨by rw [hc]; simp [hE],hW⟩
      refine AllR.andThen (p:=fun k' : Mm => k'.env.map Prod.fst = ns.map Nm.name ∧ k'.work ≤ ke.work) ?_ fun k' hk' => ih (i + 1) ke kd (hn1.trans hc) hg1.most hg1.lets hr k' hk'.1 hk'.2
      refine AllR.andThen (h1.mono (fun _ h => h) fun _ _ _ n hn => Nat.le_trans hn g2.work) fun k' hk' => ⟨?_,hk'.2⟩
      show (k'.env.take k.env.length).map Prod.fst = ns.map Nm.name
      rw [List.map_take,hk'.1,hn1,hc,hl,List.map_append,List.take_left' (by simp)]
    exact key t.n.toNat 0 _ k1 rfl (by dsimp only; have := ((rounds_gd (fun k a b => block_gd t.thn (fun u _ k a b => stmt_gd rs m dark u k a b) k a b) t.n.toNat ⟨ns ++ [⟨t.name,false,true⟩],0,lt⟩ (by simp) h2)); omega) h2 hr ⟨k.env,k.arr,k.work + 1⟩ hk1 (by dsimp only; omega)
   ·rw [if_neg (by rw [hk]; decide),if_neg (by rw [hk]; decide),if_neg (by rw [hk]; decide),if_neg (by rw [hk]; decide),if_neg (by rw [hk]; decide),if_pos hk]
    show k.work + 1 ≤ _; dsimp only; omega
end Go.Proofs.YtemdnmfldihalaaGreatDoor.Lg
namespace Go.Proofs.YtemdnmfldihalaaGreatDoor.Ord
set_option linter.unusedVariables false
def left (ops : Array Oper) (d : Array Bool) : Nat := (List.range ops.size).countP fun i => !d.getD i true
theorem count_less {p q : Nat → Bool} {i : Nat} : ∀ {l : List Nat},l.Nodup → i ∈ l → q i = false → p i = true → (∀ j,j ≠ i → q j = p j) → l.countP q < l.countP p
 | [],_,hi,_,_,_ => by cases hi
 | a :: l,hn,hi,hq,hp,h => by
  obtain ⟨hn1,hn2⟩ := List.nodup_cons.1 hn
  by_cases e : a = i
  ·subst e
   rw [List.countP_cons_of_neg (by rw [hq]; simp),List.countP_cons_of_pos hp]
   have : l.countP q = l.countP p := by
    apply List.countP_congr
    intro x hx
    rw [h x (fun e => hn1 (e ▸ hx))]
   omega
  ·have hi' : i ∈ l := by
    rcases List.mem_cons.1 hi with e2 | e2
    ·exact absurd e2.symm e
    ·exact e2
   have := count_less (l:=l) hn2 hi' hq hp h
   rw [List.countP_cons,List.countP_cons,h a e]
   omega
theorem left_less {md : Region.Mode} {ops : Array Oper} {d : Array Bool} {i : Nat} (h : i ∈ Region.ready md ops d) : left ops (d.setIfInBounds i true) < left ops d := by
 unfold Region.ready at h
 obtain ⟨h1,h2⟩ := List.mem_filter.1 h
 rw [Bool.and_eq_true] at h2
 have hd : d.getD i true = false := by simpa using h2.1
 have hlt : i < d.size := by
  by_cases hl : i < d.size
  ·exact hl
  ·rw [Array.getD_eq_getD_getElem?,Array.getElem?_eq_none (Nat.le_of_not_lt hl)] at hd
   cases hd
 refine count_less (i:=i) List.nodup_range h1 ?_ h2.1 ?_
 ·rw [Array.getD_eq_getD_getElem?,Array.getElem?_setIfInBounds,if_pos rfl,if_pos hlt]; rfl
 ·intro j hj
  rw [Array.getD_eq_getD_getElem?,Array.getD_eq_getD_getElem?,Array.getElem?_setIfInBounds,if_neg (fun e => hj e.symm)]
theorem ready_nil {md : Region.Mode} {ops : Array Oper} {d : Array Bool} (h : left ops d = 0) : Region.ready md ops d = [] := by
 unfold Region.ready left at *
 rw [List.filter_eq_nil_iff]
 intro i hi
 have := List.countP_eq_zero.1 h i hi
 rw [Bool.and_eq_true]
 exact fun h2 => this h2.1
theorem wpM_inv {P : Program} {md : Region.Mode} {ops : Array Oper} {Q : Exit → Act → World → Prop} {S : World → Prop} {L : List Nat} (J : Array Bool → Act → World → Prop) (hS : ∀ d a w,J d a w → S w) (hend : ∀ d a w,J d a w → Region.ready md ops d = [] → Q .normal a w)
  (hstep : ∀ d a w,J d a w → ∀ i ∈ Region.ready md ops d,wpOp P ops Q i (J (d.setIfInBounds i true)) a w) : ∀ n d a w,left ops d ≤ n → J d a w → wpM P md ops Q S L n d a w
 | 0,d,a,w,hn,hJ => ⟨ready_nil (by omega),hend d a w hJ (ready_nil (by omega))⟩
 | n + 1,d,a,w,hn,hJ => ⟨fun hr => hend d a w hJ hr,fun i hi => wpOp_mono (fun a' w' hJ' => ⟨fun _ => hS _ _ _ hJ',wpM_inv J hS hend hstep n _ a' w' (by have := left_less hi; omega) hJ'⟩) (hstep d a w hJ i hi)⟩
end Go.Proofs.YtemdnmfldihalaaGreatDoor.Ord
namespace Go.Proofs.YtemdnmfldihalaaGreatDoor.Lr
set_option linter.unusedVariables false
set_option linter.unusedSimpArgs false
open Go.ChangeShapes Go.WideShapes Go.ChangeAt Go.RowKit Lg
structure Rt where
 R : Nat
 M : Nat
 AO : Nat
 ab : List Nat
def EnvM (W : World) : List (List UInt8 × Nat) → Env → Prop
 | [],[] => True
 | p :: sc,q :: env => p.1 = q.1 ∧ Bk W p.2 [.int .i64 q.2] 3 ∧ EnvM W sc env
 | _,_ => False
def ArrM (t : Rt) (W : World) (arr : List (List Int)) : Prop := ∀ i row,arr[i]? = some row → ∃ b,t.ab[i]? = some b ∧ W.cell? ⟨t.AO,i,none⟩ = some (.slice (some ⟨b,0,none⟩) row.length row.length) ∧ Bk W b (row.map (Value.int .i64)) 3
structure Sv where
 word : Int
 trap : Bool
 over : Bool
 work : Int
 err : Int
structure RM (t : Rt) (sc : List (List UInt8 × Nat)) (W : World) (env : Env) (arr : List (List Int)) (s : Sv) : Prop where
 mkr : W.cell? ⟨t.M,0,none⟩ = some (.pointer (some ⟨t.R,0,none⟩))
 run : Bk W t.R [.int .i64 s.word,.bool s.trap,.slice (some ⟨t.AO,0,none⟩) arr.length arr.length,.bool s.over,.int .i64 s.work,.int .i64 s.err] 74
 arr : ArrM t W arr
 env : EnvM W sc env
structure Apart (t : Rt) (sc : List (List UInt8 × Nat)) : Prop where
 m : t.M ≠ t.R
 ao : t.AO ≠ t.R
 ab : ∀ b ∈ t.ab,b ≠ t.R
 sc : ∀ p ∈ sc,p.2 ≠ t.R
theorem EnvM.fs {R : Nat} {W W' : World} (hf : Fs [R] W W') : ∀ {sc : List (List UInt8 × Nat)} {env : Env},(∀ p ∈ sc,p.2 ≠ R) → EnvM W sc env → EnvM W' sc env
 | [],[],_,_ => trivial
 | p :: sc,q :: env,hn,⟨h1,h2,h3⟩ => ⟨h1,h2.fs hf (by simpa using hn p (by simp)),EnvM.fs hf (fun p hp => hn p (by simp [hp])) h3⟩
theorem cellF_fs {k : Nat} {w w' : World} (hf : Fs [k] w w') {g o : Nat} {v : Value} (h : w.cell? ⟨g,o,none⟩ = some v) (hk : g ≠ k) : w'.cell? ⟨g,o,none⟩ = some v := by
 rw [World.cell?_of_block (hf.block g (lt_of_cell h) (by simpa using hk))]; exact h
theorem ArrM.fs {t : Rt} {W W' : World} {arr : List (List Int)} (hf : Fs [t.R] W W') (ha : t.AO ≠ t.R) (hb : ∀ b ∈ t.ab,b ≠ t.R) (h : ArrM t W arr) : ArrM t W' arr := fun i row hi => by
 obtain ⟨b,h1,h2,h3⟩ := h i row hi
 exact ⟨b,h1,cellF_fs hf h2 ha,h3.fs hf (by simpa using hb b (List.mem_of_getElem? h1))⟩
theorem RM.turn {t : Rt} {sc : List (List UInt8 × Nat)} {W W' : World} {env : Env} {arr : List (List Int)} {s s' : Sv} (hA : Apart t sc) (h : RM t sc W env arr s) (hf : Fs [t.R] W W') (hb : Bk W' t.R [.int .i64 s'.word,.bool s'.trap,.slice (some ⟨t.AO,0,none⟩) arr.length arr.length,.bool s'.over,.int .i64 s'.work,.int .i64 s'.err] 74) : RM t sc W' env arr s' :=
 ⟨cellF_fs hf h.mkr hA.m,hb,h.arr.fs hf hA.ao hA.ab,h.env.fs hf hA.sc⟩
theorem RM.below {t : Rt} {sc : List (List UInt8 × Nat)} {W W' : World} {env : Env} {arr : List (List Int)} {s : Sv} (hA : Apart t sc) (h : RM t sc W env arr s) (hb : Below W.heap.size W W') : RM t sc W' env arr s :=
 h.turn hA (Fs.of_below hb) (h.run.fs (Fs.of_below (l:=[]) hb) (by simp))
def Fv (v : Value) (k : FuncId) (binds : Array Value) : Prop := v = .func (.func k) #[] binds ∧ ∀ args w,(callFunc k args).run Tryz.prog w = .ok (.enter k args) w
def Keeps (lo hi : Nat) (w W : World) : Prop := ∀ i,lo ≤ i → i < hi → W.heap[i]? = w.heap[i]?
def trapped (s : Sv) : Sv := ⟨s.word,true,true,s.work,s.err⟩
def ExP (t : Rt) (sc : List (List UInt8 × Nat)) (W : World) (env : Env) (arr : List (List Int)) (s : Sv) (res : Option Int) (r : Ending) (W' : World) : Prop :=
 ∃ n,r = .returned (.int .i64 n) ∧ ((s.over = true ∧ Below W.heap.size W W') ∨ (s.over = false ∧ ((res = some n ∧ Below W.heap.size W W') ∨ (res = none ∧ Fs [t.R] W W' ∧ RM t sc W' env arr (trapped s)))))
def GoodE (t : Rt) (sc : List (List UInt8 × Nat)) (rs : List Vr) (m : Nat) (w1 : World) (lo hi : Nat) (v : Value) (e : Ex) : Prop :=
 ∃ k binds,Fv v k binds ∧ ∀ W,Keeps lo hi w1 W → hi ≤ W.heap.size → ∀ env arr s,RM t sc W env arr s → GE env → GA rs arr → Calls Tryz.prog k binds W fun r W' => ExP t sc W env arr s (evE rs env arr m e) r W'
theorem Keeps.trans {lo hi : Nat} {a b c : World} (h : Keeps lo hi a b) (k : Keeps lo hi b c) : Keeps lo hi a c := fun i h1 h2 => (k i h1 h2).trans (h i h1 h2)
theorem Keeps.of_fs {lo hi R : Nat} {w W : World} (h : Fs [R] w W) (hR : R < lo) (hhi : hi ≤ w.heap.size) : Keeps lo hi w W := fun i h1 h2 => h.block i (by omega) (by simp; omega)
theorem Keeps.sub {lo hi lo' hi' : Nat} {w W : World} (h : Keeps lo hi w W) (h1 : lo ≤ lo') (h2 : hi' ≤ hi) : Keeps lo' hi' w W := fun i a b => h i (by omega) (by omega)
end Go.Proofs.YtemdnmfldihalaaGreatDoor.Lr
