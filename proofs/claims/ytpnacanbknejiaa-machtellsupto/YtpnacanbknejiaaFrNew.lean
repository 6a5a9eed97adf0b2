/- The document's machine as it begins: its New. Written by tools/gen_frnew.py. -/
import Derived.Test.YtpnacanbknejiaaFrMach
namespace Go.Proofs.Ytpnacanbknejiaa.Fl
set_option maxHeartbeats 32000000
set_option maxRecDepth 100000
set_option linter.unusedVariables false
set_option linter.unusedSimpArgs false
open Go.ChangeShapes Go.WideShapes Go.ChangeAt Go.RowKit Lg Lr
abbrev Aw := Value × (Nat × List Int)
def cellsA (p : Aw) : List Value := [p.1]
def nestA (w : World) (X : Nat → Prop) (p : Aw) : Prop := ArAt w p.1 p.2 ∧ X p.2.1 ∧ p.1.oneCell' = true
theorem nestA_nest : Nest nestA := ⟨fun w w' X p h hb => by
 obtain ⟨⟨c,ex,h1,h2,h3⟩,hx,ho⟩ := h
 exact ⟨⟨c,ex,h1,h2,by unfold Bk at h3 ⊢; rw [hb _ hx]; exact h3⟩,hx,ho⟩,fun w X Y p h hb => ⟨h.1,hb _ h.2.1,h.2.2⟩⟩
theorem cellsA_len (p : Aw) : (cellsA p).length = 1 := rfl
def RowA (w : World) (lo : Nat) (v : Value) (es : List Aw) : Prop := RowX nestA cellsA 1 30 w lo v es
theorem RowA.ra {w : World} {lo : Nat} {v : Value} {es : List Aw} (h : RowA w lo v es) (hn : (es.map (fun p => p.2.1)).Nodup) : ∃ AO,RA w AO v (es.map (·.2)) ∧ (es ≠ [] → lo ≤ AO) ∧ ∀ p ∈ es,lo ≤ p.2.1 := by
 have hlo : ∀ p ∈ es,lo ≤ p.2.1 := fun p hp => (h.sub p hp).2.1.1
 rcases RowX.form cellsA_len h with ⟨h1,h2⟩ | ⟨g,cap,h1,h2,h3,h4,h5⟩
 ·subst h1
  exact ⟨0,⟨⟨none,0,h2,Nat.le_refl _,fun h => absurd rfl h⟩,fun j p hp => (by simp at hp),List.nodup_nil,fun p hp => (by simp at hp)⟩,fun h => absurd rfl h,hlo⟩
 ·refine ⟨g,⟨⟨_,cap,by rw [List.length_map]; exact h1,by rw [List.length_map]; exact h2,fun _ => ⟨rfl,h4⟩⟩,fun j p hp => ?_,by rw [List.map_map]; exact hn,fun p hp => ?_⟩,fun _ => h3,hlo⟩
  ·rw [List.getElem?_map,Option.map_eq_some_iff] at hp
   obtain ⟨q,hq,rfl⟩ := hp
   refine ⟨q.1,?_,(h.sub q (List.mem_of_getElem? hq)).1⟩
   have := h5 j q 0 _ hq rfl
   rw [Nat.mul_one,Nat.add_zero] at this
   exact this
  ·obtain ⟨q,hq,rfl⟩ := List.mem_map.1 hp
   have hx := (h.sub q hq).2.1.2.2
   intro e
   apply hx
   rw [h1,e]
   rfl
theorem own_ar {w : World} {g cap n lo : Nat} {row : List Int} (hn : n = row.length) (h : w.ownsRow lo 3 1 (.slice (some ⟨g,0,none⟩) n cap) n (row.map (Value.int .i64))) : ArAt w (.slice (some ⟨g,0,none⟩) n cap) (g,row) := by
 obtain ⟨h1,h2⟩ := h
 rcases h2 with ⟨h2,_⟩ | ⟨g',cap',cur,a1,a2,a3,a4,a5,a6,a7⟩
 ·cases h2
 ·have e : g = g' ∧ cap = cap' := by
   injection a1 with a1 _ a2
   injection a1 with a1
   injection a1 with a1
   exact ⟨a1,a2⟩
  obtain ⟨rfl,rfl⟩ := e
  refine ⟨cap,cur.toList.drop (n * 1),by rw [hn],by rw [← hn]; exact a4,?_⟩
  unfold Bk
  dsimp only
  rw [← a7,List.take_append_drop]
  exact a3
theorem own_none (w : World) : (w.alloc (.cells #[] 3)).ownsRow w.heap.size 3 1 (.slice (some ⟨w.heap.size,0,none⟩) 0 0) 0 [] :=
 ⟨rfl,.inr ⟨w.heap.size,0,#[],rfl,Nat.le_refl _,(MapKept.heap_alloc w _).1,Nat.le_refl _,Nat.zero_le _,rfl,rfl⟩⟩
theorem step_append_row {ops : Array Oper} {o : Oper} {a : Act} {w w0 : World} {K : Act → World → Prop} {Q : Exit → Act → World → Prop} {E : Prop} (hgd : o.guard = none) (s x : Operand) (ho : o.op = .call { callee := .builtin .append,args := #[s,x],argTypes := #[30,30] }) (g B : Nat) (row : List Int) (xs : Value) (hw : w = w0.alloc (.cells #[] 3)) (hg : g = w0.heap.size) (hs : a.eval s = .slice (some ⟨g,0,none⟩) 0 0) (hx : a.eval x = xs) (hi : IntsIs w B row xs) (hlen : row.length ≤ 1048576)
  (h : ∀ g2 c w',(g2 = g ∨ g2 = w.heap.size) → ArAt w' (.slice (some ⟨g2,0,none⟩) row.length c) (g2,row) → Below w0.heap.size w0 w' → g2 < w'.heap.size → K (a.put o.dst (.slice (some ⟨g2,0,none⟩) row.length c)) w') : if Region.wanted o (yielded ops a.tmps) = true then Oper.wp Try.prog o a w K Q else E := by
 obtain ⟨i0,hi0,j0,j1,j2⟩ := info_parts int_info
 obtain ⟨pr,nr,cr,rfl⟩ := hi.slice
 have hown : w.ownsRow w0.heap.size 3 1 (.slice (some ⟨g,0,none⟩) 0 0) 0 [] := by rw [hw,hg]; exact own_none w0
 have hb0 : Below w0.heap.size w0 w := by rw [hw]; exact (Below.refl _ _).alloc (Nat.le_refl _) _
 rcases hi.form with ⟨hnil,hz⟩ | ⟨gs,os,rfl,hpos,hnr2,hcl⟩
 ·subst hnil
  subst hz
  have hsrc : Src Try.prog i0.size 30 (.slice pr 0 cr) 0 [] w := by
   cases pr with
   | none => exact Src.ofNil w Try.underlying30 cr
   | some a => exact Src.ofSlice w Try.underlying30 a 0 cr [] (by simp) (by simp) (by simp)
  rw [if_pos (by simp [Region.wanted,hgd])]
  refine Lib.wp_append_run w s x _ _ ho _ _ hs hx _ _ (run_append_nothing (P:=Try.prog) w 30 30 _ 3 i0 Try.underlying30 hi0 _ 0 0 (Nat.le_refl _) (.slice pr 0 cr) hsrc) ?_
  refine h g 0 w (.inl rfl) (own_ar rfl hown) hb0 ?_
  rw [hw,hg]; simp
 ·subst hnr2
  refine step_append_lies w hgd s x 30 ho w0.heap.size 3 i0 _ 1 8 Try.underlying30 hi0 j0 j1 j2 rfl (by decide) (.slice (some ⟨g,0,none⟩) 0 0) 0 [] hs hown ⟨gs,os,none⟩ row.length cr (row.flatMap cellsI) hx (flat_len7 cellsI 1 cellsI_len _) hcl (cellsI_one _) hpos (by unfold maxLen; omega) (by omega) hb0.size _ rfl ?_
  intro g2 cap w8 hown2 hgrow hat hlt
  rw [List.nil_append,Nat.zero_add,cellsI_map] at hown2
  rw [Nat.zero_add]
  refine h g2 cap w8 ?_ (own_ar rfl hown2) ⟨hgrow.os.trans hb0.os,hgrow.tape.trans hb0.tape,hgrow.output.trans hb0.output,Nat.le_trans hb0.size hgrow.size,fun i hi => (hgrow.block i (by have := hb0.size; omega) (fun e => by simp [Value.ownBlock] at e; omega)).trans (hb0.block i hi)⟩ hlt
  rcases hat with q | q
  ·left; simpa [Value.ownBlock] using q.symm
  ·exact .inr q
def RNew (n fr : Nat) (ws : List Int) (aa : List (List Int)) (w : World) (r : Ending) (w' : World) : Prop :=
 ∃ (MB PB AO : Nat) (av : Value) (ps : List (Nat × List Int)),r = .returned (.pointer (some ⟨MB,0,none⟩)) ∧ RM 0 w' MB PB AO av (fromP n fr ws) ps ∧ ars ps = aa ∧ Below w.heap.size w w' ∧ w.heap.size ≤ MB ∧ w.heap.size ≤ PB ∧ (ps ≠ [] → w.heap.size ≤ AO) ∧ ∀ p ∈ ps,w.heap.size ≤ p.1
structure Nw1 (PB MB n fr : Nat) (ws : List Int) (w3 : World) (j : Nat) (wx : World) : Prop where
 pl : Bk wx PB ((fromP n fr (ws.take j)).map (Value.int .i64)) 3
 fs : Fs [PB] w3 wx
structure Nw2 (lo MB PB n : Nat) (aa : List (List Int)) (w4 : World) (j : Nat) (av : Value) (es : List Aw) (wx : World) : Prop where
 m : Bk wx MB [.slice (some ⟨PB,0,none⟩) n n,av,.int .i64 0] 97
 row : RowA wx lo av es
 aa' : es.map (fun p => p.2.2) = aa.take j
 nd : (es.map (fun p => p.2.1)).Nodup
 fh : Fh lo [MB] w4 wx
theorem Fh.cell {B : Nat} {l : List Nat} {w w' : World} (h : Fh B l w w') {b k : Nat} {u : Value} (hb : b < B) (hn : b ∉ l) (hu : w.cell? ⟨b,k,none⟩ = some u) : w'.cell? ⟨b,k,none⟩ = some u := by rw [World.cell?_of_block (h.block b hb hn)]; exact hu
theorem rnew_any (B n fr : Nat) (ws : List Int) (aa : List (List Int)) (gv : Value) (w : World) (hB : B ≤ w.heap.size) (hg : GvIs w B ws aa gv) (hN : n ≤ 17592186044416) (hW : fr + ws.length ≤ n) (hsum : sumL aa ≤ 1048576) (haa : aa.length ≤ 1048576) :
  Calls Try.prog 47 #[.int .i64 (n : Int),.int .i64 (fr : Int),gv] w fun r w' => RNew n fr ws aa w r w' := by
 obtain ⟨t1,t2,rfl,hi,ha⟩ := hg
 have HInt := keep hi
 have HArr := keep ha
 obtain ⟨p4,n4,c4,hs4,hl4,_,hm4,hq4⟩ := id hi
 obtain ⟨p5,n5,c5,hs5,hl5,_,hm5,hq5⟩ := id ha
 subst hs4 hs5
 obtain ⟨w1,hw1⟩ : ∃ y,w.alloc (.cells #[.slice p4 n4 c4,.slice p5 n5 c5] 33) = y := ⟨_,rfl⟩
 obtain ⟨G,hG⟩ : ∃ y,w.heap.size = y := ⟨_,rfl⟩
 obtain ⟨w2,hw2⟩ : ∃ y,w1.alloc (.cells (Array.replicate n (Value.int .i64 0)) 3) = y := ⟨_,rfl⟩
 obtain ⟨PB,hPB⟩ : ∃ y,w1.heap.size = y := ⟨_,rfl⟩
 obtain ⟨w3,hw3⟩ : ∃ y,w2.alloc (.cells #[.slice (some ⟨PB,0,none⟩) n n,.slice none 0 0,.int .i64 0] 97) = y := ⟨_,rfl⟩
 obtain ⟨MB,hMB⟩ : ∃ y,w2.heap.size = y := ⟨_,rfl⟩
 have b1 : Below w.heap.size w w1 := by rw [← hw1]; exact (Below.refl _ _).alloc (Nat.le_refl _) _
 have b2 : Below w1.heap.size w1 w2 := by rw [← hw2]; exact (Below.refl _ _).alloc (Nat.le_refl _) _
 have b3 : Below w2.heap.size w2 w3 := by rw [← hw3]; exact (Below.refl _ _).alloc (Nat.le_refl _) _
 have b23 := b2.trans (b3.mono b2.size)
 have b13 := b1.trans (b23.mono b1.size)
 have kG1 : Bk w1 G [.slice p4 n4 c4,.slice p5 n5 c5] 33 := by rw [← hw1,← hG]; exact Bk.new _ _ _
 have kG := kG1.fs (Fs.of_below (l:=[]) b23) (by simp)
 have kP2 : Bk w2 PB (List.replicate n (Value.int .i64 0)) 3 := by rw [← hw2,← hPB]; exact Bk.rep _ _ _ _
 have kP := kP2.fs (Fs.of_below (l:=[]) b3) (by simp)
 have kM : Bk w3 MB [.slice (some ⟨PB,0,none⟩) n n,.slice none 0 0,.int .i64 0] 97 := by rw [← hw3,← hMB]; exact Bk.new _ _ _
 have hlo : G < PB ∧ PB < MB ∧ MB < w3.heap.size ∧ w.heap.size ≤ G := by
  refine ⟨?_,?_,kM.lt,by omega⟩
  ·rw [← hPB]; exact kG1.lt
  ·rw [← hMB]; exact kP2.lt
 have HLO := keep hlo
 have hmk := make_ints n hN w1
 rw [hw2,hPB] at hmk
 have HkG := keep kG
 have HkM := keep kM
 have HB3 := keep b13
 have HBB := keep hB
 have HS0 : Hid (Nw1 PB MB n fr ws w3 0 w3) := by
  refine ⟨?_,Fs.refl _ _⟩
  rw [List.take_zero,fromP_none n fr (by omega),List.map_replicate]
  exact kP
 have HF1 : Hid (∀ j wx,Nw1 PB MB n fr ws w3 j wx → Bk wx MB [.slice (some ⟨PB,0,none⟩) n n,.slice none 0 0,.int .i64 0] 97 ∧ Bk wx G [.slice p4 n4 c4,.slice p5 n5 c5] 33 ∧ Below w.heap.size w wx) := fun j wx hx => by
  have := hlo
  exact ⟨kM.fs hx.fs (by simp; omega),kG.fs hx.fs (by simp; omega),b13.trans (hx.fs.below b13.size (fun k hk => by simp at hk; omega))⟩
 have HW1 := keep hw1
 have HW2 := keep hw2
 have HW3 := keep hw3
 have HG := keep hG
 have HPB := keep hPB
 have HMB := keep hMB
 have HMk := keep hmk
 have HN := keep hN
 have HWW := keep hW
 have HL4 := keep hl4
 have HL5 := keep hl5
 have HQ4 := keep hq4
 have HQ5 := keep hq5
 have HSum := keep hsum
 have HAa := keep haa
 have g0 := kG.cell 0 rfl
 have g1 := kG.cell 1 rfl
 have hz0 : (0 : Int) ≤ (n : Int) := by omega
 clear hw1 hw2 hw3 hG hPB hMB b1 b2 b3 b23 b13 kG1 kG kP2 kP kM hlo hi ha hq4 hq5 hl4 hl5 hW hsum haa hB
 go_enter Try.func47,Try.ntmps47
 go_wp2_with (first | rw [HMk.out] | rw [HW1.out] | rw [HW2.out] | rw [HW3.out] | rw [HG.out] | rw [HPB.out] | rw [HMB.out] | fail)
 go_loopw [19] (fun i wx => ∃ j : Nat,j ≤ n4 ∧ i = .int .i64 (j : Int) ∧ Nw1 PB MB n fr ws w3 j wx) (fun i _ => n4 - (intOf i).toNat)
 case atStart => exact ⟨0,by omega,rfl,HS0.out⟩
 case round =>
  obtain ⟨j,hjn,rfl,hI⟩ := hrel
  have HI := keep hI
  obtain ⟨kM,kG,hbW⟩ := HF1.out j wr hI
  have HkM' := keep kM
  have HkG' := keep kG
  have HbW := keep hbW
  clear g0 g1
  have g0 := kG.cell 0 rfl
  have g1 := kG.cell 1 rfl
  have m0 := kM.cell 0 rfl
  clear kM kG hbW hI HS0 hmk
  by_cases hjl : j < n4
  ·have d1 : decide ((j : Int) < (n4 : Int)) = true := decide_eq_true (by omega)
   have hjz : (j : Int) < (n4 : Int) := by omega
   have hj0 : (0 : Int) ≤ (j : Int) := by omega
   have hwr : IntKind.i64.wrap ((j : Int) + 1) = (j : Int) + 1 := by rw [IntKind.wrap_i64]; omega
   obtain ⟨x,hx⟩ : ∃ x,ws[j]? = some x := ⟨_,List.getElem?_eq_getElem (by rw [HL4.out]; exact hjl)⟩
   obtain ⟨g,o,rfl,hgB,hcx⟩ := HQ4.out j x hx
   have c0 : wr.cell? ⟨g,o + j,none⟩ = some (.int .i64 x) := by rw [cell_below HbW.out (by have := HBB.out; omega)]; exact hcx
   have hsumfr : fr + j < n := by have := HWW.out; have := HL4.out; omega
   have hwr2 : IntKind.i64.wrap ((fr : Int) + (j : Int)) = (((fr + j : Nat)) : Int) := by have := HN.out; rw [IntKind.wrap_i64]; omega
   have hk0 : (0 : Int) ≤ ((fr + j : Nat) : Int) := by omega
   have hk1 : ((fr + j : Nat) : Int) < (n : Int) := by omega
   have hlenP : (fromP n fr (ws.take j)).length = n := fromP_len (by rw [List.length_take]; have := HWW.out; omega)
   obtain ⟨u,hu⟩ : ∃ u,(fromP n fr (ws.take j))[fr + j]? = some u := ⟨_,List.getElem?_eq_getElem (by omega)⟩
   have c1 : wr.cell? ⟨PB,fr + j,none⟩ = some (.int .i64 u) := HI.out.pl.cell _ (by rw [List.getElem?_map,hu]; rfl)
   have c2 : wr.frozen? ⟨PB,fr + j,none⟩ = false := HI.out.pl.fr _
   have HNx : Hid (Nw1 PB MB n fr ws w3 (j + 1) (wr.setCell ⟨PB,fr + j,none⟩ (.int .i64 x))) := by
    refine ⟨?_,HI.out.fs.set (by simp) _ _⟩
    rw [← fromP_step hx HWW.out,List.map_set]
    exact HI.out.pl.set _ _
   obtain ⟨kk,hkk⟩ : ∃ kk,fr + j = kk := ⟨_,rfl⟩
   rw [hkk] at hwr2 hk0 hk1 c1 c2 HNx
   clear hx hcx hu hlenP hkk hsumfr HI
   go_wp2_with (first | rw [hwr2] | fail)
   go_roundw
   case rel => exact ⟨j + 1,by omega,by go_num,HNx.out⟩
   case measure => simp [intOf]; omega
  ·have hje : j = n4 := by omega
   subst hje
   have dl : decide ((j : Int) < (j : Int)) = false := decide_eq_false (by omega)
   generalize wr = w4 at *
   have HP4 : Hid (Bk w4 PB ((fromP n fr ws).map (Value.int .i64)) 3) := by
    have := HI.out.pl
    rw [← HL4.out,List.take_length] at this
    exact this
   have HNl : Hid (w3.heap.size ≤ w4.heap.size) := HI.out.fs.size
   have HS2 : Hid (Nw2 w4.heap.size MB PB n aa w4 0 (.slice none 0 0) [] w4) := by
    refine ⟨?_,RowX.nil _ _,rfl,List.nodup_nil,Fh.refl _ _ _⟩
    exact HkM'.out
   have HkG4 : Hid (Bk w4 G [.slice p4 j c4,.slice p5 n5 c5] 33) := HkG'.out
   have HbW4 : Hid (Below w.heap.size w w4) := HbW.out
   have HF2 : Hid (∀ k av es wx,Nw2 w4.heap.size MB PB n aa w4 k av es wx → Bk wx G [.slice p4 j c4,.slice p5 n5 c5] 33 ∧ Bk wx PB ((fromP n fr ws).map (Value.int .i64)) 3 ∧ Below w.heap.size w wx) := fun k av es wx hx => by
    have h1 := HLO.out
    have h2 := HNl.out
    have h3 := HbW4.out
    have hf : Fs [MB] w4 wx := hx.fh.fs
    exact ⟨HkG4.out.fs hf (by simp; omega),HP4.out.fs hf (by simp; omega),h3.trans (hf.below h3.size (fun k hk => by simp at hk; omega))⟩
   clear HF1 HI HkM' HkG' HbW hjl g0
   go_wp2_with fail
   go_loopw [37] (fun i wx => ∃ (k : Nat) (av : Value) (es : List Aw),k ≤ n5 ∧ i = .int .i64 (k : Int) ∧ Nw2 w4.heap.size MB PB n aa w4 k av es wx) (fun i _ => n5 - (intOf i).toNat)
   case atStart => exact ⟨0,_,[],by omega,rfl,HS2.out⟩
   case round =>
    obtain ⟨k,av,es,hkn,rfl,hI⟩ := hrel
    have HI := keep hI
    obtain ⟨kG,kP,hbW⟩ := HF2.out k av es wr hI
    have HkP' := keep kP
    have HbW := keep hbW
    clear g1 m0
    have g1 := kG.cell 1 rfl
    have m1 := hI.m.cell 1 rfl
    have HLoW : Hid (w4.heap.size ≤ wr.heap.size) := hI.fh.size
    clear kG kP hbW hI HS2
    by_cases hkl : k < n5
    ·have d1 : decide ((k : Int) < (n5 : Int)) = true := decide_eq_true (by omega)
     have hkz : (k : Int) < (n5 : Int) := by omega
     have hk0 : (0 : Int) ≤ (k : Int) := by omega
     have hwr : IntKind.i64.wrap ((k : Int) + 1) = (k : Int) + 1 := by rw [IntKind.wrap_i64]; omega
     obtain ⟨row,hrow⟩ : ∃ row,aa[k]? = some row := ⟨_,List.getElem?_eq_getElem (by rw [HL5.out]; exact hkl)⟩
     obtain ⟨g,o,s,rfl,hgB,hs,hint⟩ := HQ5.out k row hrow
     have c0 : wr.cell? ⟨g,o + k,none⟩ = some s := by rw [cell_below HbW.out (by have := HBB.out; omega)]; exact hs
     have HIn : Hid (∀ W,Below w.heap.size w W → IntsIs W B row s) := fun W hW => hint.below (hW.mono HBB.out)
     obtain ⟨pr,nr,cr,rfl⟩ := hint.slice
     obtain ⟨pv,nv,cv,rfl⟩ := RowX.slice HI.out.row
     have hnv : nv = es.length := RowX.len HI.out.row
     subst hnv
     have HRl : Hid (row.length ≤ 1048576) := by
      have h1 := sumL_take aa k row hrow
      have h2 := sumL_le aa (k + 1)
      have h3 := HSum.out
      show _ ≤ _
      omega
     have HEl : Hid (es.length = k) := by
      have := congrArg List.length HI.out.aa'
      rw [List.length_map,List.length_take,HL5.out] at this
      show _ = _
      omega
     have HTk : Hid (aa.take (k + 1) = aa.take k ++ [row]) := by
      show _ = _
      rw [List.take_add_one,hrow]; rfl
     have HSS : Hid (∀ W',Below w4.heap.size wr W' → W'.cell? ⟨MB,1,none⟩ = some (.slice pv es.length cv)) := fun W' hW => by
      rw [cell_below hW (by have := HLO.out; have := HNl.out; omega)]; exact HI.out.m.cell 1 rfl
     obtain ⟨i0,hi0,j0,j1,j2⟩ := info_parts ints_info
     clear hrow hs hint HQ5 HQ4
     go_wp2_with fail
     refine wp_region_noPanic ?_
     refine Ord.wpM_begin (fun W' : World => W'.cell? ⟨MB,1,none⟩ = some (.slice pv es.length cv)) [0,1,2,3,4,5,6,7,8,9,10,11] (by kernel_rfl) ?_
     have HD : Hid (Below wr.heap.size wr wr.drew) := Below.drew (Below.refl _ _)
     generalize wr.drew = wd at *
     have HDl := keep (HD.out.mono HLoW.out)
     have hS := HSS.out wd HDl.out
     refine Ord.tk (i:=0) (v:=.pointer (some ⟨MB,0,none⟩)) (hy:=Or.inl ⟨by rfl,by intro W' hW; have q0 := hW; go_simp⟩) (hS:=hS) (h:=?_)
     try simp only [Act.put,Ord.t,Ord.z,Ord.s]
     refine Ord.tk (i:=1) (v:=.pointer (some ⟨MB,0,none⟩)) (hy:=Or.inl ⟨by rfl,by intro W' hW; have q0 := hW; go_simp⟩) (hS:=hS) (h:=?_)
     try simp only [Act.put,Ord.t,Ord.z,Ord.s]
     refine Ord.tk (i:=2) (v:=.pointer (some ⟨MB,0,none⟩)) (hy:=Or.inl ⟨by rfl,by intro W' hW; have q0 := hW; go_simp⟩) (hS:=hS) (h:=?_)
     try simp only [Act.put,Ord.t,Ord.z,Ord.s]
     refine Ord.tk (i:=3) (v:=.pointer (some ⟨MB,1,none⟩)) (hy:=Or.inl ⟨by rfl,by intro W' hW; have q0 := hW; go_simp⟩) (hS:=hS) (h:=?_)
     try simp only [Act.put,Ord.t,Ord.z,Ord.s]
     refine Ord.tk (i:=4) (v:=.slice pv es.length cv) (hy:=Or.inl ⟨by rfl,by intro W' hW; have q0 := hW; go_simp⟩) (hS:=hS) (h:=?_)
     try simp only [Act.put,Ord.t,Ord.z,Ord.s]
     refine Ord.tk (i:=6) (v:=.slice pr nr cr) (hy:=Or.inl ⟨by rfl,by intro W' hW; have q0 := hW; go_simp⟩) (hS:=hS) (h:=?_)
     try simp only [Act.put,Ord.t,Ord.z,Ord.s]
     refine Ord.on (i:=5) (h:=fun K hK => ?_)
     go_simp
     have HB5 : Hid (Below wd.heap.size wd (wd.alloc (.cells #[] 3))) := (Below.refl _ _).alloc (Nat.le_refl _) _
     refine hK.out _ _ (fun _ => HSS.out _ (HDl.out.trans (HB5.out.mono (by have := HD.out.size; have := HLoW.out; omega)))) ?_
     clear hK K
     try simp only [Act.put,Ord.t,Ord.z,Ord.s]
     refine Ord.on (i:=7) (h:=fun K hK => ?_)
     refine step_append_row rfl (.tmp 46) (.tmp 47) rfl wd.heap.size B row (.slice pr nr cr) rfl rfl rfl rfl (HIn.out _ (HbW.out.trans ((HD.out.trans (HB5.out.mono HD.out.size)).mono HbW.out.size))) HRl.out ?_
     intro g2 c2 w7 hg2 har hb7 hlt7
     have HB7 := keep hb7
     have HAr := keep har
     have HG2 : Hid (wd.heap.size ≤ g2 ∧ g2 < w7.heap.size) := ⟨by rcases hg2 with e | e <;> rw [e] <;> simp,hlt7⟩
     have HBl7 : Hid (Below w4.heap.size wr w7) := HDl.out.trans (hb7.mono (by have := HD.out.size; have := HLoW.out; omega))
     clear hb7 har hg2 hlt7
     refine hK.out _ _ (fun _ => HSS.out _ HBl7.out) ?_
     clear hK K
     try simp only [Act.put,Ord.t,Ord.z,Ord.s]
     refine Ord.on (i:=8) (h:=fun K hK => ?_)
     go_simp
     have HB8 : Hid (Below w7.heap.size w7 (w7.alloc (.cells #[.slice (some ⟨g2,0,none⟩) row.length c2] 30))) := (Below.refl _ _).alloc (Nat.le_refl _) _
     have HBl8 : Hid (Below w4.heap.size wr (w7.alloc (.cells #[.slice (some ⟨g2,0,none⟩) row.length c2] 30))) := HBl7.out.trans (HB8.out.mono (by have := HBl7.out.size; have := HLoW.out; omega))
     refine hK.out _ _ (fun _ => HSS.out _ HBl8.out) ?_
     clear hK K
     try simp only [Act.put,Ord.t,Ord.z,Ord.s]
     have HRow7 : Hid (RowA w7 w4.heap.size (.slice pv es.length cv) es) := RowX.fs (l:=[]) nestA_nest (RowX.fs (l:=[]) nestA_nest HI.out.row (Fs.of_below HD.out) (by simp)) (Fs.of_below HB7.out) (by simp)
     have HRow8 : Hid (RowA (w7.alloc (.cells #[.slice (some ⟨g2,0,none⟩) row.length c2] 30)) w4.heap.size (.slice pv es.length cv) es) := RowX.fs (l:=[]) nestA_nest HRow7.out (Fs.of_below HB8.out) (by simp)
     have HNe : Hid (nestA (w7.alloc (.cells #[.slice (some ⟨g2,0,none⟩) row.length c2] 30)) (In w4.heap.size (.slice pv es.length cv) (w7.alloc (.cells #[.slice (some ⟨g2,0,none⟩) row.length c2] 30))) (.slice (some ⟨g2,0,none⟩) row.length c2,(g2,row))) := by
      have h1 := HG2.out
      have h2 := HD.out.size
      have h3 := HLoW.out
      have h4 := HB8.out.size
      refine ⟨HAr.out.fs (Fs.of_below (l:=[]) HB8.out) (by simp),⟨by dsimp only; omega,by dsimp only; omega,fun e => ?_⟩,rfl⟩
      have := (RowX.own HI.out.row).lt g2 e
      omega
     refine Ord.on (i:=9) (h:=fun K hK => ?_)
     refine step_append_lies _ rfl (.tmp 45) (.tmp 49) 31 rfl w4.heap.size 30 i0 _ 1 24 Try.underlying31 hi0 j0 j1 j2 rfl (by decide) (.slice pv es.length cv) es.length (es.flatMap cellsA) rfl (RowX.own HRow8.out) ⟨w7.heap.size,0,none⟩ 1 1 (cellsA (.slice (some ⟨g2,0,none⟩) row.length c2,(g2,row))) rfl rfl (fun j u hj => new_cell w7 _ _ j u hj) ?c2 (by decide) ?c3 ?c4 ?c5 (w7.heap.size + 1) (by simp) ?_
     case c2 =>
      intro u hu
      simp only [cellsA,List.mem_cons,List.not_mem_nil,or_false] at hu
      rw [hu]; rfl
     case c3 => have h1 := HEl.out; have h2 := HL5.out; have h3 := HAa.out; unfold maxLen; omega
     case c4 => have h1 := HEl.out; have h2 := HL5.out; have h3 := HAa.out; omega
     case c5 => have h1 := HBl8.out.size; have h2 := HLoW.out; omega
     intro gz cap w9 hown2 hgrow hat hlt
     have hrow9 := RowX.push nestA_nest HRow8.out HNe.out hown2 hgrow (by simpa using hat)
     have hbl9 : Below w4.heap.size wr w9 := ⟨hgrow.os.trans HBl8.out.os,hgrow.tape.trans HBl8.out.tape,hgrow.output.trans HBl8.out.output,Nat.le_trans HBl8.out.size hgrow.size,fun i hi => (hgrow.block i (by have := HBl8.out.size; have := HLoW.out; omega) (fun e => by have := ((RowX.own HI.out.row).lt i e.symm).1; omega)).trans (HBl8.out.block i hi)⟩
     have hMlt : MB < w4.heap.size := by have := HLO.out; have := HNl.out; omega
     have hkM : Bk w9 MB [.slice (some ⟨PB,0,none⟩) n n,.slice pv es.length cv,.int .i64 0] 97 := by
      have := HI.out.m
      unfold Bk at this ⊢
      rw [hbl9.block MB hMlt]; exact this
     have HNx : Hid (Nw2 w4.heap.size MB PB n aa w4 (k + 1) (.slice (some ⟨gz,0,none⟩) (es.length + 1) cap) (es ++ [(.slice (some ⟨g2,0,none⟩) row.length c2,(g2,row))]) (w9.setCell ⟨MB,1,none⟩ (.slice (some ⟨gz,0,none⟩) (es.length + 1) cap))) := by
      refine ⟨hkM.set 1 _,RowX.fs (l:=[MB]) nestA_nest hrow9 ((Fs.refl [MB] w9).set (by simp) 1 _) (by simp; exact hMlt),?_,?_,?_⟩
      ·rw [List.map_append,HI.out.aa',HTk.out]; rfl
      ·rw [List.map_append,List.nodup_append]
       refine ⟨HI.out.nd,by simp,fun x hx y hy => ?_⟩
       obtain ⟨q,hq,rfl⟩ := List.mem_map.1 hx
       simp at hy
       have h1 := (HI.out.row.sub q hq).2.1.2.1
       have h2 := HG2.out
       have h3 := HD.out.size
       omega
      ·refine (HI.out.fh.trans ⟨hbl9.os,hbl9.tape,hbl9.output,hbl9.size,fun i hi _ => hbl9.block i hi⟩).trans (((Fs.refl [MB] w9).set (by simp) 1 _).fh ?_)
       have h1 := hbl9.size
       have h2 := HLoW.out
       omega
     have hM1 : w9.cell? ⟨MB,1,none⟩ = some (.slice pv es.length cv) := hkM.cell 1 rfl
     have hMf : w9.frozen? ⟨MB,1,none⟩ = false := hkM.fr 1
     clear hown2 hgrow hat hlt hrow9 hbl9 hMlt hkM
     refine hK.out _ _ (fun _ => hM1) ?_
     clear hK K
     try simp only [Act.put,Ord.t,Ord.z,Ord.s]
     have hS := hM1
     refine Ord.on (i:=10) (h:=fun K hK => ?_)
     go_simp
     refine hK.out _ _ (fun _ => hS) ?_
     clear hK K
     try simp only [Act.put,Ord.t,Ord.z,Ord.s]
     refine Ord.on (i:=11) (h:=fun K hK => ?_)
     go_simp
     refine hK.out _ _ (fun _ => hS) ?_
     clear hK K
     try simp only [Act.put,Ord.t,Ord.z,Ord.s]
     refine Ord.on (i:=12) (h:=fun K hK => ?_)
     go_simp
     refine hK.out _ _ (fun h => absurd h (by decide)) ?_
     clear hK K
     try simp only [Act.put,Ord.t,Ord.z,Ord.s]
     refine Ord.wpM_done (by kernel_rfl) ?_ _
     refine NoPanic.normal ?_
     clear hS HSS HRow7 HRow8 HNe hM1 hMf HI HkP' HF2
     generalize w9.setCell ⟨MB,1,none⟩ (.slice (some ⟨gz,0,none⟩) (es.length + 1) cap) = wf at *
     go_wp2
     go_roundw
     case rel => exact ⟨k + 1,_,_,by omega,by go_num,HNx.out⟩
     case measure => simp [intOf]; omega
    ·have hke : k = n5 := by omega
     subst hke
     have dl : decide ((k : Int) < (k : Int)) = false := decide_eq_false (by omega)
     have HE : Hid (RNew n fr ws aa w (.returned (.pointer (some ⟨MB,0,none⟩))) wr) := by
      obtain ⟨AO,hRA,hAO,hps⟩ := RowA.ra HI.out.row HI.out.nd
      have h1 := HLO.out
      have h2 := HNl.out
      have hlP : (fromP n fr ws).length = n := fromP_len HWW.out
      have hnn : es.map (·.2) ≠ [] → es ≠ [] := fun h e => h (by rw [e]; rfl)
      refine ⟨MB,PB,AO,av,es.map (·.2),rfl,⟨by rw [hlP]; exact HI.out.m,HkP'.out,hRA,by omega,fun h => ?_,fun p hp => ?_⟩,?_,HbW.out,by omega,by omega,fun h => ?_,fun p hp => ?_⟩
      ·have := hAO (hnn h); omega
      ·obtain ⟨q,hq,rfl⟩ := List.mem_map.1 hp
       have := hps q hq
       omega
      ·unfold ars
       rw [List.map_map]
       have := HI.out.aa'
       rw [← HL5.out,List.take_length] at this
       exact this
      ·have := hAO (hnn h); omega
      ·obtain ⟨q,hq,rfl⟩ := List.mem_map.1 hp
       have := hps q hq
       omega
     clear hkl HI HkP' HF2
     go_wp2
     go_ret
     exact HE.out
end Go.Proofs.Ytpnacanbknejiaa.Fl
