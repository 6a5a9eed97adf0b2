/- Laid together: LdStFor, LdStNo. -/
import Derived.Test.YtemdnmfldihalaaGreatDoorGr33
namespace Go.Proofs.YtemdnmfldihalaaGreatDoor.Lr
set_option maxHeartbeats 32000000
set_option maxRecDepth 100000
set_option linter.unusedVariables false
set_option linter.unusedSimpArgs false
open Go.ChangeShapes Go.WideShapes Go.ChangeAt Go.RowKit Lg Rf
theorem stmt_for (m : Nat) (hm : m ≤ 8) (ih : StmtOK m) (b : Nat) (s : ByteArray) (e : Int) (w : World) (hs : s.size ≤ 1200) (h : PB w b s e) (ht : Tabs w) (hg : GL b) (hk : wd (rs s.data.toList) = [102,111,114]) :
  Calls Tryz.prog 40 #[.pointer (some ⟨b,0,none⟩),.int .i64 (8 - (m : Int))] w fun r w' => ∃ p : St × Value × Value × Value,r = .returned (.agg (stA p.1 p.2.1 p.2.2.1 p.2.2.2)) ∧ nestS (m + 2) w' (New w w') p ∧ Rd w' b s.size e (stmtT (m + 1) (words s.data.toList)) (fun a => a = p.1) ∧ Fs [b] w w' := by
 have hbl := h.lt
 have HTf : Hid (∀ W,Fs [b] w W → Tabs W) := fun W hW => tabs_fs ht hg hW hbl
 have HD0 : Hid (Bk (stmtW w) w.heap.size [.int .i64 0,.int .i64 0,.string ⟨#[]⟩,.bool false,.slice none 0 0,.slice none 0 0,.slice none 0 0] 89) := Bk.new w [.int .i64 0,.int .i64 0,.string ⟨#[]⟩,.bool false,.slice none 0 0,.slice none 0 0,.slice none 0 0] 89
 have HF0 : Hid (Fs [b] w (stmtW w)) := (Fs.refl _ w).up _
 obtain ⟨s1,hs1d,hs1,hpk1⟩ := is_pack b s (by omega)
 obtain ⟨s2,hs2d,hs2,hpk2⟩ := w_pack b s1 (by omega) [102,111,114] (by rw [hs1d]; exact hk)
 have HC1 := keep (hpk1 ⟨#[40]⟩ e (stmtW w) (h.up _))
 have HC2 := keep hpk2
 have hd : decide (8 < 8 - (m : Int)) = false := decide_eq_false (by omega)
 have HEx := keep (fun s e w hs h ht => expr_ok m (by omega) b s e w hs h ht hg)
 have HSt := keep (fun s e w hs h ht => stmts_rd m ih b s e w hs h ht hg)
 have HG := keep hg
 have hw8 : IntKind.i64.wrap (8 - (m : Int) + 1) = 9 - (m : Int) := wrap_up m (by omega)
 have HStm : Hid (stmtT (m + 1) (words s.data.toList) = _) := rfl
 rw [HStm.out]
 obtain ⟨i0,hi0,hz0,hz1,hz2⟩ := info_parts infoE
 clear h ht hg ih hpk1 hpk2 hs1d hs2d hk HStm
 generalize hm9 : 9 - (m : Int) = a9 at *
 generalize hm8 : 8 - (m : Int) = a8 at *
 clear hm8 hm9
 have hmm := @run_makeMap Tryz.prog
 go_enter Tryz.func40,Tryz.ntmps40
 go_wp2_with fail
 change Calls _ _ _ (stmtW w) _
 refine HC1.out.mono ?_
 rintro r w1 ⟨rfl,⟨e1,hp1,h11,h12⟩,hf1⟩
 have HD1 := keep (HD0.out.fs hf1.fs (by simp; omega))
 have HF1 := keep (HF0.out.trans hf1.fs)
 have HP1 := keep hp1
 have H11 := keep h11
 have H12 := keep h12
 clear hp1 h11 h12 hf1 HC1 HD0 HF0
 go_wp2_with fail
 refine (HC2.out e1 w1 HP1.out).mono ?_
 rintro r w2 ⟨rfl,⟨e2,hp2,h21,h22⟩,hf2⟩
 have HD2 := keep (HD1.out.fs hf2.fs (by simp; omega))
 have HF2 := keep (HF1.out.trans hf2.fs)
 have H21 := keep h21
 have H22 := keep h22
 obtain ⟨W1,W2,W3,W4,W5,W6,r1,r2,r3,r4,r5,r6,rl,hB6⟩ := kinds_map w2 w2.heap.size rfl
 have rl0 : (Instr.lookup 81 (.map (some w2.heap.size)) (.string ⟨#[102,111,114]⟩) false).run Tryz.prog W6 = .ok (.int .i64 5) W6 := rl ⟨#[102,111,114]⟩ (by unfold maxLen; decide)
 have HD6 := keep (HD2.out.fs (Fs.of_below (l:=[]) hB6) (by simp))
 have HF6 := keep (HF2.out.trans (Fs.of_below hB6))
 have HP6' := keep (hp2.below hB6)
 have HZ := keep (Bk.new W6 [.int .i64 0,.int .i64 0,.string ⟨#[]⟩,.bool false,.slice none 0 0,.slice none 0 0,.slice none 0 0] 89)
 have hwS : w.heap.size < W6.heap.size := HD6.out.lt
 obtain ⟨w3,hw3⟩ : ∃ w3,(W6.alloc (.cells #[.int .i64 0,.int .i64 0,.string ⟨#[]⟩,.bool false,.slice none 0 0,.slice none 0 0,.slice none 0 0] 89)).setRow W6.heap.size #[.int .i64 5,.int .i64 0,.string ⟨#[]⟩,.bool false,.slice none 0 0,.slice none 0 0,.slice none 0 0] = w3 := ⟨_,rfl⟩
 have HS3 : Hid (SS w w3 b W6.heap.size [.int .i64 5,.int .i64 0,.string ⟨#[]⟩,.bool false,.slice none 0 0,.slice none 0 0,.slice none 0 0]) := by
  show SS _ _ _ _ _
  rw [← hw3]
  exact ⟨(HF6.out.up _).row (by omega) _,by have := HD6.out.up (.cells #[.int .i64 0,.int .i64 0,.string ⟨#[]⟩,.bool false,.slice none 0 0,.slice none 0 0,.slice none 0 0] 89); unfold Bk at this ⊢; rw [setRow_other _ _ _ _ (by omega)]; exact this,setRow_heap _ _ _ _ _ _ HZ.out⟩
 have HP3 : Hid (PB w3 b s2 e2) := by
  show PB _ _ _ _
  rw [← hw3]; exact (HP6'.out.up _).row (by omega) _
 have hz3 : W6.heap.size < w3.heap.size := HS3.out.S.lt
 clear hp2 h21 h22 hf2 HC2 HP1 HD1 HD2 HD6 HF1 HF2 HF6 HP6' rl hB6
 have c0 := HS3.out.S.cell 0 rfl
 go_wp2_with (first
  | refine wpList_store_row rfl 89 (.tmp 6) (.tmp 20) rfl W6.heap.size #[.int .i64 5,.int .i64 0,.string ⟨#[]⟩,.bool false,.slice none 0 0,.slice none 0 0,.slice none 0 0] rfl rfl 89 #[.int .i64 0,.int .i64 0,.string ⟨#[]⟩,.bool false,.slice none 0 0,.slice none 0 0,.slice none 0 0] HZ.out (info_S [.int .i64 5,.int .i64 0,.string ⟨#[]⟩,.bool false,.slice none 0 0,.slice none 0 0,.slice none 0 0] rfl) rfl (by simp [Value.oneCell']) ?_
  | rw [hw3])
 (try clear hw3)
 (try clear hwA)
 (try clear c0)
 (try clear cX)
 (try clear fX)
 refine (n_rd b s2 (by omega) e2 w3 HP3.out).mono ?_
 rintro r v4 ⟨rfl,hr,hf⟩
 obtain ⟨s4,e4,hp4,hn4,h4a,h4b⟩ := hr
 obtain ⟨x,hx⟩ : ∃ x,wd s2.data.toList = x := ⟨_,rfl⟩
 rw [hx] at h4b
 rw [hx]
 clear hx
 have HV4 := keep (HS3.out.step hbl hwS hf.fs)
 have A4 := keep h4a
 have B4 := keep h4b
 obtain ⟨w4,hwA⟩ : ∃ w4,v4.setCell ⟨W6.heap.size,2,none⟩ (.string ⟨x.toArray⟩) = w4 := ⟨_,rfl⟩
 have cX := HV4.out.S.cell 2 rfl
 have fX := HV4.out.S.fr 2
 have HS4 : Hid (SS w w4 b W6.heap.size [.int .i64 5,.int .i64 0,.string ⟨x.toArray⟩,.bool false,.slice none 0 0,.slice none 0 0,.slice none 0 0]) := by
  show SS _ _ _ _ _
  rw [← hwA]; exact HV4.out.set hwS 2 _
 have HQ4 : Hid (PB w4 b s4 e4) := by
  show PB _ _ _ _
  rw [← hwA]; exact hp4.far (by omega) 2 _
 have hz4 : w3.heap.size ≤ w4.heap.size := by rw [← hwA]; simp [World.setCell]; exact hf.size
 have hy4 : v4.heap.size ≤ w4.heap.size := by rw [← hwA]; simp [World.setCell]
 clear hp4 h4a h4b hf
 have c0 := HS4.out.S.cell 0 rfl
 go_wp2_with fail
 (try clear hw3)
 (try clear hwA)
 (try clear c0)
 (try clear cX)
 (try clear fX)
 refine (i_rd b s4 (by omega) e4 0 8 w4 HQ4.out (HTf.out _ HS4.out.fs) HG.out).mono ?_
 rintro r v5 ⟨nv,rfl,hr,hf⟩
 obtain ⟨s5,e5,hp5,hn5,h5a,h5b⟩ := hr
 have HV5 := keep (HS4.out.step hbl hwS hf.fs)
 have A5 := keep h5a
 have B5 := keep h5b
 obtain ⟨w5,hwA⟩ : ∃ w5,v5.setCell ⟨W6.heap.size,1,none⟩ (.int .i64 nv) = w5 := ⟨_,rfl⟩
 have cX := HV5.out.S.cell 1 rfl
 have fX := HV5.out.S.fr 1
 have HS5 : Hid (SS w w5 b W6.heap.size [.int .i64 5,.int .i64 nv,.string ⟨x.toArray⟩,.bool false,.slice none 0 0,.slice none 0 0,.slice none 0 0]) := by
  show SS _ _ _ _ _
  rw [← hwA]; exact HV5.out.set hwS 1 _
 have HQ5 : Hid (PB w5 b s5 e5) := by
  show PB _ _ _ _
  rw [← hwA]; exact hp5.far (by omega) 1 _
 have hz5 : w4.heap.size ≤ w5.heap.size := by rw [← hwA]; simp [World.setCell]; exact hf.size
 have hy5 : v5.heap.size ≤ w5.heap.size := by rw [← hwA]; simp [World.setCell]
 clear hp5 h5a h5b hf
 have c0 := HS5.out.S.cell 0 rfl
 go_wp2_with fail
 (try clear hw3)
 (try clear hwA)
 (try clear c0)
 (try clear cX)
 (try clear fX)
 refine (HSt.out s5 e5 w5 (by omega) HQ5.out (HTf.out _ HS5.out.fs)).mono ?_
 rintro r v6 ⟨us1,sl1,rfl,hst,hr,hf⟩
 obtain ⟨s6,e6,hp6,hn6,h6a,h6b⟩ := hr
 obtain ⟨p1,q1,cap1,rfl⟩ := hst.slice
 have HT1 := keep hst
 clear hst
 have HV6 := keep (HS5.out.step hbl hwS hf)
 have A6 := keep h6a
 have B6 := keep h6b
 obtain ⟨w6,hwA⟩ : ∃ w6,v6.setCell ⟨W6.heap.size,5,none⟩ (.slice p1 q1 cap1) = w6 := ⟨_,rfl⟩
 have cX := HV6.out.S.cell 5 rfl
 have fX := HV6.out.S.fr 5
 have HS6 : Hid (SS w w6 b W6.heap.size [.int .i64 5,.int .i64 nv,.string ⟨x.toArray⟩,.bool false,.slice none 0 0,.slice p1 q1 cap1,.slice none 0 0]) := by
  show SS _ _ _ _ _
  rw [← hwA]; exact HV6.out.set hwS 5 _
 have HQ6 : Hid (PB w6 b s6 e6) := by
  show PB _ _ _ _
  rw [← hwA]; exact hp6.far (by omega) 5 _
 have hz6 : w5.heap.size ≤ w6.heap.size := by rw [← hwA]; simp [World.setCell]; exact hf.size
 have hy6 : v6.heap.size ≤ w6.heap.size := by rw [← hwA]; simp [World.setCell]
 have HT1 := keep (StX.keep (w' := w6) (fun i (hi : New w5 v6 i) => by rw [← hwA,Below.heap_setCell _ _ _ _ (by show i ≠ W6.heap.size; have := hi.1; omega)]) HT1.out)
 clear hp6 h6a h6b hf
 have c0 := HS6.out.S.cell 0 rfl
 have HEl := keep HS6.out.S
 have HDl := keep HS6.out.D
 go_wp2_with (first
  | refine wpList_load_row rfl 89 (.tmp 6) rfl W6.heap.size rfl 89 #[.int .i64 5,.int .i64 nv,.string ⟨x.toArray⟩,.bool false,.slice none 0 0,.slice p1 q1 cap1,.slice none 0 0] (0,0) _ HEl.out Tryz.underlying89 rfl (info_S [.int .i64 5,.int .i64 nv,.string ⟨x.toArray⟩,.bool false,.slice none 0 0,.slice p1 q1 cap1,.slice none 0 0] rfl) ?_
  | refine wpList_store_row rfl 89 (.tmp 4) (.tmp 64) rfl w.heap.size #[.int .i64 5,.int .i64 nv,.string ⟨x.toArray⟩,.bool false,.slice none 0 0,.slice p1 q1 cap1,.slice none 0 0] rfl rfl 89 #[.int .i64 0,.int .i64 0,.string ⟨#[]⟩,.bool false,.slice none 0 0,.slice none 0 0,.slice none 0 0] HDl.out (info_S [.int .i64 5,.int .i64 nv,.string ⟨x.toArray⟩,.bool false,.slice none 0 0,.slice p1 q1 cap1,.slice none 0 0] rfl) rfl (by simp [Value.oneCell']) ?_
  | rw [hwA])
 (try simp only [Exit.inBlock,Exit.then])
 refine bodyPost_ret (results_cell_row rfl _ _ w.heap.size _ #[.int .i64 5,.int .i64 nv,.string ⟨x.toArray⟩,.bool false,.slice none 0 0,.slice p1 q1 cap1,.slice none 0 0] (0,0) _ rfl (setRow_heap _ _ _ _ _ _ HDl.out) Tryz.underlying89 rfl (info_S [.int .i64 5,.int .i64 nv,.string ⟨x.toArray⟩,.bool false,.slice none 0 0,.slice p1 q1 cap1,.slice none 0 0] rfl)) rfl ?_
 have hpl := HQ6.out.row (D:=w.heap.size) (by omega) #[.int .i64 5,.int .i64 nv,.string ⟨x.toArray⟩,.bool false,.slice none 0 0,.slice p1 q1 cap1,.slice none 0 0]
 refine ⟨(⟨5,nv,x,false,[],us1,[]⟩,.slice none 0 0,.slice p1 q1 cap1,.slice none 0 0),rfl,⟨.inl ⟨rfl,rfl⟩,?_,StX.none _⟩,?_,HS6.out.fs.row (Nat.le_refl _) _⟩
 ·exact StX.mono (X:=New w5 v6) (fun i hi => ⟨by have := hi.1; omega,by have := hi.2; simp; omega⟩) (StX.keep (fun i hi => setRow_other _ _ _ _ (by have := hi.1; omega)) HT1.out)
 ·refine rd_go (n1:=s.size) H11.out H12.out ?_ (Nat.le_refl _)
  refine rd_then (x:=[102,111,114]) (n1:=s.size) H21.out H22.out ?_ (Nat.le_refl _)
  rw [if_neg (by decide),if_neg (by decide),if_neg (by decide),if_neg (by decide),if_pos (by decide)]
  refine rd_then (x:=x) (n1:=s.size) A4.out B4.out ?_ (Nat.le_refl _)
  refine rd_then (x:=nv) (n1:=s.size) A5.out B5.out ?_ (Nat.le_refl _)
  refine rd_then (x:=us1) (n1:=s.size) A6.out B6.out ?_ (Nat.le_refl _)
  exact rd_ok hpl (by omega) rfl
theorem stmt_no (m : Nat) (hm : m ≤ 8) (ih : StmtOK m) (b : Nat) (s : ByteArray) (e : Int) (w : World) (hs : s.size ≤ 1200) (h : PB w b s e) (ht : Tabs w) (hg : GL b) (X : List UInt8) (hk0 : kindOf X = 0) (hk : wd (rs s.data.toList) = X) :
  Calls Tryz.prog 40 #[.pointer (some ⟨b,0,none⟩),.int .i64 (8 - (m : Int))] w fun r w' => ∃ p : St × Value × Value × Value,r = .returned (.agg (stA p.1 p.2.1 p.2.2.1 p.2.2.2)) ∧ nestS (m + 2) w' (New w w') p ∧ Rd w' b s.size e (stmtT (m + 1) (words s.data.toList)) (fun a => a = p.1) ∧ Fs [b] w w' := by
 have hbl := h.lt
 have HTf : Hid (∀ W,Fs [b] w W → Tabs W) := fun W hW => tabs_fs ht hg hW hbl
 have HD0 : Hid (Bk (stmtW w) w.heap.size [.int .i64 0,.int .i64 0,.string ⟨#[]⟩,.bool false,.slice none 0 0,.slice none 0 0,.slice none 0 0] 89) := Bk.new w [.int .i64 0,.int .i64 0,.string ⟨#[]⟩,.bool false,.slice none 0 0,.slice none 0 0,.slice none 0 0] 89
 have HF0 : Hid (Fs [b] w (stmtW w)) := (Fs.refl _ w).up _
 obtain ⟨s1,hs1d,hs1,hpk1⟩ := is_pack b s (by omega)
 obtain ⟨s2,hs2d,hs2,hpk2⟩ := w_pack b s1 (by omega) X (by rw [hs1d]; exact hk)
 have HC1 := keep (hpk1 ⟨#[40]⟩ e (stmtW w) (h.up _))
 have HC2 := keep hpk2
 have hd : decide (8 < 8 - (m : Int)) = false := decide_eq_false (by omega)
 have HEx := keep (fun s e w hs h ht => expr_ok m (by omega) b s e w hs h ht hg)
 have HSt := keep (fun s e w hs h ht => stmts_rd m ih b s e w hs h ht hg)
 have hXl : X.length ≤ 1200 := by
  have := wd_len s1
  rw [hs1d,hk] at this
  omega
 have HK0 := keep hk0
 clear hk0
 have HG := keep hg
 have hw8 : IntKind.i64.wrap (8 - (m : Int) + 1) = 9 - (m : Int) := wrap_up m (by omega)
 have HStm : Hid (stmtT (m + 1) (words s.data.toList) = _) := rfl
 rw [HStm.out]
 obtain ⟨i0,hi0,hz0,hz1,hz2⟩ := info_parts infoE
 clear h ht hg ih hpk1 hpk2 hs1d hs2d hk HStm
 generalize hm9 : 9 - (m : Int) = a9 at *
 generalize hm8 : 8 - (m : Int) = a8 at *
 clear hm8 hm9
 have hmm := @run_makeMap Tryz.prog
 go_enter Tryz.func40,Tryz.ntmps40
 go_wp2_with fail
 change Calls _ _ _ (stmtW w) _
 refine HC1.out.mono ?_
 rintro r w1 ⟨rfl,⟨e1,hp1,h11,h12⟩,hf1⟩
 have HD1 := keep (HD0.out.fs hf1.fs (by simp; omega))
 have HF1 := keep (HF0.out.trans hf1.fs)
 have HP1 := keep hp1
 have H11 := keep h11
 have H12 := keep h12
 clear hp1 h11 h12 hf1 HC1 HD0 HF0
 go_wp2_with fail
 refine (HC2.out e1 w1 HP1.out).mono ?_
 rintro r w2 ⟨rfl,⟨e2,hp2,h21,h22⟩,hf2⟩
 have HD2 := keep (HD1.out.fs hf2.fs (by simp; omega))
 have HF2 := keep (HF1.out.trans hf2.fs)
 have H21 := keep h21
 have H22 := keep h22
 obtain ⟨W1,W2,W3,W4,W5,W6,r1,r2,r3,r4,r5,r6,rl,hB6⟩ := kinds_map w2 w2.heap.size rfl
 have rl0 : (Instr.lookup 81 (.map (some w2.heap.size)) (.string ⟨X.toArray⟩) false).run Tryz.prog W6 = .ok (.int .i64 0) W6 := (by have h := rl ⟨X.toArray⟩ (by rw [size_mk]; unfold maxLen; omega); rw [show (⟨X.toArray⟩ : ByteArray).data.toList = X by simp,HK0.out] at h; exact h)
 have HD6 := keep (HD2.out.fs (Fs.of_below (l:=[]) hB6) (by simp))
 have HF6 := keep (HF2.out.trans (Fs.of_below hB6))
 have HP6' := keep (hp2.below hB6)
 have HZ := keep (Bk.new W6 [.int .i64 0,.int .i64 0,.string ⟨#[]⟩,.bool false,.slice none 0 0,.slice none 0 0,.slice none 0 0] 89)
 have hwS : w.heap.size < W6.heap.size := HD6.out.lt
 obtain ⟨w3,hw3⟩ : ∃ w3,(W6.alloc (.cells #[.int .i64 0,.int .i64 0,.string ⟨#[]⟩,.bool false,.slice none 0 0,.slice none 0 0,.slice none 0 0] 89)).setRow W6.heap.size #[.int .i64 0,.int .i64 0,.string ⟨#[]⟩,.bool false,.slice none 0 0,.slice none 0 0,.slice none 0 0] = w3 := ⟨_,rfl⟩
 have HS3 : Hid (SS w w3 b W6.heap.size [.int .i64 0,.int .i64 0,.string ⟨#[]⟩,.bool false,.slice none 0 0,.slice none 0 0,.slice none 0 0]) := by
  show SS _ _ _ _ _
  rw [← hw3]
  exact ⟨(HF6.out.up _).row (by omega) _,by have := HD6.out.up (.cells #[.int .i64 0,.int .i64 0,.string ⟨#[]⟩,.bool false,.slice none 0 0,.slice none 0 0,.slice none 0 0] 89); unfold Bk at this ⊢; rw [setRow_other _ _ _ _ (by omega)]; exact this,setRow_heap _ _ _ _ _ _ HZ.out⟩
 have HP3 : Hid (PB w3 b s2 e2) := by
  show PB _ _ _ _
  rw [← hw3]; exact (HP6'.out.up _).row (by omega) _
 have hz3 : W6.heap.size < w3.heap.size := HS3.out.S.lt
 clear hp2 h21 h22 hf2 HC2 HP1 HD1 HD2 HD6 HF1 HF2 HF6 HP6' rl hB6
 have c0 := HS3.out.S.cell 0 rfl
 go_wp2_with (first
  | refine wpList_store_row rfl 89 (.tmp 6) (.tmp 20) rfl W6.heap.size #[.int .i64 0,.int .i64 0,.string ⟨#[]⟩,.bool false,.slice none 0 0,.slice none 0 0,.slice none 0 0] rfl rfl 89 #[.int .i64 0,.int .i64 0,.string ⟨#[]⟩,.bool false,.slice none 0 0,.slice none 0 0,.slice none 0 0] HZ.out (info_S [.int .i64 0,.int .i64 0,.string ⟨#[]⟩,.bool false,.slice none 0 0,.slice none 0 0,.slice none 0 0] rfl) rfl (by simp [Value.oneCell']) ?_
  | rw [hw3])
 (try clear hw3)
 (try clear hwA)
 (try clear c0)
 (try clear cX)
 (try clear fX)
 refine (bad_any b s2 e2 1 w3 HP3.out).mono ?_
 rintro r v4 ⟨rfl,hp4,hf⟩
 have HV4 := keep (HS3.out.step hbl hwS hf.fs)
 have HQ4 := keep hp4
 have hz4 : w3.heap.size ≤ v4.heap.size := hf.size
 clear hp4 hf
 have c0 := HV4.out.S.cell 0 rfl
 have HIb := keep (Bk.new v4 [.int .i64 0,.int .i64 1,.int .i64 1,.int .i64 2,.int .i64 1,.int .i64 0,.int .i64 1] 3)
 have cI : (v4.alloc (.cells #[.int .i64 0,.int .i64 1,.int .i64 1,.int .i64 2,.int .i64 1,.int .i64 0,.int .i64 1] 3)).cell? ⟨v4.heap.size,0,none⟩ = some (.int .i64 0) := HIb.out.cell 0 rfl
 have HSz := keep (HV4.out.step hbl hwS ((Fs.refl _ _).up (.cells #[.int .i64 0,.int .i64 1,.int .i64 1,.int .i64 2,.int .i64 1,.int .i64 0,.int .i64 1] 3)))
 have HPz := keep (HQ4.out.up (.cells #[.int .i64 0,.int .i64 1,.int .i64 1,.int .i64 2,.int .i64 1,.int .i64 0,.int .i64 1] 3))
 have c0z := HSz.out.S.cell 0 rfl
 have hzz : v4.heap.size ≤ (v4.alloc (.cells #[.int .i64 0,.int .i64 1,.int .i64 1,.int .i64 2,.int .i64 1,.int .i64 0,.int .i64 1] 3)).heap.size := by simp
 clear HIb
 go_wp2_with fail
 (try clear hw3)
 (try clear hwA)
 (try clear c0)
 (try clear cX)
 (try clear fX)
 clear cI c0z
 clear HZ
 generalize W6.heap.size = S at *
 generalize v4.alloc (.cells #[.int .i64 0,.int .i64 1,.int .i64 1,.int .i64 2,.int .i64 1,.int .i64 0,.int .i64 1] 3) = wz at *
 go_loopw [70] (fun i wx => ∃ (k : Nat) (s' : ByteArray) (e' : Int) (es : List (Ex × Value)) (v : Value),k ≤ 0 ∧ i = .int .i64 (k : Int) ∧ es.length = k ∧ PB wx b s' e' ∧ s'.size ≤ s.size ∧ SS w wx b S [.int .i64 0,.int .i64 0,.string ⟨#[]⟩,.bool false,v,.slice none 0 0,.slice none 0 0] ∧ RowE (m + 1) wx (S + 1) v es ∧ Parts (exprT m) 0 k (first e2 1) e' (words s2.data.toList) (words s'.data.toList) (es.map (·.1))) (fun i _ => 0 - (intOf i).toNat)
 case atStart => exact ⟨0,s2,(first e2 1),[],.slice none 0 0,by omega,rfl,rfl,HPz.out,by omega,HSz.out,RowX.nil _ _,Parts.nil _ _ _ _⟩
 case round =>
  obtain ⟨k,s',e',es,v,hkn,rfl,hlen,hp,hsz,hss,hrow,hparts⟩ := hrel
  obtain ⟨pv,nv,cv,rfl⟩ := hrow.slice
  have hnv := hrow.len
  subst hnv
  subst hlen
  have HP2 := keep hp
  have HRow := keep hrow
  have HSs := keep hss
  have HPt := keep hparts
  have hSl : S < wr.heap.size := hss.S.lt
  clear hp hrow hss hparts HPz HSz
  by_cases hkl : es.length < 0
  ·have d1 : decide ((es.length : Int) < 0) = true := decide_eq_true (by omega)
   have HVo := keep (fun i => HRow.out.own.lt i)
   have HC := keep (fun W hp ht => HEx.out s' e' W (by omega) hp ht)
   have HPd : Hid (PB wr.drew b s' e') := HP2.out
   have HSd : Hid (SS w wr.drew b S [.int .i64 0,.int .i64 0,.string ⟨#[]⟩,.bool false,.slice pv es.length cv,.slice none 0 0,.slice none 0 0]) := ⟨⟨HSs.out.fs.os,HSs.out.fs.tape,HSs.out.fs.output,HSs.out.fs.size,HSs.out.fs.block⟩,HSs.out.D,HSs.out.S⟩
   have HRd0 : Hid (RowE (m + 1) wr.drew (S + 1) (.slice pv es.length cv) es) := RowX.fs (l:=[]) (nestE_nest _) HRow.out ⟨rfl,rfl,rfl,Nat.le_refl _,fun _ _ _ => rfl⟩ (by simp)
   have hS : (fun W' : World => W'.cell? ⟨S,4,none⟩ = some (.slice pv es.length cv)) wr.drew := HSd.out.S.cell 4 rfl
   have hSd : S < wr.drew.heap.size := hSl
   have hWd : wr.drew.heap.size = wr.heap.size := rfl
   clear HP2 HRow HSs
   go_wp2_with fail
   refine wp_region_noPanic ?_
   refine Ord.wpM_begin (fun W' : World => W'.cell? ⟨S,4,none⟩ = some (.slice pv es.length cv)) [0,1,2,3,4,5,6,7] (by kernel_rfl) ?_
   generalize wr.drew = Wd at *
   refine Ord.tk (i:=0) (v:=.pointer (some ⟨S,4,none⟩)) (hy:=Or.inl ⟨by rfl,by intro W' hW; have q0 : W'.cell? ⟨S,4,none⟩ = some (.slice pv es.length cv) := hW; go_simp⟩) (hS:=hS) (h:=?_)
   try simp only [Act.put,Ord.t,Ord.z,Ord.s]
   refine Ord.tk (i:=1) (v:=.slice pv es.length cv) (hy:=Or.inl ⟨by rfl,by intro W' hW; have q0 : W'.cell? ⟨S,4,none⟩ = some (.slice pv es.length cv) := hW; go_simp⟩) (hS:=hS) (h:=?_)
   try simp only [Act.put,Ord.t,Ord.z,Ord.s]
   refine Ord.tk (i:=2) (v:=.pointer (some ⟨b,0,none⟩)) (hy:=Or.inl ⟨by rfl,by intro W' hW; have q0 : W'.cell? ⟨S,4,none⟩ = some (.slice pv es.length cv) := hW; go_simp⟩) (hS:=hS) (h:=?_)
   try simp only [Act.put,Ord.t,Ord.z,Ord.s]
   refine Ord.tk (i:=3) (v:=.int .i64 a8) (hy:=Or.inl ⟨by rfl,by intro W' hW; have q0 : W'.cell? ⟨S,4,none⟩ = some (.slice pv es.length cv) := hW; go_simp⟩) (hS:=hS) (h:=?_)
   try simp only [Act.put,Ord.t,Ord.z,Ord.s]
   refine Ord.tk (i:=4) (v:=.int .i64 a9) (hy:=Or.inl ⟨by rfl,by intro W' hW; have q0 : W'.cell? ⟨S,4,none⟩ = some (.slice pv es.length cv) := hW; go_simp⟩) (hS:=hS) (h:=?_)
   try simp only [Act.put,Ord.t,Ord.z,Ord.s]
   refine Ord.on (i:=5) (h:=fun K hK => ?_)
   go_simp
   refine (HC.out _ HPd.out (HTf.out _ HSd.out.fs)).mono ?_
   rintro r y1 ⟨ex,sl,rfl,hex,hrd,hf1⟩
   obtain ⟨p,q,cap0,rfl⟩ := hex.slice
   have HEy := keep hex
   obtain ⟨s5,e5,hp5,hn5,h51,h52⟩ := hrd
   have HPt5 := keep (HPt.out.more hkl h51 h52)
   have HP5 := keep (hp5.up (.cells #[.int .i64 ex.kind,.int .i64 ex.n,.string ⟨ex.name.toArray⟩,.slice p q cap0] 93))
   have HM1 := keep (HSd.out.step hbl hwS hf1)
   have HRow1 := keep (RowX.fs (nestE_nest (m + 1)) HRd0.out hf1 (by simp; omega))
   have hws1 : Wd.heap.size ≤ y1.heap.size := hf1.size
   clear hex hp5 h51 h52 hf1 HC HPt HRd0 HSd HPd
   unfold exA
   go_simp
   refine hK.out _ _ (fun _ => HM1.out.S.cell 4 rfl) ?_
   clear hK K
   try simp only [Act.put,Ord.t,Ord.z,Ord.s]
   refine Ord.on (i:=6) (h:=fun K hK => ?_)
   go_simp
   have HA := keep (Fs.of_below (l:=[b]) ((Below.refl y1.heap.size y1).alloc (Nat.le_refl _) (.cells #[.int .i64 ex.kind,.int .i64 ex.n,.string ⟨ex.name.toArray⟩,.slice p q cap0] 93)))
   have HMa := keep (HM1.out.step hbl hwS HA.out)
   refine hK.out _ _ (fun _ => HMa.out.S.cell 4 rfl) ?_
   clear hK K
   have hown := (HRow1.out.own).alloc (.cells #[.int .i64 ex.kind,.int .i64 ex.n,.string ⟨ex.name.toArray⟩,.slice p q cap0] 93)
   try simp only [Act.put,Ord.t,Ord.z,Ord.s]
   refine Ord.on (i:=7) (h:=fun K hK => ?_)
   refine step_append_lies _ rfl (.tmp 73) (.tmp 78) 87 rfl (S + 1) 93 i0 _ 4 56 Tryz.underlying87 hi0 hz0 hz1 hz2 rfl (by decide) (.slice pv es.length cv) es.length (es.flatMap cellsE) rfl hown ⟨y1.heap.size,0,none⟩ 1 1 (cellsE (ex,.slice p q cap0)) rfl rfl (fun j u hj => new_cell y1 _ _ j u hj) ?c2 (by decide) ?c3 ?c4 ?c5 (y1.heap.size + 1) (by simp) ?_
   case c2 =>
    intro u hu
    simp only [cellsE,List.mem_cons,List.not_mem_nil,or_false] at hu
    rcases hu with rfl | rfl | rfl | rfl <;> rfl
   case c3 => unfold maxLen; omega
   case c4 => omega
   case c5 => simp; omega
   ·intro g cap y2 hown2 hgrow hat hlt
    have hex2 := ExX.keep (w' := y1.alloc (.cells #[.int .i64 ex.kind,.int .i64 ex.n,.string ⟨ex.name.toArray⟩,.slice p q cap0] 93)) (fun i (hi : New Wd y1 i) => HA.out.block i hi.2 (by have := hi.1; simp; omega)) HEy.out
    have HRow2 := keep (RowX.push (p:=(ex,.slice p q cap0)) (nestE_nest (m + 1)) (RowX.fs (nestE_nest (m + 1)) HRow1.out HA.out (by simp; omega)) (ExX.mono (fun i hi => ⟨by have := hi.1; omega,Nat.lt_of_lt_of_le hi.2 HA.out.size,fun hv => by have := (HVo.out i hv).2; have := hi.1; omega⟩) hex2) hown2 hgrow (by simpa using hat))
    have hk2 : ∀ i,i ≤ S → y2.heap[i]? = (y1.alloc (.cells #[.int .i64 ex.kind,.int .i64 ex.n,.string ⟨ex.name.toArray⟩,.slice p q cap0] 93)).heap[i]? := fun i hi =>
     hgrow.block i (by simp; omega) (fun hv => by have := (HVo.out i hv.symm).1; omega)
    have HM2 := keep (HMa.out.grow hwS hgrow.os hgrow.tape hgrow.output hgrow.size hk2)
    have HP6 : Hid (PB y2 b s5 e5) := by
     have hp := HP5.out
     show PB _ _ _ _
     unfold PB at hp ⊢
     rw [hk2 b (by omega)]; exact hp
    refine hK.out _ _ (fun _ => HM2.out.S.cell 4 rfl) ?_
    clear hK K hown2 hgrow hat hown hk2 HMa HM1 HP5 HA HEy HRow1 hex2
    have c3 := HM2.out.S.cell 4 rfl
    have f3 := HM2.out.S.fr 4
    try simp only [Act.put,Ord.t,Ord.z,Ord.s]
    refine Ord.on (i:=8) (h:=fun K hK => ?_)
    go_simp
    refine hK.out _ _ (fun h => absurd h (by decide)) ?_
    clear hK K
    try simp only [Act.put,Ord.t,Ord.z,Ord.s]
    refine Ord.on (i:=9) (h:=fun K hK => ?_)
    go_simp
    refine hK.out _ _ (fun h => absurd h (by decide)) ?_
    clear hK K
    try simp only [Act.put,Ord.t,Ord.z,Ord.s]
    refine Ord.wpM_done (by kernel_rfl) ?_ _
    refine NoPanic.normal ?_
    go_wp2
    go_roundw
    case rel =>
     refine ⟨es.length + 1,s5,e5,es ++ [((ex,Value.slice p q cap0) : Ex × Value)],_,by omega,by go_num,by simp,HP6.out.far (by omega) 4 _,by omega,HM2.out.set hwS 4 _,?_,by rw [List.map_append]; exact HPt5.out⟩
     exact RowX.stay (nestE_nest _) HRow2.out (by simp [World.setCell]) (fun i h1 h2 => by rw [Below.heap_setCell _ _ _ _ (by show i ≠ S; omega)])
    case measure => simp [intOf]; omega
  ·have hke : es.length = 0 := by omega
   have dk : decide ((es.length : Int) < 0) = false := decide_eq_false (by omega)
   rw [hke] at HPt
   have HXE := keep (ExX.deep (RowX.args HRow.out (by have := hkn; omega)) (show m + 2 ≤ 11 by omega))
   have HNz := keep (nz_many (nz_expr m) 0 (words s2.data.toList))
   obtain ⟨us,hus⟩ : ∃ us,es.map (·.1) = us := ⟨_,rfl⟩
   rw [hus] at HXE HPt
   have hzr : S + 1 ≤ wr.heap.size := hSl
   clear hke hkl hkn HRow hus
   have hz5 : wr.heap.size ≤ wr.heap.size := Nat.le_refl _
   have c0 := HSs.out.S.cell 0 rfl
   go_wp2_with fail
   (try clear hw3)
   (try clear hwA)
   (try clear c0)
   (try clear cX)
   (try clear fX)
   refine (is_rd b s' (by omega) e' ⟨#[41]⟩ wr HP2.out).mono ?_
   rintro r v6 ⟨rfl,hr,hf⟩
   obtain ⟨s6,e6,hp6,hn6,h6a,h6b⟩ := hr
   have HV6 := keep (HSs.out.step hbl hwS hf.fs)
   have A6 := keep h6a
   have B6 := keep h6b
   have HXE := keep (ExX.keep (w' := v6) (fun i (hi : S + 1 ≤ i ∧ i < wr.heap.size) => (hf.fs).block i (by have := hi.2; have := hz5; omega) (by have := hi.1; simp; omega)) HXE.out)
   have HQ6 := keep hp6
   have hz6 : wr.heap.size ≤ v6.heap.size := hf.size
   clear hp6 h6a h6b hf
   have c0 := HV6.out.S.cell 0 rfl
   have HEl := keep HV6.out.S
   have HDl := keep HV6.out.D
   go_wp2_with (first
    | refine wpList_load_row rfl 89 (.tmp 6) rfl S rfl 89 #[.int .i64 0,.int .i64 0,.string ⟨#[]⟩,.bool false,.slice pv es.length cv,.slice none 0 0,.slice none 0 0] (0,0) _ HEl.out Tryz.underlying89 rfl (info_S [.int .i64 0,.int .i64 0,.string ⟨#[]⟩,.bool false,.slice pv es.length cv,.slice none 0 0,.slice none 0 0] rfl) ?_
    | refine wpList_store_row rfl 89 (.tmp 4) (.tmp 101) rfl w.heap.size #[.int .i64 0,.int .i64 0,.string ⟨#[]⟩,.bool false,.slice pv es.length cv,.slice none 0 0,.slice none 0 0] rfl rfl 89 #[.int .i64 0,.int .i64 0,.string ⟨#[]⟩,.bool false,.slice none 0 0,.slice none 0 0,.slice none 0 0] HDl.out (info_S [.int .i64 0,.int .i64 0,.string ⟨#[]⟩,.bool false,.slice pv es.length cv,.slice none 0 0,.slice none 0 0] rfl) rfl (by simp [Value.oneCell']) ?_
    | rw [hwA])
   (try simp only [Exit.inBlock,Exit.then])
   refine bodyPost_ret (results_cell_row rfl _ _ w.heap.size _ #[.int .i64 0,.int .i64 0,.string ⟨#[]⟩,.bool false,.slice pv es.length cv,.slice none 0 0,.slice none 0 0] (0,0) _ rfl (setRow_heap _ _ _ _ _ _ HDl.out) Tryz.underlying89 rfl (info_S [.int .i64 0,.int .i64 0,.string ⟨#[]⟩,.bool false,.slice pv es.length cv,.slice none 0 0,.slice none 0 0] rfl)) rfl ?_
   have hpl := HQ6.out.row (D:=w.heap.size) (by omega) #[.int .i64 0,.int .i64 0,.string ⟨#[]⟩,.bool false,.slice pv es.length cv,.slice none 0 0,.slice none 0 0]
   refine ⟨(⟨0,0,[],false,us,[],[]⟩,.slice pv es.length cv,.slice none 0 0,.slice none 0 0),rfl,⟨?_,StX.none _,StX.none _⟩,?_,HV6.out.fs.row (Nat.le_refl _) _⟩
   ·exact ExX.mono (X:=fun i => S + 1 ≤ i ∧ i < wr.heap.size) (fun i hi => ⟨by have := hi.1; omega,by have := hi.2; simp; omega⟩) (ExX.keep (fun i hi => setRow_other _ _ _ _ (by have := hi.1; omega)) HXE.out)
   ·obtain ⟨hd1,hd2⟩ := HPt.out.done HNz.out
    refine rd_go (n1:=s.size) H11.out H12.out ?_ (Nat.le_refl _)
    refine rd_then (x:=X) (n1:=s.size) H21.out H22.out ?_ (Nat.le_refl _)
    rw [if_neg (by rw [HK0.out]; decide),if_neg (by rw [HK0.out]; decide),if_neg (by rw [HK0.out]; decide),if_neg (by rw [HK0.out]; decide),if_neg (by rw [HK0.out]; decide),if_neg (by rw [HK0.out]; decide)]
    have h7 : e6 = first e2 1 := by
     have hz1 : ¬ first e2 1 = 0 := by unfold first; split <;> omega
     rw [A6.out (by rw [hd1 hz1]; exact hz1),hd1 hz1]
    rw [h7] at hpl
    exact rd_bad hpl (by omega) (by decide)
end Go.Proofs.YtemdnmfldihalaaGreatDoor.Lr
