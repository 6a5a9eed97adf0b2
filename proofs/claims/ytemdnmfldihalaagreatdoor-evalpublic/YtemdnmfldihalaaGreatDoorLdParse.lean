/- The document's own Parse, at whatever text. -/
import Derived.Test.YtemdnmfldihalaaGreatDoorGr38
namespace Go.Proofs.YtemdnmfldihalaaGreatDoor.Lr
set_option maxHeartbeats 32000000
set_option maxRecDepth 100000
set_option linter.unusedVariables false
set_option linter.unusedSimpArgs false
open Go.ChangeShapes Go.WideShapes Go.ChangeAt Go.RowKit Lg Rf
def parseW (w : World) (s : ByteArray) : World := (((w.alloc (.cells #[.slice none 0 0,.slice none 0 0,.slice none 0 0] 29)).alloc (.cells #[.string s,.int .i64 0] 51)).alloc (.cells #[.pointer (some ⟨w.heap.size + 1,0,none⟩)] 49)).alloc (.cells #[.slice none 0 0,.slice none 0 0,.slice none 0 0] 29)
structure ParseAt (w W : World) (s : ByteArray) : Prop where
 D : Bk W w.heap.size [.slice none 0 0,.slice none 0 0,.slice none 0 0] 29
 P : PB W (w.heap.size + 1) s 0
 R : Bk W (w.heap.size + 1 + 1) [.pointer (some ⟨w.heap.size + 1,0,none⟩)] 49
 F : Bk W (w.heap.size + 1 + 1 + 1) [.slice none 0 0,.slice none 0 0,.slice none 0 0] 29
 below : Below w.heap.size w W
 size : W.heap.size = w.heap.size + 4
theorem parseW_at (w : World) (s : ByteArray) : ParseAt w (parseW w s) s := by
 have e1 : ∀ (v : World) (o : Obj),(v.alloc o).heap.size = v.heap.size + 1 := fun v o => by simp
 unfold parseW
 have h1 := Bk.new w [.slice none 0 0,.slice none 0 0,.slice none 0 0] 29
 have h2 := Bk.new (w.alloc (.cells #[.slice none 0 0,.slice none 0 0,.slice none 0 0] 29)) [.string s,.int .i64 0] 51
 have h3 := Bk.new ((w.alloc (.cells #[.slice none 0 0,.slice none 0 0,.slice none 0 0] 29)).alloc (.cells #[.string s,.int .i64 0] 51)) [.pointer (some ⟨w.heap.size + 1,0,none⟩)] 49
 have h4 := Bk.new (((w.alloc (.cells #[.slice none 0 0,.slice none 0 0,.slice none 0 0] 29)).alloc (.cells #[.string s,.int .i64 0] 51)).alloc (.cells #[.pointer (some ⟨w.heap.size + 1,0,none⟩)] 49)) [.slice none 0 0,.slice none 0 0,.slice none 0 0] 29
 rw [e1] at h2
 rw [e1,e1] at h3
 rw [e1,e1,e1] at h4
 refine ⟨(((h1.up _).up _).up _),((h2.up _).up _),(h3.up _),h4,?_,?_⟩
 ·exact ((((Below.refl _ _).alloc (Nat.le_refl _) _).alloc (by simp) _).alloc (by simp; omega) _).alloc (by simp; omega) _
 ·simp
theorem fh_below {B C : Nat} {l : List Nat} {w w' : World} (h : Fh C l w w') (hC : B ≤ C) (hl : ∀ k ∈ l,B ≤ k) : Below B w w' := ⟨h.os,h.tape,h.output,h.size,fun k hk => h.block k (by omega) (fun hx => by have := hl k hx; omega)⟩
theorem tabs_gl {w : World} (ht : Tabs w) : GL w.heap.size := by
 obtain ⟨h1,⟨t2,p2,h2⟩,t3,p3,h3⟩ := ht
 exact ⟨var_lt gPow h1,var_lt gSyn h2,var_lt gRan h3⟩
theorem VrX.mono {w : World} {lo hi lo' hi' : Nat} {vs : List Vr} {sl : Value} (h : VrX w lo hi vs sl) (h1 : lo' ≤ lo) (h2 : hi ≤ hi') : VrX w lo' hi' vs sl := by
 obtain ⟨p,n,cap,k1,k2,k3,k4,k5⟩ := h
 refine ⟨p,n,cap,k1,k2,k3,k4,fun j v hj => ?_⟩
 obtain ⟨g,o,q1,q2,q3,q4⟩ := k5 j v hj
 exact ⟨g,o,q1,by omega,by omega,q4⟩
structure PE (D0 hi : Nat) (w W : World) (v1 v2 v3 : Value) (f : Lg.Fn) : Prop where
 D : Bk W D0 [.slice none 0 0,.slice none 0 0,.slice none 0 0] 29
 R : Bk W (D0 + 1 + 1) [.pointer (some ⟨D0 + 1,0,none⟩)] 49
 F : Bk W (D0 + 1 + 1 + 1) [v1,v2,v3] 29
 top : hi ≤ W.heap.size
 lo : D0 + 1 + 1 + 1 < hi
 ps : VrX W (D0 + 1 + 1 + 1 + 1) hi f.params v1
 rs : VrX W (D0 + 1 + 1 + 1 + 1) hi f.arrays v2
 us : StX W (fun i => D0 + 1 + 1 + 1 + 1 ≤ i ∧ i < hi) 11 f.body v3
 below : Below D0 w W
theorem PE.step {D hi : Nat} {w W W' : World} {v1 v2 v3 : Value} {f : Lg.Fn} (h : PE D hi w W v1 v2 v3 f) (k : Fs [D + 1] W W') : PE D hi w W' v1 v2 v3 f := by
 have hl := h.lo
 have hh := h.top
 refine ⟨h.D.fs k (by simp <;> omega),h.R.fs k (by simp <;> omega),h.F.fs k (by simp <;> omega),Nat.le_trans h.top k.size,h.lo,h.ps.keep fun i a b => k.block i (by omega) (by simp <;> omega),h.rs.keep fun i a b => k.block i (by omega) (by simp <;> omega),StX.keep (fun i hi => k.block i (by omega) (by simp <;> omega)) h.us,h.below.trans (k.below (by omega) (by simp <;> omega))⟩
theorem PE.fnX {D hi : Nat} {w W W' : World} {v1 v2 v3 : Value} {f : Lg.Fn} (h : PE D hi w W v1 v2 v3 f) (hs : W.heap.size ≤ W'.heap.size) (k : ∀ i,D < i → i < hi → W'.heap[i]? = W.heap[i]?) : FnX W' D W'.heap.size f (.agg #[v1,v2,v3]) := by
 have hl := h.lo
 have hh := h.top
 exact ⟨v1,v2,v3,rfl,(h.ps.keep fun i a b => k i (by omega) b).mono (by omega) (by omega),(h.rs.keep fun i a b => k i (by omega) b).mono (by omega) (by omega),StX.mono (fun i hi => by omega) (StX.keep (fun i hi => k i (by omega) hi.2) h.us)⟩
def fnR (l : List (List UInt8)) : Res Lg.Fn := andT (want [40] l) fun _ l => andT (want [102,110] l) fun _ l => andT (want [40] l) fun _ l => andT (uptoT varT (l.length + 1) l) fun ps l =>
 andT (want [40] l) fun _ l => andT (uptoT arrT (l.length + 1) l) fun rs l => andT (uptoT (stmtT 9) (l.length + 1) l) fun b l => .ok (⟨ps,rs,b⟩,l)
theorem andT_assoc {α β γ : Type} (x : Res α) (f : α → List (List UInt8) → Res β) (g : β → List (List UInt8) → Res γ) : andT (andT x f) g = andT x fun a r => andT (f a r) g := by
 cases x <;> rfl
theorem fnT_fnR (l : List (List UInt8)) : fnT l = andT (fnR l) fun f q => if q = [] then .ok (f,q) else .error 2 := by
 unfold fnT fnR
 simp only [andT_assoc,andT_ok]
theorem parse_end {s s7 : ByteArray} {e7 : Int} {f : Lg.Fn} {w : World} {b : Nat} (hp : PB w b s7 e7)
  (hpt : parseT s.data.toList = ofRes (fnT (words s.data.toList)))
  (h : (∀ x,fnR (words s.data.toList) = .error x → e7 = x ∧ ¬ x = 0) ∧ ∀ a r,fnR (words s.data.toList) = .ok (a,r) → e7 = 0 ∧ words s7.data.toList = r ∧ a = f) :
  (¬ e7 = 0 → parseT s.data.toList = (nilFn,e7)) ∧ (e7 = 0 → (wd s7.data.toList = [] → parseT s.data.toList = (f,0)) ∧ (¬ wd s7.data.toList = [] → parseT s.data.toList = (nilFn,2))) := by
 rw [hpt,fnT_fnR]
 cases hr : fnR (words s.data.toList) with
 | error x =>
  obtain ⟨h1,h2⟩ := h.1 x hr
  subst h1
  exact ⟨fun _ => rfl,fun h => absurd h h2⟩
 | ok p =>
  obtain ⟨a,r⟩ := p
  obtain ⟨h1,h2,h3⟩ := h.2 a r hr
  subst h3
  rw [andT_ok,← h2,words_step s7.data.toList]
  refine ⟨fun h => absurd h1 h,fun _ => ⟨fun hw => ?_,fun hw => ?_⟩⟩
  ·rw [if_pos ((wd_none _).1 hw),if_pos rfl]; rfl
  ·rw [if_neg (fun h => hw ((wd_none _).2 h)),if_neg (by simp <;> omega)]; rfl
theorem parse_short (s : ByteArray) (hs : s.size ≤ 1200) (w : World) (ht : Tabs w) :
  Calls Tryz.prog 6 #[.string s] w fun r w' => ∃ (v1 v2 v3 : Value),r = .returned (.tuple #[.agg #[v1,v2,v3],.int .i64 (parseT s.data.toList).2]) ∧ FnX w' w.heap.size w'.heap.size (parseT s.data.toList).1 (.agg #[v1,v2,v3]) ∧ Below w.heap.size w w' := by
 have d : decide (1200 < (s.size : Int)) = false := decide_eq_false (by omega)
 have HA := keep (parseW_at w s)
 have hg : GL w.heap.size := tabs_gl ht
 have hgb : GL (w.heap.size + 1) := ⟨by have := hg.1; omega,by have := hg.2.1; omega,by have := hg.2.2; omega⟩
 have HG := keep hgb
 have HTB : Hid (∀ W,Below w.heap.size w W → Tabs W) := fun W h => ht.below h
 have HPt : Hid (parseT s.data.toList = ofRes (fnT (words s.data.toList))) := by
  show parseT _ = _
  unfold parseT
  rw [if_neg (by rw [← Lib.size_eq]; omega)]
 obtain ⟨W0,hW0⟩ : ∃ W0,parseW w s = W0 := ⟨_,rfl⟩
 rw [hW0] at HA
 have HW0 := keep hW0
 have r0 := HA.out.R.cell 0 rfl
 have hz0 := HA.out.size
 clear ht hg hgb hW0
 go_enter Tryz.func6,Tryz.ntmps6
 go_wp2_with fail
 change Calls _ _ _ (parseW w s) _
 rw [HW0.out]
 refine (is_rd (w.heap.size + 1) s (by omega) 0 ⟨#[40]⟩ W0 HA.out.P).mono ?_
 rintro r w1 ⟨rfl,hr,hf⟩
 obtain ⟨s1,e1,hp1,hn1,h1a,h1b⟩ := hr
 have HP1 := keep hp1
 have A1 := keep h1a
 have B1 := keep h1b
 have HF1 : Hid (Fs [w.heap.size + 1] W0 w1) := hf.fs
 have r1 := (HA.out.R.fs HF1.out (by simp <;> omega)).cell 0 rfl
 clear hp1 h1a h1b hf r0 HW0
 go_wp2_with fail
 refine (is_rd (w.heap.size + 1) s1 (by omega) e1 ⟨#[102,110]⟩ w1 HP1.out).mono ?_
 rintro r w2 ⟨rfl,hr,hf⟩
 obtain ⟨s2,e2,hp2,hn2,h2a,h2b⟩ := hr
 have HP2 := keep hp2
 have A2 := keep h2a
 have B2 := keep h2b
 have HF2 : Hid (Fs [w.heap.size + 1] W0 w2) := HF1.out.trans hf.fs
 have r2 := (HA.out.R.fs HF2.out (by simp <;> omega)).cell 0 rfl
 clear hp2 h2a h2b hf r1 HF1 HP1
 go_wp2_with fail
 refine (is_rd (w.heap.size + 1) s2 (by omega) e2 ⟨#[40]⟩ w2 HP2.out).mono ?_
 rintro r w3 ⟨rfl,hr,hf⟩
 obtain ⟨s3,e3,hp3,hn3,h3a,h3b⟩ := hr
 have HP3 := keep hp3
 have A3 := keep h3a
 have B3 := keep h3b
 have HF3 : Hid (Fs [w.heap.size + 1] W0 w3) := HF2.out.trans hf.fs
 have r3 := (HA.out.R.fs HF3.out (by simp <;> omega)).cell 0 rfl
 have hz3 : w.heap.size + 4 ≤ w3.heap.size := by have := HF3.out.size; omega
 have HV3 : Hid (VS w3 w3 (w.heap.size + 1) (w.heap.size + 1 + 1) (w.heap.size + 1 + 1 + 1) (w.heap.size + 1 + 1 + 1 + 1) [.slice none 0 0,.slice none 0 0,.slice none 0 0] (.slice none 0 0) []) :=
  ⟨Fh.refl _ _ _,HA.out.R.fs HF3.out (by simp <;> omega),HA.out.F.fs HF3.out (by simp <;> omega),RowX.nil _ _⟩
 have HD3 := keep (HA.out.D.fs HF3.out (by simp <;> omega))
 have HB3 : Hid (Below w.heap.size w w3) := HA.out.below.trans (HF3.out.below (by omega) (by simp <;> omega))
 clear hp3 h3a h3b hf r2 HF2 HP2 HA HF3
 go_wp2_with fail
 refine (params_all (w.heap.size + 1) (w.heap.size + 1 + 1) (w.heap.size + 1 + 1 + 1) (w.heap.size + 1 + 1 + 1 + 1) (by omega) (by omega) (by omega) none none 0 0 0 0 s3 (by omega) e3 w3 w3 HP3.out HV3.out (by omega)).mono ?_
 rintro r w4 ⟨rfl,ps,v1,hpl,hv,hr,hz4⟩
 obtain ⟨s4,e4,hp4,hn4,h4a,h4b⟩ := hr
 obtain ⟨p1,n1,c1,rfl⟩ := hv.row.slice
 have HP4 := keep hp4
 have A4 := keep h4a
 have B4 := keep h4b
 have HV4 := keep hv
 have HD4 : Hid (Bk w4 w.heap.size [.slice none 0 0,.slice none 0 0,.slice none 0 0] 29) := by
  have h := HD3.out
  show Bk _ _ _ _
  unfold Bk at h ⊢
  rw [hv.fh.block _ (by omega) (by simp <;> omega)]; exact h
 have HB4 : Hid (Below w.heap.size w w4) := HB3.out.trans (fh_below hv.fh (by omega) (by simp <;> omega))
 have r4 := HV4.out.R.cell 0 rfl
 clear hp4 h4a h4b hv r3 HV3 HP3 HB3 HD3
 go_wp2_with fail
 refine (is_rd (w.heap.size + 1) s4 (by omega) e4 ⟨#[40]⟩ w4 HP4.out).mono ?_
 rintro r w5 ⟨rfl,hr,hf⟩
 obtain ⟨s5,e5,hp5,hn5,h5a,h5b⟩ := hr
 have HP5 := keep hp5
 have A5 := keep h5a
 have B5 := keep h5b
 have hz5 : w4.heap.size ≤ w5.heap.size := hf.size
 have HV5 := keep (HV4.out.step (by omega) (by omega) (by omega) (by omega) hf.fs)
 have HX5 := keep (RowX.varsX HV5.out.row (by omega))
 have HD5 := keep (HD4.out.fs hf.fs (by simp <;> omega))
 have HB5 : Hid (Below w.heap.size w w5) := HB4.out.trans (hf.fs.below (by omega) (by simp <;> omega))
 have HW5 : Hid (VS w5 w5 (w.heap.size + 1) (w.heap.size + 1 + 1) (w.heap.size + 1 + 1 + 1) w5.heap.size [.slice p1 n1 c1,.slice none 0 0,.slice none 0 0] (.slice none 0 0) []) :=
  ⟨Fh.refl _ _ _,HV5.out.R,HV5.out.F,RowX.nil _ _⟩
 have r5 := HV5.out.R.cell 0 rfl
 clear hp5 h5a h5b hf r4 HV4 HP4 HB4 HD4 HV5
 go_wp2_with fail
 refine (arrays_all (w.heap.size + 1) (w.heap.size + 1 + 1) (w.heap.size + 1 + 1 + 1) w5.heap.size (by omega) (by omega) (by omega) p1 none n1 c1 0 0 s5 (by omega) e5 w5 w5 HP5.out HG.out (fun W' hW => HTB.out W' (HB5.out.trans (fh_below hW (by omega) (by simp <;> omega)))) HW5.out (Nat.le_refl _)).mono ?_
 rintro r w6 ⟨rfl,rs,v2,hrl,hv,hr,hz6⟩
 obtain ⟨s6,e6,hp6,hn6,h6a,h6b⟩ := hr
 obtain ⟨p2,n2,c2,rfl⟩ := hv.row.slice
 have A6 := keep h6a
 have B6 := keep h6b
 have HV6 := keep hv
 have HX6 : Hid (VrX w6 (w.heap.size + 1 + 1 + 1 + 1) w5.heap.size ps (.slice p1 n1 c1)) := HX5.out.keep fun i a b => hv.fh.block i b (by simp <;> omega)
 have HY6 := keep (RowX.varsX HV6.out.row (by omega))
 have HD6 : Hid (Bk w6 w.heap.size [.slice none 0 0,.slice none 0 0,.slice none 0 0] 29) := by
  have h := HD5.out
  show Bk _ _ _ _
  unfold Bk at h ⊢
  rw [hv.fh.block _ (by omega) (by simp <;> omega)]; exact h
 have HB6 : Hid (Below w.heap.size w w6) := HB5.out.trans (fh_below hv.fh (by omega) (by simp <;> omega))
 have HC7 := keep (stmts_rd 9 (stmt_ok 9 (Nat.le_refl _)) (w.heap.size + 1) s6 e6 w6 (by omega) hp6 (HTB.out _ HB6.out) HG.out)
 rw [show (9 : Int) - ((9 : Nat) : Int) = 0 from rfl] at HC7
 have r6 := HV6.out.R.cell 0 rfl
 clear hp6 h6a h6b hv r5 HW5 HP5 HB5 HD5 HX5
 go_wp2_with fail
 refine HC7.out.mono ?_
 rintro r w7 ⟨us,sl,rfl,hx,hr,hf⟩
 obtain ⟨s7,e7,hp7,hn7,h7a,h7b⟩ := hr
 obtain ⟨p3,n3,c3,rfl⟩ := hx.slice
 have A7 := keep h7a
 have B7 := keep h7b
 have hz7 : w6.heap.size ≤ w7.heap.size := hf.size
 have HF7 := keep (HV6.out.F.fs hf (by simp <;> omega))
 have cF := HF7.out.cell 2 rfl
 have fF := HF7.out.fr 2
 obtain ⟨w8,hw8⟩ : ∃ w8,w7.setCell ⟨w.heap.size + 1 + 1 + 1,2,none⟩ (.slice p3 n3 c3) = w8 := ⟨_,rfl⟩
 have hz8 : w8.heap.size = w7.heap.size := by rw [← hw8]; simp [World.setCell]
 have hk8 : ∀ i,i ≠ w.heap.size + 1 + 1 + 1 → w8.heap[i]? = w7.heap[i]? := fun i hi => by rw [← hw8]; exact Below.heap_setCell _ _ _ _ hi
 have HE : Hid (PE w.heap.size w7.heap.size w w8 (.slice p1 n1 c1) (.slice p2 n2 c2) (.slice p3 n3 c3) ⟨ps,rs,us⟩) := by
  show PE _ _ _ _ _ _ _ _
  refine ⟨?_,?_,?_,by omega,by omega,?_,?_,?_,?_⟩
  ·rw [← hw8]; exact (HD6.out.fs hf (by simp <;> omega)).far _ _ (by omega)
  ·rw [← hw8]; exact (HV6.out.R.fs hf (by simp <;> omega)).far _ _ (by omega)
  ·rw [← hw8]; exact HF7.out.set 2 _
  ·exact (HX6.out.keep fun i a b => (hk8 i (by omega)).trans (hf.block i (by omega) (by simp <;> omega))).mono (Nat.le_refl _) (by omega)
  ·exact (HY6.out.keep fun i a b => (hk8 i (by omega)).trans (hf.block i (by omega) (by simp <;> omega))).mono (by omega) (by omega)
  ·exact StX.mono (fun i hi => ⟨by have := hi.1; omega,hi.2⟩) (StX.keep (fun i hi => hk8 i (by have := hi.1; omega)) hx)
  ·refine HB6.out.trans ((hf.below (by omega) (by simp <;> omega)).trans ?_)
   rw [← hw8]; exact (Below.refl _ _).setCell (by show w.heap.size ≤ w.heap.size + 1 + 1 + 1; omega) _
 have HP8 : Hid (PB w8 (w.heap.size + 1) s7 e7) := by
  show PB _ _ _ _
  rw [← hw8]; exact hp7.far (by omega) 2 _
 have HEnd : Hid ((∀ x,fnR (words s.data.toList) = .error x → e7 = x ∧ ¬ x = 0) ∧ ∀ a r,fnR (words s.data.toList) = .ok (a,r) → e7 = 0 ∧ words s7.data.toList = r ∧ a = ⟨ps,rs,us⟩) := by
  have hrd : Rd w8 (w.heap.size + 1) s.size 0 (fnR (words s.data.toList)) (fun a => a = ⟨ps,rs,us⟩) := by
   refine rd_go (n1:=s.size) (fun hh => absurd rfl hh) (fun _ => B1.out (by trivial)) ?_ (Nat.le_refl _)
   refine rd_go (n1:=s.size) A2.out B2.out ?_ (Nat.le_refl _)
   refine rd_go (n1:=s.size) A3.out B3.out ?_ (Nat.le_refl _)
   refine rd_then (x:=ps) (n1:=s.size) A4.out B4.out ?_ (Nat.le_refl _)
   refine rd_go (n1:=s.size) A5.out B5.out ?_ (Nat.le_refl _)
   refine rd_then (x:=rs) (n1:=s.size) A6.out B6.out ?_ (Nat.le_refl _)
   refine rd_then (x:=us) (n1:=s.size) A7.out B7.out ?_ (Nat.le_refl _)
   exact rd_ok HP8.out (by omega) rfl
  obtain ⟨s9,e9,q1,q2,q3,q4⟩ := hrd
  have q5 := q1.symm.trans HP8.out
  have q6 : s9 = s7 ∧ e9 = e7 := by
   simp only [Option.some.injEq,Obj.cells.injEq,Array.mk.injEq,List.cons.injEq,Value.string.injEq,Value.int.injEq,and_true,true_and] at q5
   exact q5
  rw [← q6.1,← q6.2]; exact q4 rfl
 have HEnd2 := keep (parse_end HP8.out HPt.out HEnd.out)
 clear hp7 h7a h7b hf hx HF7 HX6 HY6 HD6 HB6 HV6 HC7 HEnd HPt A1 A2 A3 A4 A5 A6 A7 B1 B2 B3 B4 B5 B6 B7 hk8
 by_cases he : e7 = 0
 ·subst he
  have hq := HEnd2.out.2 rfl
  have HPk := keep (peek_any (w.heap.size + 1) s7 (by omega) 0 w8 HP8.out)
  have c1 := HP8.out.c1
  have r8 := HE.out.R.cell 0 rfl
  have HE8 := HE
  generalize (⟨(skip s7.data.toList).toArray⟩ : ByteArray) = sk at *
  generalize wd s7.data.toList = W at *
  cases W with
  | nil =>
   have HQ := keep (hq.1 rfl)
   clear hq HEnd2 r6
   go_wp2_with fail
   refine HPk.out.mono ?_
   rintro r w9 ⟨rfl,hp9,hf9⟩
   have HE := keep (HE8.out.step hf9.fs)
   have q1 := hp9.c1
   have q2 := HE.out.R.cell 0 rfl
   clear hp9 hf9 HPk c1 r8 HP8 HE8 hw8 cF fF
   go_wp2_with (first
    | refine wpList_load_row rfl 29 (.tmp 5) rfl (w.heap.size + 1 + 1 + 1) rfl 29 #[.slice p1 n1 c1,.slice p2 n2 c2,.slice p3 n3 c3] (0,0) _ HE.out.F Tryz.underlying29 rfl (info_F [.slice p1 n1 c1,.slice p2 n2 c2,.slice p3 n3 c3] rfl) ?_
    | refine wpList_store_row rfl 29 (.tmp 2) (.tmp 53) rfl w.heap.size #[.slice p1 n1 c1,.slice p2 n2 c2,.slice p3 n3 c3] rfl rfl 29 #[.slice none 0 0,.slice none 0 0,.slice none 0 0] HE.out.D (info_F [.slice p1 n1 c1,.slice p2 n2 c2,.slice p3 n3 c3] rfl) rfl (by simp [Value.oneCell']) ?_)
   (try simp only [Exit.inBlock,Exit.then])
   refine bodyPost_ret (results_fn rfl _ _ w.heap.size #[.slice p1 n1 c1,.slice p2 n2 c2,.slice p3 n3 c3] 0 rfl rfl (setRow_heap _ _ _ _ _ _ HE.out.D) (info_F [.slice p1 n1 c1,.slice p2 n2 c2,.slice p3 n3 c3] rfl)) rfl ?_
   rw [HQ.out]
   refine ⟨_,_,_,rfl,HE.out.fnX (by simp) (fun i h1 h2 => setRow_other _ _ _ _ (by omega)),below_setRow HE.out.below (Nat.le_refl _) _⟩
  | cons c W =>
   have HQ := keep (hq.2 (by simp))
   clear hq HEnd2 r6
   go_wp2_with fail
   refine HPk.out.mono ?_
   rintro r w9 ⟨rfl,hp9,hf9⟩
   have HE9 := keep (HE8.out.step hf9.fs)
   have HP9 := keep hp9
   have q1 := hp9.c1
   have q2 := HE9.out.R.cell 0 rfl
   clear hp9 hf9 HPk c1 r8 HP8 HE8 hw8 cF fF HE
   go_wp2_with fail
   refine (bad_any (w.heap.size + 1) sk 0 2 w9 HP9.out).mono ?_
   rintro r w10 ⟨rfl,hp10,hf10⟩
   rw [first_zero] at hp10
   have HE := keep (HE9.out.step hf10.fs)
   have q1 := hp10.c1
   have q2 := HE.out.R.cell 0 rfl
   clear hp10 hf10 HE9 HP9
   have c40 := HE.out.D.cell 0 rfl
   have c41 := HE.out.D.cell 1 rfl
   have c42 := HE.out.D.cell 2 rfl
   have f40 := HE.out.D.fr 0
   have f41 := HE.out.D.fr 1
   have f42 := HE.out.D.fr 2
   go_wp2_with fail
   go_region
   go_wp2
   (try simp only [Exit.inBlock,Exit.then])
   have hbk := ((HE.out.D.set 0 (.slice none 0 0)).set 1 (.slice none 0 0)).set 2 (.slice none 0 0)
   refine bodyPost_ret (results_fn rfl _ _ w.heap.size #[.slice none 0 0,.slice none 0 0,.slice none 0 0] 2 rfl rfl (by exact hbk) (info_F [.slice none 0 0,.slice none 0 0,.slice none 0 0] rfl)) rfl ?_
   rw [HQ.out]
   refine ⟨_,_,_,rfl,nil_x _ _ _,Below.drew ?_⟩
   exact ((HE.out.below.setCell (by exact Nat.le_refl _) _).setCell (by exact Nat.le_refl _) _).setCell (by exact Nat.le_refl _) _
 ·have HQ := keep (HEnd2.out.1 he)
  have d2 : (e7 == 0) = false := by simpa using he
  have d3 : (e7 != 0) = true := by simpa using he
  have q1 := HP8.out.c1
  have q2 := HE.out.R.cell 0 rfl
  clear HEnd2 he r6
  have c40 := HE.out.D.cell 0 rfl
  have c41 := HE.out.D.cell 1 rfl
  have c42 := HE.out.D.cell 2 rfl
  have f40 := HE.out.D.fr 0
  have f41 := HE.out.D.fr 1
  have f42 := HE.out.D.fr 2
  go_wp2_with fail
  go_region
  go_wp2
  (try simp only [Exit.inBlock,Exit.then])
  have hbk := ((HE.out.D.set 0 (.slice none 0 0)).set 1 (.slice none 0 0)).set 2 (.slice none 0 0)
  refine bodyPost_ret (results_fn rfl _ _ w.heap.size #[.slice none 0 0,.slice none 0 0,.slice none 0 0] e7 rfl rfl (by exact hbk) (info_F [.slice none 0 0,.slice none 0 0,.slice none 0 0] rfl)) rfl ?_
  rw [HQ.out]
  refine ⟨_,_,_,rfl,nil_x _ _ _,Below.drew ?_⟩
  exact ((HE.out.below.setCell (by exact Nat.le_refl _) _).setCell (by exact Nat.le_refl _) _).setCell (by exact Nat.le_refl _) _
theorem parse_any (s : ByteArray) (hs : s.size ≤ 281474976710656) (w : World) (ht : Tabs w) :
  Calls Tryz.prog 6 #[.string s] w fun r w' => ∃ (v1 v2 v3 : Value),r = .returned (.tuple #[.agg #[v1,v2,v3],.int .i64 (parseT s.data.toList).2]) ∧ FnX w' w.heap.size w'.heap.size (parseT s.data.toList).1 (.agg #[v1,v2,v3]) ∧ Below w.heap.size w w' := by
 by_cases hbig : 1200 < s.size
 ·have hp : parseT s.data.toList = (nilFn,4) := by unfold parseT; rw [if_pos (by rw [← Lib.size_eq]; omega)]
  rw [hp]; exact parse_long s hbig hs w
 ·exact parse_short s (by omega) w ht
end Go.Proofs.YtemdnmfldihalaaGreatDoor.Lr
