/- The program's own reader: a program. Written by tools/gen_prog.py. -/
import Derived.Test.YtkobiojndamofaaDoorLwVar
import Derived.Test.YtkobiojndamofaaDoorLrFn
namespace Go.Proofs.YtkobiojndamofaaDoor.Lr
set_option linter.unusedVariables false
open Go.ChangeShapes Go.WideShapes Go.ChangeAt Go.RowKit Lg

structure PS (w W : World) (b c : Nat) (v1 v2 v3 : Value) : Prop where
  fs : Fs [b, c] w W
  R : Bk W w.heap.size [.pointer (some ⟨b, 0, none⟩)] 40
  D : Bk W (w.heap.size + 1) [.slice none 0 0, .slice none 0 0, .slice none 0 0] 26
  F : Bk W (w.heap.size + 1 + 1) [v1, v2, v3] 26
theorem PS.step {w W W' : World} {b c : Nat} {v1 v2 v3 : Value} (h : PS w W b c v1 v2 v3) (hb : b < w.heap.size) (hc : c < w.heap.size) (k : Fs [b, c] W W') : PS w W' b c v1 v2 v3 :=
  ⟨h.fs.trans k, h.R.fs k (by simp; omega), h.D.fs k (by simp; omega), h.F.fs k (by simp; omega)⟩
/-- Behind a part of a list. -/
theorem PS.part {w W W' : World} {b c lo : Nat} {v1 v2 v3 u1 u2 u3 : Value} (h : PS w W b c v1 v2 v3) (hb : b < w.heap.size) (hc : c < w.heap.size) (hlo : w.heap.size + 3 ≤ lo) (k : Fh lo [b, c, w.heap.size + 1 + 1] W W') (hF : Bk W' (w.heap.size + 1 + 1) [u1, u2, u3] 26) : PS w W' b c u1 u2 u3 := by
  have key : ∀ i, i < w.heap.size + 1 + 1 → i ≠ b → i ≠ c → W'.heap[i]? = W.heap[i]? := fun i h1 h2 h3 => k.block i (by omega) (by simp; omega)
  refine ⟨⟨k.os.trans h.fs.os, k.tape.trans h.fs.tape, k.output.trans h.fs.output, Nat.le_trans h.fs.size k.size, fun i hi hl => ?_⟩, ?_, ?_, hF⟩
  · simp at hl
    exact (key i (by omega) hl.1 hl.2).trans (h.fs.block i hi (by simp; exact hl))
  · have := h.R; unfold Bk at this ⊢; rw [key _ (by omega) (by omega) (by omega)]; exact this
  · have := h.D; unfold Bk at this ⊢; rw [key _ (by omega) (by omega) (by omega)]; exact this
def progW (w : World) (b : Nat) : World := ((w.alloc (.cells #[.pointer (some ⟨b, 0, none⟩)] 40)).alloc (.cells #[.slice none 0 0, .slice none 0 0, .slice none 0 0] 26)).alloc (.cells #[.slice none 0 0, .slice none 0 0, .slice none 0 0] 26)
theorem progW_ps (w : World) (b c : Nat) : PS w (progW w b) b c (.slice none 0 0) (.slice none 0 0) (.slice none 0 0) := by
  unfold progW
  have e1 : ∀ (v : World) (o : Obj), (v.alloc o).heap.size = v.heap.size + 1 := fun v o => by simp
  refine ⟨(((Fs.refl _ w).up _).up _).up _, ((Bk.new w [.pointer (some ⟨b, 0, none⟩)] 40).up _).up _, ?_, ?_⟩
  · have h := (Bk.new (w.alloc (.cells #[.pointer (some ⟨b, 0, none⟩)] 40)) [.slice none 0 0, .slice none 0 0, .slice none 0 0] 26).up (.cells #[.slice none 0 0, .slice none 0 0, .slice none 0 0] 26)
    rw [e1] at h; exact h
  · have h := Bk.new ((w.alloc (.cells #[.pointer (some ⟨b, 0, none⟩)] 40)).alloc (.cells #[.slice none 0 0, .slice none 0 0, .slice none 0 0] 26)) [.slice none 0 0, .slice none 0 0, .slice none 0 0] 26
    rw [e1, e1] at h; exact h
/-- A row of variables hangs on its own block alone. -/
theorem RowV.keep {w w' : World} {lo : Nat} {v : Value} {es : List Vr} (h : RowV w lo v es) (hb : ∀ g, v.ownBlock = some g → w'.heap[g]? = w.heap[g]?) : RowV w' lo v es := by
  refine ⟨?_, fun p hp => trivial⟩
  obtain ⟨h1, h2⟩ := h.own
  refine ⟨h1, ?_⟩
  rcases h2 with h2 | ⟨g, cap, cur, a1, a2, a3, a4⟩
  · exact .inl h2
  · exact .inr ⟨g, cap, cur, a1, a2, by rw [hb g (by rw [a1]; rfl)]; exact a3, a4⟩
theorem info_F (l : List Value) (h : l.length = 3) : (Tryd.prog.info? 26).map (·.size) = some l.toArray.size := by
  rw [List.size_toArray, h]; kernel_rfl
theorem rs_none (s : ByteArray) (h : wd s.data.toList = []) : words s.data.toList = [] ∧ words (rs s.data.toList) = [] := by
  have hs := (wd_none s.data.toList).1 h
  refine ⟨by rw [words_step, if_pos hs], ?_⟩
  unfold rs
  rw [hs, List.drop_nil]; rfl
theorem words_some (s : ByteArray) (h : ¬ wd s.data.toList = []) : ¬ words s.data.toList = [] := by
  rw [words_step, if_neg (fun hs => h ((wd_none s.data.toList).2 hs))]; simp

set_option maxHeartbeats 8000000 in
set_option maxRecDepth 100000 in
theorem program_rd (b c : Nat) (s : ByteArray) (e : Int) (w : World) (hs : s.size < 1201) (h : RB w b c s e) (ht : Tabs w) (hg : GL b ∧ GL c) :
    Calls Tryd.prog 13 #[.pointer (some ⟨b, 0, none⟩)] w fun r w' => ∃ (f : Lg.Fn) (v1 v2 v3 : Value), r = .returned (.agg #[v1, v2, v3]) ∧ (∀ u : World, w'.heap.size ≤ u.heap.size → (∀ i, w.heap.size ≤ i → i < w'.heap.size → u.heap[i]? = w'.heap[i]?) → FnIs u u.heap.size 10 11 f (.agg #[v1, v2, v3])) ∧ Rd w' b c s.size e (fnG 1201 (words s.data.toList)) (fun a => a = f) ∧ Fs [b, c] w w' := by
  have hbl := h.lt
  have hcl := h.ltc
  have HTf : Hid (∀ W, Fs [b, c] w W → Tabs W) := fun W hW => tabs_fs ht hg hW hbl hcl
  have HG := keep hg
  have HGw := keep ht.gl
  have HS0 := keep (progW_ps w b c)
  have HP0 : Hid (RB (progW w b) b c s e) := ((h.up _).up _).up _
  have r0 := HS0.out.R.cell 0 rfl
  clear h ht hg
  go_enter Tryd.func13, Tryd.ntmps13
  go_wp2_with fail
  change Calls _ _ _ (progW w b) _
  refine (must_rd b c s (by omega) e ⟨#[40]⟩ (progW w b) HP0.out).mono ?_
  rintro r w4 ⟨rfl, hrd, hf⟩
  obtain ⟨s4, e4, hp, hn4, h1, h2⟩ := hrd
  have HS4 := keep (HS0.out.step hbl hcl hf)
  have HP4 := keep hp
  have HA4 := keep h1
  have HB4 := keep h2
  have r4 := HS4.out.R.cell 0 rfl
  clear hp hf h1 h2 HS0 HP0 r0
  go_wp2_with fail
  refine (must_rd b c s4 (by omega) e4 ⟨#[102, 110]⟩ w4 HP4.out).mono ?_
  rintro r w5 ⟨rfl, hrd, hf⟩
  obtain ⟨s5, e5, hp, hn5, h1, h2⟩ := hrd
  have HS5 := keep (HS4.out.step hbl hcl hf)
  have HP5 := keep hp
  have HA5 := keep h1
  have HB5 := keep h2
  have r5 := HS5.out.R.cell 0 rfl
  clear hp hf h1 h2 HS4 HP4 r4
  go_wp2_with fail
  refine (must_rd b c s5 (by omega) e5 ⟨#[40]⟩ w5 HP5.out).mono ?_
  rintro r w6 ⟨rfl, hrd, hf⟩
  obtain ⟨s6, e6, hp, hn6, h1, h2⟩ := hrd
  have HS6 := keep (HS5.out.step hbl hcl hf)
  have HP6 := keep hp
  have HA6 := keep h1
  have HB6 := keep h2
  have r6 := HS6.out.R.cell 0 rfl
  clear hp hf h1 h2 HS5 HP5 r5
  go_wp2_with fail
  have hl6 := HS6.out.F.lt
  refine (list_rd b c w.heap.size 1201 26 #[.pointer (some ⟨w.heap.size + 1 + 1, 0, none⟩), .pointer (some ⟨w.heap.size, 0, none⟩)] varG
    (fun W us => ∃ v, PS w W b c v (.slice none 0 0) (.slice none 0 0) ∧ RowV W (w.heap.size + 3) v us ∧ us.length ≤ 1200) 1200 (enters_of Tryd.func26 (by kernel_rfl) rfl)
    (fun W W' us hI hf => by
      obtain ⟨v, h1, h2, h3⟩ := hI
      exact ⟨v, h1.step hbl hcl hf, RowX.fs nestV_nest h2 hf (by simp; omega), h3⟩)
    (fun W s us hp hn hI hB hT => by
      obtain ⟨v, h1, h2, h3⟩ := hI
      have hl := h1.F.lt
      refine (prog1_rd b c (w.heap.size + 1 + 1) w.heap.size (w.heap.size + 3) W (by omega) (by omega) (by omega) (by omega) (by omega) (by omega) (by omega) (by omega) (.slice none 0 0) (.slice none 0 0) (.slice none 0 0) v us s hn hp h1.F h1.R (by omega) (by omega) h2 hT HG.out).mono ?_
      rintro r w' ⟨hr, p, v', k1, k2, k3, k4⟩
      exact ⟨hr, p, ⟨v', h1.part hbl hcl (Nat.le_refl _) k4 k1, k2, by rw [List.length_append, List.length_singleton]; omega⟩, k3, ⟨k4.os, k4.tape, k4.output, k4.size, fun k hk hl => k4.block k (by omega) (by simp at hl ⊢; omega)⟩⟩)
    s6 (by omega) (by decide) (by omega) e6 w6 HP6.out ⟨_, HS6.out, RowX.nil _ _, by simp⟩ (by omega) (HTf.out _ HS6.out.fs) ⟨HG.out.1, HG.out.2, HGw.out⟩).mono ?_
  rintro r w7 ⟨rfl, us7, ⟨v7, hS7, hrow7, hlen7⟩, hrd, hf⟩
  obtain ⟨p7, n7, c7, rfl⟩ := hrow7.slice
  obtain ⟨s7, e7, hp, hn7, h1, h2⟩ := hrd
  have HS7 := keep hS7
  have HW7 := keep hrow7
  have HP7 := keep hp
  have HA7 := keep h1
  have HB7 := keep h2
  have r7 := HS7.out.R.cell 0 rfl
  clear hp hf h1 h2 hS7 hrow7 HS6 HP6 r6
  go_wp2_with fail
  refine (must_rd b c s7 (by omega) e7 ⟨#[40]⟩ w7 HP7.out).mono ?_
  rintro r w8 ⟨rfl, hrd, hf⟩
  obtain ⟨s8, e8, hp, hn8, h1, h2⟩ := hrd
  have HS8 := keep (HS7.out.step hbl hcl hf)
  have HP8 := keep hp
  have HA8 := keep h1
  have HB8 := keep h2
  have r8 := HS8.out.R.cell 0 rfl
  have HW8 := keep (RowX.fs nestV_nest HW7.out hf (by simp; omega))
  have HO8 := keep (fun g => HW8.out.own.lt g)
  clear HW7
  clear hp hf h1 h2 HS7 HP7 r7
  go_wp2_with fail
  have hl8 := HS8.out.F.lt
  refine (list_rd b c w.heap.size 1201 28 #[.pointer (some ⟨w.heap.size + 1 + 1, 0, none⟩), .pointer (some ⟨w.heap.size, 0, none⟩)] arrG
    (fun W us => ∃ v, PS w W b c (.slice p7 n7 c7) v (.slice none 0 0) ∧ RowV W (w.heap.size + 3) (.slice p7 n7 c7) us7 ∧ RowV W w8.heap.size v us ∧ us.length ≤ 1200 ∧ w8.heap.size ≤ W.heap.size) 1200 (enters_of Tryd.func28 (by kernel_rfl) rfl)
    (fun W W' us hI hf => by
      obtain ⟨v, h1, h2, h3, h4, h5⟩ := hI
      exact ⟨v, h1.step hbl hcl hf, RowX.fs nestV_nest h2 hf (by simp; omega), RowX.fs nestV_nest h3 hf (by simp; omega), h4, Nat.le_trans h5 hf.size⟩)
    (fun W s us hp hn hI hB hT => by
      obtain ⟨v, h1, h2, h3, h4, h5⟩ := hI
      have hl := h1.F.lt
      refine (prog2_rd b c (w.heap.size + 1 + 1) w.heap.size w8.heap.size W (by omega) (by omega) (by omega) (by omega) (by omega) (by omega) (by omega) h5 (.slice p7 n7 c7) (.slice none 0 0) (.slice none 0 0) v us s hn hp h1.F h1.R (by omega) (by omega) h3 hT HG.out).mono ?_
      rintro r w' ⟨hr, p, v', k1, k2, k3, k4⟩
      exact ⟨hr, p, ⟨v', h1.part hbl hcl (by omega) k4 k1, RowV.keep h2 (fun g hg => k4.block g (HO8.out g hg).2 (by have := (HO8.out g hg).1; simp; omega)), k2, by rw [List.length_append, List.length_singleton]; omega, Nat.le_trans h5 k4.size⟩, k3, ⟨k4.os, k4.tape, k4.output, k4.size, fun k hk hl => k4.block k (by omega) (by simp at hl ⊢; omega)⟩⟩)
    s8 (by omega) (by decide) (by omega) e8 w8 HP8.out ⟨_, HS8.out, HW8.out, RowX.nil _ _, by simp, Nat.le_refl _⟩ (by omega) (HTf.out _ HS8.out.fs) ⟨HG.out.1, HG.out.2, HGw.out⟩).mono ?_
  rintro r w9 ⟨rfl, us9, ⟨v9, hS9, hrow7, hrow9, hlen9, hsz9⟩, hrd, hf⟩
  obtain ⟨p9, n9, c9, rfl⟩ := hrow9.slice
  obtain ⟨s9, e9, hp, hn9, h1, h2⟩ := hrd
  have HS9 := keep hS9
  have HW7 := keep hrow7
  have HW9 := keep hrow9
  have HP9 := keep hp
  have HA9 := keep h1
  have HB9 := keep h2
  have r9 := HS9.out.R.cell 0 rfl
  clear hp hf h1 h2 hS9 hrow7 hrow9 HS8 HP8 HW8 r8
  go_wp2_with fail
  have hl9 := HS9.out.F.lt
  refine (block_rd 9 (stmt_ok 9 (by decide)) b c s9 e9 w9 (by omega) HP9.out (HTf.out _ HS9.out.fs) HG.out).mono ?_
  rintro r w10 ⟨us10, sl, rfl, hst, hrd, hf⟩
  obtain ⟨p10, n10, c10, rfl⟩ := hst.slice
  obtain ⟨s10, e10, hp, hn10, h1, h2⟩ := hrd
  have HSa := keep (HS9.out.step hbl hcl hf)
  have HX7 := keep (RowX.fs nestV_nest HW7.out hf (by simp; omega))
  have HX9 := keep (RowX.fs nestV_nest HW9.out hf (by simp; omega))
  have HA10 := keep h1
  have HB10 := keep h2
  have HSt := keep hst
  have HPa := keep hp
  have cF := HSa.out.F.cell 2 rfl
  have fF := HSa.out.F.fr 2
  have hz10 : w9.heap.size ≤ w10.heap.size := hf.size
  obtain ⟨v10, hv10⟩ : ∃ v10, w10.setCell ⟨w.heap.size + 1 + 1, 2, none⟩ (.slice p10 n10 c10) = v10 := ⟨_, rfl⟩
  have hz : v10.heap.size = w10.heap.size := by rw [← hv10]; simp [World.setCell]
  have hbk : ∀ i, i ≠ w.heap.size + 1 + 1 → v10.heap[i]? = w10.heap[i]? := fun i hi => by rw [← hv10]; exact Below.heap_setCell _ _ _ _ hi
  have HP10 : Hid (RB v10 b c s10 e10) := ⟨by rw [hbk b (by omega)]; exact HPa.out.1, by show v10.heap[c]? = _; rw [hbk c (by omega)]; exact HPa.out.2⟩
  have HS10 : Hid (PS w v10 b c (.slice p7 n7 c7) (.slice p9 n9 c9) (.slice p10 n10 c10)) := by
    rw [← hv10]
    exact ⟨⟨HSa.out.fs.os, HSa.out.fs.tape, HSa.out.fs.output, by simp [World.setCell]; exact HSa.out.fs.size, fun k hk hl => by rw [Below.heap_setCell _ _ _ _ (by show k ≠ w.heap.size + 1 + 1; omega)]; exact HSa.out.fs.block k hk hl⟩, HSa.out.R.far _ _ (by omega), HSa.out.D.far _ _ (by omega), HSa.out.F.set 2 _⟩
  have HY7 := keep (RowX.stay (w' := v10) nestV_nest HX7.out (by omega) (fun i h1 h2 => hbk i (by omega)))
  have HY9 := keep (RowX.stay (w' := v10) nestV_nest HX9.out (by omega) (fun i h1 h2 => hbk i (by omega)))
  have HYt := keep (StX.keep (w' := v10) (fun i (hi : New w9 w10 i) => hbk i (by have := hi.1; omega)) HSt.out)
  have r10 := HS10.out.R.cell 0 rfl
  have q10 := HP10.out.c0
  clear hp hf h1 h2 hst HS9 HP9 HW7 HW9 HX7 HX9 HSt HPa r9
  go_wp2_with fail
  clear hv10 cF fF HSa
  have HNx := keep (next_any c s10 (by omega) v10 HP10.out.2)
  refine HNx.out.mono ?_
  rintro r w11 ⟨rfl, hsb, hfs⟩
  have HP11 := keep (HP10.out.moved hsb hfs)
  have hf11 := hfs.mono (m := [b, c]) (by simp)
  have HS11 := keep (HS10.out.step hbl hcl hf11)
  have HZ7 := keep (RowX.fs nestV_nest HY7.out hf11 (by simp; omega))
  have HZ9 := keep (RowX.fs nestV_nest HY9.out hf11 (by simp; omega))
  have HZt := keep (StX.keep (w' := w11) (fun i (hi : New w9 w10 i) => hf11.block i (by have := hi.2; omega) (by have := hi.1; simp; omega)) HYt.out)
  have hz11 : v10.heap.size ≤ w11.heap.size := hf11.size
  have r11 := HS11.out.R.cell 0 rfl
  clear hsb hfs hf11 HNx HS10 HP10 HY7 HY9 HYt r10 q10 hbk
  have HRl := keep (rs_len s10)
  by_cases hw : wd s10.data.toList = []
  · have HW := keep hw
    rw [hw]
    have HRs := keep (rs_none s10 hw)
    clear hw
    have HFf := keep HS11.out.F
    have HDf := keep HS11.out.D
    have hlf := HS11.out.F.lt
    go_wp2_with (first
      | refine wpList_load_row rfl 26 (.tmp 3) rfl (w.heap.size + 1 + 1) rfl 26 #[.slice p7 n7 c7, .slice p9 n9 c9, .slice p10 n10 c10] (0, 0) _ HFf.out Tryd.underlying26 rfl (info_F [.slice p7 n7 c7, .slice p9 n9 c9, .slice p10 n10 c10] rfl) ?_
      | refine wpList_store_row rfl 26 (.tmp 2) (.tmp 29) rfl (w.heap.size + 1) #[.slice p7 n7 c7, .slice p9 n9 c9, .slice p10 n10 c10] rfl rfl 26 #[.slice none 0 0, .slice none 0 0, .slice none 0 0] HDf.out (info_F [.slice p7 n7 c7, .slice p9 n9 c9, .slice p10 n10 c10] rfl) rfl (by simp [Value.oneCell']) ?_)
    (try simp only [Exit.inBlock, Exit.then])
    refine bodyPost_ret (results_cell_row rfl _ _ (w.heap.size + 1) _ #[.slice p7 n7 c7, .slice p9 n9 c9, .slice p10 n10 c10] (0, 0) _ rfl (setRow_heap _ _ _ _ _ _ HDf.out) Tryd.underlying26 rfl (info_F [.slice p7 n7 c7, .slice p9 n9 c9, .slice p10 n10 c10] rfl)) rfl ?_
    have hp12 := HP11.out.row (D := w.heap.size + 1) (by omega) (by omega) #[.slice p7 n7 c7, .slice p9 n9 c9, .slice p10 n10 c10]
    have hzz : (w11.setRow (w.heap.size + 1) #[.slice p7 n7 c7, .slice p9 n9 c9, .slice p10 n10 c10]).heap.size = w11.heap.size := by simp
    refine ⟨⟨us7, us9, us10⟩, .slice p7 n7 c7, .slice p9 n9 c9, .slice p10 n10 c10, rfl, fun u hu hb => ?_, ?_, HS11.out.fs.row (by omega) _⟩
    · rw [hzz] at hu hb
      have hb' : ∀ i, w.heap.size + 3 ≤ i → i < w11.heap.size → u.heap[i]? = w11.heap[i]? := fun i h1 h2 => (hb i (by omega) h2).trans (setRow_other _ _ _ _ (by omega))
      refine ⟨_, _, _, rfl, ?_, ?_, ?_⟩
      · exact RowX.vars (RowX.stay nestV_nest HZ7.out hu (fun i h1 h2 => hb' i (by omega) h2)) (by show us7.length ≤ _; omega) (Nat.le_refl _)
      · exact RowX.vars (RowX.stay nestV_nest HZ9.out hu (fun i h1 h2 => hb' i (by omega) h2)) (by show us9.length ≤ _; omega) (Nat.le_refl _)
      · exact StX.stIs (fun i hi => by have := hi.2; omega) (StX.keep (fun i hi => hb' i (by have := hi.1; omega) (by have := hi.2; omega)) HZt.out)
    · unfold fnG
      refine rd_go (n1 := s.size) HA4.out HB4.out ?_ (Nat.le_refl _)
      refine rd_go (n1 := s.size) HA5.out HB5.out ?_ (Nat.le_refl _)
      refine rd_go (n1 := s.size) HA6.out HB6.out ?_ (Nat.le_refl _)
      refine rd_then (x := us7) (n1 := s.size) HA7.out HB7.out ?_ (Nat.le_refl _)
      refine rd_go (n1 := s.size) HA8.out HB8.out ?_ (Nat.le_refl _)
      refine rd_then (x := us9) (n1 := s.size) HA9.out HB9.out ?_ (Nat.le_refl _)
      refine rd_then (x := us10) (n1 := s.size) HA10.out HB10.out ?_ (Nat.le_refl _)
      rw [if_pos HRs.out.1]
      exact ⟨_, e10, hp12, by have := HRl.out; omega, fun _ => rfl, fun he => ⟨fun x hx => (by cases hx), fun a r hx => (by cases hx; exact ⟨he, HRs.out.2.trans HRs.out.1.symm, rfl⟩)⟩⟩
  · have HWn := keep (words_some s10 hw)
    generalize wd s10.data.toList = W at *
    have hwb : (W == []) = false := by simpa using hw
    clear hw
    go_wp2_with fail
    refine (fail_any b c _ e10 2 w11 HP11.out).mono ?_
    rintro r w13 ⟨rfl, hp, hf⟩
    have HP13 := keep hp
    have HS13 := keep (HS11.out.step hbl hcl hf)
    have HU7 := keep (RowX.fs nestV_nest HZ7.out hf (by simp; omega))
    have HU9 := keep (RowX.fs nestV_nest HZ9.out hf (by simp; omega))
    have HUt := keep (StX.keep (w' := w13) (fun i (hi : New w9 w10 i) => hf.block i (by have := hi.2; omega) (by have := hi.1; simp; omega)) HZt.out)
    have hz13 : w11.heap.size ≤ w13.heap.size := hf.size
    clear hp hf HS11 HP11 HZ7 HZ9 HZt r11
    have HFf := keep HS13.out.F
    have HDf := keep HS13.out.D
    have hlf := HS13.out.F.lt
    go_wp2_with (first
      | refine wpList_load_row rfl 26 (.tmp 3) rfl (w.heap.size + 1 + 1) rfl 26 #[.slice p7 n7 c7, .slice p9 n9 c9, .slice p10 n10 c10] (0, 0) _ HFf.out Tryd.underlying26 rfl (info_F [.slice p7 n7 c7, .slice p9 n9 c9, .slice p10 n10 c10] rfl) ?_
      | refine wpList_store_row rfl 26 (.tmp 2) (.tmp 29) rfl (w.heap.size + 1) #[.slice p7 n7 c7, .slice p9 n9 c9, .slice p10 n10 c10] rfl rfl 26 #[.slice none 0 0, .slice none 0 0, .slice none 0 0] HDf.out (info_F [.slice p7 n7 c7, .slice p9 n9 c9, .slice p10 n10 c10] rfl) rfl (by simp [Value.oneCell']) ?_)
    (try simp only [Exit.inBlock, Exit.then])
    refine bodyPost_ret (results_cell_row rfl _ _ (w.heap.size + 1) _ #[.slice p7 n7 c7, .slice p9 n9 c9, .slice p10 n10 c10] (0, 0) _ rfl (setRow_heap _ _ _ _ _ _ HDf.out) Tryd.underlying26 rfl (info_F [.slice p7 n7 c7, .slice p9 n9 c9, .slice p10 n10 c10] rfl)) rfl ?_
    have hp12 := HP13.out.row (D := w.heap.size + 1) (by omega) (by omega) #[.slice p7 n7 c7, .slice p9 n9 c9, .slice p10 n10 c10]
    have hzz : (w13.setRow (w.heap.size + 1) #[.slice p7 n7 c7, .slice p9 n9 c9, .slice p10 n10 c10]).heap.size = w13.heap.size := by simp
    refine ⟨⟨us7, us9, us10⟩, .slice p7 n7 c7, .slice p9 n9 c9, .slice p10 n10 c10, rfl, fun u hu hb => ?_, ?_, HS13.out.fs.row (by omega) _⟩
    · rw [hzz] at hu hb
      have hb' : ∀ i, w.heap.size + 3 ≤ i → i < w13.heap.size → u.heap[i]? = w13.heap[i]? := fun i h1 h2 => (hb i (by omega) h2).trans (setRow_other _ _ _ _ (by omega))
      refine ⟨_, _, _, rfl, ?_, ?_, ?_⟩
      · exact RowX.vars (RowX.stay nestV_nest HU7.out hu (fun i h1 h2 => hb' i (by omega) h2)) (by show us7.length ≤ _; omega) (Nat.le_refl _)
      · exact RowX.vars (RowX.stay nestV_nest HU9.out hu (fun i h1 h2 => hb' i (by omega) h2)) (by show us9.length ≤ _; omega) (Nat.le_refl _)
      · exact StX.stIs (fun i hi => by have := hi.2; omega) (StX.keep (fun i hi => hb' i (by have := hi.1; omega) (by have := hi.2; omega)) HUt.out)
    · unfold fnG
      refine rd_go (n1 := s.size) HA4.out HB4.out ?_ (Nat.le_refl _)
      refine rd_go (n1 := s.size) HA5.out HB5.out ?_ (Nat.le_refl _)
      refine rd_go (n1 := s.size) HA6.out HB6.out ?_ (Nat.le_refl _)
      refine rd_then (x := us7) (n1 := s.size) HA7.out HB7.out ?_ (Nat.le_refl _)
      refine rd_go (n1 := s.size) HA8.out HB8.out ?_ (Nat.le_refl _)
      refine rd_then (x := us9) (n1 := s.size) HA9.out HB9.out ?_ (Nat.le_refl _)
      refine rd_then (x := us10) (n1 := s.size) HA10.out HB10.out ?_ (Nat.le_refl _)
      rw [if_neg HWn.out]
      exact rd_bad hp12 (by have := HRl.out; omega) (by decide)
end Go.Proofs.YtkobiojndamofaaDoor.Lr
