/- The checker's block, one statement after another. -/
import Derived.Test.YtemdnmfldihalaaDoorLkSet
namespace Go.Proofs.YtemdnmfldihalaaDoor.Lr
set_option linter.unusedVariables false
set_option linter.unusedSimpArgs false
open Go.ChangeShapes Go.WideShapes Go.ChangeAt Go.RowKit Lg

/-- Not too much was done, and not too many names are there. -/
def Few (ns : List Nm) (wk lt : Nat) : Prop := ns.length ≤ 4 + wk ∧ wk ≤ 300 ∧ lt ≤ 24
def StmtCk (m : Nat) : Prop := ∀ (K C B : Nat) (rs : List Vr) (A : Value) (ns : List Nm) (nv : Value) (wk lt : Nat) (dark : Bool) (t : St) (s1 s2 s3 : Value) (w : World), m ≤ K → m ≤ 10 → wfS m t → CK w C B rs A ns nv wk lt 0 → Few ns wk lt → ExIs w B 11 (ar t.args) s1 → StIs w B 10 K t.thn s2 → StIs w B 10 K t.els s3 →
  Calls Tryd.prog 33 #[.pointer (some ⟨C, 0, none⟩), .agg (stA t s1 s2 s3), .bool dark] w fun r w' => StEnd w C B rs A ns nv 0 (stmtK rs m dark t ⟨ns, wk, lt⟩) r w'
def BlockCk (m : Nat) : Prop := ∀ (K C B : Nat) (rs : List Vr) (A : Value) (ns : List Nm) (nv : Value) (wk lt : Nat) (e : Int) (dark : Bool) (l : List St) (sl : Value) (w : World), m ≤ K → m ≤ 10 → (∀ t ∈ l, wfS m t) → CK w C B rs A ns nv wk lt e → (e = 0 → Few ns wk lt) → StIs w B 10 (K + 1) l sl →
  Calls Tryd.prog 23 #[.pointer (some ⟨C, 0, none⟩), sl, .bool dark] w fun r w' => StEnd w C B rs A ns nv e (blockK (stmtK rs m dark) l ⟨ns, wk, lt⟩) r w'
theorem stmts_step {f : St → Ks → Except Int Ks} {l : List St} {k : Nat} {a : St} (h : l[k]? = some a) (s : Ks) : stmtsK f (l.drop k) s = thenK (f a s) fun x => stmtsK f (l.drop (k + 1)) x := by
  obtain ⟨hk, rfl⟩ := List.getElem?_eq_some_iff.1 h
  rw [List.drop_eq_getElem_cons hk, stmtsK]
/-- How far a block has come. -/
structure BR (f : St → Ks → Except Int Ks) (l : List St) (k0 : Ks) (k : Nat) (e e1 : Int) (k1 : Ks) : Prop where
  ex : ∃ ex, k1.ns = k0.ns ++ ex
  was : ¬ e = 0 → e1 = e
  bad : e = 0 → ¬ e1 = 0 → stmtsK f l k0 = .error e1
  good : e = 0 → e1 = 0 → stmtsK f l k0 = stmtsK f (l.drop k) k1
  few : e1 = 0 → Few k1.ns k1.work k1.lets
theorem Few.gd {k k' : Ks} (h : Few k.ns k.work k.lets) (g : Gd k k') : Few k'.ns k'.work k'.lets := by
  have := g.len
  exact ⟨by have := h.1; omega, g.most, g.lets⟩
theorem br_zero {f : St → Ks → Except Int Ks} {l : List St} {k0 : Ks} {e : Int} (h : e = 0 → Few k0.ns k0.work k0.lets) : BR f l k0 0 e e k0 := ⟨⟨[], by simp⟩, fun _ => rfl, fun h1 h2 => absurd h1 h2, fun _ _ => rfl, h⟩
theorem br_step {rs : List Vr} {m : Nat} {dark : Bool} {l : List St} {k0 k1 k2 : Ks} {k : Nat} {e e2 : Int} {a : St} (h : BR (stmtK rs m dark) l k0 k e 0 k1) (ha : l[k]? = some a) (hs : SR 0 e2 (stmtK rs m dark a k1) k2) (hx : ∃ ex, k2.ns = k1.ns ++ ex) : BR (stmtK rs m dark) l k0 (k + 1) e e2 k2 := by
  have he : e = 0 := by
    by_cases he : e = 0
    · exact he
    · exact (h.was he).symm
  refine ⟨?_, fun hn => absurd he hn, fun _ h2 => ?_, fun _ h2 => ?_, fun h2 => ?_⟩
  · obtain ⟨x, hx1⟩ := h.ex
    obtain ⟨y, hy⟩ := hx
    exact ⟨x ++ y, by rw [hy, hx1, List.append_assoc]⟩
  · rw [h.good he rfl, stmts_step ha, hs.bad rfl h2]; rfl
  · rw [h.good he rfl, stmts_step ha, hs.good rfl h2, thenK_ok]
  · have hf := h.few rfl
    have hg := (stmt_gd rs m dark a k1 hf.2.1 hf.2.2).2 k2 (hs.good rfl h2)
    exact hf.gd hg
theorem br_end {f : St → Ks → Except Int Ks} {l : List St} {k0 k1 : Ks} {k : Nat} {e e1 : Int} (h : BR f l k0 k e e1 k1) (hk : l.length ≤ k) : SR e e1 (blockK f l k0) ⟨k0.ns, k1.work, k1.lets⟩ := by
  refine .mk h.was fun he => ?_
  unfold blockK
  by_cases h1 : e1 = 0
  · rw [h.good he h1, List.drop_of_length_le hk, stmtsK, thenK_ok]
    exact .inr ⟨_, rfl, h1, rfl⟩
  · rw [h.bad he h1]
    exact .inl ⟨e1, rfl, rfl, h1⟩
theorem br_stop {f : St → Ks → Except Int Ks} {l : List St} {k0 k1 k2 : Ks} {k : Nat} {e e1 : Int} (h : BR f l k0 k e e1 k1) (h1 : ¬ e1 = 0) : SR e e1 (blockK f l k0) k2 := by
  refine .mk h.was fun he => ?_
  unfold blockK
  rw [h.bad he h1]
  exact .inl ⟨e1, rfl, rfl, h1⟩
theorem Bk.cellsD {w : World} {k : Nat} {l : List Value} {ty : TypeId} (h : Bk w k l ty) : w.heap[k]? = some (.cells l.toArray ty (0, 0)) := h

set_option maxHeartbeats 8000000 in
set_option maxRecDepth 100000 in
theorem block_ck (m : Nat) (ih : StmtCk m) : BlockCk m := by
  intro K C B rs A ns nv wk lt e dark l sl w hK h10 hwf h hfew hi
  have hCl := h.lt
  have hBC := h.hB
  obtain ⟨qp, qn, qc, rfl, hql, hqc, hqm, hqa⟩ := hi
  obtain ⟨pv, nn, cv, rfl⟩ := RowX.slice h.row
  have hnl := RowX.len h.row
  subst hnl
  have HQA := keep hqa
  have HQL : Hid (l.length = qn) := hql
  have HK := keep h
  have HOw := keep h.own
  have Hih := keep ih
  have Hwf := keep hwf
  have HBR := keep (br_zero (f := stmtK rs m dark) (l := l) (k0 := ⟨ns, wk, lt⟩) (e := e) hfew)
  have c1 := h.box.cell 1 rfl
  clear h ih hwf hqa hql hfew
  go_enter Tryd.func23, Tryd.ntmps23
  go_wp2
  go_loopw [16] (fun i wx => ∃ (k : Nat) (nv1 : Value) (ns1 : List Nm) (wk1 lt1 : Nat) (e1 : Int), k ≤ qn ∧ i = .int .i64 (k : Int) ∧ CK wx C B rs A ns1 nv1 wk1 lt1 e1 ∧ Fc C (.slice pv ns.length cv) nv1 w wx ∧ BR (stmtK rs m dark) l ⟨ns, wk, lt⟩ k e e1 ⟨ns1, wk1, lt1⟩) (fun i _ => qn - (intOf i).toNat)
  case atStart => exact ⟨0, _, ns, wk, lt, e, by omega, rfl, HK.out, (Fs.refl _ _).fc _, HBR.out⟩
  case round =>
    obtain ⟨k, nv1, ns1, wk1, lt1, e1, hkn, rfl, hck, hfc, hbr⟩ := hrel
    have HCK := keep hck
    have HFC := keep hfc
    have HBr := keep hbr
    clear hck hfc hbr HBR c1 HK
    by_cases hkl : k < qn
    · have d1 : decide ((k : Int) < (qn : Int)) = true := decide_eq_true (by omega)
      have hkz : (k : Int) < (qn : Int) := by omega
      have hk0 : (0 : Int) ≤ (k : Int) := by omega
      obtain ⟨t, ht⟩ : ∃ t, l[k]? = some t := ⟨_, List.getElem?_eq_getElem (by rw [HQL.out]; exact hkl)⟩
      obtain ⟨g, o, s1, s2, s3, rfl, hg, hat, he1, hs2, hs3⟩ := HQA.out k t ht
      have hbo : Below B w wr := HFC.out.below hBC hCl (fun i hi => (HOw.out i hi).1)
      have hat := hat.below hbo hg
      have he1 := he1.below hbo
      have hs2 := hs2.below hbo
      have hs3 := hs3.below hbo
      obtain ⟨p1, n1, k1, rfl⟩ := he1.slice
      obtain ⟨p2, n2, k2, rfl⟩ := hs2.slice
      obtain ⟨p3, n3, k3, rfl⟩ := hs3.slice
      have a0 := hat.c0
      have a1 := hat.c1
      have a2 := hat.c2
      have a3 := hat.c3
      have a4 := hat.c4
      have a5 := hat.c5
      have a6 := hat.c6
      have HT := keep ht
      have HWt := keep (Hwf.out t (List.mem_of_getElem? ht))
      obtain ⟨tk, tn, tx, tsec, targs, tth, tel⟩ := t
      simp only at a0 a1 a2 a3 a4 a5 a6 he1 hs2 hs3
      obtain ⟨w1, hw1⟩ : ∃ w1, wr.alloc (.cells #[.int .i64 tk, .int .i64 tn, .string ⟨tx.toArray⟩, .bool tsec, .slice p1 n1 k1, .slice p2 n2 k2, .slice p3 n3 k3] 67) = w1 := ⟨_, rfl⟩
      have hb1 : Below wr.heap.size wr w1 := by rw [← hw1]; exact (Below.refl _ _).alloc (Nat.le_refl _) _
      have HK1 := keep (HCK.out.below hb1)
      have HF1 := keep (HFC.out.trans ((Fs.of_below hb1).fc nv1))
      have HX1 : Hid (Bk w1 wr.heap.size [.int .i64 tk, .int .i64 tn, .string ⟨tx.toArray⟩, .bool tsec, .slice p1 n1 k1, .slice p2 n2 k2, .slice p3 n3 k3] 67) := by
        show Bk _ _ _ _
        rw [← hw1]; exact Bk.new _ _ _
      have hBr : B ≤ wr.heap.size := Nat.le_trans hBC (Nat.le_of_lt HCK.out.lt)
      have HE1 := keep (he1.below (hb1.mono hBr))
      have HS2 := keep (hs2.below (hb1.mono hBr))
      have HS3 := keep (hs3.below (hb1.mono hBr))
      have c4 := HK1.out.box.cell 4 rfl
      have HW1 := keep hw1
      clear ht hat he1 hs2 hs3 hbo HQA hb1 hw1 HCK HFC
      by_cases hez : e1 = 0
      · subst hez
        have HC := keep (Hih.out K C B rs A ns1 nv1 wk1 lt1 dark ⟨tk, tn, tx, tsec, targs, tth, tel⟩ (.slice p1 n1 k1) (.slice p2 n2 k2) (.slice p3 n3 k3) w1 hK h10 HWt.out HK1.out (HBr.out.few rfl) HE1.out HS2.out HS3.out)
        unfold stA at HC
        go_wp2_with (first
          | rw [HW1.out]
          | refine wpList_load_row rfl 67 (.tmp 8) rfl wr.heap.size rfl 67 #[.int .i64 tk, .int .i64 tn, .string ⟨tx.toArray⟩, .bool tsec, .slice p1 n1 k1, .slice p2 n2 k2, .slice p3 n3 k3] (0, 0) _ HX1.out Tryd.underlying67 rfl (info_S [.int .i64 tk, .int .i64 tn, .string ⟨tx.toArray⟩, .bool tsec, .slice p1 n1 k1, .slice p2 n2 k2, .slice p3 n3 k3] rfl) ?_)
        refine HC.out.mono ?_
        rintro r w2 ⟨nv2, ns2, wk2, lt2, e2, rfl, hk2, hf2, hx2, hsr⟩
        have HK2 := keep hk2
        have HF2 := keep (HF1.out.trans hf2)
        have HB2 := keep (br_step HBr.out HT.out hsr hx2)
        clear hk2 hf2 hx2 hsr HC
        go_wp2
        go_roundw
        case rel => exact ⟨k + 1, nv2, ns2, wk2, lt2, e2, by omega, by go_num, HK2.out, HF2.out, HB2.out⟩
        case measure => simp [intOf]; omega
      · have d2 : (e1 != 0) = true := by simpa using hez
        have HSt := keep (br_stop (k2 := ⟨ns1, wk1, lt1⟩) HBr.out hez)
        clear hez
        go_wp2_with (first | rw [HW1.out])
        refine bodyPost_ret (results_none rfl _ _ _) rfl ?_
        exact ⟨_, _, _, _, _, ⟨rfl, HK1.out, HF1.out, HBr.out.ex, HSt.out⟩⟩
    · have hke : k = qn := by omega
      subst hke
      have dl : decide ((k : Int) < (k : Int)) = false := decide_eq_false (by omega)
      obtain ⟨ex, hex⟩ := HBr.out.ex
      dsimp only at hex
      subst hex
      obtain ⟨pz, nz, cz, rfl⟩ := RowX.slice HCK.out.row
      have hcap := RowN.cap HCK.out.row
      have c1 := HCK.out.box.cell 1 rfl
      have f1 := HCK.out.box.fr 1
      have HCut := keep (ck_cut HCK.out)
      have HEnd := keep (br_end HBr.out (by rw [HQL.out]; exact Nat.le_refl _))
      have hl1 : ns.length ≤ cz := by have := hcap.2.1; have := hcap.1; rw [List.length_append] at this; omega
      clear hkl
      go_wp2
      go_end0
      exact ⟨_, _, _, _, _, ⟨rfl, HCut.out.1, HFC.out.trans HCut.out.2, ⟨[], by simp⟩, HEnd.out⟩⟩
end Go.Proofs.YtemdnmfldihalaaDoor.Lr
