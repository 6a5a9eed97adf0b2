/- The program's own reader: so many expressions. -/
import Derived.Test.YtkobiojndamofaaDoorLwRow
namespace Go.Proofs.YtkobiojndamofaaDoor.Lr
set_option linter.unusedVariables false
open Go.ChangeShapes Go.WideShapes Go.ChangeAt Go.RowKit Lg

/-- The blocks that are new. -/
def New (w w' : World) : Nat → Prop := fun i => w.heap.size ≤ i ∧ i < w'.heap.size
/-- An expression is read, where m may stand within one another. -/
def ExprOK (m : Nat) : Prop := ∀ (b c : Nat) (s : ByteArray) (e : Int) (w : World), s.size < 4294967281 → RB w b c s e → Tabs w → GL b ∧ GL c →
  Calls Tryd.prog 87 #[.pointer (some ⟨b, 0, none⟩), .int .i64 (9 - (m : Int))] w fun r w' => ∃ (ex : Ex) (sl : Value), r = .returned (.agg (exA ex sl)) ∧ ExX w' (New w w') (m + 1) ex sl ∧ Rd w' b c s.size e (exprT m (words s.data.toList)) (fun a => a = ex) ∧ Fs [b, c] w w'

theorem many_bad {α : Type} {f : List (List UInt8) → Res α} (n : Nat) {r : List (List UInt8)} {x : Int} (h : f r = .error x) : manyT f (n + 1) r = .error x := by rw [manyT, h]; rfl
theorem many_part {α : Type} {f : List (List UInt8) → Res α} (n : Nat) {r q : List (List UInt8)} {a : α} (h : f r = .ok (a, q)) : manyT f (n + 1) r = pre [a] (manyT f n q) := by
  rw [manyT, h, andT_ok]
  cases manyT f n q <;> rfl

/-- The cells of a block that is new. -/
theorem new_cell (w : World) (l : List Value) (ty : TypeId) (j : Nat) (u : Value) (h : l[j]? = some u) : (w.alloc (.cells l.toArray ty)).cell? ((⟨w.heap.size, 0, none⟩ : Addr).add j) = some u := by
  have he : (⟨w.heap.size, 0, none⟩ : Addr).add j = ⟨w.heap.size, j, none⟩ := by
    simp [Addr.add]
    intro h; omega
  rw [he, Lib.cell_of_heap (MapKept.heap_alloc w (.cells l.toArray ty)).1]
  rw [List.getElem?_toArray]; exact h
set_option maxHeartbeats 4000000 in
set_option maxRecDepth 100000 in
theorem exprs_rd (m : Nat) (ih : ExprOK m) (b c n : Nat) (hn : n ≤ 3) (s : ByteArray) (e : Int) (w : World) (hs : s.size < 4294967281) (h : RB w b c s e) (ht : Tabs w) (hg : GL b ∧ GL c) :
    Calls Tryd.prog 79 #[.pointer (some ⟨b, 0, none⟩), .int .i64 (n : Int), .int .i64 (9 - (m : Int))] w fun r w' => ∃ (us : List Ex) (sl : Value), r = .returned sl ∧ ExX w' (New w w') (m + 2) (ar us) sl ∧ Rd w' b c s.size e (manyT (exprT m) n (words s.data.toList)) (fun a => a = us) ∧ Fs [b, c] w w' := by
  have hbl := h.lt
  have hcl := h.ltc
  have HTf : Hid (∀ W, Fs [b, c] w W → Tabs W) := fun W hW => tabs_fs ht hg hW hbl hcl
  have IH := keep ih
  have HP := keep h
  have HG := keep hg
  obtain ⟨i0, hi0, hz0, hz1, hz2⟩ := info_parts infoE
  clear ih h hg ht
  go_enter Tryd.func79, Tryd.ntmps79
  go_wp2
  go_loopw [7, 9] (fun v i wx => ∃ (k : Nat) (s' : ByteArray) (e' : Int) (es : List (Ex × Value)), k ≤ n ∧ i = .int .i64 (k : Int) ∧ es.length = k ∧ RB wx b c s' e' ∧ s'.size ≤ s.size ∧ RowE (m + 1) wx w.heap.size v es ∧ Fs [b, c] w wx ∧ (¬ e = 0 → e' = e) ∧
      (e = 0 → (¬ e' = 0 → manyT (exprT m) n (words s.data.toList) = .error e') ∧ (e' = 0 → manyT (exprT m) n (words s.data.toList) = pre (es.map (·.1)) (manyT (exprT m) (n - k) (words s'.data.toList))))) (fun _ i _ => n - (intOf i).toNat)
  case atStart => exact ⟨0, s, e, [], by omega, rfl, rfl, HP.out, Nat.le_refl _, RowX.nil _ _, Fs.refl _ _, fun _ => rfl, fun he => ⟨fun h => absurd he h, fun _ => pre_nil _⟩⟩
  case round =>
    obtain ⟨k, s', e', es, hkn, rfl, hlen, hp, hsz, hrow, hfs, hne, heq⟩ := hrel
    have HP2 := keep hp
    have HRow := keep hrow
    have HF := keep hfs
    have HNe := keep hne
    have HEq := keep heq
    have hws : w.heap.size ≤ wr.heap.size := hfs.size
    have HVo := keep (fun i => hrow.own.lt i)
    clear hp hrow hfs hne heq HP
    by_cases hkl : k < n
    · have d1 : decide ((k : Int) < (n : Int)) = true := decide_eq_true (by omega)
      have HC := keep (IH.out b c s' e' wr (by omega) HP2.out (HTf.out _ HF.out) HG.out)
      clear HP2
      go_wp2_with fail
      refine HC.out.mono ?_
      rintro r w1 ⟨ex, sl, rfl, hex, hrd, hf1⟩
      obtain ⟨p, q, cap0, rfl⟩ := hex.slice
      have HEx := keep hex
      have HRd := keep hrd
      have HF1 := keep (HF.out.trans hf1)
      have HRow1 := keep (RowX.fs (nestE_nest (m + 1)) HRow.out hf1 (by simp; omega))
      have hws1 : wr.heap.size ≤ w1.heap.size := hf1.size
      clear hex hrd hf1 HC HRow
      unfold exA
      have hown := (HRow1.out.own).alloc (.cells #[.int .i64 ex.kind, .int .i64 ex.n, .string ⟨ex.name.toArray⟩, .slice p q cap0] 39)
      go_wp2_with (first
        | (at_builtin; refine wpList_append_lies _ rfl (.tmp 11) (.tmp 15) 34 rfl w.heap.size 39 i0 _ 4 56 Tryd.underlying34 hi0 hz0 hz1 hz2 rfl (by decide) _ _ _ rfl hown ⟨w1.heap.size, 0, none⟩ 1 1 (cellsE (ex, .slice p q cap0)) rfl rfl ?c1 ?c2 (by decide) ?c3 ?c4 ?c5 (w1.heap.size + 1) (by simp) ?_)
        | fail)
      case c1 =>
        intro j u hj
        exact new_cell w1 _ _ j u hj
      case c2 =>
        intro u hu
        simp only [cellsE, List.mem_cons, List.not_mem_nil, or_false] at hu
        rcases hu with rfl | rfl | rfl | rfl <;> rfl
      case c3 => rw [hlen]; unfold maxLen; omega
      case c4 => rw [hlen]; omega
      case c5 => simp; omega
      · intro g cap w2 hown2 hgrow hat hlt
        have HA := keep (Fs.of_below (l := [b, c]) ((Below.refl w1.heap.size w1).alloc (Nat.le_refl _) (.cells #[.int .i64 ex.kind, .int .i64 ex.n, .string ⟨ex.name.toArray⟩, .slice p q cap0] 39)))
        have hex2 := ExX.keep (w' := w1.alloc (.cells #[.int .i64 ex.kind, .int .i64 ex.n, .string ⟨ex.name.toArray⟩, .slice p q cap0] 39)) (fun i (hi : New wr w1 i) => HA.out.block i hi.2 (by have := hi.1; simp; omega)) HEx.out
        have HRow2 := keep (RowX.push (p := (ex, .slice p q cap0)) (nestE_nest (m + 1)) (RowX.fs (nestE_nest (m + 1)) HRow1.out HA.out (by simp; omega)) (ExX.mono (fun i hi => ⟨Nat.le_trans hws hi.1, Nat.lt_of_lt_of_le hi.2 HA.out.size, fun hv => by have := (HVo.out i hv).2; have := hi.1; omega⟩) hex2) (by rw [hlen]; exact hown2) hgrow (by simpa using hat))
        have HF2 : Hid (Fs [b, c] w w2) := by
          show Fs [b, c] w w2
          have h1 := HF1.out.trans HA.out
          exact ⟨hgrow.os.trans h1.os, hgrow.tape.trans h1.tape, hgrow.output.trans h1.output, Nat.le_trans h1.size hgrow.size, fun i hi hl => (hgrow.block i (Nat.lt_of_lt_of_le hi h1.size) (fun hv => by have := (HVo.out i hv.symm).1; omega)).trans (h1.block i hi hl)⟩
        have HGr : Hid (∀ s2 e2, RB w1 b c s2 e2 → RB w2 b c s2 e2) := fun s2 e2 hp => by
          have hk : ∀ i, i < w.heap.size → w2.heap[i]? = w1.heap[i]? := fun i hi =>
            (hgrow.block i (by simp; omega) (fun hv => by have := (HVo.out i hv.symm).1; omega)).trans (((Below.refl w1.heap.size w1).alloc (Nat.le_refl _) _).block i (by omega))
          exact ⟨by rw [hk b hbl]; exact hp.1, by show w2.heap[c]? = _; rw [hk c hcl]; exact hp.2⟩
        clear hown2 hgrow hat hown
        go_wp2
        go_roundw
        case rel =>
          obtain ⟨s2, e2, hp2, hs2, k1, k2⟩ := HRd.out
          refine ⟨k + 1, s2, e2, es ++ [((ex, Value.slice p q cap0) : Ex × Value)], by omega, by go_num, by simp [hlen], HGr.out s2 e2 hp2, by omega, HRow2.out, HF2.out, fun he => ?_, fun he => ⟨fun he2 => ?_, fun he2 => ?_⟩⟩
          · have := HNe.out he
            rw [k1 (by rw [this]; exact he), this]
          · by_cases he' : e' = 0
            · obtain ⟨k3, k4⟩ := k2 he'
              rw [(HEq.out he).2 he', show n - k = (n - (k + 1)) + 1 by omega]
              cases hfr : exprT m (words s'.data.toList) with
              | error x => rw [many_bad _ hfr, (k3 x hfr).1]; rfl
              | ok pq =>
                obtain ⟨a', q'⟩ := pq
                exact absurd (k4 a' q' hfr).1 he2
            · rw [k1 he']; exact (HEq.out he).1 he'
          · have he' : e' = 0 := by
              by_cases h : e' = 0
              · exact h
              · exact absurd ((k1 h).symm.trans he2) h
            obtain ⟨k3, k4⟩ := k2 he'
            rw [(HEq.out he).2 he', show n - k = (n - (k + 1)) + 1 by omega]
            cases hfr : exprT m (words s'.data.toList) with
            | error x => exact absurd ((k3 x hfr).1 ▸ he2) (k3 x hfr).2
            | ok pq =>
              obtain ⟨a', q'⟩ := pq
              obtain ⟨_, g2, g3⟩ := k4 a' q' hfr
              rw [many_part _ hfr, pre_pre, g2, g3, List.map_append]
              rfl
        case measure => simp [intOf]; omega
    · have hke : k = n := by omega
      have d1 : decide ((k : Int) < (n : Int)) = false := decide_eq_false (by omega)
      obtain ⟨p, q, cap0, hv⟩ := HRow.out.slice
      subst hv
      go_wp2
      go_ret
      refine ⟨es.map (fun x : Ex × Value => x.1), .slice p q cap0, rfl, RowX.args HRow.out (by omega), ⟨s', e', HP2.out, hsz, HNe.out, fun he => ?_⟩, HF.out⟩
      by_cases he' : e' = 0
      · rw [(HEq.out he).2 he', hke, Nat.sub_self]
        exact ⟨fun x hx => (by cases hx), fun a r hx => (by cases hx; exact ⟨he', rfl, by simp⟩)⟩
      · rw [(HEq.out he).1 he']
        exact ⟨fun x hx => (by cases hx; exact ⟨rfl, he'⟩), fun a r hx => (by cases hx)⟩
end Go.Proofs.YtkobiojndamofaaDoor.Lr
