/- The program's own writer: a word, a number, a label, brackets. Written by tools/gen_word.py. -/
import Derived.Test.YtkobiojndamofaaDoorLwWr
namespace Go.Proofs.YtkobiojndamofaaDoor.Lr
set_option linter.unusedVariables false
open Go.ChangeShapes Go.WideShapes Go.ChangeAt Go.RowKit Lg

theorem add_no {out s : List UInt8} (h : out = [] ∨ out.getLast? = some 40 ∨ s = [41]) : addW out s = out ++ s := by
  unfold addW gap
  by_cases hs : s = [41]
  · rw [if_pos hs]
  · rw [if_neg hs, if_pos (by rcases h with h | h | h; exact .inl h; exact .inr h; exact absurd h hs), List.append_nil]
theorem add_yes {out s : List UInt8} (h1 : ¬ out = []) (h2 : ¬ out.getLast? = some 40) (h3 : ¬ s = [41]) : addW out s = (out ++ [32]) ++ s := by
  unfold addW gap
  rw [if_neg h3, if_neg (fun h => by rcases h with h | h; exact h1 h; exact h2 h)]
set_option maxHeartbeats 4000000 in
set_option maxRecDepth 100000 in
theorem word_wr (b lo : Nat) (v : Value) (out : List UInt8) (s : ByteArray) (hl : out.length + s.size ≤ 1000000) (w : World) (h : WB w b lo v out) :
    Calls Tryd.prog 34 #[.pointer (some ⟨b, 0, none⟩), .string s] w fun r w' => r = .returned (.tuple #[]) ∧ ∃ v', WB w' b lo v' (addW out s.data.toList) ∧ Fw b lo w w' := by
  have H := keep h
  have h0 := h.bk.cell 0 rfl
  have f0 := h.bk.fr 0
  rcases h.own.2 with ⟨hv, hn⟩ | ⟨g, cap, cur, hv, hlg, hg, hnc, hcm, hcs, htake⟩
  · have he : out = [] := List.length_eq_zero_iff.1 hn
    subst hv he
    have HA : Hid (addW [] s.data.toList = [] ++ s.data.toList) := add_no (.inl rfl)
    clear h hn
    go_enter Tryd.func34, Tryd.ntmps34
    obtain ⟨i0, hi0, hz0, hz1, hz2⟩ := info_parts infoB
    go_wp2_with (first
      | (at_builtin; refine Lib.wpList_append_own_string _ rfl (.tmp 40) (.tmp 41) 46 9 rfl lo 5 i0 Tryd.underlying46 Tryd.underlying9 hi0 hz0 hz1 hz2 _ _ _ rfl H.out.own s rfl ?c1 ?c2 H.out.le ?_)
      | fail)
    case c1 => unfold maxLen; simp at hl ⊢; omega
    case c2 => simp at hl ⊢; omega
    · intro v' w3 hown hgrow hv'
      have hown3 : w3.ownsRow lo 5 1 v' ([] ++ s.data.toList).length (byc ([] ++ s.data.toList)) := by
        rw [byc_app, List.length_append, ← Lib.size_eq]; 
        refine cast ?_ hown; congr 1 <;> simp
      obtain ⟨p3, n3, c3, rfl⟩ : ∃ p n c, v' = .slice p n c := by
        rcases hown.2 with ⟨h, _⟩ | ⟨g, cap, cur, h, _⟩
        · exact ⟨_, _, _, h⟩
        · exact ⟨_, _, _, h⟩
      have HF := keep (WB.store (w' := w3) H.out hown3 hgrow)
      have HFw := keep (((Fw.refl b lo w).trans (Fw.grown (b := b) H.out.own hgrow)).set (.slice p3 n3 c3))
      have hbk3 : Bk w3 b [.slice none 0 0] 48 := by
        have := H.out.bk
        unfold Bk at this ⊢
        rw [hgrow.block b (Array.getElem?_eq_some_iff.1 this).1 (fun e => by have := (H.out.own.lt b e.symm).1; have := H.out.lt; omega)]; exact this
      have b0 := hbk3.cell 0 rfl
      have b1 := hbk3.fr 0
      clear hown hgrow hown3 hbk3 hv'
      go_wp2
      go_end0
      exact ⟨rfl, _, by rw [HA.out]; exact HF.out, HFw.out⟩
  · have hpos : 0 < out.length ∨ out.length = 0 := by omega
    by_cases hz : out.length = 0
    · have he : out = [] := List.length_eq_zero_iff.1 hz
      subst hv he
      have HA : Hid (addW [] s.data.toList = [] ++ s.data.toList) := add_no (.inl rfl)
      clear h hpos hz hg hnc hcm hcs htake
      go_enter Tryd.func34, Tryd.ntmps34
      obtain ⟨i0, hi0, hz0, hz1, hz2⟩ := info_parts infoB
      go_wp2_with (first
        | (at_builtin; refine Lib.wpList_append_own_string _ rfl (.tmp 40) (.tmp 41) 46 9 rfl lo 5 i0 Tryd.underlying46 Tryd.underlying9 hi0 hz0 hz1 hz2 _ _ _ rfl H.out.own s rfl ?c1 ?c2 H.out.le ?_)
        | fail)
      case c1 => unfold maxLen; simp at hl ⊢; omega
      case c2 => simp at hl ⊢; omega
      · intro v' w3 hown hgrow hv'
        have hown3 : w3.ownsRow lo 5 1 v' ([] ++ s.data.toList).length (byc ([] ++ s.data.toList)) := by
          rw [byc_app, List.length_append, ← Lib.size_eq]; 
          refine cast ?_ hown; congr 1 <;> simp
        obtain ⟨p3, n3, c3, rfl⟩ : ∃ p n c, v' = .slice p n c := by
          rcases hown.2 with ⟨h, _⟩ | ⟨g, cap, cur, h, _⟩
          · exact ⟨_, _, _, h⟩
          · exact ⟨_, _, _, h⟩
        have HF := keep (WB.store (w' := w3) H.out hown3 hgrow)
        have HFw := keep (((Fw.refl b lo w).trans (Fw.grown (b := b) H.out.own hgrow)).set (.slice p3 n3 c3))
        have hbk3 : Bk w3 b [.slice (some ⟨g, 0, none⟩) 0 cap] 48 := by
          have := H.out.bk
          unfold Bk at this ⊢
          rw [hgrow.block b (Array.getElem?_eq_some_iff.1 this).1 (fun e => by have := (H.out.own.lt b e.symm).1; have := H.out.lt; omega)]; exact this
        have b0 := hbk3.cell 0 rfl
        have b1 := hbk3.fr 0
        clear hown hgrow hown3 hbk3 hv'
        go_wp2
        go_end0
        exact ⟨rfl, _, by rw [HA.out]; exact HF.out, HFw.out⟩
    · subst hv
      obtain ⟨x, hx⟩ : ∃ x, out[out.length - 1]? = some x := ⟨_, List.getElem?_eq_getElem (by omega)⟩
      have hlast : out.getLast? = some x := by rw [List.getLast?_eq_getElem?]; exact hx
      have hcx : w.cell? ⟨g, out.length - 1, none⟩ = some (.int .u8 (x.toNat : Int)) := by
        have := h.own.cellAt (out.length - 1) (by omega)
        rw [this]
        unfold byc
        rw [List.getElem?_map, hx]; rfl
      have hne : ¬ out = [] := fun e => hz (by rw [e]; rfl)
      have d0 : decide ((0 : Int) < (out.length : Int)) = true := decide_eq_true (by omega)
      have k1 : (out.length : Int) - 1 < (out.length : Int) := by omega
      have k0 : (0 : Int) ≤ (out.length : Int) - 1 := by omega
      have kz : ((out.length : Int) - 1).toNat = out.length - 1 := by omega
      clear hg hnc hcm hcs htake hpos
      by_cases hx40 : x = 40
      · subst hx40
        have HA : Hid (addW out s.data.toList = out ++ s.data.toList) := add_no (.inr (.inl hlast))
        clear h hx hlast hne
        go_enter Tryd.func34, Tryd.ntmps34
        obtain ⟨i0, hi0, hz0, hz1, hz2⟩ := info_parts infoB
        go_wp2_with (first
          | (at_builtin; refine Lib.wpList_append_own_string _ rfl (.tmp 40) (.tmp 41) 46 9 rfl lo 5 i0 Tryd.underlying46 Tryd.underlying9 hi0 hz0 hz1 hz2 _ _ _ rfl H.out.own s rfl ?c1 ?c2 H.out.le ?_)
          | fail)
        case c1 => unfold maxLen; skip; omega
        case c2 => skip; omega
        · intro v' w3 hown hgrow hv'
          have hown3 : w3.ownsRow lo 5 1 v' (out ++ s.data.toList).length (byc (out ++ s.data.toList)) := by
            rw [byc_app, List.length_append, ← Lib.size_eq]; 
            refine cast ?_ hown; congr 1 <;> simp
          obtain ⟨p3, n3, c3, rfl⟩ : ∃ p n c, v' = .slice p n c := by
            rcases hown.2 with ⟨h, _⟩ | ⟨g, cap, cur, h, _⟩
            · exact ⟨_, _, _, h⟩
            · exact ⟨_, _, _, h⟩
          have HF := keep (WB.store (w' := w3) H.out hown3 hgrow)
          have HFw := keep (((Fw.refl b lo w).trans (Fw.grown (b := b) H.out.own hgrow)).set (.slice p3 n3 c3))
          have hbk3 : Bk w3 b [.slice (some ⟨g, 0, none⟩) out.length cap] 48 := by
            have := H.out.bk
            unfold Bk at this ⊢
            rw [hgrow.block b (Array.getElem?_eq_some_iff.1 this).1 (fun e => by have := (H.out.own.lt b e.symm).1; have := H.out.lt; omega)]; exact this
          have b0 := hbk3.cell 0 rfl
          have b1 := hbk3.fr 0
          clear hown hgrow hown3 hbk3 hv'
          go_wp2
          go_end0
          exact ⟨rfl, _, by rw [HA.out]; exact HF.out, HFw.out⟩
      · have hxn : ((x.toNat : Int) != 40) = true := by simpa using fun e => hx40 (UInt8.toNat_inj.1 (by show x.toNat = 40; omega))
        by_cases hs : s.data.toList = [41]
        · have ds : (s.toList == [41]) = true := by rw [Lib.toList_data]; simpa using hs
          have HA : Hid (addW out s.data.toList = out ++ s.data.toList) := add_no (.inr (.inr hs))
          clear h hx hlast hne hs hx40
          go_enter Tryd.func34, Tryd.ntmps34
          obtain ⟨i0, hi0, hz0, hz1, hz2⟩ := info_parts infoB
          go_wp2_with (first
            | (at_builtin; refine Lib.wpList_append_own_string _ rfl (.tmp 40) (.tmp 41) 46 9 rfl lo 5 i0 Tryd.underlying46 Tryd.underlying9 hi0 hz0 hz1 hz2 _ _ _ rfl H.out.own s rfl ?c1 ?c2 H.out.le ?_)
            | fail)
          case c1 => unfold maxLen; skip; omega
          case c2 => skip; omega
          · intro v' w3 hown hgrow hv'
            have hown3 : w3.ownsRow lo 5 1 v' (out ++ s.data.toList).length (byc (out ++ s.data.toList)) := by
              rw [byc_app, List.length_append, ← Lib.size_eq]; 
              refine cast ?_ hown; congr 1 <;> simp
            obtain ⟨p3, n3, c3, rfl⟩ : ∃ p n c, v' = .slice p n c := by
              rcases hown.2 with ⟨h, _⟩ | ⟨g, cap, cur, h, _⟩
              · exact ⟨_, _, _, h⟩
              · exact ⟨_, _, _, h⟩
            have HF := keep (WB.store (w' := w3) H.out hown3 hgrow)
            have HFw := keep (((Fw.refl b lo w).trans (Fw.grown (b := b) H.out.own hgrow)).set (.slice p3 n3 c3))
            have hbk3 : Bk w3 b [.slice (some ⟨g, 0, none⟩) out.length cap] 48 := by
              have := H.out.bk
              unfold Bk at this ⊢
              rw [hgrow.block b (Array.getElem?_eq_some_iff.1 this).1 (fun e => by have := (H.out.own.lt b e.symm).1; have := H.out.lt; omega)]; exact this
            have b0 := hbk3.cell 0 rfl
            have b1 := hbk3.fr 0
            clear hown hgrow hown3 hbk3 hv'
            go_wp2
            go_end0
            exact ⟨rfl, _, by rw [HA.out]; exact HF.out, HFw.out⟩
        · have ds : (s.toList == [41]) = false := by rw [Lib.toList_data]; simpa using hs
          have HA : Hid (addW out s.data.toList = (out ++ [32]) ++ s.data.toList) := add_yes hne (by rw [hlast]; simpa using hx40) hs
          clear h hx hlast hne hs hx40
          obtain ⟨i1, hi1, hy0, hy1, hy2⟩ := info_parts infoB
          have HUp := keep (H.out.below ((Below.refl w.heap.size w).alloc (Nat.le_refl _) (.cells #[.int .u8 32] 5)))
          go_enter Tryd.func34, Tryd.ntmps34
          go_wp2_with (first
            | (at_builtin; refine wpList_append_lies _ rfl (.tmp 31) (.tmp 32) 46 rfl lo 5 i1 _ 1 1 Tryd.underlying46 hi1 hy0 hy1 hy2 rfl (by decide) _ _ _ rfl HUp.out.own ⟨w.heap.size, 0, none⟩ 1 1 [.int .u8 32] rfl rfl ?c1 ?c2 (by decide) ?c3 ?c4 HUp.out.le (w.heap.size + 1) (by simp) ?_)
            | fail)
          case c1 =>
            intro j u hj
            exact new_cell w _ _ j u hj
          case c2 =>
            intro u hu
            simp only [List.mem_cons, List.not_mem_nil, or_false] at hu
            rw [hu]; rfl
          case c3 => unfold maxLen; omega
          case c4 => omega
          · intro g2 cap2 w2 hown2 hgrow2 hat2 hlt2
            have ho2 : w2.ownsRow lo 5 1 (.slice (some ⟨g2, 0, none⟩) (out.length + 1) cap2) (out ++ [32]).length (byc (out ++ [32])) := by
              rw [byc_app, List.length_append]; exact hown2
            have HW2 := keep (WB.store (w' := w2) HUp.out ho2 hgrow2)
            have HF2 := keep ((Fw.of_below (b := b) (lo := lo) ((Below.refl w.heap.size w).alloc (Nat.le_refl _) (.cells #[.int .u8 32] 5))).trans (Fw.grown (b := b) HUp.out.own hgrow2) |>.set (.slice (some ⟨g2, 0, none⟩) (out.length + 1) cap2))
            have hbk2 : Bk w2 b [.slice (some ⟨g, 0, none⟩) out.length cap] 48 := by
              have := HUp.out.bk
              unfold Bk at this ⊢
              rw [hgrow2.block b (Array.getElem?_eq_some_iff.1 this).1 (fun e => by have := (HUp.out.own.lt b e.symm).1; have := HUp.out.lt; omega)]; exact this
            have e0 := hbk2.cell 0 rfl
            have e1 := hbk2.fr 0
            have u0 := HW2.out.bk.cell 0 rfl
            clear hown2 hgrow2 hat2 hlt2 ho2 hbk2 hcx h0 f0
            obtain ⟨w2s, hw2s⟩ : ∃ w2s, w2.setCell ⟨b, 0, none⟩ (.slice (some ⟨g2, 0, none⟩) (out.length + 1) cap2) = w2s := ⟨_, rfl⟩
            rw [hw2s] at HW2 HF2 u0
            obtain ⟨i0, hi0, hz0, hz1, hz2⟩ := info_parts infoB
            go_wp2_with (first
              | (at_builtin; refine Lib.wpList_append_own_string _ rfl (.tmp 40) (.tmp 41) 46 9 rfl lo 5 i0 Tryd.underlying46 Tryd.underlying9 hi0 hz0 hz1 hz2 _ _ _ rfl HW2.out.own s rfl ?c1 ?c2 HW2.out.le ?_)
              | fail)
            case c1 => unfold maxLen; (try simp only [List.length_append, List.length_singleton]); omega
            case c2 => (try simp only [List.length_append, List.length_singleton]); omega
            · intro v' w3 hown hgrow hv'
              have hown3 : w3.ownsRow lo 5 1 v' ((out ++ [32]) ++ s.data.toList).length (byc ((out ++ [32]) ++ s.data.toList)) := by
                rw [byc_app, List.length_append, ← Lib.size_eq]; 
                refine cast ?_ hown; congr 1 <;> simp
              obtain ⟨p3, n3, c3, rfl⟩ : ∃ p n c, v' = .slice p n c := by
                rcases hown.2 with ⟨h, _⟩ | ⟨g, cap, cur, h, _⟩
                · exact ⟨_, _, _, h⟩
                · exact ⟨_, _, _, h⟩
              have HF := keep (WB.store (w' := w3) HW2.out hown3 hgrow)
              have HFw := keep ((HF2.out.trans (Fw.grown (b := b) HW2.out.own hgrow)).set (.slice p3 n3 c3))
              have hbk3 : Bk w3 b [.slice (some ⟨g2, 0, none⟩) (out.length + 1) cap2] 48 := by
                have := HW2.out.bk
                unfold Bk at this ⊢
                rw [hgrow.block b (Array.getElem?_eq_some_iff.1 this).1 (fun e => by have := (HW2.out.own.lt b e.symm).1; have := HW2.out.lt; omega)]; exact this
              have b0 := hbk3.cell 0 rfl
              have b1 := hbk3.fr 0
              clear hown hgrow hown3 hbk3 hv'
              go_wp2
              go_end0
              exact ⟨rfl, _, by rw [HA.out]; exact HF.out, HFw.out⟩
end Go.Proofs.YtkobiojndamofaaDoor.Lr
