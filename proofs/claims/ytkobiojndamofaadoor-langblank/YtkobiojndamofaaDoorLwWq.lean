/- The program's own Print. -/
import Derived.Test.YtkobiojndamofaaDoorLwWp
import Derived.Laws.IdiomStrings
namespace Go.Proofs.YtkobiojndamofaaDoor.Lr
set_option linter.unusedVariables false
set_option linter.unusedSimpArgs false
open Go.ChangeShapes Go.WideShapes Go.ChangeAt Go.RowKit Lg

/-- What is written, as a text. -/
theorem WB.text {w : World} {b lo : Nat} {v : Value} {out : List UInt8} (h : WB w b lo v out) (hne : ¬ out = []) :
    ∃ g cap, v = .slice (some ⟨g, 0, none⟩) out.length cap ∧ (convert 46 9 (.slice (some ⟨g, 0, none⟩) out.length cap)).run Tryd.prog w = .ok (.string ⟨out.toArray⟩) w := by
  rcases h.own.2 with ⟨hv, hn⟩ | ⟨g, cap, cur, hv, _⟩
  · exact absurd (List.length_eq_zero_iff.1 hn) hne
  · refine ⟨g, cap, hv, ?_⟩
    have ho := h.own
    rw [hv] at ho
    refine run_convert_bytes_back w 46 9 5 ⟨g, 0, none⟩ cap out Tryd.underlying46 Tryd.underlying5 Tryd.underlying9 (fun j hj => ?_)
    have he : (⟨g, 0, none⟩ : Addr).add j = ⟨g, j, none⟩ := by
      simp [Addr.add]
      intro h; omega
    rw [he, ho.cellAt j (by omega)]
    unfold byc
    rw [List.getElem?_map, List.getElem?_eq_getElem hj]; rfl

theorem toksF_some (f : Lg.Fn) : ¬ addsW [] (toksF f) = [] := by
  rw [toksF_rest, adds_cons]
  intro e
  have h1 := adds_le (restF f ++ [[41]]) (addW [] [40])
  have h2 := add_ge [] [40]
  rw [e] at h1
  have h3 : ([] : List UInt8).length + [(40 : UInt8)].length = 1 := rfl
  have h4 : ([] : List UInt8).length = 0 := rfl
  omega

set_option maxHeartbeats 8000000 in
set_option maxRecDepth 100000 in
theorem print_any (B : Nat) (hg : GL B) (f : Lg.Fn) (hwf : wfF f) (va : Value) (w : World) (hB : B ≤ w.heap.size) (hx : FnIs w B 10 11 f va) (ht : Tabs w) (hl : (addsW [] (toksF f)).length ≤ 1000000) :
    Calls Tryd.prog 7 #[va] w fun r w' => r = .returned (.string ⟨(addsW [] (toksF f)).toArray⟩) ∧ Below w.heap.size w w' := by
  obtain ⟨s1, s2, s3, rfl, hx1, hx2, hx3⟩ := hx
  obtain ⟨p1, n1, c1, rfl⟩ := hx1.slice
  obtain ⟨p2, n2, c2, rfl⟩ := hx2.slice
  obtain ⟨p3, n3, c3, rfl⟩ := hx3.slice
  obtain ⟨w1, hw1⟩ : ∃ w1, w.alloc (.cells #[.slice p1 n1 c1, .slice p2 n2 c2, .slice p3 n3 c3] 26) = w1 := ⟨_, rfl⟩
  obtain ⟨w2, hw2⟩ : ∃ w2, w1.alloc (.cells #[.slice none 0 0] 48) = w2 := ⟨_, rfl⟩
  have hs1 : w1.heap.size = w.heap.size + 1 := by rw [← hw1]; simp
  have hs2 : w2.heap.size = w.heap.size + 1 + 1 := by rw [← hw2]; simp; omega
  have hb2 : Below w.heap.size w w2 := by rw [← hw2, ← hw1]; exact ((Below.refl w.heap.size w).alloc (Nat.le_refl _) _).alloc (by simp) _
  have hF : Bk w2 w.heap.size [.slice p1 n1 c1, .slice p2 n2 c2, .slice p3 n3 c3] 26 := by
    rw [← hw2, ← hw1]; exact (Bk.new w _ _).up _
  have hWr : Bk w2 (w.heap.size + 1) [.slice none 0 0] 48 := by
    rw [← hs1, ← hw2]; exact Bk.new w1 _ _
  have hO : WO w2 (w.heap.size + 1) (w.heap.size + 1 + 1) [] := ⟨.slice none 0 0, hWr, ⟨rfl, .inl ⟨rfl, rfl⟩⟩, by omega, by omega⟩
  have hbB := hb2.mono hB
  have HC := keep (program_wr B (w.heap.size + 1) (w.heap.size + 1 + 1) (by omega) hg f hwf _ _ _ [] w2 (hx1.below hbB) (hx2.below hbB) (hx3.below hbB) hO (ht.up hb2) hl)
  have HNe := keep (toksF_some f)
  have HB2 := keep hb2
  have a0 := hF.cell 0 rfl
  have a1 := hF.cell 1 rfl
  have a2 := hF.cell 2 rfl
  generalize addsW [] (toksF f) = T at *
  clear hx1 hx2 hx3 ht hl hwf hg hbB hO hWr hF hb2
  go_enter Tryd.func7, Tryd.ntmps7
  go_wp2_with fail
  refine HC.out.mono ?_
  rintro r w3 ⟨rfl, ⟨v, h3⟩, hf⟩
  obtain ⟨g, cap, rfl, hconv⟩ := h3.text HNe.out
  have z0 := h3.bk.cell 0 rfl
  have HF : Hid (Below w.heap.size w w3) := HB2.out.trans (hf.below (B := w.heap.size) (by omega) (by omega) (by omega))
  clear hf h3 HC a0 a1 a2
  go_wp2
  go_ret
  exact ⟨rfl, HF.out⟩
end Go.Proofs.YtkobiojndamofaaDoor.Lr
