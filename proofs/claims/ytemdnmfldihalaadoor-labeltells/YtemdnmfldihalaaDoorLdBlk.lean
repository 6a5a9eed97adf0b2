/- The document's own reader: statements up to a bracket. -/
import Derived.Test.YtemdnmfldihalaaDoorLdBlock
import Derived.Test.YtemdnmfldihalaaDoorLgAll
namespace Go.Proofs.YtemdnmfldihalaaDoor.Lr
set_option linter.unusedVariables false
open Go.ChangeShapes Go.WideShapes Go.ChangeAt Go.RowKit Lg Rf

def blockW (w : World) (b : Nat) (a : Int) : World := ((w.alloc (.cells #[.pointer (some ⟨b, 0, none⟩)] 37)).alloc (.cells #[.int .i64 a] 3)).alloc (.cells #[.slice none 0 0] 23)
theorem blockW_bs (w : World) (b m : Nat) (a : Int) : BS w (blockW w b a) b a m (.slice none 0 0) [] := by
  unfold blockW
  have e1 : ∀ (v : World) (o : Obj), (v.alloc o).heap.size = v.heap.size + 1 := fun v o => by simp
  refine ⟨((Bk.new w [.pointer (some ⟨b, 0, none⟩)] 37).up _).up _, ?_, ?_, RowX.nil _ _⟩
  · have h := (Bk.new (w.alloc (.cells #[.pointer (some ⟨b, 0, none⟩)] 37)) [.int .i64 a] 3).up (.cells #[.slice none 0 0] 23)
    rw [e1] at h; exact h
  · have h := Bk.new ((w.alloc (.cells #[.pointer (some ⟨b, 0, none⟩)] 37)).alloc (.cells #[.int .i64 a] 3)) [.slice none 0 0] 23
    rw [e1, e1] at h; exact h
theorem size_words (s : ByteArray) (h : s.size ≤ 1200) : (words s.data.toList).length ≤ 2400 := by
  have := words_len s.data.toList
  rw [← Lib.size_eq] at this
  omega
set_option maxHeartbeats 2000000 in
set_option maxRecDepth 100000 in
theorem stmts_rd (m : Nat) (ih : StmtOK m) (b : Nat) (s : ByteArray) (e : Int) (w : World) (hs : s.size ≤ 1200) (h : PB w b s e) (ht : Tabs w) (hg : GL b) :
    Calls Tryd.prog 19 #[.pointer (some ⟨b, 0, none⟩), .int .i64 (9 - (m : Int))] w fun r w' => ∃ (us : List St) (sl : Value), r = .returned sl ∧ StX w' (New w w') (m + 2) us sl ∧ Rd w' b s.size e (uptoT (stmtT m) ((words s.data.toList).length + 1) (words s.data.toList)) (fun a => a = us) ∧ Fs [b] w w' := by
  have hbl := h.lt
  have HFW : Hid (Fs [b] w (blockW w b (9 - (m : Int)))) := (((Fs.refl _ w).up _).up _).up _
  have HL := keep (all_rd b w.heap.size 29 #[.pointer (some ⟨w.heap.size + 1 + 1, 0, none⟩), .pointer (some ⟨w.heap.size, 0, none⟩), .pointer (some ⟨w.heap.size + 1, 0, none⟩)] (stmtT m)
    (fun W us => (∃ v es, BS w W b (9 - (m : Int)) (m + 1) v es ∧ es.map (fun x : St × Value × Value × Value => x.1) = us) ∧ Fh w.heap.size [b] w W) 2400 1200 (enters_of Tryd.func29 (by kernel_rfl) rfl)
    (fun W W' us hI hf => by
      obtain ⟨⟨v, es, h1, h2⟩, h3⟩ := hI
      exact ⟨⟨v, es, h1.step hbl hf, h2⟩, h3.trans (hf.fh h3.size)⟩)
    (stmt_less m)
    (fun W s us hp hn hu hI hB => by
      obtain ⟨⟨v, es, h1, rfl⟩, h3⟩ := hI
      rw [List.length_map] at hu
      refine (stmts1_rd m ih b w W hbl v es s hn hu hp h1 (tabs_fs ht hg h3.fs hbl) hg).mono ?_
      rintro r w' ⟨hr, p, v', k1, k2, k3⟩
      exact ⟨hr, p.1, ⟨⟨v', es ++ [p], k1, by rw [List.map_append]; rfl⟩, h3.trans k3⟩, k2, k3⟩)
    s hs (by decide) (size_words s hs) e (blockW w b (9 - (m : Int))) (((h.up _).up _).up _) ⟨⟨_, [], blockW_bs w b (m + 1) _, rfl⟩, HFW.out.fh (Nat.le_refl _)⟩ HFW.out.size)
  have r0 := (blockW_bs w b (m + 1) (9 - (m : Int))).R.cell 0 rfl
  generalize 9 - (m : Int) = a9 at *
  clear h ht hg ih
  go_enter Tryd.func19, Tryd.ntmps19
  go_wp2_with fail
  change Calls _ _ _ (blockW w b a9) _
  refine HL.out.mono ?_
  rintro r w1 ⟨rfl, us, hul, ⟨⟨v, es, hB, hus⟩, hfw⟩, hrd, hf⟩
  obtain ⟨p, n, cap, rfl⟩ := hB.row.slice
  have HB := keep hB
  have HU := keep hus
  have HR := keep hrd
  have HF := keep hfw
  have hel : es.length ≤ 2401 := by rw [← hus, List.length_map] at hul; exact hul
  have l0 := hB.L.cell 0 rfl
  clear hB hus hrd hf HL r0 hfw hul
  go_wp2
  go_ret
  refine ⟨us, .slice p n cap, rfl, ?_, HR.out, HF.out.fs⟩
  rw [← HU.out]
  exact StX.mono (fun i hi => ⟨by have := hi.1; omega, hi.2⟩) (RowX.stmts HB.out.row (by omega))
end Go.Proofs.YtemdnmfldihalaaDoor.Lr
