/- The program's own reader: a block, whole. -/
import Derived.Test.YtkobiojndamofaaDoorLwBlock
namespace Go.Proofs.YtkobiojndamofaaDoor.Lr
set_option linter.unusedVariables false
open Go.ChangeShapes Go.WideShapes Go.ChangeAt Go.RowKit Lg

def blockW (w : World) (b : Nat) (a : Int) : World := ((w.alloc (.cells #[.pointer (some ⟨b, 0, none⟩)] 40)).alloc (.cells #[.int .i64 a] 3)).alloc (.cells #[.slice none 0 0] 24)
theorem blockW_bs (w : World) (b m : Nat) (a : Int) : BS w (blockW w b a) b a m (.slice none 0 0) [] := by
  unfold blockW
  have e1 : ∀ (v : World) (o : Obj), (v.alloc o).heap.size = v.heap.size + 1 := fun v o => by simp
  refine ⟨((Bk.new w [.pointer (some ⟨b, 0, none⟩)] 40).up _).up _, ?_, ?_, RowX.nil _ _⟩
  · have h := (Bk.new (w.alloc (.cells #[.pointer (some ⟨b, 0, none⟩)] 40)) [.int .i64 a] 3).up (.cells #[.slice none 0 0] 24)
    rw [e1] at h; exact h
  · have h := Bk.new ((w.alloc (.cells #[.pointer (some ⟨b, 0, none⟩)] 40)).alloc (.cells #[.int .i64 a] 3)) [.slice none 0 0] 24
    rw [e1, e1] at h; exact h
set_option maxHeartbeats 2000000 in
set_option maxRecDepth 100000 in
theorem block_rd (m : Nat) (ih : StmtOK m) (b c : Nat) (s : ByteArray) (e : Int) (w : World) (hs : s.size < 1201) (h : RB w b c s e) (ht : Tabs w) (hg : GL b ∧ GL c) :
    Calls Tryd.prog 30 #[.pointer (some ⟨b, 0, none⟩), .int .i64 (9 - (m : Int))] w fun r w' => ∃ (us : List St) (sl : Value), r = .returned sl ∧ StX w' (New w w') (m + 2) us sl ∧ Rd w' b c s.size e (uptoG (stmtG 1201 m) 1201 (words s.data.toList)) (fun a => a = us) ∧ Fs [b, c] w w' := by
  have hbl := h.lt
  have hcl := h.ltc
  have HFW : Hid (Fs [b, c] w (blockW w b (9 - (m : Int)))) := (((Fs.refl _ w).up _).up _).up _
  have HL := keep (list_rd b c w.heap.size 1201 62 #[.pointer (some ⟨w.heap.size + 1 + 1, 0, none⟩), .pointer (some ⟨w.heap.size, 0, none⟩), .pointer (some ⟨w.heap.size + 1, 0, none⟩)] (stmtG 1201 m)
    (fun W us => ∃ v es, BS w W b (9 - (m : Int)) (m + 1) v es ∧ es.map (fun x : St × Value × Value × Value => x.1) = us ∧ es.length ≤ 1200) 1200 (enters_of Tryd.func62 (by kernel_rfl) rfl)
    (fun W W' us hI hf => by
      obtain ⟨v, es, h1, h2, h3⟩ := hI
      exact ⟨v, es, h1.step hbl hcl hf, h2, h3⟩)
    (fun W s us hp hn hI hB hT => by
      obtain ⟨v, es, h1, rfl, _⟩ := hI
      rw [List.length_map] at hn
      refine (block1_rd m ih b c w W hbl hcl v es s hn hp h1 hT hg).mono ?_
      rintro r w' ⟨hr, p, v', k1, k2, k3⟩
      exact ⟨hr, p.1, ⟨v', es ++ [p], k1, by rw [List.map_append]; rfl, by rw [List.length_append, List.length_singleton]; omega⟩, k2, k3⟩)
    s (by omega) (by decide) (by omega) e (blockW w b (9 - (m : Int))) (((h.up _).up _).up _) ⟨_, [], blockW_bs w b (m + 1) _, rfl, by simp⟩ HFW.out.size (tabs_fs ht hg HFW.out hbl hcl) ⟨hg.1, hg.2, ht.gl⟩)
  have r0 := (blockW_bs w b (m + 1) (9 - (m : Int))).R.cell 0 rfl
  generalize 9 - (m : Int) = a9 at *
  clear h ht hg ih
  go_enter Tryd.func30, Tryd.ntmps30
  go_wp2_with fail
  change Calls _ _ _ (blockW w b a9) _
  refine HL.out.mono ?_
  rintro r w1 ⟨rfl, us, ⟨v, es, hB, hus, hsz⟩, hrd, hf⟩
  obtain ⟨p, n, cap, rfl⟩ := hB.row.slice
  have HB := keep hB
  have HU := keep hus
  have HR := keep hrd
  have HF := keep ((HFW.out.fh (B := w.heap.size) (Nat.le_refl _)).trans hf)
  have l0 := hB.L.cell 0 rfl
  clear hB hus hrd hf HL r0
  go_wp2
  go_ret
  refine ⟨us, .slice p n cap, rfl, ?_, HR.out, HF.out.fs⟩
  rw [← HU.out]
  exact StX.mono (fun i hi => ⟨by have := hi.1; omega, hi.2⟩) (RowX.stmts HB.out.row (by omega))
end Go.Proofs.YtkobiojndamofaaDoor.Lr
