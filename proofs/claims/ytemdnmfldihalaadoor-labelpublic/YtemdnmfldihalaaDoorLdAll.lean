/- The document's own reader: all parameters, all arrays. Written by tools/gen_dall.py. -/
import Derived.Test.YtemdnmfldihalaaDoorLdPar
import Derived.Test.YtemdnmfldihalaaDoorLdArr
namespace Go.Proofs.YtemdnmfldihalaaDoor.Lr
set_option linter.unusedVariables false
open Go.ChangeShapes Go.WideShapes Go.ChangeAt Go.RowKit Lg Rf

theorem params_all (b R Fb lo : Nat) (hR : b < R) (hF : R < Fb) (hl : Fb < lo) (pu py : Option Addr) (nu cu ny cy : Nat) (s : ByteArray) (hs : s.size ≤ 1200) (e : Int) (w0 w : World) (h : PB w b s e) (hv : VS w0 w b R Fb lo [.slice none 0 0, .slice pu nu cu, .slice py ny cy] (.slice none 0 0) []) (hz : lo ≤ w.heap.size) :
    Calls Tryd.prog 13 #[.pointer (some ⟨b, 0, none⟩), .func (.func 14) #[] #[.pointer (some ⟨R, 0, none⟩), .pointer (some ⟨Fb, 0, none⟩)]] w fun r w' => r = .returned (.tuple #[]) ∧ ∃ (us : List Vr) (v : Value), us.length ≤ 2401 ∧ VS w0 w' b R Fb lo [v, .slice pu nu cu, .slice py ny cy] v us ∧ Rd w' b s.size e (uptoT varT ((words s.data.toList).length + 1) (words s.data.toList)) (fun x => x = us) ∧ w.heap.size ≤ w'.heap.size := by
  refine (all_rd b 0 14 #[.pointer (some ⟨R, 0, none⟩), .pointer (some ⟨Fb, 0, none⟩)] varT (fun W us => (∃ v, VS w0 W b R Fb lo [v, .slice pu nu cu, .slice py ny cy] v us) ∧ lo ≤ W.heap.size) 2400 1200 (enters_of Tryd.func14 (by kernel_rfl) rfl)
    (fun W W' us hI hf => by
      obtain ⟨⟨v, h1⟩, h2⟩ := hI
      exact ⟨⟨v, h1.step hR hF hl h2 hf⟩, Nat.le_trans h2 hf.size⟩)
    var_less
    (fun W s us hp hn hu hI hB => by
      obtain ⟨⟨v, h1⟩, h2⟩ := hI
      refine (param_rd b R Fb lo hR hF hl pu py nu cu ny cy v us s hn hu w0 W hp h1 h2).mono ?_
      rintro r w' ⟨hr, a, v', k1, k2, k3⟩
      exact ⟨hr, a, ⟨⟨v', k1⟩, Nat.le_trans h2 k3⟩, k2, ⟨k1.fh.os.trans h1.fh.os.symm, k1.fh.tape.trans h1.fh.tape.symm, k1.fh.output.trans h1.fh.output.symm, k3, fun i hi _ => absurd hi (by omega)⟩⟩)
    s hs (by decide) (size_words s hs) e w h ⟨⟨_, hv⟩, hz⟩ (Nat.zero_le _)).mono ?_
  rintro r w' ⟨hr, us, h1, ⟨⟨v, h2⟩, h3⟩, h4, h5⟩
  exact ⟨hr, us, v, h1, h2, h4, h5.size⟩
theorem arrays_all (b R Fb lo : Nat) (hR : b < R) (hF : R < Fb) (hl : Fb < lo) (pu py : Option Addr) (nu cu ny cy : Nat) (s : ByteArray) (hs : s.size ≤ 1200) (e : Int) (w0 w : World) (h : PB w b s e) (hg : GL b) (htf : ∀ W', Fh lo [b, Fb] w0 W' → Tabs W') (hv : VS w0 w b R Fb lo [.slice pu nu cu, .slice none 0 0, .slice py ny cy] (.slice none 0 0) []) (hz : lo ≤ w.heap.size) :
    Calls Tryd.prog 13 #[.pointer (some ⟨b, 0, none⟩), .func (.func 17) #[] #[.pointer (some ⟨R, 0, none⟩), .pointer (some ⟨Fb, 0, none⟩)]] w fun r w' => r = .returned (.tuple #[]) ∧ ∃ (us : List Vr) (v : Value), us.length ≤ 2401 ∧ VS w0 w' b R Fb lo [.slice pu nu cu, v, .slice py ny cy] v us ∧ Rd w' b s.size e (uptoT arrT ((words s.data.toList).length + 1) (words s.data.toList)) (fun x => x = us) ∧ w.heap.size ≤ w'.heap.size := by
  refine (all_rd b 0 17 #[.pointer (some ⟨R, 0, none⟩), .pointer (some ⟨Fb, 0, none⟩)] arrT (fun W us => (∃ v, VS w0 W b R Fb lo [.slice pu nu cu, v, .slice py ny cy] v us) ∧ lo ≤ W.heap.size) 2400 1200 (enters_of Tryd.func17 (by kernel_rfl) rfl)
    (fun W W' us hI hf => by
      obtain ⟨⟨v, h1⟩, h2⟩ := hI
      exact ⟨⟨v, h1.step hR hF hl h2 hf⟩, Nat.le_trans h2 hf.size⟩)
    arr_less
    (fun W s us hp hn hu hI hB => by
      obtain ⟨⟨v, h1⟩, h2⟩ := hI
      refine (array_rd b R Fb lo hR hF hl pu py nu cu ny cy v us s hn hu w0 W hp hg htf h1 h2).mono ?_
      rintro r w' ⟨hr, a, v', k1, k2, k3⟩
      exact ⟨hr, a, ⟨⟨v', k1⟩, Nat.le_trans h2 k3⟩, k2, ⟨k1.fh.os.trans h1.fh.os.symm, k1.fh.tape.trans h1.fh.tape.symm, k1.fh.output.trans h1.fh.output.symm, k3, fun i hi _ => absurd hi (by omega)⟩⟩)
    s hs (by decide) (size_words s hs) e w h ⟨⟨_, hv⟩, hz⟩ (Nat.zero_le _)).mono ?_
  rintro r w' ⟨hr, us, h1, ⟨⟨v, h2⟩, h3⟩, h4, h5⟩
  exact ⟨hr, us, v, h1, h2, h4, h5.size⟩
/-- What Parse answers, by words. -/
def nilFn : Lg.Fn := ⟨[], [], []⟩
def ofRes (x : Res Lg.Fn) : Lg.Fn × Int := match x with
  | .error x => (nilFn, x)
  | .ok (f, _) => (f, 0)
def parseT (l : List UInt8) : Lg.Fn × Int := if 1200 < l.length then (nilFn, 4) else ofRes (fnT (words l))
end Go.Proofs.YtemdnmfldihalaaDoor.Lr
