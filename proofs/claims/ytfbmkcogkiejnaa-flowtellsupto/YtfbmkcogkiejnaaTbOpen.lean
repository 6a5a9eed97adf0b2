/- A table that came in, opened: eighteen numbers of 64 bits. -/
import Derived.Test.YtfbmkcogkiejnaaGr12
import Derived.ChangeReads
import Derived.ChangeArms
namespace Go.Proofs.Ytfbmkcogkiejnaa.Tb
set_option linter.unusedVariables false
open Go.ChangeShapes Go.WideShapes Go.ChangeAt Go.RowKit

theorem mapM_mem {α β : Type} {f : α → Option β} : ∀ {l : List α} {ys : List β}, l.mapM f = some ys → ∀ x ∈ l, ∃ y, f x = some y
  | [], _, _, x, hx => by simp at hx
  | a :: l, ys, h, x, hx => by
    rw [List.mapM_cons] at h
    simp only [bind, Option.bind_eq_some_iff, pure, Option.some.injEq] at h
    obtain ⟨y, hy, zs, hz, _⟩ := h
    rcases List.mem_cons.1 hx with e | e
    · exact ⟨y, by rw [e]; exact hy⟩
    · exact mapM_mem hz x e
theorem cells_tab : Try.prog.cellsOf 29 = 18 := by kernel_rfl
theorem cells_arr : Try.prog.cellsOf 27 = 18 := by kernel_rfl
theorem cells_int : Try.prog.cellsOf 3 = 1 := by kernel_rfl

/-- The number in a cell. -/
def numAt (cs : Array Value) (k : Nat) : Int := match cs[k]? with
  | some (.int _ n) => n
  | _ => 0
set_option maxRecDepth 100000 in
theorem open_tab {H : Type} {enc : TypeId × Value → H} {W : World} {base : Nat} {sp : Nat → Bool} {held : Bool} {v : Value} {d : DataW H} {p : List MemPlace} {r : Reach} {b0 : Nat}
    (hok : Value.okWide Try.prog W r b0 29 v) (h : DataW.Trod enc Try.prog W base sp held 29 v d p) : ∃ t, v = .agg (tabA t) ∧ I64 t ∧ ∀ k, 18 ≤ k → t k = 0 := by
  obtain ⟨cs, rfl, hsz⟩ := okWide_struct Try.underlying29 hok
  rw [cells_tab] at hsz
  have key : ∀ i, i < 18 → ∃ n : Int, cs[i]? = some (.int .i64 n) ∧ (Lit.int .i64 n).wf = true := by
    obtain ⟨fuel, hf⟩ := h
    cases fuel with
    | zero => simp [DataW.trod] at hf
    | succ m =>
      rw [DataW.trod_step] at hf
      unfold DataW.trodStep at hf
      simp only [Try.underlying29, Value.cells] at hf
      rw [if_pos (by rw [cells_tab]; simpa using hsz)] at hf
      simp only [Option.map_eq_some_iff] at hf
      obtain ⟨ys, hy, _⟩ := hf
      obtain ⟨z, hz⟩ := mapM_mem hy _ (List.mem_singleton.2 rfl)
      simp only [List.drop_zero, cells_arr] at hz
      rw [List.take_of_length_le (by simp; omega)] at hz
      cases m with
      | zero => simp [DataW.trod] at hz
      | succ m =>
        rw [DataW.trod_step] at hz
        unfold DataW.trodStep at hz
        simp only [Try.underlying27] at hz
        rw [if_pos (by rw [cells_arr]; simpa using hsz)] at hz
        simp only [Option.map_eq_some_iff] at hz
        obtain ⟨zs, hzs, _⟩ := hz
        intro i hi
        obtain ⟨u, hu⟩ := mapM_mem hzs i (by simpa using hi)
        obtain ⟨n, e1, _, e3⟩ := DataW.trod_int Try.underlying3 hu
        refine ⟨n, ?_, e3⟩
        rw [cells_int, Nat.mul_one] at e1
        have := congrArg (·[0]?) e1
        simpa using this
  have hnum : ∀ i, i < 18 → cs[i]? = some (.int .i64 (numAt cs i)) := fun i hi => by
    obtain ⟨n, hn, _⟩ := key i hi
    rw [hn]
    unfold numAt
    rw [hn]
  have hbig : ∀ k, 18 ≤ k → numAt cs k = 0 := fun k hk => by
    unfold numAt
    rw [Array.getElem?_eq_none (by omega)]
  refine ⟨numAt cs, ?_, fun k => ?_, hbig⟩
  · congr 1
    apply Array.ext_getElem?
    intro i
    by_cases hi : i < 18
    · rw [hnum i hi, tabA_at _ i hi]
    · rw [Array.getElem?_eq_none (by omega), Array.getElem?_eq_none (by simp; omega)]
  · by_cases hk : k < 18
    · obtain ⟨n, hn, hw⟩ := key k hk
      have e : numAt cs k = n := by
        have := hnum k hk
        rw [hn] at this
        injection this with e1
        injection e1 with _ e2
        exact e2.symm
      rw [e]
      exact bounds_i64 hw
    · rw [hbig k (by omega)]; omega
end Go.Proofs.Ytfbmkcogkiejnaa.Tb
