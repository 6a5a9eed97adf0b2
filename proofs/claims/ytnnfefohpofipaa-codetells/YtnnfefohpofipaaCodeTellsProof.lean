/-
  Whatever instruction and whatever bytes CodeTells is called with, it returns true and the arguments read as they did. No condition.
-/
import Derived.Test.YtnnfefohpofipaaRows
import Derived.Test.YtnnfefohpofipaaCdTells
import Derived.WalkKit
import Derived.ProofKit
import Derived.OpenShut
import Derived.ShutString
namespace Go.Proofs.Ytnnfefohpofipaa.ctells
open Go.ChangeShapes Go.WideShapes Go.ChangeAt Go.RowKit Go.WideMaps Go.WideElems
set_option linter.unusedVariables false

theorem laidOut : laidOutB Try.prog = true := by kernel_rfl
theorem own : ownKnob Try.prog.godebug = none := by kernel_rfl
theorem add_flat {a : Addr} (h : a.spot = none) (k : Nat) : a.add k = ⟨a.block, a.off + k, none⟩ := by
  obtain ⟨b, o, s⟩ := a
  dsimp only at h
  subst h
  by_cases hk : k = 0
  · subst hk; simp [Addr.add]
  · simp [Addr.add, hk]
theorem addr_eta {a : Addr} (h : a.spot = none) : a = ⟨a.block, a.off, none⟩ := by
  obtain ⟨b, o, s⟩ := a
  dsimp only at h
  subst h; rfl
theorem spot_none {W : World} {a : Addr} {v : Value} (h : W.cell? (a.add 0) = some v) : a.spot = none := by
  have := World.cell?_spot h
  rw [Addr.add, if_pos rfl] at this
  exact this
theorem cells_byte : Try.prog.cellsOf 5 = 1 := by kernel_rfl
theorem cells_int : Try.prog.cellsOf 3 = 1 := by kernel_rfl
theorem cells_ix : Try.prog.cellsOf 23 = 6 := by kernel_rfl
theorem ix_under : Try.prog.underlying 23 = some (.struct (Try.prog.fieldsOf 23)) := by kernel_rfl
theorem drop_one (cs : List Value) (j : Nat) (v : Value) (h : (cs.drop j).take 1 = [v]) : cs[j]? = some v := by
  have : ((cs.drop j).take 1)[0]? = some v := by rw [h]; rfl
  rw [List.getElem?_take_of_lt (by omega), List.getElem?_drop, Nat.add_zero] at this
  exact this
theorem ix_fields : (Try.prog.fieldsOf 23)[0]?.map (fun f => (f.type, f.offset)) = some (3, 0) ∧ (Try.prog.fieldsOf 23)[1]?.map (fun f => (f.type, f.offset)) = some (3, 1) ∧ (Try.prog.fieldsOf 23)[2]?.map (fun f => (f.type, f.offset)) = some (3, 2) ∧ (Try.prog.fieldsOf 23)[3]?.map (fun f => (f.type, f.offset)) = some (3, 3) ∧ (Try.prog.fieldsOf 23)[4]?.map (fun f => (f.type, f.offset)) = some (3, 4) ∧ (Try.prog.fieldsOf 23)[5]?.map (fun f => (f.type, f.offset)) = some (3, 5) := ⟨by kernel_rfl, by kernel_rfl, by kernel_rfl, by kernel_rfl, by kernel_rfl, by kernel_rfl⟩
theorem open_ix {H : Type} {enc : TypeId × Value → H} {W : World} {fuel : Nat} {cs : List Value} {y : DataW H × List MemPlace} (h : DataW.trod enc Try.prog W 0 (fun _ => true) true fuel 23 cs = some y) : ∃ i : Cd.Cx, cs[0]? = some (.int .i64 i.op) ∧ cs[1]? = some (.int .i64 i.d) ∧ cs[2]? = some (.int .i64 i.a) ∧ cs[3]? = some (.int .i64 i.b) ∧ cs[4]? = some (.int .i64 i.c) ∧ cs[5]? = some (.int .i64 i.imm) := by
  obtain ⟨xs, n, _, _, hcl, hxl, hf⟩ := DataW.trod_struct ix_under h
  obtain ⟨f0, f1, f2, f3, f4, f5⟩ := ix_fields
  have hone : ∀ j, (Try.prog.fieldsOf 23)[j]?.map (fun f : Field => (f.type, f.offset)) = some (3, j) → ∃ z : Int, cs[j]? = some (.int .i64 z) := fun j hfd => by
    rw [Option.map_eq_some_iff] at hfd
    obtain ⟨f, hf1, hf2⟩ := hfd
    injection hf2 with e1 e2
    have hjf := (Array.getElem?_eq_some_iff.1 hf1).1
    have hx := hf j f hf1
    rw [e1, e2, cells_int, List.getElem?_eq_getElem (by omega)] at hx
    obtain ⟨z, hz, _⟩ := DataW.trod_int Try.underlying3 hx
    exact ⟨z, drop_one _ _ _ hz⟩
  obtain ⟨z0, h0⟩ := hone 0 f0
  obtain ⟨z1, h1⟩ := hone 1 f1
  obtain ⟨z2, h2⟩ := hone 2 f2
  obtain ⟨z3, h3⟩ := hone 3 f3
  obtain ⟨z4, h4⟩ := hone 4 f4
  obtain ⟨z5, h5⟩ := hone 5 f5
  exact ⟨⟨z0, z1, z2, z3, z4, z5⟩, h0, h1, h2, h3, h4, h5⟩
set_option maxRecDepth 100000 in
theorem open_instr {H : Type} {enc : TypeId × Value → H} {W : World} {base : Nat} {v : Value} {d : DataW H} {p : List MemPlace} (hval : Value.okWide Try.prog W .any base 23 v) (h : DataW.Trod enc Try.prog W 0 (fun _ => true) true 23 v d p) : ∃ i, v = .agg (Cd.cxA i) := by
  obtain ⟨cs, rfl, hsz⟩ := okWide_struct ix_under hval
  rw [cells_ix] at hsz
  obtain ⟨fuel, hf⟩ := h
  obtain ⟨i, h0, h1, h2, h3, h4, h5⟩ := open_ix hf
  simp only [Value.cells] at h0 h1 h2 h3 h4 h5
  refine ⟨i, ?_⟩
  have e : cs = Cd.cxA i := by
    apply Array.toList_inj.1
    apply List.ext_getElem?
    intro j
    match j with
    | 0 => rw [h0]; rfl
    | 1 => rw [h1]; rfl
    | 2 => rw [h2]; rfl
    | 3 => rw [h3]; rfl
    | 4 => rw [h4]; rfl
    | 5 => rw [h5]; rfl
    | j + 6 => rw [List.getElem?_eq_none (by simp; omega), List.getElem?_eq_none (by simp [Cd.cxA])]
  rw [e]
set_option maxRecDepth 100000 in
theorem open_bytes {H : Type} {enc : TypeId × Value → H} {W : World} {base : Nat} {v : Value} {d : DataW H} {p : List MemPlace} (hval : Value.okWide Try.prog W .any base 24 v) (h : DataW.Trod enc Try.prog W 0 (fun _ => true) true 24 v d p) : ∃ l, Cd.BysQ W W.heap.size l v := by
  obtain ⟨a0, len0, cap0, rfl⟩ := okWide_slice Try.underlying24 hval
  obtain ⟨fuel, hf⟩ := h
  rcases open_ints Try.underlying24 Try.underlying5 cells_byte hf with ⟨hcs, _⟩ | ⟨a, len, cap, zs, hcs, _, hl, hm, hz, hx, hcell, hwf⟩
  · simp only [Value.cells, List.cons.injEq, and_true] at hcs
    rw [hcs]
    exact ⟨[], ⟨_, _, rfl⟩, fun h8 => by simp at h8⟩
  · simp only [Value.cells, List.cons.injEq, and_true] at hcs
    rw [hcs]
    simp only [if_true] at hz
    have hlt : (zs.take len).length = len := by rw [List.length_take]; omega
    refine ⟨zs.take len, ⟨some a, cap, by rw [hlt]⟩, fun h8 => ?_⟩
    refine ⟨some a, cap, by rw [hlt], by rw [hlt]; exact hl, fun x hx' => byte_of_wf (hwf x (List.mem_of_mem_take hx')), (fun h => by cases h), fun q hq => ?_⟩
    cases hq
    have hs := spot_none (hcell 0 (by omega))
    have h0 := hcell 0 (by omega)
    rw [add_flat hs] at h0
    refine ⟨a.block, a.off, addr_eta hs, Lr.lt_of_cell h0, fun j x hj => ?_⟩
    have hjl := (List.getElem?_eq_some_iff.1 hj).1
    rw [hlt] at hjl
    rw [List.getElem?_take_of_lt hjl] at hj
    have h1 := hcell j (by omega)
    rw [add_flat hs] at h1
    rw [h1, List.getD_eq_getElem?_getD, hj]; rfl

set_option maxRecDepth 100000 in
theorem contract (H : Type) (enc : TypeId × Value → H) (W : World) (base : Nat) (args : Array Value) (ds gs : List (DataW H)) (before : List MemPlace)
    (hval0 : ∀ (j : Nat) t v, Try.f3.params[j]? = some t → args[j]? = some v → Value.okWide Try.prog W .any base t v)
    (hW : DataW.Whole enc Try.prog Try.f3.params.toList Rows.codeTellsSpec.vars false W args.toList ds gs before) :
    Calls Try.prog 3 args W fun e W' => ∃ v, e = .returned v ∧ Rows.codeTellsSpec.post enc Try.prog Try.f3 false true false false W args v W' := by
  have hval : ∀ (j : Nat) t v, Try.f3.params[j]? = some t → args[j]? = some v → Value.okWide Try.prog W .any base t v := hval0
  have hW' := hW
  obtain ⟨p, q, hA0, hV, rfl, hfz, hnd⟩ := hW
  have hA : DataW.TrodAll enc Try.prog W 0 (fun _ => true) true Try.f3.params.toList args.toList ds p := hA0
  rw [Try.params3] at hA hval
  obtain ⟨v0, vs0, d0, ds0, p0, q0, hargs, rfl, rfl, h0, r0⟩ := trodAll_cons hA
  obtain ⟨v1, vs1, d1, ds1, p1, q1, rfl, rfl, rfl, h1, r1⟩ := trodAll_cons r0
  obtain ⟨rfl, rfl, rfl⟩ := trodAll_nil r1
  obtain rfl : args = #[v0, v1] := by cases args; simp_all
  obtain ⟨rfl, rfl⟩ := trodVars_none hV
  have hlt0 : ∀ x ∈ p0, x.block < W.heap.size := fun x hx => hW'.lt x (by simp [hx])
  have hlt1 : ∀ x ∈ p1, x.block < W.heap.size := fun x hx => hW'.lt x (by simp [hx])
  obtain ⟨i, rfl⟩ := open_instr (hval 0 23 v0 rfl rfl) h0
  obtain ⟨l, hl⟩ := open_bytes (hval 1 24 v1 rfl rfl) h1
  clear hA0 hval0
  refine (Cd.law_any i l v1 W hl).mono fun e W' ⟨he, hnx⟩ => ?_
  subst he
  refine ⟨_, rfl, _, _, _, [], p0 ++ (p1 ++ []), [], hW', ?_, ?_, rfl, hnx.frame _, fun h => by cases h⟩
  · exact trodAll_cons_mk (shut_bool Try.underlying4 _) trodAll_mk0
  · exact (trodAll_cons_mk (Below.trod laidOut (by kernel_rfl) (of_decide_eq_true (by kernel_rfl)) h0 hnx hlt0) (trodAll_cons_mk (Below.trod laidOut (by kernel_rfl) (of_decide_eq_true (by kernel_rfl)) h1 hnx hlt1) trodAll_mk0))

set_option maxRecDepth 100000 in
theorem lifted (os : Os) (started : os.Started) (H : Type) (enc : TypeId × Value → H) :
    ReturnsInHanded {} Try.checked os 3 .any (Rows.codeTellsSpec.pre6 enc Try.prog Try.f3 Rows.codeTellsRow.domain false) (Rows.codeTellsSpec.post enc Try.prog Try.f3 false true false false) := by
  refine returnsInHanded_of_change (C := Try.checked) own started (by kernel_rfl) Try.func3
    (ChangeSpec.witness6 (enc := enc) (C := Try.checked) false ⟨#[], #[.agg #[.int .i64 0, .int .i64 0, .int .i64 0, .int .i64 0, .int .i64 0, .int .i64 0], .slice none 0 0], []⟩ 8 (by kernel_rfl) (by kernel_rfl) (by kernel_rfl) (by kernel_rfl)) ?_
  intro W base args ds gs before hval hW _ _
  exact contract H enc W base args ds gs before hval hW

theorem over : Rows.codeTellsRow.holds Try.pinned (OpenSpec.ofChange Rows.codeTellsSpec) :=
  OpenClaim.holds_of_wide 3 Try.f3 rfl rfl rfl rfl rfl rfl rfl ⟨rfl, rfl, rfl, rfl, rfl⟩ rfl rfl rfl rfl rfl (by kernel_rfl) Try.func3 (by kernel_rfl)
    (of_decide_eq_true (by kernel_rfl)) (by unfold Func.isWrapper; first | (rw [if_pos (by decide +kernel)]; kernel_rfl) | (rw [if_neg (by decide +kernel)]; exact ⟨rfl, rfl⟩))
    (fun os started H enc _ => lifted os started H enc)
end Go.Proofs.Ytnnfefohpofipaa.ctells
namespace Go.Proofs.Ytnnfefohpofipaa

/-- The statement. -/
theorem code_tells : Rows.CodeTellsSaid := ctells.over
#print axioms code_tells
end Go.Proofs.Ytnnfefohpofipaa
