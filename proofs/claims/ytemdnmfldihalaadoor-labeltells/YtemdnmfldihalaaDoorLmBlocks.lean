/- The document's Block: its expressions, one by one. Written by tools/gen_msw.py. The document's Block: what comes ahead of its kind. Written by tools/gen_msw.py. The document's Block: what its name is, which kind it is. Written by tools/gen_msw.py. The document's Block: one statement, whole. Written by tools/gen_msw.py. The document's Block: its map of names is copied. Written by tools/gen_msw.py. The document's Block: the whole. Written by tools/gen_msw.py. -/
import Derived.Test.YtemdnmfldihalaaDoorLmKinds
namespace Go.Proofs.YtemdnmfldihalaaDoor.Lr
set_option linter.unusedVariables false
set_option linter.unusedSimpArgs false
open Go.ChangeShapes Go.WideShapes Go.ChangeAt Go.RowKit Go.Maps Go.WideMaps Lg

theorem infoB : (Tryd.prog.info? 4).map (fun i => (i.zero, i.size, i.bytes)) = some (some (.bool false), 1, 1) := by kernel_rfl
theorem row_below {w w' : World} {base : Nat} {e : TypeId} {size : Nat} {v : Value} {n : Nat} {xs : List Value} (h : w.ownsRow base e size v n xs) (hb : Below w.heap.size w w') : w'.ownsRow base e size v n xs :=
  h.kept (row := none) ⟨hb.os, hb.tape, hb.output, hb.size, fun k hk _ => hb.block k hk⟩ (by cases v.ownBlock <;> simp)
/-- Expressions, one by one: is each secret? -/
def eachK (f : Ex → Except Int Bool) : List Ex → Except Int (List Bool)
  | [] => .ok []
  | a :: l => thenK (f a) fun b => thenK (eachK f l) fun bs => .ok (b :: bs)
noncomputable def bArg : Code := rndC (inC (sndC (fstC (sndC (sndC (sndC (sndC bOne)))))))
/-- The frame while expressions are gone over. -/
structure FG (a : Act) (k bI j : Nat) (dark : Bool) (p : Option Addr) (n c bT : Nat) (sv : Value) (p1 : Option Addr) (n1 c1 i : Nat) : Prop where
  fa : FA a k bI j dark p n c bT sv
  s58 : slot a 58 = .slice p1 n1 c1
  s59 : slot a 59 = .int .i64 (n1 : Int)
  s60 : slot a 60 = .int .i64 (i : Int)
set_option maxRecDepth 100000 in
theorem FG.opens {a : Act} {k bI j : Nat} {dark : Bool} {p : Option Addr} {n c bT : Nat} {sv : Value} {p1 : Option Addr} {n1 c1 i : Nat} (h : FG a k bI j dark p n c bT sv p1 n1 c1 i) : ∃ g : Nat → Value, a = ⟨#[.pointer (some ⟨k, 0, none⟩), g 1, g 2, .bool dark, g 4, g 5, g 6, g 7, g 8, .map (some bI), g 10, g 11, g 12, .pointer (some ⟨bT, 0, none⟩), sv, g 15, g 16, g 17, g 18, g 19, g 20, g 21, g 22, g 23, g 24, g 25, g 26, g 27, g 28, g 29, g 30, g 31, g 32, g 33, g 34, g 35, g 36, g 37, g 38, .slice p n c, .int .i64 (n : Int), .int .i64 (j : Int), g 42, g 43, g 44, g 45, g 46, g 47, g 48, g 49, g 50, g 51, g 52, g 53, g 54, g 55, g 56, g 57, .slice p1 n1 c1, .int .i64 (n1 : Int), .int .i64 (i : Int), g 61, g 62, g 63, g 64, g 65, g 66, g 67, g 68, g 69, g 70, g 71, g 72, g 73, g 74, g 75, g 76, g 77, g 78, g 79, g 80, g 81, g 82, g 83, g 84, g 85, g 86, g 87, g 88, g 89, g 90, g 91, g 92, g 93, g 94, g 95, g 96, g 97, g 98, g 99, g 100, g 101, g 102, g 103, g 104, g 105, g 106, g 107, g 108, g 109, g 110, g 111, g 112, g 113, g 114, g 115, g 116, g 117, g 118, g 119, g 120, g 121, g 122, g 123, g 124, g 125, g 126, g 127, g 128, g 129, g 130, g 131, g 132, g 133, g 134, g 135, g 136, g 137, g 138, g 139, g 140, g 141, g 142, g 143, g 144, g 145, g 146, g 147, g 148, g 149, g 150, g 151, g 152, g 153, g 154, g 155, g 156, g 157, g 158, g 159, g 160, g 161, g 162, g 163, g 164, g 165, g 166, g 167, g 168, g 169, g 170, g 171, g 172, g 173, g 174, g 175, g 176, g 177, g 178, g 179, g 180, g 181, g 182, g 183, g 184, g 185, g 186, g 187, g 188, g 189, g 190, g 191, g 192, g 193, g 194, g 195, g 196, g 197, g 198, g 199, g 200, g 201, g 202, g 203, g 204, g 205, g 206, g 207, g 208, g 209, g 210, g 211, g 212, g 213, g 214, g 215, g 216, g 217, g 218, g 219, g 220, g 221, g 222, g 223, g 224, g 225, g 226, g 227, g 228, g 229, g 230, g 231, g 232, g 233, g 234, g 235, g 236, g 237, g 238, g 239, g 240, g 241, g 242, g 243, g 244, g 245, g 246, g 247, g 248, g 249], []⟩ := by
  refine ⟨slot a, ?_⟩
  have e := h.fa.fb.wide.opens
  rw [h.fa.fb.s0, h.fa.fb.s3, h.fa.fb.s9, h.fa.s13, h.fa.s14, h.fa.fb.s39, h.fa.fb.s40, h.fa.fb.s41, h.s58, h.s59, h.s60] at e
  exact e
/-- What comes of one. -/
def AgP (w : World) (lo k bI j : Nat) (dark : Bool) (p : Option Addr) (n c bT : Nat) (p1 : Option Addr) (n1 c1 i : Nat) (sv : Value) (bs : List Bool) (res : Except Int Bool) (e : Exit) (a : Act) (w' : World) : Prop :=
  (i < n1 ∧ e = .normal ∧ ∃ b sv', res = .ok b ∧ FG a k bI j dark p n c bT sv' p1 n1 c1 (i + 1) ∧ w'.ownsRow lo 4 1 sv' (i + 1) ((bs ++ [b]).map Value.bool) ∧ Below lo w w') ∨
  (i < n1 ∧ e = .ret ∧ ∃ x, Wide a ∧ slot a 8 = .int .i64 x ∧ res = .error x ∧ Below lo w w') ∨ (n1 ≤ i ∧ e = .exit 4 ∧ FG a k bI j dark p n c bT sv p1 n1 c1 i ∧ w' = w)
set_option maxHeartbeats 8000000 in
set_option maxRecDepth 100000 in
theorem arg_round (m M B lo : Nat) (w : World) (k bA nA bI nI j : Nat) (dark : Bool) (p : Option Addr) (n c bT : Nat) (sv : Value) (g o n1 c1 i : Nat) (hn1 : n1 ≤ 2) (rs : List Vr) (ns : List Nm) (wk lt : Nat) (bs : List Bool) (ex : Ex) (sa : Value) (a : Act)
    (hF : FG a k bI j dark p n c bT sv (some ⟨g, o, none⟩) n1 c1 i) (hil : i < n1) (hM : m ≤ M) (hwf : wfE m ex) (hkk : KK w k bA nA rs wk lt) (hmp : MapN w bI nI ns) (hB : B ≤ w.heap.size) (hlo : lo ≤ w.heap.size) (hat : ExAt w g (o + i * 4) ex sa) (hi : ExIs w B M ex sa) (hrow : w.ownsRow lo 4 1 sv i (bs.map Value.bool)) (hbs : bs.length = i) :
    bArg.wp Tryd.prog (AgP w lo k bI j dark p n c bT (some ⟨g, o, none⟩) n1 c1 i sv bs (exprK rs ns dark m ex)) a w := by
  obtain ⟨gg, rfl⟩ := hF.opens
  obtain ⟨tp, tq, tc, rfl⟩ := hi.slice
  have a0 := hat.c0
  have a1 := hat.c1
  have a2 := hat.c2
  have a3 := hat.c3
  obtain ⟨ak, an, ax, aa⟩ := ex
  simp only at a0 a1 a2 a3
  obtain ⟨i0, hi0, j0, j1, j2⟩ := info_parts infoB
  obtain ⟨w2, hw2⟩ : ∃ w2, w.alloc (.cells #[.int .i64 ak, .int .i64 an, .string ⟨ax.toArray⟩, .slice tp tq tc] 76) = w2 := ⟨_, rfl⟩
  have hb2 : Below w.heap.size w w2 := by rw [← hw2]; exact (Below.refl _ _).alloc (Nat.le_refl _) _
  have HC := keep (kexpr_ok m M B k bA nA bI nI rs ns wk lt dark ⟨ak, an, ax, aa⟩ (.slice tp tq tc) w2 hM hwf (hkk.below hb2) (hmp.below hb2) (Nat.le_trans hB hb2.size) (hi.below (hb2.mono hB)))
  have HY2 : Hid (Bk w2 w.heap.size [.int .i64 ak, .int .i64 an, .string ⟨ax.toArray⟩, .slice tp tq tc] 76) := by
    show Bk _ _ _ _
    rw [← hw2]; exact Bk.new _ _ _
  have HNz := keep (expr_nz rs ns dark m ⟨ak, an, ax, aa⟩)
  have HB2 := keep hb2
  have HW2 := keep hw2
  have HRow := keep (row_below hrow hb2)
  have HOwn := keep (World.ownsRow.lt hrow)
  have d1 : decide ((i : Int) < (n1 : Int)) = true := decide_eq_true (by omega)
  have hjz : (i : Int) < (n1 : Int) := by omega
  have hj0 : (0 : Int) ≤ (i : Int) := by omega
  have hwr : IntKind.i64.wrap ((i : Int) + 1) = (i : Int) + 1 := wrap_one i (by omega)
  have HIl := keep hil
  unfold exA at HC
  clear hF hat hi hkk hmp hb2 hw2 hrow hil hwf
  conv => arg 2; whnf
  go_wp2_with (first
    | rw [HW2.out]
    | refine wpList_load_row rfl 76 (.tmp 16) rfl w.heap.size rfl 76 #[.int .i64 ak, .int .i64 an, .string ⟨ax.toArray⟩, .slice tp tq tc] (0, 0) _ HY2.out Tryd.underlying76 rfl (info_E [.int .i64 ak, .int .i64 an, .string ⟨ax.toArray⟩, .slice tp tq tc] rfl) ?_)
  refine HC.out.mono ?_
  rintro r w3 ⟨rfl, hb3⟩
  have HB3 := keep (HB2.out.trans (hb3.mono HB2.out.size))
  have HRow3 := keep (row_below HRow.out hb3)
  clear hb3 HC HY2 HB2 HW2 HRow a0 a1 a2 a3
  obtain ⟨res, hres⟩ : ∃ r, exprK rs ns dark m ⟨ak, an, ax, aa⟩ = r := ⟨_, rfl⟩
  rw [hres] at HNz ⊢
  cases res with
  | error e =>
    have d2 : (e != 0) = true := by simpa using HNz.out.1 e rfl
    have HR := keep hres
    rw [two_err]
    clear hres
    go_wp2
    exact .inr (.inl ⟨HIl.out, rfl, e, ⟨rfl, rfl⟩, rfl, HR.out, HB3.out.mono hlo⟩)
  | ok b =>
    have HR := keep hres
    rw [two_ok]
    have hown := (HRow3.out).alloc (.cells #[.bool b] 4)
    have HSz := keep HB3.out.size
    clear hres
    go_wp2_with (first
      | (at_builtin; refine wpList_append_lies _ rfl (.tmp 75) (.tmp 77) 74 rfl lo 4 i0 _ 1 1 Tryd.underlying74 hi0 j0 j1 j2 rfl (by decide) sv i (bs.map Value.bool) rfl hown ⟨w3.heap.size, 0, none⟩ 1 1 [.bool b] rfl rfl ?c1 ?c2 (by decide) ?c3 ?c4 ?c5 (w3.heap.size + 1) (by simp) ?_)
      | fail)
    case c1 =>
      intro j u hj
      exact new_cell w3 _ _ j u hj
    case c2 =>
      intro u hu
      rw [List.mem_singleton] at hu
      subst hu; rfl
    case c3 => unfold maxLen; omega
    case c4 => omega
    case c5 => simp; have := HSz.out; omega
    · intro g2 cap2 w6 hown2 hgrow hat2 hlt2
      have HOwn2 := keep hown2
      have hk6 : ∀ i, i < lo → w6.heap[i]? = w3.heap[i]? := fun i hi =>
        (hgrow.block i (by simp; have := HSz.out; omega) (fun e => by have := (HOwn.out i e.symm).1; omega)).trans (((Below.refl w3.heap.size w3).alloc (Nat.le_refl _) _).block i (by have := HSz.out; omega))
      have HB6 : Hid (Below lo w w6) := (HB3.out.mono hlo).trans ⟨hgrow.os, hgrow.tape, hgrow.output, by have := hgrow.size; simp at this; omega, fun i hi => hk6 i hi⟩
      clear hown2 hgrow hat2 hk6 hown
      go_wp2
      exact .inl ⟨HIl.out, rfl, b, _, HR.out, ⟨⟨⟨⟨rfl, rfl⟩, rfl, rfl, rfl, rfl, rfl, rfl⟩, rfl, rfl⟩, rfl, rfl, rfl⟩, by rw [List.map_append]; exact HOwn2.out, HB6.out⟩
end Go.Proofs.YtemdnmfldihalaaDoor.Lr
namespace Go.Proofs.YtemdnmfldihalaaDoor.Lr
set_option linter.unusedVariables false
set_option linter.unusedSimpArgs false
open Go.ChangeShapes Go.WideShapes Go.ChangeAt Go.RowKit Go.Maps Go.WideMaps Lg

/-- On it goes. -/
def OnP (N : Act → World → Prop) (e : Exit) (a : Act) (w : World) : Prop := e = .normal ∧ N a w
theorem OnP.go {c d : Code} {N : Act → World → Prop} {Q : Exit → Act → World → Prop} {a : Act} {w : World} (h : c.wp Tryd.prog (OnP N) a w) (hq : ∀ a' w', N a' w' → d.wp Tryd.prog Q a' w') : (Code.seq c d).wp Tryd.prog Q a w := by
  refine wp_seq (wp_mono h ?_)
  rintro e a' w' ⟨rfl, hn⟩
  exact hq a' w' hn
structure FS (a : Act) (k bI j : Nat) (dark : Bool) (p : Option Addr) (n c bT : Nat) : Prop where
  fb : FB a k bI j dark p n c
  s13 : slot a 13 = .pointer (some ⟨bT, 0, none⟩)
structure FH (a : Act) (k bI j : Nat) (dark : Bool) (p : Option Addr) (n c bT : Nat) (sv : Value) (had : Bool) : Prop where
  fa : FA a k bI j dark p n c bT sv
  s20 : slot a 20 = .bool had
structure FI (a : Act) (k bI j : Nat) (dark : Bool) (p : Option Addr) (n c bT : Nat) (sv : Value) (had arr : Bool) : Prop where
  fh : FH a k bI j dark p n c bT sv had
  s22 : slot a 22 = .bool arr
set_option maxRecDepth 100000 in
theorem FS.opens {a : Act} {k bI j : Nat} {dark : Bool} {p : Option Addr} {n c bT : Nat} (h : FS a k bI j dark p n c bT) : ∃ g : Nat → Value, a = ⟨#[.pointer (some ⟨k, 0, none⟩), g 1, g 2, .bool dark, g 4, g 5, g 6, g 7, g 8, .map (some bI), g 10, g 11, g 12, .pointer (some ⟨bT, 0, none⟩), g 14, g 15, g 16, g 17, g 18, g 19, g 20, g 21, g 22, g 23, g 24, g 25, g 26, g 27, g 28, g 29, g 30, g 31, g 32, g 33, g 34, g 35, g 36, g 37, g 38, .slice p n c, .int .i64 (n : Int), .int .i64 (j : Int), g 42, g 43, g 44, g 45, g 46, g 47, g 48, g 49, g 50, g 51, g 52, g 53, g 54, g 55, g 56, g 57, g 58, g 59, g 60, g 61, g 62, g 63, g 64, g 65, g 66, g 67, g 68, g 69, g 70, g 71, g 72, g 73, g 74, g 75, g 76, g 77, g 78, g 79, g 80, g 81, g 82, g 83, g 84, g 85, g 86, g 87, g 88, g 89, g 90, g 91, g 92, g 93, g 94, g 95, g 96, g 97, g 98, g 99, g 100, g 101, g 102, g 103, g 104, g 105, g 106, g 107, g 108, g 109, g 110, g 111, g 112, g 113, g 114, g 115, g 116, g 117, g 118, g 119, g 120, g 121, g 122, g 123, g 124, g 125, g 126, g 127, g 128, g 129, g 130, g 131, g 132, g 133, g 134, g 135, g 136, g 137, g 138, g 139, g 140, g 141, g 142, g 143, g 144, g 145, g 146, g 147, g 148, g 149, g 150, g 151, g 152, g 153, g 154, g 155, g 156, g 157, g 158, g 159, g 160, g 161, g 162, g 163, g 164, g 165, g 166, g 167, g 168, g 169, g 170, g 171, g 172, g 173, g 174, g 175, g 176, g 177, g 178, g 179, g 180, g 181, g 182, g 183, g 184, g 185, g 186, g 187, g 188, g 189, g 190, g 191, g 192, g 193, g 194, g 195, g 196, g 197, g 198, g 199, g 200, g 201, g 202, g 203, g 204, g 205, g 206, g 207, g 208, g 209, g 210, g 211, g 212, g 213, g 214, g 215, g 216, g 217, g 218, g 219, g 220, g 221, g 222, g 223, g 224, g 225, g 226, g 227, g 228, g 229, g 230, g 231, g 232, g 233, g 234, g 235, g 236, g 237, g 238, g 239, g 240, g 241, g 242, g 243, g 244, g 245, g 246, g 247, g 248, g 249], []⟩ := by
  refine ⟨slot a, ?_⟩
  have e := h.fb.wide.opens
  rw [h.fb.s0, h.fb.s3, h.fb.s9, h.s13, h.fb.s39, h.fb.s40, h.fb.s41] at e
  exact e
set_option maxRecDepth 100000 in
theorem FH.opens {a : Act} {k bI j : Nat} {dark : Bool} {p : Option Addr} {n c bT : Nat} {sv : Value} {had : Bool} (h : FH a k bI j dark p n c bT sv had) : ∃ g : Nat → Value, a = ⟨#[.pointer (some ⟨k, 0, none⟩), g 1, g 2, .bool dark, g 4, g 5, g 6, g 7, g 8, .map (some bI), g 10, g 11, g 12, .pointer (some ⟨bT, 0, none⟩), sv, g 15, g 16, g 17, g 18, g 19, .bool had, g 21, g 22, g 23, g 24, g 25, g 26, g 27, g 28, g 29, g 30, g 31, g 32, g 33, g 34, g 35, g 36, g 37, g 38, .slice p n c, .int .i64 (n : Int), .int .i64 (j : Int), g 42, g 43, g 44, g 45, g 46, g 47, g 48, g 49, g 50, g 51, g 52, g 53, g 54, g 55, g 56, g 57, g 58, g 59, g 60, g 61, g 62, g 63, g 64, g 65, g 66, g 67, g 68, g 69, g 70, g 71, g 72, g 73, g 74, g 75, g 76, g 77, g 78, g 79, g 80, g 81, g 82, g 83, g 84, g 85, g 86, g 87, g 88, g 89, g 90, g 91, g 92, g 93, g 94, g 95, g 96, g 97, g 98, g 99, g 100, g 101, g 102, g 103, g 104, g 105, g 106, g 107, g 108, g 109, g 110, g 111, g 112, g 113, g 114, g 115, g 116, g 117, g 118, g 119, g 120, g 121, g 122, g 123, g 124, g 125, g 126, g 127, g 128, g 129, g 130, g 131, g 132, g 133, g 134, g 135, g 136, g 137, g 138, g 139, g 140, g 141, g 142, g 143, g 144, g 145, g 146, g 147, g 148, g 149, g 150, g 151, g 152, g 153, g 154, g 155, g 156, g 157, g 158, g 159, g 160, g 161, g 162, g 163, g 164, g 165, g 166, g 167, g 168, g 169, g 170, g 171, g 172, g 173, g 174, g 175, g 176, g 177, g 178, g 179, g 180, g 181, g 182, g 183, g 184, g 185, g 186, g 187, g 188, g 189, g 190, g 191, g 192, g 193, g 194, g 195, g 196, g 197, g 198, g 199, g 200, g 201, g 202, g 203, g 204, g 205, g 206, g 207, g 208, g 209, g 210, g 211, g 212, g 213, g 214, g 215, g 216, g 217, g 218, g 219, g 220, g 221, g 222, g 223, g 224, g 225, g 226, g 227, g 228, g 229, g 230, g 231, g 232, g 233, g 234, g 235, g 236, g 237, g 238, g 239, g 240, g 241, g 242, g 243, g 244, g 245, g 246, g 247, g 248, g 249], []⟩ := by
  refine ⟨slot a, ?_⟩
  have e := h.fa.fb.wide.opens
  rw [h.fa.fb.s0, h.fa.fb.s3, h.fa.fb.s9, h.fa.s13, h.fa.s14, h.s20, h.fa.fb.s39, h.fa.fb.s40, h.fa.fb.s41] at e
  exact e
set_option maxRecDepth 100000 in
theorem FI.opens {a : Act} {k bI j : Nat} {dark : Bool} {p : Option Addr} {n c bT : Nat} {sv : Value} {had arr : Bool} (h : FI a k bI j dark p n c bT sv had arr) : ∃ g : Nat → Value, a = ⟨#[.pointer (some ⟨k, 0, none⟩), g 1, g 2, .bool dark, g 4, g 5, g 6, g 7, g 8, .map (some bI), g 10, g 11, g 12, .pointer (some ⟨bT, 0, none⟩), sv, g 15, g 16, g 17, g 18, g 19, .bool had, g 21, .bool arr, g 23, g 24, g 25, g 26, g 27, g 28, g 29, g 30, g 31, g 32, g 33, g 34, g 35, g 36, g 37, g 38, .slice p n c, .int .i64 (n : Int), .int .i64 (j : Int), g 42, g 43, g 44, g 45, g 46, g 47, g 48, g 49, g 50, g 51, g 52, g 53, g 54, g 55, g 56, g 57, g 58, g 59, g 60, g 61, g 62, g 63, g 64, g 65, g 66, g 67, g 68, g 69, g 70, g 71, g 72, g 73, g 74, g 75, g 76, g 77, g 78, g 79, g 80, g 81, g 82, g 83, g 84, g 85, g 86, g 87, g 88, g 89, g 90, g 91, g 92, g 93, g 94, g 95, g 96, g 97, g 98, g 99, g 100, g 101, g 102, g 103, g 104, g 105, g 106, g 107, g 108, g 109, g 110, g 111, g 112, g 113, g 114, g 115, g 116, g 117, g 118, g 119, g 120, g 121, g 122, g 123, g 124, g 125, g 126, g 127, g 128, g 129, g 130, g 131, g 132, g 133, g 134, g 135, g 136, g 137, g 138, g 139, g 140, g 141, g 142, g 143, g 144, g 145, g 146, g 147, g 148, g 149, g 150, g 151, g 152, g 153, g 154, g 155, g 156, g 157, g 158, g 159, g 160, g 161, g 162, g 163, g 164, g 165, g 166, g 167, g 168, g 169, g 170, g 171, g 172, g 173, g 174, g 175, g 176, g 177, g 178, g 179, g 180, g 181, g 182, g 183, g 184, g 185, g 186, g 187, g 188, g 189, g 190, g 191, g 192, g 193, g 194, g 195, g 196, g 197, g 198, g 199, g 200, g 201, g 202, g 203, g 204, g 205, g 206, g 207, g 208, g 209, g 210, g 211, g 212, g 213, g 214, g 215, g 216, g 217, g 218, g 219, g 220, g 221, g 222, g 223, g 224, g 225, g 226, g 227, g 228, g 229, g 230, g 231, g 232, g 233, g 234, g 235, g 236, g 237, g 238, g 239, g 240, g 241, g 242, g 243, g 244, g 245, g 246, g 247, g 248, g 249], []⟩ := by
  refine ⟨slot a, ?_⟩
  have e := h.fh.fa.fb.wide.opens
  rw [h.fh.fa.fb.s0, h.fh.fa.fb.s3, h.fh.fa.fb.s9, h.fh.fa.s13, h.fh.fa.s14, h.fh.s20, h.s22, h.fh.fa.fb.s39, h.fh.fa.fb.s40, h.fh.fa.fb.s41] at e
  exact e
set_option maxHeartbeats 8000000 in
set_option maxRecDepth 100000 in
theorem one_load {w : World} {a : Act} {k bI j : Nat} {dark : Bool} {g o n c : Nat} {tk tn : Int} {tx : List UInt8} {tsec : Bool} {ta : List Ex} {tth tel : List St} {p1 : Option Addr} {n1 c1 : Nat} {p2 : Option Addr} {n2 c2 : Nat} {p3 : Option Addr} {n3 c3 : Nat} (hF : FB a k bI j dark (some ⟨g, o, none⟩) n c) (hjn : j < n) (hn : n ≤ 281474976710656) (hat : StAt w g (o + j * 7) ⟨tk, tn, tx, tsec, ta, tth, tel⟩ (.slice p1 n1 c1) (.slice p2 n2 c2) (.slice p3 n3 c3)) :
    (fstC bOne).wp Tryd.prog (OnP fun a' w' => FS a' k bI j dark (some ⟨g, o, none⟩) n c w.heap.size ∧ w' = w.alloc (.cells #[.int .i64 tk, .int .i64 tn, .string ⟨tx.toArray⟩, .bool tsec, .slice p1 n1 c1, .slice p2 n2 c2, .slice p3 n3 c3] 67)) a w := by
  obtain ⟨gg, rfl⟩ := hF.opens
  have a0 := hat.c0
  have a1 := hat.c1
  have a2 := hat.c2
  have a3 := hat.c3
  have a4 := hat.c4
  have a5 := hat.c5
  have a6 := hat.c6
  simp only at a0 a1 a2 a3
  have hjz : (j : Int) < (n : Int) := by omega
  have hj0 : (0 : Int) ≤ (j : Int) := by omega
  clear hF hat
  conv => arg 2; whnf
  go_wp2
  exact ⟨rfl, ⟨⟨⟨rfl, rfl⟩, rfl, rfl, rfl, rfl, rfl, rfl⟩, rfl⟩, rfl⟩
set_option maxHeartbeats 8000000 in
set_option maxRecDepth 100000 in
theorem one_work {w : World} {a : Act} {k bI j : Nat} {dark : Bool} {p : Option Addr} {n c bT : Nat} {bA wk lt : Nat} (hF : FS a k bI j dark p n c bT) (hb : Bk w k [.map (some bA), .int .i64 (wk : Int), .int .i64 (lt : Int)] 57) (hwk : wk ≤ 300) :
    (fstC (sndC bOne)).wp Tryd.prog (OnP fun a' w' => FS a' k bI j dark p n c bT ∧ w' = w.setCell ⟨k, 1, none⟩ (.int .i64 ((wk : Int) + 1))) a w := by
  obtain ⟨gg, rfl⟩ := hF.opens
  have c1 := hb.cell 1 rfl
  have f1 := hb.fr 1
  have hwr : IntKind.i64.wrap ((wk : Int) + 1) = (wk : Int) + 1 := wrap_one wk (by omega)
  clear hF hb
  conv => arg 2; whnf
  go_wp2
  exact ⟨rfl, ⟨⟨⟨rfl, rfl⟩, rfl, rfl, rfl, rfl, rfl, rfl⟩, rfl⟩, rfl⟩
set_option maxHeartbeats 8000000 in
set_option maxRecDepth 100000 in
theorem one_much {w : World} {a : Act} {k bI j : Nat} {dark : Bool} {p : Option Addr} {n c bT : Nat} {wk : Nat} (hF : FS a k bI j dark p n c bT) (hc : w.cell? ⟨k, 1, none⟩ = some (.int .i64 ((wk : Int) + 1))) :
    (fstC (sndC (sndC bOne))).wp Tryd.prog (BkP (fun a' w' => FS a' k bI j dark p n c bT ∧ w' = w ∧ ¬ 300 < wk + 1) (fun x w' => x = 4 ∧ w' = w ∧ 300 < wk + 1)) a w := by
  obtain ⟨gg, rfl⟩ := hF.opens
  clear hF
  conv => arg 2; whnf
  by_cases h : 300 < wk + 1
  · have d1 : decide (300 < (wk : Int) + 1) = true := decide_eq_true (by omega)
    have H := keep h
    clear h
    go_wp2
    exact .inr ⟨rfl, 4, ⟨rfl, rfl⟩, rfl, rfl, rfl, H.out⟩
  · have d1 : decide (300 < (wk : Int) + 1) = false := decide_eq_false (by omega)
    have H := keep h
    clear h
    go_wp2
    exact .inl ⟨rfl, ⟨⟨⟨rfl, rfl⟩, rfl, rfl, rfl, rfl, rfl, rfl⟩, rfl⟩, rfl, H.out⟩
set_option maxHeartbeats 8000000 in
set_option maxRecDepth 100000 in
theorem one_nil {w : World} {a : Act} {k bI j : Nat} {dark : Bool} {p : Option Addr} {n c bT : Nat} (hF : FS a k bI j dark p n c bT) :
    (fstC (sndC (sndC (sndC bOne)))).wp Tryd.prog (OnP fun a' w' => FA a' k bI j dark p n c bT (.slice none 0 0) ∧ w' = w) a w := by
  obtain ⟨gg, rfl⟩ := hF.opens
  clear hF
  conv => arg 2; whnf
  go_wp2
  exact ⟨rfl, ⟨⟨⟨rfl, rfl⟩, rfl, rfl, rfl, rfl, rfl, rfl⟩, rfl, rfl⟩, rfl⟩
set_option maxHeartbeats 8000000 in
set_option maxRecDepth 100000 in
theorem one_args {w : World} {a : Act} {k bI j : Nat} {dark : Bool} {p : Option Addr} {n c bT : Nat} {sv : Value} {p1 : Option Addr} {n1 c1 : Nat} (hF : FA a k bI j dark p n c bT sv) (hc : w.cell? ⟨bT, 4, none⟩ = some (.slice p1 n1 c1)) :
    (fstC (fstC (sndC (sndC (sndC (sndC bOne)))))).wp Tryd.prog (OnP fun a' w' => FG a' k bI j dark p n c bT sv p1 n1 c1 0 ∧ w' = w) a w := by
  obtain ⟨gg, rfl⟩ := hF.opens
  clear hF
  conv => arg 2; whnf
  go_wp2
  exact ⟨rfl, ⟨⟨⟨⟨rfl, rfl⟩, rfl, rfl, rfl, rfl, rfl, rfl⟩, rfl, rfl⟩, rfl, rfl, rfl⟩, rfl⟩
set_option maxHeartbeats 8000000 in
set_option maxRecDepth 100000 in
theorem arg_exit {w : World} {a : Act} {k bI j : Nat} {dark : Bool} {p : Option Addr} {n c bT : Nat} {sv : Value} {p1 : Option Addr} {n1 c1 : Nat} (hF : FG a k bI j dark p n c bT sv p1 n1 c1 n1) :
    bArg.wp Tryd.prog (fun e a' w' => Hid (e = .exit 4 ∧ FG a' k bI j dark p n c bT sv p1 n1 c1 n1 ∧ w' = w)) a w := by
  obtain ⟨gg, rfl⟩ := hF.opens
  have d1 : decide ((n1 : Int) < (n1 : Int)) = false := decide_eq_false (by omega)
  clear hF
  conv => arg 2; whnf
  go_wp2
  exact ⟨⟨⟨⟨rfl, rfl⟩, rfl, rfl, rfl, rfl, rfl, rfl⟩, rfl, rfl⟩, rfl, rfl, rfl⟩
theorem each_step {f : Ex → Except Int Bool} {l : List Ex} {i : Nat} {a : Ex} (h : l[i]? = some a) : eachK f (l.drop i) = thenK (f a) fun b => thenK (eachK f (l.drop (i + 1))) fun bs => .ok (b :: bs) := by
  obtain ⟨hk, rfl⟩ := List.getElem?_eq_some_iff.1 h
  rw [List.drop_eq_getElem_cons hk, eachK]
theorem thenK_thenK {α β γ : Type} (x : Except Int α) (f : α → Except Int β) (g : β → Except Int γ) : thenK (thenK x f) g = thenK x fun a => thenK (f a) g := by cases x <;> rfl
/-- What comes of all expressions. -/
def ArP (w : World) (k bI j : Nat) (dark : Bool) (p : Option Addr) (n c bT : Nat) (p1 : Option Addr) (n1 c1 : Nat) (res : Except Int (List Bool)) (e : Exit) (a : Act) (w' : World) : Prop :=
  (e = .exit 4 ∧ ∃ bs sv, res = .ok bs ∧ FA a k bI j dark p n c bT sv ∧ w'.ownsRow w.heap.size 4 1 sv n1 (bs.map Value.bool) ∧ Below w.heap.size w w') ∨
  (e = .ret ∧ ∃ x, Wide a ∧ slot a 8 = .int .i64 x ∧ res = .error x ∧ Below w.heap.size w w')
theorem arg_loop (m M B : Nat) (w : World) (k bA nA bI nI j : Nat) (dark : Bool) (p : Option Addr) (n c bT : Nat) (p1 : Option Addr) (n1 c1 : Nat) (hn1 : n1 ≤ 2) (rs : List Vr) (ns : List Nm) (wk lt : Nat) (l : List Ex) (hl : l.length = n1) (a : Act)
    (hF : FG a k bI j dark p n c bT (.slice none 0 0) p1 n1 c1 0) (hM : m ≤ M) (hwf : ∀ x ∈ l, wfE m x) (hkk : KK w k bA nA rs wk lt) (hmp : MapN w bI nI ns) (hB : B ≤ w.heap.size) (hqa : ∀ i x, l[i]? = some x → ∃ g o sa, p1 = some ⟨g, o, none⟩ ∧ g < B ∧ ExAt w g (o + i * 4) x sa ∧ ExIs w B M x sa) :
    (Code.loop bArg).wp Tryd.prog (ArP w k bI j dark p n c bT p1 n1 c1 (eachK (exprK rs ns dark m) l)) a w := by
  refine wp_loop (fun a' w' => ∃ i bs sv, i ≤ n1 ∧ FG a' k bI j dark p n c bT sv p1 n1 c1 i ∧ bs.length = i ∧ eachK (exprK rs ns dark m) l = (thenK (eachK (exprK rs ns dark m) (l.drop i)) fun r => .ok (bs ++ r)) ∧ w'.ownsRow w.heap.size 4 1 sv i (bs.map Value.bool) ∧ Below w.heap.size w w') (fun a' _ => n1 - (intOf (slot a' 60)).toNat) ⟨0, [], _, Nat.zero_le _, hF, rfl, ?_, World.ownsRow_nil _ _ _ _, Below.refl _ _⟩ ?_
  · rw [List.drop_zero]
    cases eachK (exprK rs ns dark m) l <;> rfl
  rintro a' w' ⟨i, bs, sv, hi, hF', hbs, hr, hrow, hb⟩
  by_cases hil : i < n1
  · obtain ⟨x, hx⟩ : ∃ x, l[i]? = some x := ⟨_, List.getElem?_eq_getElem (by rw [hl]; exact hil)⟩
    obtain ⟨g, o, sa, rfl, hg, hat, hsub⟩ := hqa i x hx
    have h := arg_round m M B w.heap.size w' k bA nA bI nI j dark p n c bT sv g o n1 c1 i hn1 rs ns wk lt bs x sa a' hF' hil hM (hwf x (List.mem_of_getElem? hx)) (hkk.below hb) (hmp.below hb) (Nat.le_trans hB hb.size) hb.size (hat.below (hb.mono hB) hg) (hsub.below (hb.mono hB)) hrow hbs
    refine wp_mono h ?_
    rintro e a5 w5 (⟨_, rfl, b, sv', hr2, hF5, hrow2, hb2⟩ | ⟨_, rfl, y, hx1, hx2, hr2, hb2⟩ | ⟨hge, _⟩)
    · refine ⟨⟨i + 1, bs ++ [b], sv', hil, hF5, by simp [hbs], ?_, hrow2, hb.trans hb2⟩, ?_⟩
      · rw [hr, each_step hx, hr2, thenK_ok, thenK_thenK]
        cases eachK (exprK rs ns dark m) (l.drop (i + 1)) with
        | error e => rfl
        | ok r => simp [thenK]
      · show n1 - (intOf (slot a5 60)).toNat < n1 - (intOf (slot a' 60)).toNat
        rw [hF5.s60, hF'.s60]
        simp [intOf]; omega
    · exact .inr ⟨rfl, y, hx1, hx2, by rw [hr, each_step hx, hr2]; rfl, hb.trans hb2⟩
    · omega
  · have hie : i = n1 := by omega
    subst hie
    refine wp_mono (arg_exit hF') ?_
    intro e a5 w5 h5
    obtain ⟨rfl, hF5, rfl⟩ := h5.out
    refine .inl ⟨rfl, bs, sv, ?_, hF5.fa, hrow, hb⟩
    rw [hr, List.drop_of_length_le (by omega)]
    show Except.ok (bs ++ []) = _
    rw [List.append_nil]
end Go.Proofs.YtemdnmfldihalaaDoor.Lr
namespace Go.Proofs.YtemdnmfldihalaaDoor.Lr
set_option linter.unusedVariables false
set_option linter.unusedSimpArgs false
open Go.ChangeShapes Go.WideShapes Go.ChangeAt Go.RowKit Go.Maps Go.WideMaps Lg

set_option maxHeartbeats 8000000 in
set_option maxRecDepth 100000 in
theorem behind_name {w : World} {a : Act} {k bI j : Nat} {dark : Bool} {p : Option Addr} {n c bT : Nat} {sv : Value} {tx : List UInt8} {vs vl had : Bool} (hF : FA a k bI j dark p n c bT sv) (hT : w.cell? ⟨bT, 2, none⟩ = some (.string ⟨tx.toArray⟩)) (hl : (Instr.lookup 58 (.map (some bI)) (.string ⟨tx.toArray⟩) true).run Tryd.prog w = .ok (.tuple #[.agg #[.bool vs, .bool vl], .bool had]) w) :
    (fstC bBehind).wp Tryd.prog (OnP fun a' w' => FH a' k bI j dark p n c bT sv had ∧ w' = w.alloc (.cells #[.bool vs, .bool vl] 60)) a w := by
  obtain ⟨gg, rfl⟩ := hF.opens
  clear hF
  conv => arg 2; whnf
  go_wp2
  exact ⟨rfl, ⟨⟨⟨⟨rfl, rfl⟩, rfl, rfl, rfl, rfl, rfl, rfl⟩, rfl, rfl⟩, rfl⟩, rfl⟩
set_option maxHeartbeats 8000000 in
set_option maxRecDepth 100000 in
theorem behind_array {w : World} {a : Act} {k bI j : Nat} {dark : Bool} {p : Option Addr} {n c bT : Nat} {sv : Value} {bA : Nat} {tx yn : List UInt8} {had ys arr : Bool} {yz : Int} (hF : FH a k bI j dark p n c bT sv had) (HSS : Hid (∀ W' : World, Below w.heap.size w W' → (W'.cell? ⟨k, 0, none⟩ = some (.map (some bA)) ∧ W'.cell? ⟨bT, 2, none⟩ = some (.string ⟨tx.toArray⟩) ∧ (Instr.lookup 55 (.map (some bA)) (.string ⟨tx.toArray⟩) true).run Tryd.prog W' = .ok (.tuple #[.agg #[.string ⟨yn.toArray⟩, .bool ys, .int .i64 yz], .bool arr]) W'))) :
    (fstC (sndC bBehind)).wp Tryd.prog (OnP fun a' w' => FI a' k bI j dark p n c bT sv had arr ∧ Below w.heap.size w w') a w := by
  obtain ⟨gg, rfl⟩ := hF.opens
  clear hF
  conv => arg 2; whnf
  refine wp_region_noPanic ?_
  refine Ord.wpM_begin (fun W' : World => W'.cell? ⟨k, 0, none⟩ = some (.map (some bA)) ∧ W'.cell? ⟨bT, 2, none⟩ = some (.string ⟨tx.toArray⟩) ∧ (Instr.lookup 55 (.map (some bA)) (.string ⟨tx.toArray⟩) true).run Tryd.prog W' = .ok (.tuple #[.agg #[.string ⟨yn.toArray⟩, .bool ys, .int .i64 yz], .bool arr]) W') [0, 1, 2, 3, 4, 5, 6, 7, 8, 9, 10, 11, 12] (by kernel_rfl) ?_
  have HB4 : Hid (Below w.heap.size w w.drew) := Below.drew (Below.refl _ _)
  generalize w.drew = w4 at *
  have hS := HSS.out w4 HB4.out
  refine Ord.wpM_take (i := 0) (v := .pointer (some ⟨k, 0, none⟩)) (by simp only [List.getElem?_toArray, List.getElem?_cons_zero, List.getElem?_cons_succ]; rfl) (by kernel_rfl) (by kernel_rfl) (by kernel_rfl) (by kernel_rfl) (fun _ _ _ h => h) (Or.inl ⟨by rfl, by intro W' hW; obtain ⟨q0, q1, q2⟩ := hW; go_simp⟩) hS ?_
  try simp only [Act.put, List.setIfInBounds_toArray, List.set_cons_zero, List.set_cons_succ]
  refine Ord.wpM_take (i := 1) (v := .pointer (some ⟨k, 0, none⟩)) (by simp only [List.getElem?_toArray, List.getElem?_cons_zero, List.getElem?_cons_succ]; rfl) (by kernel_rfl) (by kernel_rfl) (by kernel_rfl) (by kernel_rfl) (fun _ _ _ h => h) (Or.inl ⟨by rfl, by intro W' hW; obtain ⟨q0, q1, q2⟩ := hW; go_simp⟩) hS ?_
  try simp only [Act.put, List.setIfInBounds_toArray, List.set_cons_zero, List.set_cons_succ]
  refine Ord.wpM_take (i := 2) (v := .pointer (some ⟨k, 0, none⟩)) (by simp only [List.getElem?_toArray, List.getElem?_cons_zero, List.getElem?_cons_succ]; rfl) (by kernel_rfl) (by kernel_rfl) (by kernel_rfl) (by kernel_rfl) (fun _ _ _ h => h) (Or.inl ⟨by rfl, by intro W' hW; obtain ⟨q0, q1, q2⟩ := hW; go_simp⟩) hS ?_
  try simp only [Act.put, List.setIfInBounds_toArray, List.set_cons_zero, List.set_cons_succ]
  refine Ord.wpM_take (i := 3) (v := .map (some bA)) (by simp only [List.getElem?_toArray, List.getElem?_cons_zero, List.getElem?_cons_succ]; rfl) (by kernel_rfl) (by kernel_rfl) (by kernel_rfl) (by kernel_rfl) (fun _ _ _ h => h) (Or.inl ⟨by rfl, by intro W' hW; obtain ⟨q0, q1, q2⟩ := hW; go_simp⟩) hS ?_
  try simp only [Act.put, List.setIfInBounds_toArray, List.set_cons_zero, List.set_cons_succ]
  refine Ord.wpM_take (i := 4) (v := .pointer (some ⟨bT, 2, none⟩)) (by simp only [List.getElem?_toArray, List.getElem?_cons_zero, List.getElem?_cons_succ]; rfl) (by kernel_rfl) (by kernel_rfl) (by kernel_rfl) (by kernel_rfl) (fun _ _ _ h => h) (Or.inl ⟨by rfl, by intro W' hW; obtain ⟨q0, q1, q2⟩ := hW; go_simp⟩) hS ?_
  try simp only [Act.put, List.setIfInBounds_toArray, List.set_cons_zero, List.set_cons_succ]
  refine Ord.wpM_take (i := 5) (v := .string ⟨tx.toArray⟩) (by simp only [List.getElem?_toArray, List.getElem?_cons_zero, List.getElem?_cons_succ]; rfl) (by kernel_rfl) (by kernel_rfl) (by kernel_rfl) (by kernel_rfl) (fun _ _ _ h => h) (Or.inl ⟨by rfl, by intro W' hW; obtain ⟨q0, q1, q2⟩ := hW; go_simp⟩) hS ?_
  try simp only [Act.put, List.setIfInBounds_toArray, List.set_cons_zero, List.set_cons_succ]
  refine Ord.wpM_take (i := 6) (v := .tuple #[.agg #[.string ⟨yn.toArray⟩, .bool ys, .int .i64 yz], .bool arr]) (by simp only [List.getElem?_toArray, List.getElem?_cons_zero, List.getElem?_cons_succ]; rfl) (by kernel_rfl) (by kernel_rfl) (by kernel_rfl) (by kernel_rfl) (fun _ _ _ h => h) (Or.inl ⟨by rfl, by intro W' hW; obtain ⟨q0, q1, q2⟩ := hW; go_simp⟩) hS ?_
  try simp only [Act.put, List.setIfInBounds_toArray, List.set_cons_zero, List.set_cons_succ]
  refine Ord.wpM_take (i := 7) (v := .tuple #[.agg #[.string ⟨yn.toArray⟩, .bool ys, .int .i64 yz], .bool arr]) (by simp only [List.getElem?_toArray, List.getElem?_cons_zero, List.getElem?_cons_succ]; rfl) (by kernel_rfl) (by kernel_rfl) (by kernel_rfl) (by kernel_rfl) (fun _ _ _ h => h) (Or.inl ⟨by rfl, by intro W' hW; obtain ⟨q0, q1, q2⟩ := hW; go_simp⟩) hS ?_
  try simp only [Act.put, List.setIfInBounds_toArray, List.set_cons_zero, List.set_cons_succ]
  refine Ord.wpM_take (i := 8) (v := .agg #[.string ⟨yn.toArray⟩, .bool ys, .int .i64 yz]) (by simp only [List.getElem?_toArray, List.getElem?_cons_zero, List.getElem?_cons_succ]; rfl) (by kernel_rfl) (by kernel_rfl) (by kernel_rfl) (by kernel_rfl) (fun _ _ _ h => h) (Or.inl ⟨by rfl, by intro W' hW; obtain ⟨q0, q1, q2⟩ := hW; go_simp⟩) hS ?_
  try simp only [Act.put, List.setIfInBounds_toArray, List.set_cons_zero, List.set_cons_succ]
  refine Ord.wpM_take (i := 9) (v := .bool arr) (by simp only [List.getElem?_toArray, List.getElem?_cons_zero, List.getElem?_cons_succ]; rfl) (by kernel_rfl) (by kernel_rfl) (by kernel_rfl) (by kernel_rfl) (fun _ _ _ h => h) (Or.inl ⟨by rfl, by intro W' hW; obtain ⟨q0, q1, q2⟩ := hW; go_simp⟩) hS ?_
  try simp only [Act.put, List.setIfInBounds_toArray, List.set_cons_zero, List.set_cons_succ]
  refine Ord.wpM_one (i := 10) (by kernel_rfl) (by simp only [List.getElem?_toArray, List.getElem?_cons_zero, List.getElem?_cons_succ]; rfl) (fun K hK => ?_)
  go_simp
  obtain ⟨w5, hw5⟩ : ∃ x, w4.alloc (.cells #[.string ⟨#[]⟩, .bool false, .int .i64 0] 35) = x := ⟨_, rfl⟩
  have hb5 : Below w4.heap.size w4 w5 := by rw [← hw5]; exact (Below.refl _ _).alloc (Nat.le_refl _) _
  have HG5 : Hid (Bk w5 w4.heap.size [.string ⟨#[]⟩, .bool false, .int .i64 0] 35) := by
    show Bk _ _ _ _
    rw [← hw5]; exact Bk.new _ _ _
  rw [hw5]
  have HB5 := keep (HB4.out.trans (hb5.mono HB4.out.size))
  clear hb5 hw5 hS
  refine hK.out _ _ (fun _ => HSS.out _ HB5.out) ?_
  clear hK K
  try simp only [Act.put, List.setIfInBounds_toArray, List.set_cons_zero, List.set_cons_succ]
  refine Ord.wpM_one (i := 11) (by kernel_rfl) (by simp only [List.getElem?_toArray, List.getElem?_cons_zero, List.getElem?_cons_succ]; rfl) (fun K hK => ?_)
  rw [if_pos (by simp [Region.wanted])]
  refine wp_store_row 35 (.tmp 21) (.tmp 95) rfl w4.heap.size #[.string ⟨yn.toArray⟩, .bool ys, .int .i64 yz] rfl rfl 35 #[.string ⟨#[]⟩, .bool false, .int .i64 0] HG5.out (info_V [.string ⟨yn.toArray⟩, .bool ys, .int .i64 yz] rfl) rfl (by simp [Value.oneCell']) ?_
  obtain ⟨w6, hw6⟩ : ∃ x, w5.setRow w4.heap.size #[.string ⟨yn.toArray⟩, .bool ys, .int .i64 yz] = x := ⟨_, rfl⟩
  have HB6 : Hid (Below w.heap.size w w6) := by
    show Below _ _ _
    rw [← hw6]; exact below_setRow HB5.out HB4.out.size _
  rw [hw6]
  clear hw6
  refine hK.out _ _ (fun _ => HSS.out _ HB6.out) ?_
  clear hK K
  try simp only [Act.put, List.setIfInBounds_toArray, List.set_cons_zero, List.set_cons_succ]
  refine Ord.wpM_one (i := 12) (by kernel_rfl) (by simp only [List.getElem?_toArray, List.getElem?_cons_zero, List.getElem?_cons_succ]; rfl) (fun K hK => ?_)
  go_simp
  refine hK.out _ _ (fun _ => HSS.out _ HB6.out) ?_
  clear hK K
  try simp only [Act.put, List.setIfInBounds_toArray, List.set_cons_zero, List.set_cons_succ]
  refine Ord.wpM_done (by kernel_rfl) ?_ _
  refine NoPanic.normal ?_
  exact ⟨rfl, ⟨⟨⟨⟨⟨rfl, rfl⟩, rfl, rfl, rfl, rfl, rfl, rfl⟩, rfl, rfl⟩, rfl⟩, rfl⟩, HB6.out⟩
set_option maxHeartbeats 8000000 in
set_option maxRecDepth 100000 in
theorem behind_kind {w : World} {a : Act} {k bI j : Nat} {dark : Bool} {p : Option Addr} {n c bT : Nat} {sv : Value} {had arr : Bool} {kd : Int} (hF : FI a k bI j dark p n c bT sv had arr) (hT : w.cell? ⟨bT, 0, none⟩ = some (.int .i64 kd)) :
    (fstC (sndC (sndC bBehind))).wp Tryd.prog (OnP fun a' w' => FT a' k bI j dark p n c bT sv had arr kd ∧ w' = w) a w := by
  obtain ⟨gg, rfl⟩ := hF.opens
  clear hF
  conv => arg 2; whnf
  go_wp2
  exact ⟨rfl, ⟨⟨⟨⟨rfl, rfl⟩, rfl, rfl, rfl, rfl, rfl, rfl⟩, rfl, rfl⟩, rfl, rfl, rfl⟩, rfl⟩
end Go.Proofs.YtemdnmfldihalaaDoor.Lr
namespace Go.Proofs.YtemdnmfldihalaaDoor.Lr
set_option linter.unusedVariables false
set_option linter.unusedSimpArgs false
open Go.ChangeShapes Go.WideShapes Go.ChangeAt Go.RowKit Go.Maps Go.WideMaps Lg

theorem each_one {f : Ex → Except Int Bool} {e : Ex} {bs : List Bool} (h : eachK f [e] = .ok bs) : ∃ b, f e = .ok b ∧ bs = [b] := by
  rw [eachK] at h
  obtain ⟨b, h1, h2⟩ := thenK_inv h
  cases h2
  exact ⟨b, h1, rfl⟩
theorem each_one_err {f : Ex → Except Int Bool} {e : Ex} {x : Int} (h : eachK f [e] = .error x) : f e = .error x := by
  rw [eachK] at h
  cases hf : f e with
  | error y => rw [hf] at h; cases h; rfl
  | ok b => rw [hf] at h; cases h
theorem each_two {f : Ex → Except Int Bool} {d e : Ex} {bs : List Bool} (h : eachK f [d, e] = .ok bs) : ∃ a b, f d = .ok a ∧ f e = .ok b ∧ bs = [a, b] := by
  rw [eachK] at h
  obtain ⟨a, h1, h2⟩ := thenK_inv h
  obtain ⟨bs', h3, h4⟩ := thenK_inv h2
  obtain ⟨b, h5, rfl⟩ := each_one h3
  cases h4
  exact ⟨a, b, h1, h5, rfl⟩
theorem each_two_err {f : Ex → Except Int Bool} {d e : Ex} {x : Int} (h : eachK f [d, e] = .error x) : f d = .error x ∨ ∃ a, f d = .ok a ∧ f e = .error x := by
  rw [eachK] at h
  cases hf : f d with
  | error y => rw [hf] at h; cases h; exact .inl rfl
  | ok b =>
    rw [hf, thenK_ok] at h
    refine .inr ⟨b, rfl, ?_⟩
    cases he : eachK f [e] with
    | error y => rw [he] at h; cases h; exact each_one_err he
    | ok bs => rw [he] at h; cases h
theorem SwP.inside {id : Nat} {w0 : World} {k bA nA bI j : Nat} {dark : Bool} {p : Option Addr} {n c : Nat} {rs : List Vr} {res : Except Int Ks} {e : Exit} {a : Act} {w : World} (h : SwP w0 k bA nA bI j dark p n c rs res e a w) : Exit.inBlock id (SwP w0 k bA nA bI j dark p n c rs res) e a w := by
  rcases h with ⟨rfl, h⟩ | ⟨rfl, h⟩
  · exact .inl ⟨rfl, h⟩
  · exact .inr ⟨rfl, h⟩
theorem row_cell {w w' : World} {lo n : Nat} {sv : Value} {bs : List Bool} (h : w.ownsRow lo 4 1 sv n (bs.map Value.bool)) (hn : 0 < n) (hb : Below w.heap.size w w') : ∃ g cap, sv = .slice (some ⟨g, 0, none⟩) n cap ∧ lo ≤ g ∧ g < w'.heap.size ∧ ∀ i b, bs[i]? = some b → w'.cell? ⟨g, i, none⟩ = some (.bool b) := by
  have h' := row_below h hb
  obtain ⟨g, cap, rfl, h1, h2⟩ := h'.form hn
  refine ⟨g, cap, rfl, h1, h2, fun i b hi => ?_⟩
  have := h'.cells (g := g) rfl i (.bool b) (by rw [List.getElem?_map, hi]; rfl)
  by_cases h0 : i = 0
  · subst h0; exact this
  · simpa [Addr.add, h0] using this
/-- What is done ahead of a statement's kind leaves all as it was, but for how much was done. -/
theorem one_front (m M B : Nat) (w0 w : World) (k bA nA bI nI j : Nat) (dark : Bool) (g o n c : Nat) (rs : List Vr) (ns : List Nm) (wk lt : Nat) (tk tn : Int) (tx : List UInt8) (tsec : Bool) (ta : List Ex) (tth tel : List St) (p1 : Option Addr) (n1 c1 : Nat) (p2 : Option Addr) (n2 c2 : Nat) (p3 : Option Addr) (n3 c3 : Nat) (a : Act) (res : Except Int Ks)
    (hF : FB a k bI j dark (some ⟨g, o, none⟩) n c) (hjn : j < n) (hn : n ≤ 281474976710656) (hK : KS w0 w k bA nA bI nI rs ⟨ns, wk, lt⟩) (hk0 : k < w0.heap.size) (hI0 : w0.heap.size ≤ bI) (hBk : B ≤ k) (hx : tx.length ≤ maxLen)
    (hat : StAt w g (o + j * 7) ⟨tk, tn, tx, tsec, ta, tth, tel⟩ (.slice p1 n1 c1) (.slice p2 n2 c2) (.slice p3 n3 c3)) (hi1 : ExIs w B (M + 1) (ar ta) (.slice p1 n1 c1)) (hM : m ≤ M) (hta : ta.length ≤ 2) (hwa : ∀ x ∈ ta, wfE m x)
    (h4 : 300 < wk + 1 → res = .error 4) (hbad : ¬ 300 < wk + 1 → ∀ x, eachK (exprK rs ns dark m) ta = .error x → res = .error x)
    (hgood : ¬ 300 < wk + 1 → ∀ bs, eachK (exprK rs ns dark m) ta = .ok bs → ∀ (a' : Act) (w' : World) (bT : Nat) (sv : Value), FT a' k bI j dark (some ⟨g, o, none⟩) n c bT sv (byN ns tx).isSome (byV rs tx).isSome tk → KS w0 w' k bA nA bI nI rs ⟨ns, wk + 1, lt⟩ →
      Bk w' bT [.int .i64 tk, .int .i64 tn, .string ⟨tx.toArray⟩, .bool tsec, .slice p1 n1 c1, .slice p2 n2 c2, .slice p3 n3 c3] 67 → w0.heap.size ≤ bT → Below B w w' → (0 < ta.length → ∃ gS cS, sv = .slice (some ⟨gS, 0, none⟩) ta.length cS ∧ w0.heap.size ≤ gS ∧ gS < w'.heap.size ∧ ∀ i b, bs[i]? = some b → w'.cell? ⟨gS, i, none⟩ = some (.bool b)) → bKind.wp Tryd.prog (SwP w0 k bA nA bI j dark (some ⟨g, o, none⟩) n c rs res) a' w') :
    bOne.wp Tryd.prog (SwP w0 k bA nA bI j dark (some ⟨g, o, none⟩) n c rs res) a w := by
  show (Code.seq (fstC bOne) (Code.seq (fstC (sndC bOne)) (Code.seq (fstC (sndC (sndC bOne))) (Code.seq (fstC (sndC (sndC (sndC bOne)))) (Code.seq (Code.seq (fstC (fstC (sndC (sndC (sndC (sndC bOne)))))) (Code.block 4 (Code.loop bArg))) (Code.seq (fstC bBehind) (Code.seq (fstC (sndC bBehind)) (Code.seq (fstC (sndC (sndC bBehind))) (Code.block 6 bKind))))))))).wp Tryd.prog _ a w
  have hkw := hK.kk.box.lt
  refine OnP.go (one_load hF hjn hn hat) ?_
  rintro a1 w1' ⟨hF1, rfl⟩
  obtain ⟨w1, hw1⟩ : ∃ w1, w.alloc (.cells #[.int .i64 tk, .int .i64 tn, .string ⟨tx.toArray⟩, .bool tsec, .slice p1 n1 c1, .slice p2 n2 c2, .slice p3 n3 c3] 67) = w1 := ⟨_, rfl⟩
  have hb1 : Below w.heap.size w w1 := by rw [← hw1]; exact (Below.refl _ _).alloc (Nat.le_refl _) _
  have hT1 : Bk w1 w.heap.size [.int .i64 tk, .int .i64 tn, .string ⟨tx.toArray⟩, .bool tsec, .slice p1 n1 c1, .slice p2 n2 c2, .slice p3 n3 c3] 67 := by rw [← hw1]; exact Bk.new _ _ _
  rw [hw1]
  clear hw1
  have hK1 := hK.below hb1
  obtain ⟨bT, hbT⟩ : ∃ b, w.heap.size = b := ⟨_, rfl⟩
  have hT0 : w0.heap.size ≤ bT := by rw [← hbT]; exact hK.fs.size
  have hbB : B ≤ w.heap.size := by omega
  rw [hbT] at hF1 hT1
  refine OnP.go (one_work hF1 hK1.kk.box hK.few.2.1) ?_
  rintro a2 w2' ⟨hF2, rfl⟩
  obtain ⟨w2, hw2⟩ : ∃ w2, w1.setCell ⟨k, 1, none⟩ (.int .i64 ((wk : Int) + 1)) = w2 := ⟨_, rfl⟩
  have hf2 : Fs [k] w1 w2 := by rw [← hw2]; exact (Fs.refl _ _).set (by simp) _ _
  have hk2 : Bk w2 k [.map (some bA), .int .i64 ((wk + 1 : Nat) : Int), .int .i64 (lt : Int)] 57 := by rw [← hw2]; exact hK1.kk.box.set 1 _
  dsimp only
  rw [hw2]
  clear hw2
  have hT2 := hT1.fs hf2 (by simp; omega)
  have hIk : bI ≠ k := by omega
  have hm2 : MapN w2 bI nI ns := hK1.mp.stay (hf2.block bI hK1.mp.lt (by simpa using hIk))
  have hkk2 : KK w2 k bA nA rs (wk + 1) lt := ⟨hk2, hK1.kk.arr.stay (hf2.block bA (by have := hK1.kk.lt; have := hK1.kk.box.lt; omega) (by have := hK1.kk.lt; simp; omega)), hK1.kk.lt⟩
  have hfs2 : Fs [k] w0 w2 := hK1.fs.trans hf2
  refine wp_seq (wp_mono (one_much hF2 (hk2.cell 1 rfl)) ?_)
  rintro e a3 w3 (⟨rfl, hF3, rfl, hmuch⟩ | ⟨rfl, x, hx1, hx2, rfl, rfl, hmuch⟩)
  rotate_left
  · exact .err hx1 hx2 (h4 hmuch) hfs2
  have hfw := hK.few
  have hnn := hK.nn
  dsimp only at hfw hnn
  have hK2 : KS w0 w3 k bA nA bI nI rs ⟨ns, wk + 1, lt⟩ := ⟨hkk2, hm2, hfs2, ⟨by have := hfw.1; dsimp only; omega, by dsimp only; omega, hfw.2.2⟩, by dsimp only; omega⟩
  refine OnP.go (one_nil hF3) ?_
  rintro a4 w4 ⟨hF4, rfl⟩
  obtain ⟨q1, q2, q3, hq0, hql, _, _, hqa⟩ := hi1.parts
  cases hq0
  have hb02 : Below B w w4 := (hb1.mono hbB).trans (hf2.below (by have := hb1.size; omega) (by simpa using hBk))
  refine wp_seq (OnP.go (one_args hF4 (hT2.cell 4 rfl)) ?_)
  rintro a5 w5 ⟨hF5, rfl⟩
  have hwB : B ≤ w5.heap.size := by have := hkk2.box.lt; omega
  have hloop := arg_loop m M B w5 k bA nA bI nI j dark (some ⟨g, o, none⟩) n c bT p1 n1 c1 (by rw [← hql]; exact hta) rs ns (wk + 1) lt ta hql a5 hF5 hM hwa hkk2 hm2 hwB (fun i x hx => by
    obtain ⟨g, o, sa, h1, h2, h3, h4⟩ := hqa i x hx
    exact ⟨g, o, sa, h1, h2, h3.below hb02 h2, h4.below hb02⟩)
  refine wp_block (wp_mono hloop ?_)
  rintro e a6 w6 (⟨rfl, bs, sv, hr, hF6, hrow, hb6⟩ | ⟨rfl, x, hx1, hx2, hr, hb6⟩)
  rotate_left
  · exact .err hx1 hx2 (hbad hmuch x hr) (hK2.below hb6).fs
  refine in_block_here ?_
  have hK6 := hK2.below hb6
  have hT6 := hT2.fs (Fs.of_below (l := []) hb6) (by simp)
  refine OnP.go (behind_name (vs := (nmO (byN ns tx)).secret) (vl := (nmO (byN ns tx)).loop) hF6 (hT6.cell 2 rfl) (hK6.mp.look tx hx)) ?_
  rintro a7 w7' ⟨hF7, rfl⟩
  obtain ⟨w7, hw7⟩ : ∃ x, w6.alloc (.cells #[.bool (nmO (byN ns tx)).secret, .bool (nmO (byN ns tx)).loop] 60) = x := ⟨_, rfl⟩
  have hb7 : Below w6.heap.size w6 w7 := by rw [← hw7]; exact (Below.refl _ _).alloc (Nat.le_refl _) _
  rw [hw7]
  clear hw7
  have hK7 := hK6.below hb7
  have hT7 := hT6.fs (Fs.of_below (l := []) hb7) (by simp)
  refine OnP.go (behind_array (bA := bA) (tx := tx) (yn := (vrO (byV rs tx)).name) (ys := (vrO (byV rs tx)).secret) (yz := (vrO (byV rs tx)).size) (arr := (byV rs tx).isSome) hF7 (fun W' hW => ⟨cell_old hW (hK7.kk.box.cell 0 rfl) hK7.kk.box.lt, cell_old hW (hT7.cell 2 rfl) hT7.lt, (hK7.kk.below hW).arr.look tx hx⟩)) ?_
  rintro a8 w8 ⟨hF8, hb8⟩
  have hK8 := hK7.below hb8
  have hT8 := hT7.fs (Fs.of_below (l := []) hb8) (by simp)
  refine OnP.go (behind_kind hF8 (hT8.cell 0 rfl)) ?_
  rintro a9 w9 ⟨hF9, rfl⟩
  have hb69 : Below w6.heap.size w6 w9 := hb7.trans (hb8.mono hb7.size)
  have hb59 : Below w5.heap.size w5 w9 := hb6.trans (hb69.mono hb6.size)
  have hg9 := hgood hmuch bs hr a9 w9 bT sv hF9 hK8 hT8 hT0 (hb02.trans (hb59.mono hwB)) (fun h0 => by
    have h0' : 0 < n1 := by rw [← hql]; exact h0
    obtain ⟨gS, cS, e1, h1, h2, h3⟩ := row_cell hrow h0' hb69
    refine ⟨gS, cS, ?_, by have := hfs2.size; omega, h2, h3⟩
    rw [e1, ← hql]; rfl)
  exact wp_block (wp_mono hg9 fun e a w h => h.inside)
theorem one_all (m K B : Nat) (hKB : KBlock m) (w0 w : World) (k bA nA bI nI j : Nat) (dark : Bool) (g o n c : Nat) (rs : List Vr) (ns : List Nm) (wk lt : Nat) (t : St) (s1 s2 s3 : Value) (a : Act)
    (hF : FB a k bI j dark (some ⟨g, o, none⟩) n c) (hjn : j < n) (hn : n ≤ 281474976710656) (hK : KS w0 w k bA nA bI nI rs ⟨ns, wk, lt⟩) (hk0 : k < w0.heap.size) (hI0 : w0.heap.size ≤ bI) (hBk : B ≤ k) (hmK : m ≤ K) (hm : m ≤ 9) (hwf : wfS (m + 1) t)
    (hat : StAt w g (o + j * 7) t s1 s2 s3) (hi1 : ExIs w B 11 (ar t.args) s1) (hi2 : StIs w B 10 (K + 1) t.thn s2) (hi3 : StIs w B 10 (K + 1) t.els s3) :
    bOne.wp Tryd.prog (SwP w0 k bA nA bI j dark (some ⟨g, o, none⟩) n c rs (stmtK rs (m + 1) dark t ⟨ns, wk, lt⟩)) a w := by
  obtain ⟨p1, n1, c1, rfl⟩ := hi1.slice
  obtain ⟨p2, n2, c2, rfl⟩ := hi2.slice
  obtain ⟨p3, n3, c3, rfl⟩ := hi3.slice
  obtain ⟨tk, tn, tx, tsec, ta, tth, tel⟩ := t
  dsimp only at hi1 hi2 hi3
  have hfw := hK.few
  have hnn := hK.nn
  dsimp only at hfw hnn
  have h4 : 300 < wk + 1 → stmtK rs (m + 1) dark ⟨tk, tn, tx, tsec, ta, tth, tel⟩ ⟨ns, wk, lt⟩ = .error 4 := fun h => by rw [stmtK, if_pos h]
  rcases hwf with ⟨hkind, e1, e2, e3, x, e4, hwx⟩ | ⟨e0, hname, e1, e2, e3, e4, x, y, e5, hwx, hwy⟩ | ⟨e0, e1, e2, e3, ⟨x, e4, hwx⟩, hth, hel⟩ | ⟨e0, hname, e1, hn0, hn8, e2, e3, hth⟩
  · dsimp only at e1 e2 e3 e4
    subst e1 e2 e3 e4
    have hwa : ∀ z ∈ [x], wfE m z := fun z hz => by rw [List.mem_singleton] at hz; rw [hz]; exact hwx
    rcases hkind with ⟨e0, hname⟩ | ⟨e0, hname, e5⟩ | ⟨e0, e6, e5⟩
    · dsimp only at e0 hname
      subst e0
      have hres : ¬ 300 < wk + 1 → stmtK rs (m + 1) dark ⟨1, 0, tx, tsec, [x], [], []⟩ ⟨ns, wk, lt⟩ = thenK (exprK rs ns dark m x) fun s => letK rs ⟨1, 0, tx, tsec, [x], [], []⟩ dark s ⟨ns, wk + 1, lt⟩ := fun h => by
        rw [stmtK, if_neg h, if_pos rfl]; rfl
      refine one_front m 10 B w0 w k bA nA bI nI j dark g o n c rs ns wk lt 1 0 tx tsec [x] [] [] p1 n1 c1 p2 n2 c2 p3 n3 c3 a _ hF hjn hn hK hk0 hI0 hBk (name_short hname) hat hi1 (by omega) (by simp) hwa h4 (fun hm z hz => by rw [hres hm, each_one_err hz]; rfl) ?_
      intro hm bs hbs a' w' bT sv hF' hK' hT' hT0 hB' hsv
      obtain ⟨gS, cS, rfl, h1, h2, h3⟩ := hsv (by simp)
      obtain ⟨b, hb1, rfl⟩ := each_one hbs
      rw [hres hm, hb1, thenK_ok]
      exact sw_let w0 w' k bA nA bI nI j dark _ n c bT rs ns (wk + 1) lt 0 tx tsec [x] [] [] _ _ _ a' b gS cS (h3 0 b rfl) h1 (name_short hname) hF' hK' hk0 hI0 hT' hT0 (by omega) (by have := hfw.1; omega)
    · dsimp only at e0 hname e5
      subst e0 e5
      have hres : ¬ 300 < wk + 1 → stmtK rs (m + 1) dark ⟨2, 0, tx, false, [x], [], []⟩ ⟨ns, wk, lt⟩ = thenK (exprK rs ns dark m x) fun s => setK ⟨2, 0, tx, false, [x], [], []⟩ dark s ⟨ns, wk + 1, lt⟩ := fun h => by
        rw [stmtK, if_neg h, if_neg (show ¬ (2 : Int) = 1 by decide), if_pos rfl]; rfl
      refine one_front m 10 B w0 w k bA nA bI nI j dark g o n c rs ns wk lt 2 0 tx false [x] [] [] p1 n1 c1 p2 n2 c2 p3 n3 c3 a _ hF hjn hn hK hk0 hI0 hBk (name_short hname) hat hi1 (by omega) (by simp) hwa h4 (fun hm z hz => by rw [hres hm, each_one_err hz]; rfl) ?_
      intro hm bs hbs a' w' bT sv hF' hK' hT' hT0 hB' hsv
      obtain ⟨gS, cS, rfl, h1, h2, h3⟩ := hsv (by simp)
      obtain ⟨b, hb1, rfl⟩ := each_one hbs
      rw [hres hm, hb1, thenK_ok]
      exact sw_set w0 w' k bA nA bI nI j dark _ n c bT rs ns (wk + 1) lt 0 tx false [x] [] [] _ _ _ a' b gS cS (h3 0 b rfl) h1 (name_short hname) _ hF' hK' hk0 hI0 hT' hT0
    · dsimp only at e0 e6 e5
      subst e0 e5 e6
      have hres : ¬ 300 < wk + 1 → stmtK rs (m + 1) dark ⟨6, 0, [], false, [x], [], []⟩ ⟨ns, wk, lt⟩ = thenK (exprK rs ns dark m x) fun s => if dark = true then .error 10 else .ok ⟨ns, wk + 1, lt⟩ := fun h => by
        rw [stmtK, if_neg h, if_neg (show ¬ (6 : Int) = 1 by decide), if_neg (show ¬ (6 : Int) = 2 by decide), if_neg (show ¬ (6 : Int) = 3 by decide), if_neg (show ¬ (6 : Int) = 4 by decide), if_neg (show ¬ (6 : Int) = 5 by decide), if_pos rfl]; rfl
      refine one_front m 10 B w0 w k bA nA bI nI j dark g o n c rs ns wk lt 6 0 [] false [x] [] [] p1 n1 c1 p2 n2 c2 p3 n3 c3 a _ hF hjn hn hK hk0 hI0 hBk (by simp) hat hi1 (by omega) (by simp) hwa h4 (fun hm z hz => by rw [hres hm, each_one_err hz]; rfl) ?_
      intro hm bs hbs a' w' bT sv hF' hK' hT' hT0 hB' hsv
      obtain ⟨b, hb1, rfl⟩ := each_one hbs
      rw [hres hm, hb1, thenK_ok]
      exact sw_ret w0 w' k bA nA bI nI j dark _ n c bT rs ns (wk + 1) lt 0 [] false [x] [] [] _ _ _ a' sv _ _ hF' hK' hk0 hI0 hT' hT0
  · dsimp only at e0 hname e1 e2 e3 e4 e5
    subst e0 e1 e2 e3 e4 e5
    have hwa : ∀ z ∈ [x, y], wfE m z := fun z hz => by
      rw [List.mem_cons, List.mem_singleton] at hz
      rcases hz with rfl | rfl
      · exact hwx
      · exact hwy
    have hres : ¬ 300 < wk + 1 → stmtK rs (m + 1) dark ⟨3, 0, tx, false, [x, y], [], []⟩ ⟨ns, wk, lt⟩ = thenK (exprK rs ns dark m x) fun s => thenK (exprK rs ns dark m y) fun u => thenK (placeK rs dark tx x s) fun to => if (!to && (u || dark)) = true then .error 10 else .ok ⟨ns, wk + 1, lt⟩ := fun h => by
      rw [stmtK, if_neg h, if_neg (show ¬ (3 : Int) = 1 by decide), if_neg (show ¬ (3 : Int) = 2 by decide), if_pos rfl]; rfl
    refine one_front m 10 B w0 w k bA nA bI nI j dark g o n c rs ns wk lt 3 0 tx false [x, y] [] [] p1 n1 c1 p2 n2 c2 p3 n3 c3 a _ hF hjn hn hK hk0 hI0 hBk (name_short hname) hat hi1 (by omega) (by simp) hwa h4 (fun hm z hz => by
      rw [hres hm]
      rcases each_two_err hz with h | ⟨b, h, h'⟩
      · rw [h]; rfl
      · rw [h, thenK_ok, h']; rfl) ?_
    intro hm bs hbs a' w' bT sv hF' hK' hT' hT0 hB' hsv
    obtain ⟨gS, cS, rfl, h1, h2, h3⟩ := hsv (by simp)
    obtain ⟨s, u, hb1, hb2, rfl⟩ := each_two hbs
    rw [hres hm, hb1, thenK_ok, hb2, thenK_ok]
    obtain ⟨q1, q2, q3, hq0, hql, _, _, hqa⟩ := hi1.parts
    cases hq0
    obtain ⟨ge, oe, sa, rfl, hge, hea, hes⟩ := hqa 0 x rfl
    obtain ⟨tp, tq, tc, rfl⟩ := hes.slice
    have hql' : n1 = 2 := hql.symm
    subst hql'
    obtain ⟨pk, pn, px, pa⟩ := x
    have hea' := hea.below hB' hge
    simp only [Nat.zero_mul, Nat.add_zero] at hea'
    exact sw_put w0 w' k bA nA bI nI j dark _ n c bT rs ns (wk + 1) lt 0 tx false [⟨pk, pn, px, pa⟩, y] [] [] _ _ _ a' s u gS cS ge oe c1 pk pn px pa tp tq tc (h3 0 s rfl) (h3 1 u rfl) h2 (name_short hname) hea' (by have := hK'.kk.box.lt; omega) _ _ rfl hF' hK' hk0 hI0 hT' hT0
  · dsimp only at e0 e1 e2 e3 e4 hth hel
    subst e0 e1 e2 e3 e4
    have hwa : ∀ z ∈ [x], wfE m z := fun z hz => by rw [List.mem_singleton] at hz; rw [hz]; exact hwx
    have hres : ¬ 300 < wk + 1 → stmtK rs (m + 1) dark ⟨4, 0, [], false, [x], tth, tel⟩ ⟨ns, wk, lt⟩ = thenK (exprK rs ns dark m x) fun s => thenK (blockK (stmtK rs m (s || dark)) tth ⟨ns, wk + 1, lt⟩) fun k => blockK (stmtK rs m (s || dark)) tel k := fun h => by
      rw [stmtK, if_neg h, if_neg (show ¬ (4 : Int) = 1 by decide), if_neg (show ¬ (4 : Int) = 2 by decide), if_neg (show ¬ (4 : Int) = 3 by decide), if_pos rfl]; rfl
    refine one_front m 10 B w0 w k bA nA bI nI j dark g o n c rs ns wk lt 4 0 [] false [x] tth tel p1 n1 c1 p2 n2 c2 p3 n3 c3 a _ hF hjn hn hK hk0 hI0 hBk (by simp) hat hi1 (by omega) (by simp) hwa h4 (fun hm z hz => by rw [hres hm, each_one_err hz]; rfl) ?_
    intro hm' bs hbs a' w' bT sv hF' hK' hT' hT0 hB' hsv
    obtain ⟨gS, cS, rfl, h1, h2, h3⟩ := hsv (by simp)
    obtain ⟨b, hb1, rfl⟩ := each_one hbs
    rw [hres hm', hb1, thenK_ok]
    exact sw_if m K B hKB w0 w' k bA nA bI nI j dark _ n c bT rs ns (wk + 1) lt 0 [] false [x] tth tel _ _ _ a' b gS cS (h3 0 b rfl) h1 h2 _ _ hF' hK' hk0 hI0 hT' hT0 hmK (by omega) hth hel hBk (hi2.below hB') (hi3.below hB')
  · dsimp only at e0 hname e1 hn0 hn8 e2 e3 hth
    subst e0 e1 e2 e3
    have hres : ¬ 300 < wk + 1 → stmtK rs (m + 1) dark ⟨5, tn, tx, false, [], tth, []⟩ ⟨ns, wk, lt⟩ = if takenK rs ns tx = true then .error 7 else thenK (roundsK (blockK (stmtK rs m dark) tth) tn.toNat ⟨ns ++ [⟨tx, false, true⟩], wk + 1, lt⟩) fun k' => .ok ⟨ns, k'.work, k'.lets⟩ := fun h => by
      rw [stmtK, if_neg h, if_neg (show ¬ (5 : Int) = 1 by decide), if_neg (show ¬ (5 : Int) = 2 by decide), if_neg (show ¬ (5 : Int) = 3 by decide), if_neg (show ¬ (5 : Int) = 4 by decide), if_pos rfl]
    refine one_front m 10 B w0 w k bA nA bI nI j dark g o n c rs ns wk lt 5 tn tx false [] tth [] p1 n1 c1 p2 n2 c2 p3 n3 c3 a _ hF hjn hn hK hk0 hI0 hBk (name_short hname) hat hi1 (by omega) (by simp) (fun z hz => by cases hz) h4 (fun hm z hz => by cases hz) ?_
    intro hm' bs hbs a' w' bT sv hF' hK' hT' hT0 hB' hsv
    rw [hres hm']
    exact sw_for m K B hKB w0 w' k bA nA bI nI j dark _ n c bT rs ns (wk + 1) lt tn tx false [] tth [] _ _ _ a' tn.toNat (by omega) (by omega) (name_short hname) sv hF' hK' hk0 hI0 hT' hT0 (by omega) (by have := hfw.1; omega) hmK (by omega) hth hBk (hi2.below hB')
end Go.Proofs.YtemdnmfldihalaaDoor.Lr
namespace Go.Proofs.YtemdnmfldihalaaDoor.Lr
set_option linter.unusedVariables false
set_option linter.unusedSimpArgs false
open Go.ChangeShapes Go.WideShapes Go.ChangeAt Go.RowKit Go.Maps Go.WideMaps Lg

structure FZ (a : Act) (k bN : Nat) (dark : Bool) (p : Option Addr) (n c : Nat) : Prop where
  wide : Wide a
  s0 : slot a 0 = .pointer (some ⟨k, 0, none⟩)
  s1 : slot a 1 = .slice p n c
  s2 : slot a 2 = .map (some bN)
  s3 : slot a 3 = .bool dark
set_option maxRecDepth 100000 in
theorem FZ.opens {a : Act} {k bN : Nat} {dark : Bool} {p : Option Addr} {n c : Nat} (h : FZ a k bN dark p n c) : ∃ g : Nat → Value, a = ⟨#[.pointer (some ⟨k, 0, none⟩), .slice p n c, .map (some bN), .bool dark, g 4, g 5, g 6, g 7, g 8, g 9, g 10, g 11, g 12, g 13, g 14, g 15, g 16, g 17, g 18, g 19, g 20, g 21, g 22, g 23, g 24, g 25, g 26, g 27, g 28, g 29, g 30, g 31, g 32, g 33, g 34, g 35, g 36, g 37, g 38, g 39, g 40, g 41, g 42, g 43, g 44, g 45, g 46, g 47, g 48, g 49, g 50, g 51, g 52, g 53, g 54, g 55, g 56, g 57, g 58, g 59, g 60, g 61, g 62, g 63, g 64, g 65, g 66, g 67, g 68, g 69, g 70, g 71, g 72, g 73, g 74, g 75, g 76, g 77, g 78, g 79, g 80, g 81, g 82, g 83, g 84, g 85, g 86, g 87, g 88, g 89, g 90, g 91, g 92, g 93, g 94, g 95, g 96, g 97, g 98, g 99, g 100, g 101, g 102, g 103, g 104, g 105, g 106, g 107, g 108, g 109, g 110, g 111, g 112, g 113, g 114, g 115, g 116, g 117, g 118, g 119, g 120, g 121, g 122, g 123, g 124, g 125, g 126, g 127, g 128, g 129, g 130, g 131, g 132, g 133, g 134, g 135, g 136, g 137, g 138, g 139, g 140, g 141, g 142, g 143, g 144, g 145, g 146, g 147, g 148, g 149, g 150, g 151, g 152, g 153, g 154, g 155, g 156, g 157, g 158, g 159, g 160, g 161, g 162, g 163, g 164, g 165, g 166, g 167, g 168, g 169, g 170, g 171, g 172, g 173, g 174, g 175, g 176, g 177, g 178, g 179, g 180, g 181, g 182, g 183, g 184, g 185, g 186, g 187, g 188, g 189, g 190, g 191, g 192, g 193, g 194, g 195, g 196, g 197, g 198, g 199, g 200, g 201, g 202, g 203, g 204, g 205, g 206, g 207, g 208, g 209, g 210, g 211, g 212, g 213, g 214, g 215, g 216, g 217, g 218, g 219, g 220, g 221, g 222, g 223, g 224, g 225, g 226, g 227, g 228, g 229, g 230, g 231, g 232, g 233, g 234, g 235, g 236, g 237, g 238, g 239, g 240, g 241, g 242, g 243, g 244, g 245, g 246, g 247, g 248, g 249], []⟩ := by
  refine ⟨slot a, ?_⟩
  have e := h.wide.opens
  rw [h.s0, h.s1, h.s2, h.s3] at e
  exact e
structure FY (a : Act) (k bN bI : Nat) (dark : Bool) (p : Option Addr) (n c : Nat) : Prop where
  wide : Wide a
  s0 : slot a 0 = .pointer (some ⟨k, 0, none⟩)
  s1 : slot a 1 = .slice p n c
  s2 : slot a 2 = .map (some bN)
  s3 : slot a 3 = .bool dark
  s9 : slot a 9 = .map (some bI)
set_option maxRecDepth 100000 in
theorem FY.opens {a : Act} {k bN bI : Nat} {dark : Bool} {p : Option Addr} {n c : Nat} (h : FY a k bN bI dark p n c) : ∃ g : Nat → Value, a = ⟨#[.pointer (some ⟨k, 0, none⟩), .slice p n c, .map (some bN), .bool dark, g 4, g 5, g 6, g 7, g 8, .map (some bI), g 10, g 11, g 12, g 13, g 14, g 15, g 16, g 17, g 18, g 19, g 20, g 21, g 22, g 23, g 24, g 25, g 26, g 27, g 28, g 29, g 30, g 31, g 32, g 33, g 34, g 35, g 36, g 37, g 38, g 39, g 40, g 41, g 42, g 43, g 44, g 45, g 46, g 47, g 48, g 49, g 50, g 51, g 52, g 53, g 54, g 55, g 56, g 57, g 58, g 59, g 60, g 61, g 62, g 63, g 64, g 65, g 66, g 67, g 68, g 69, g 70, g 71, g 72, g 73, g 74, g 75, g 76, g 77, g 78, g 79, g 80, g 81, g 82, g 83, g 84, g 85, g 86, g 87, g 88, g 89, g 90, g 91, g 92, g 93, g 94, g 95, g 96, g 97, g 98, g 99, g 100, g 101, g 102, g 103, g 104, g 105, g 106, g 107, g 108, g 109, g 110, g 111, g 112, g 113, g 114, g 115, g 116, g 117, g 118, g 119, g 120, g 121, g 122, g 123, g 124, g 125, g 126, g 127, g 128, g 129, g 130, g 131, g 132, g 133, g 134, g 135, g 136, g 137, g 138, g 139, g 140, g 141, g 142, g 143, g 144, g 145, g 146, g 147, g 148, g 149, g 150, g 151, g 152, g 153, g 154, g 155, g 156, g 157, g 158, g 159, g 160, g 161, g 162, g 163, g 164, g 165, g 166, g 167, g 168, g 169, g 170, g 171, g 172, g 173, g 174, g 175, g 176, g 177, g 178, g 179, g 180, g 181, g 182, g 183, g 184, g 185, g 186, g 187, g 188, g 189, g 190, g 191, g 192, g 193, g 194, g 195, g 196, g 197, g 198, g 199, g 200, g 201, g 202, g 203, g 204, g 205, g 206, g 207, g 208, g 209, g 210, g 211, g 212, g 213, g 214, g 215, g 216, g 217, g 218, g 219, g 220, g 221, g 222, g 223, g 224, g 225, g 226, g 227, g 228, g 229, g 230, g 231, g 232, g 233, g 234, g 235, g 236, g 237, g 238, g 239, g 240, g 241, g 242, g 243, g 244, g 245, g 246, g 247, g 248, g 249], []⟩ := by
  refine ⟨slot a, ?_⟩
  have e := h.wide.opens
  rw [h.s0, h.s1, h.s2, h.s3, h.s9] at e
  exact e
structure FC (a : Act) (k bI it : Nat) (dark : Bool) (p : Option Addr) (n c : Nat) : Prop where
  wide : Wide a
  s0 : slot a 0 = .pointer (some ⟨k, 0, none⟩)
  s1 : slot a 1 = .slice p n c
  s3 : slot a 3 = .bool dark
  s9 : slot a 9 = .map (some bI)
  s30 : slot a 30 = .pointer (some ⟨it, 0, none⟩)
set_option maxRecDepth 100000 in
theorem FC.opens {a : Act} {k bI it : Nat} {dark : Bool} {p : Option Addr} {n c : Nat} (h : FC a k bI it dark p n c) : ∃ g : Nat → Value, a = ⟨#[.pointer (some ⟨k, 0, none⟩), .slice p n c, g 2, .bool dark, g 4, g 5, g 6, g 7, g 8, .map (some bI), g 10, g 11, g 12, g 13, g 14, g 15, g 16, g 17, g 18, g 19, g 20, g 21, g 22, g 23, g 24, g 25, g 26, g 27, g 28, g 29, .pointer (some ⟨it, 0, none⟩), g 31, g 32, g 33, g 34, g 35, g 36, g 37, g 38, g 39, g 40, g 41, g 42, g 43, g 44, g 45, g 46, g 47, g 48, g 49, g 50, g 51, g 52, g 53, g 54, g 55, g 56, g 57, g 58, g 59, g 60, g 61, g 62, g 63, g 64, g 65, g 66, g 67, g 68, g 69, g 70, g 71, g 72, g 73, g 74, g 75, g 76, g 77, g 78, g 79, g 80, g 81, g 82, g 83, g 84, g 85, g 86, g 87, g 88, g 89, g 90, g 91, g 92, g 93, g 94, g 95, g 96, g 97, g 98, g 99, g 100, g 101, g 102, g 103, g 104, g 105, g 106, g 107, g 108, g 109, g 110, g 111, g 112, g 113, g 114, g 115, g 116, g 117, g 118, g 119, g 120, g 121, g 122, g 123, g 124, g 125, g 126, g 127, g 128, g 129, g 130, g 131, g 132, g 133, g 134, g 135, g 136, g 137, g 138, g 139, g 140, g 141, g 142, g 143, g 144, g 145, g 146, g 147, g 148, g 149, g 150, g 151, g 152, g 153, g 154, g 155, g 156, g 157, g 158, g 159, g 160, g 161, g 162, g 163, g 164, g 165, g 166, g 167, g 168, g 169, g 170, g 171, g 172, g 173, g 174, g 175, g 176, g 177, g 178, g 179, g 180, g 181, g 182, g 183, g 184, g 185, g 186, g 187, g 188, g 189, g 190, g 191, g 192, g 193, g 194, g 195, g 196, g 197, g 198, g 199, g 200, g 201, g 202, g 203, g 204, g 205, g 206, g 207, g 208, g 209, g 210, g 211, g 212, g 213, g 214, g 215, g 216, g 217, g 218, g 219, g 220, g 221, g 222, g 223, g 224, g 225, g 226, g 227, g 228, g 229, g 230, g 231, g 232, g 233, g 234, g 235, g 236, g 237, g 238, g 239, g 240, g 241, g 242, g 243, g 244, g 245, g 246, g 247, g 248, g 249], []⟩ := by
  refine ⟨slot a, ?_⟩
  have e := h.wide.opens
  rw [h.s0, h.s1, h.s3, h.s9, h.s30] at e
  exact e
structure FR (a : Act) (x : Int) : Prop where
  wide : Wide a
  s8 : slot a 8 = .int .i64 x
set_option maxRecDepth 100000 in
theorem FR.opens {a : Act} {x : Int} (h : FR a x) : ∃ g : Nat → Value, a = ⟨#[g 0, g 1, g 2, g 3, g 4, g 5, g 6, g 7, .int .i64 x, g 9, g 10, g 11, g 12, g 13, g 14, g 15, g 16, g 17, g 18, g 19, g 20, g 21, g 22, g 23, g 24, g 25, g 26, g 27, g 28, g 29, g 30, g 31, g 32, g 33, g 34, g 35, g 36, g 37, g 38, g 39, g 40, g 41, g 42, g 43, g 44, g 45, g 46, g 47, g 48, g 49, g 50, g 51, g 52, g 53, g 54, g 55, g 56, g 57, g 58, g 59, g 60, g 61, g 62, g 63, g 64, g 65, g 66, g 67, g 68, g 69, g 70, g 71, g 72, g 73, g 74, g 75, g 76, g 77, g 78, g 79, g 80, g 81, g 82, g 83, g 84, g 85, g 86, g 87, g 88, g 89, g 90, g 91, g 92, g 93, g 94, g 95, g 96, g 97, g 98, g 99, g 100, g 101, g 102, g 103, g 104, g 105, g 106, g 107, g 108, g 109, g 110, g 111, g 112, g 113, g 114, g 115, g 116, g 117, g 118, g 119, g 120, g 121, g 122, g 123, g 124, g 125, g 126, g 127, g 128, g 129, g 130, g 131, g 132, g 133, g 134, g 135, g 136, g 137, g 138, g 139, g 140, g 141, g 142, g 143, g 144, g 145, g 146, g 147, g 148, g 149, g 150, g 151, g 152, g 153, g 154, g 155, g 156, g 157, g 158, g 159, g 160, g 161, g 162, g 163, g 164, g 165, g 166, g 167, g 168, g 169, g 170, g 171, g 172, g 173, g 174, g 175, g 176, g 177, g 178, g 179, g 180, g 181, g 182, g 183, g 184, g 185, g 186, g 187, g 188, g 189, g 190, g 191, g 192, g 193, g 194, g 195, g 196, g 197, g 198, g 199, g 200, g 201, g 202, g 203, g 204, g 205, g 206, g 207, g 208, g 209, g 210, g 211, g 212, g 213, g 214, g 215, g 216, g 217, g 218, g 219, g 220, g 221, g 222, g 223, g 224, g 225, g 226, g 227, g 228, g 229, g 230, g 231, g 232, g 233, g 234, g 235, g 236, g 237, g 238, g 239, g 240, g 241, g 242, g 243, g 244, g 245, g 246, g 247, g 248, g 249], []⟩ := by
  refine ⟨slot a, ?_⟩
  have e := h.wide.opens
  rw [h.s8] at e
  exact e
noncomputable def bCopy : Code := rndC (inC (sndC (fstC (sndC (sndC bAll)))))
theorem rdN_form {v : Value} {y : DataW Unit × List MemPlace} (h : rdN v = some y) : ∃ c : Nm, v = valN c := by
  unfold rdN at h
  split at h
  · rename_i a b
    exact ⟨⟨[], a, b⟩, rfl⟩
  · cases h
set_option maxHeartbeats 8000000 in
set_option maxRecDepth 100000 in
theorem cp_zero {w : World} {a : Act} {k bN : Nat} {dark : Bool} {p : Option Addr} {n c : Nat} (hF : FZ a k bN dark p n c) : (fstC bAll).wp Tryd.prog (OnP fun a' w' => FZ a' k bN dark p n c ∧ w' = w) a w := by
  obtain ⟨gg, rfl⟩ := hF.opens
  clear hF
  conv => arg 2; whnf
  go_wp2
  exact ⟨rfl, ⟨⟨rfl, rfl⟩, rfl, rfl, rfl, rfl⟩, rfl⟩
set_option maxHeartbeats 8000000 in
set_option maxRecDepth 100000 in
theorem cp_made {w : World} {a : Act} {k bN : Nat} {dark : Bool} {p : Option Addr} {n c : Nat} (hF : FZ a k bN dark p n c) : (fstC (sndC bAll)).wp Tryd.prog (OnP fun a' w' => FY a' k bN w.heap.size dark p n c ∧ w' = w.alloc (.map #[] 0)) a w := by
  have hmm := @run_makeMap Tryd.prog
  obtain ⟨gg, rfl⟩ := hF.opens
  clear hF
  conv => arg 2; whnf
  go_wp2
  exact ⟨rfl, ⟨⟨rfl, rfl⟩, rfl, rfl, rfl, rfl, rfl⟩, rfl⟩
set_option maxHeartbeats 8000000 in
set_option maxRecDepth 100000 in
theorem cp_range {w : World} {a : Act} {k bN bI : Nat} {dark : Bool} {p : Option Addr} {n c : Nat} {nN : Nat} {D : DataW Unit} (hF : FY a k bN bI dark p n c) (hown : w.ownsMap Tryd.prog 9 rdN bN nN D) : (fstC (fstC (sndC (sndC bAll)))).wp Tryd.prog (OnP fun a' w' => FC a' k bI w.heap.size dark p n c ∧ w'.ranges Tryd.prog 9 rdN bN w.heap.size nN D (Maps.has D) (Maps.size D) ∧ w.grownBy w' none) a w := by
  obtain ⟨gg, rfl⟩ := hF.opens
  clear hF
  conv => arg 2; whnf
  go_wp2_with (first
    | (at_range; refine wpList_range_own _ rfl _ 58 rfl 9 60 str_keyed Tryd.underlying58 _ bN nN _ rfl hown ?_; intro w0 hrg0 hg0 hs0)
    | go_in)
  exact ⟨rfl, ⟨⟨rfl, rfl⟩, rfl, rfl, rfl, rfl, rfl⟩, hrg0, hg0⟩
/-- What comes of a round of the copy. -/
def CpP (w : World) (k bN bI it : Nat) (dark : Bool) (p : Option Addr) (n c nN : Nat) (D0 : DataW Unit) (left : Lit → Bool) (cnt nI : Nat) (e : Exit) (a : Act) (w' : World) : Prop :=
  (e = .normal ∧ FC a k bI it dark p n c ∧ ∃ left' cnt' Dout, w'.ranges Tryd.prog 9 rdN bN it nN D0 left' cnt' ∧ cnt' < cnt ∧ w'.ownsMap Tryd.prog 9 rdN bI (nI + 1) Dout ∧ Agree Dout D0 left' ∧ Below bI w w') ∨
  (e = .exit 0 ∧ FC a k bI it dark p n c ∧ cnt = 0 ∧ (∀ kl, left kl = false) ∧ w' = w)
set_option maxHeartbeats 8000000 in
set_option maxRecDepth 100000 in
theorem cp_round {w : World} {a : Act} {k bI it : Nat} {dark : Bool} {p : Option Addr} {n c : Nat} {bN nN nI cnt : Nat} {D0 Dout : DataW Unit} {left : Lit → Bool} (hF : FC a k bI it dark p n c) (hrg : w.ranges Tryd.prog 9 rdN bN it nN D0 left cnt) (hout : w.ownsMap Tryd.prog 9 rdN bI nI Dout) (hnI : nI < maxLen) (hA : Agree Dout D0 left) (hNI : bN < bI) (hIt : bI < it) : bCopy.wp Tryd.prog (CpP w k bN bI it dark p n c nN D0 left cnt nI) a w := by
  obtain ⟨gg, rfl⟩ := hF.opens
  have hlt0 := hout.lt
  clear hF
  conv => arg 2; whnf
  go_wp2_with (first
    | (at_next; refine wpList_next_ranges (α := ByteArray) (β := Nm) _ rfl _ rfl 9 str_keyed rdN Value.string valN (fun key kl hkey => by obtain ⟨s, rfl, _, _⟩ := string_of_keyOf Tryd.underlying9 hkey; exact ⟨s, rfl⟩) (fun v y hv => by exact rdN_form hv) bN it nN D0 left cnt rfl hrg ?_ ?_)
    | go_in)
  · intro hc0 hl0
    go_wp2
    exact .inr ⟨rfl, ⟨⟨rfl, rfl⟩, rfl, rfl, rfl, rfl, rfl⟩, hc0, hl0, rfl⟩
  · intro x cc kl y1 y2 w1 cnt1 hkey hlk hv hat hrg1 hlt hg1 hs1 hen
    obtain ⟨cn, cs, cl⟩ := cc
    rw [rdN_val] at hv
    have hy : y1 = datN ⟨cn, cs, cl⟩ := by injection hv with hv; injection hv with h1 h2; exact h1.symm
    subst hy
    unfold valN at hen
    dsimp only [valN] at hen ⊢
    have hout1 := hout.kept hg1 (fun e => by have := Option.some.inj e; omega)
    obtain ⟨w2, hw2⟩ : ∃ x, w1.alloc (.cells #[.bool cs, .bool cl] 60) = x := ⟨_, rfl⟩
    have hout2 : w2.ownsMap Tryd.prog 9 rdN bI nI Dout := by rw [← hw2]; exact hout1.alloc _
    have hrg2 : w2.ranges Tryd.prog 9 rdN bN it nN D0 (fun z => left z && !z.sameKey kl) cnt1 := by rw [← hw2]; exact hrg1.alloc _
    have hB2 : Bk w2 w1.heap.size [.bool cs, .bool cl] 60 := by rw [← hw2]; exact Bk.new _ _ _
    have b0 := hB2.cell 0 rfl
    have b1 := hB2.cell 1 rfl
    obtain ⟨w3, hrun, hout3, hg3⟩ := hout2.update str_keyed Tryd.underlying58 hnI hkey (rdN_val ⟨cn, cs, cl⟩)
    unfold valN at hrun
    dsimp only at hrun
    have hb12 : Below bI w w2 := by
      have h1 : Below bI w w1 := ⟨hg1.os, hg1.tape, hg1.output, hg1.size, fun i hi => hg1.block i (by omega) (fun e => by have := Option.some.inj e; omega)⟩
      rw [← hw2]; exact h1.alloc (by omega) _
    have HE : Hid (∃ left' cnt' Dout, w3.ranges Tryd.prog 9 rdN bN it nN D0 left' cnt' ∧ cnt' < cnt ∧ w3.ownsMap Tryd.prog 9 rdN bI (nI + 1) Dout ∧ Agree Dout D0 left' ∧ Below bI w w3) := by
      obtain ⟨s, e1, rfl, _⟩ := string_of_keyOf Tryd.underlying9 hkey
      exact ⟨_, cnt1, _, hrg2.kept hg3 (fun e => by have := Option.some.inj e; omega) (fun e => by have := Option.some.inj e; omega), hlt, hout3, agree_step hA hout.isMap trivial hat, hb12.trans ⟨hg3.os, hg3.tape, hg3.output, hg3.size, fun i hi => hg3.block i (by have := hb12.size; omega) (fun e => by have := Option.some.inj e; omega)⟩⟩
    have HW2 := keep hw2
    clear hrg hout hA hkey hlk hv hat hrg1 hlt hg1 hs1 hout1 hw2 hout2 hrg2 hB2 hout3 hg3 hb12 hlt0
    go_wp2_with (first | rw [HW2.out])
    exact .inl ⟨rfl, ⟨⟨rfl, rfl⟩, rfl, rfl, rfl, rfl, rfl⟩, HE.out⟩
end Go.Proofs.YtemdnmfldihalaaDoor.Lr
namespace Go.Proofs.YtemdnmfldihalaaDoor.Lr
set_option linter.unusedVariables false
set_option linter.unusedSimpArgs false
open Go.ChangeShapes Go.WideShapes Go.ChangeAt Go.RowKit Go.Maps Go.WideMaps Lg

theorem exit_then {next : Act → World → Prop} {Q : Exit → Act → World → Prop} {id : Nat} {a : Act} {w : World} (h : Q (.exit id) a w) : Exit.then next Q (.exit id) a w := h
theorem cp_loop {w : World} {a : Act} {k bI it : Nat} {dark : Bool} {p : Option Addr} {n c : Nat} {bN nN : Nat} {D0 : DataW Unit} (hF : FC a k bI it dark p n c) (hrg : w.ranges Tryd.prog 9 rdN bN it nN D0 (Maps.has D0) (Maps.size D0)) (hout : w.ownsMap Tryd.prog 9 rdN bI 0 (.map [])) (hsz : Maps.size D0 ≤ 2000) (hNI : bN < bI) (hIt : bI < it) :
    (Code.block 0 (Code.loop bCopy)).wp Tryd.prog (OnP fun a' w' => FC a' k bI it dark p n c ∧ w'.ownsMap Tryd.prog 9 rdN bI (Maps.size D0) D0 ∧ Below bI w w') a w := by
  refine wp_block (wp_loop (fun a' w' => ∃ left cnt Dout, FC a' k bI it dark p n c ∧ w'.ranges Tryd.prog 9 rdN bN it nN D0 left cnt ∧ cnt ≤ Maps.size D0 ∧ w'.ownsMap Tryd.prog 9 rdN bI (Maps.size D0 - cnt) Dout ∧ Agree Dout D0 left ∧ Below bI w w') (fun _ w' => w'.rangeLeft bN it) ⟨_, _, _, hF, hrg, Nat.le_refl _, hout.mono (Nat.zero_le _), agree_start D0, Below.refl _ _⟩ ?_)
  rintro a' w' ⟨left, cnt, Dout, hF', hrg', hcnt, hout', hA, hb⟩
  refine wp_mono (cp_round hF' hrg' hout' (by unfold maxLen; omega) hA hNI hIt) ?_
  rintro e a5 w5 (⟨rfl, hF5, left', cnt', Dout', hrg5, hlt, hout5, hA5, hb5⟩ | ⟨rfl, hF5, hc0, hl0, rfl⟩)
  · refine ⟨⟨left', cnt', Dout', hF5, hrg5, by omega, hout5.mono (by omega), hA5, hb.trans hb5⟩, ?_⟩
    show w5.rangeLeft bN it < w'.rangeLeft bN it
    rw [hrg5.left_eq, hrg'.left_eq]; exact hlt
  · refine exit_then (in_block_here ?_)
    refine ⟨rfl, hF5, ?_, hb⟩
    have e := agree_end hA hl0 (hout'.canon str_keyed) (hrg'.owns.canon str_keyed)
    subst e
    subst hc0
    simpa using hout'
set_option maxHeartbeats 8000000 in
set_option maxRecDepth 100000 in
theorem blk_six {w : World} {a : Act} {k bI it : Nat} {dark : Bool} {p : Option Addr} {n c : Nat} (hF : FC a k bI it dark p n c) : (fstC (fstC (sndC (sndC (sndC bAll))))).wp Tryd.prog (OnP fun a' w' => FB a' k bI 0 dark p n c ∧ w' = w) a w := by
  obtain ⟨gg, rfl⟩ := hF.opens
  clear hF
  conv => arg 2; whnf
  go_wp2
  exact ⟨rfl, ⟨⟨rfl, rfl⟩, rfl, rfl, rfl, rfl, rfl, rfl⟩, rfl⟩
set_option maxHeartbeats 8000000 in
set_option maxRecDepth 100000 in
theorem blk_end {w : World} {a : Act} (hF : Wide a) : (sndC (sndC (sndC (sndC bAll)))).wp Tryd.prog (fun e a' w' => Hid (e = .ret ∧ FR a' 0 ∧ w' = w)) a w := by
  rw [hF.opens]
  generalize slot a = gg
  clear hF
  conv => arg 2; whnf
  go_wp2
  exact ⟨⟨rfl, rfl⟩, rfl⟩
set_option maxHeartbeats 8000000 in
set_option maxRecDepth 100000 in
theorem rd_test {w : World} {a : Act} {k bI j : Nat} {dark : Bool} {p : Option Addr} {n c : Nat} {b : Bool} (hF : FB a k bI j dark p n c) (hb : decide (j < n) = b) : (fstC bRound).wp Tryd.prog (OnP fun a' w' => FB a' k bI j dark p n c ∧ slot a' 42 = .bool b ∧ w' = w) a w := by
  obtain ⟨gg, rfl⟩ := hF.opens
  clear hF
  conv => arg 2; whnf
  go_wp2
  exact ⟨rfl, ⟨⟨rfl, rfl⟩, rfl, rfl, rfl, rfl, rfl, rfl⟩, rfl, rfl⟩
set_option maxHeartbeats 8000000 in
set_option maxRecDepth 100000 in
theorem rd_next {w : World} {a : Act} {k bI j : Nat} {dark : Bool} {p : Option Addr} {n c : Nat} (hF : FB a k bI j dark p n c) (hj : j < n) (hn : n ≤ 281474976710656) : (sndC (sndC (sndC bRound))).wp Tryd.prog (OnP fun a' w' => FB a' k bI (j + 1) dark p n c ∧ w' = w) a w := by
  obtain ⟨gg, rfl⟩ := hF.opens
  have hwr : IntKind.i64.wrap ((j : Int) + 1) = (j : Int) + 1 := by rw [IntKind.wrap_i64]; omega
  clear hF
  conv => arg 2; whnf
  go_wp2
  exact ⟨rfl, ⟨⟨rfl, rfl⟩, rfl, rfl, rfl, rfl, rfl, rfl⟩, rfl⟩
/-- The statements, one by one. -/
theorem blk_loop (m K B : Nat) (ih : ∀ m', m = m' + 1 → KBlock m') (w0 w : World) (k bA nA bI nI : Nat) (dark : Bool) (p : Option Addr) (n c : Nat) (rs : List Vr) (k0 : Ks) (l : List St) (a : Act) (hF : FB a k bI 0 dark p n c) (hn : n ≤ 281474976710656) (hl : l.length = n) (hK : KS w0 w k bA nA bI nI rs k0) (hk0 : k < w0.heap.size) (hI0 : w0.heap.size ≤ bI) (hBk : B ≤ k) (hmK : m ≤ K) (hm : m ≤ 10) (hwf : ∀ t ∈ l, wfS m t)
    (hqa : ∀ j t, l[j]? = some t → ∃ g o s1 s2 s3, p = some ⟨g, o, none⟩ ∧ g < B ∧ StAt w0 g (o + j * 7) t s1 s2 s3 ∧ ExIs w0 B 11 (ar t.args) s1 ∧ StIs w0 B 10 K t.thn s2 ∧ StIs w0 B 10 K t.els s3) :
    (Code.block 2 (Code.loop bRound)).wp Tryd.prog (BkP (fun a' w' => Wide a' ∧ ∃ k1 nI, stmtsK (stmtK rs m dark) l k0 = .ok k1 ∧ KS w0 w' k bA nA bI nI rs k1) (fun x w' => stmtsK (stmtK rs m dark) l k0 = .error x ∧ Fs [k] w0 w')) a w := by
  refine wp_block (wp_loop (fun a' w' => ∃ j k1 nI, j ≤ n ∧ FB a' k bI j dark p n c ∧ stmtsK (stmtK rs m dark) l k0 = stmtsK (stmtK rs m dark) (l.drop j) k1 ∧ KS w0 w' k bA nA bI nI rs k1) (fun a' _ => n - (intOf (slot a' 41)).toNat) ⟨0, k0, nI, Nat.zero_le _, hF, rfl, hK⟩ ?_)
  rintro a' w' ⟨j, k1, nI', hjn, hF', hr, hK'⟩
  show (Code.seq (fstC bRound) (Code.seq (Code.cond (.tmp 42) Code.skip (Code.exit 2)) (Code.seq (Code.block 3 bOne) (sndC (sndC (sndC bRound)))))).wp Tryd.prog _ a' w'
  by_cases hjl : j < n
  · refine OnP.go (rd_test hF' (b := true) (decide_eq_true (by omega))) ?_
    rintro a2 w2 ⟨hF2, hs2, rfl⟩
    refine wp_seq (wp_cond_true (by rw [eval_slot]; exact hs2) (wp_skip ?_))
    obtain ⟨t, ht⟩ : ∃ t, l[j]? = some t := ⟨_, List.getElem?_eq_getElem (by rw [hl]; exact hjl)⟩
    have hwt := hwf t (List.mem_of_getElem? ht)
    obtain ⟨g, o, s1, s2, s3, rfl, hg, hat, h1, h2, h3⟩ := hqa j t ht
    have hb0 : Below B w0 w2 := hK'.fs.below (by omega) (by simpa using hBk)
    obtain ⟨m', rfl⟩ : ∃ m', m = m' + 1 := by
      cases m with
      | zero => exact hwt.elim
      | succ m' => exact ⟨m', rfl⟩
    obtain ⟨K', rfl⟩ : ∃ K', K = K' + 1 := ⟨K - 1, by omega⟩
    obtain ⟨ns1, wk1, lt1⟩ := k1
    have hone := one_all m' K' B (ih m' rfl) w0 w2 k bA nA bI nI' j dark g o n c rs ns1 wk1 lt1 t s1 s2 s3 a2 hF2 hjl hn hK' hk0 hI0 hBk (by omega) (by omega) hwt (hat.below hb0 hg) (h1.below hb0) (h2.below hb0) (h3.below hb0)
    refine wp_seq (wp_block (wp_mono hone ?_))
    rintro e a3 w3 (⟨rfl, hF3, k2, nI2, hr2, hK2⟩ | ⟨rfl, x, hx1, hx2, hr2, hf2⟩)
    · show (sndC (sndC (sndC bRound))).wp Tryd.prog _ a3 w3
      refine wp_mono (rd_next hF3 hjl hn) ?_
      rintro e a4 w4 ⟨rfl, hF4, rfl⟩
      refine ⟨⟨j + 1, k2, nI2, hjl, hF4, ?_, hK2⟩, ?_⟩
      · rw [hr, stmts_step ht, hr2, thenK_ok]
      · show n - (intOf (slot a4 41)).toNat < n - (intOf (slot a' 41)).toNat
        rw [hF4.s41, hF'.s41]
        simp [intOf]; omega
    · exact .inr ⟨rfl, x, hx1, hx2, by rw [hr, stmts_step ht, hr2]; rfl, hf2⟩
  · have hje : j = n := by omega
    refine OnP.go (rd_test hF' (b := false) (decide_eq_false (by omega))) ?_
    rintro a2 w2 ⟨hF2, hs2, rfl⟩
    refine wp_seq (wp_cond_false (by rw [eval_slot]; exact hs2) (wp_exit ?_))
    refine exit_then (exit_then (in_block_here ?_))
    refine .inl ⟨rfl, hF2.wide, k1, nI', ?_, hK'⟩
    rw [hr, List.drop_of_length_le (by omega)]; rfl
/-- What comes of a block. -/
def BlP (w0 : World) (k bA nA : Nat) (rs : List Vr) (ns : List Nm) (res : Except Int Ks) (e : Exit) (a : Act) (w' : World) : Prop := e = .ret ∧ FR a (resK res) ∧ Fs [k] w0 w' ∧ ∀ k', res = .ok k' → KK w' k bA nA rs k'.work k'.lets
theorem blk_all (m K B : Nat) (ih : ∀ m', m = m' + 1 → KBlock m') (w : World) (k bA nA bN nN : Nat) (dark : Bool) (p : Option Addr) (n c : Nat) (rs : List Vr) (ns : List Nm) (wk lt : Nat) (l : List St) (a : Act) (hF : FZ a k bN dark p n c) (hn : n ≤ 281474976710656) (hl : l.length = n) (hkk : KK w k bA nA rs wk lt) (hmp : MapN w bN nN ns) (hNk : bN ≠ k) (hnn : nN ≤ 1000 + wk) (hfew : Few ns wk lt) (hBk : B ≤ k) (hmK : m ≤ K) (hm : m ≤ 10) (hwf : ∀ t ∈ l, wfS m t)
    (hqa : ∀ j t, l[j]? = some t → ∃ g o s1 s2 s3, p = some ⟨g, o, none⟩ ∧ g < B ∧ StAt w g (o + j * 7) t s1 s2 s3 ∧ ExIs w B 11 (ar t.args) s1 ∧ StIs w B 10 K t.thn s2 ∧ StIs w B 10 K t.els s3) :
    bAll.wp Tryd.prog (BlP w k bA nA rs ns (blockK (stmtK rs m dark) l ⟨ns, wk, lt⟩)) a w := by
  show (Code.seq (fstC bAll) (Code.seq (fstC (sndC bAll)) (Code.seq (Code.seq (fstC (fstC (sndC (sndC bAll)))) (Code.block 0 (Code.loop bCopy))) (Code.seq (Code.seq (fstC (fstC (sndC (sndC (sndC bAll))))) (Code.block 2 (Code.loop bRound))) (sndC (sndC (sndC (sndC bAll)))))))).wp Tryd.prog _ a w
  have hk0 := hkk.box.lt
  have hNl := hmp.lt
  have hlt := hkk.lt
  refine OnP.go (cp_zero hF) ?_
  rintro a1 w1 ⟨hF1, rfl⟩
  refine OnP.go (cp_made hF1) ?_
  rintro a2 w2' ⟨hF2, rfl⟩
  obtain ⟨w2, hw2⟩ : ∃ x, w1.alloc (.map #[] 0) = x := ⟨_, rfl⟩
  have hb2 : Below w1.heap.size w1 w2 := by rw [← hw2]; exact (Below.refl _ _).alloc (Nat.le_refl _) _
  have hnil : w2.ownsMap (H := Unit) Tryd.prog 9 rdN w1.heap.size 0 (.map []) := by rw [← hw2]; exact World.ownsMap_made _ _ _ _
  rw [hw2]
  clear hw2
  obtain ⟨D, hown, hD⟩ := hmp.below hb2
  have hnil_lt := hnil.lt
  refine wp_seq (OnP.go (cp_range hF2 hown) ?_)
  rintro a3 w3 ⟨hF3, hrg, hg3⟩
  have hb3 : Below w2.heap.size w2 w3 := ⟨hg3.os, hg3.tape, hg3.output, hg3.size, fun i hi => hg3.block i hi (by simp)⟩
  have hwk := hfew.2.1
  refine wp_mono (cp_loop hF3 hrg (hnil.kept hg3 (by simp)) (by have := hown.size_le; omega) (by omega) (by omega)) ?_
  rintro e a4 w4 ⟨rfl, hF4, hown4, hb4⟩
  have hb04 : Below w1.heap.size w1 w4 := (hb2.trans (hb3.mono hb2.size)).trans hb4
  have hK4 : KS w1 w4 k bA nA w1.heap.size (Maps.size D) rs ⟨ns, wk, lt⟩ := ⟨hkk.below hb04, ⟨D, hown4, hD⟩, Fs.of_below hb04, hfew, by have := hown.size_le; dsimp only; omega⟩
  refine wp_seq (OnP.go (blk_six hF4) ?_)
  rintro a5 w5 ⟨hF5, rfl⟩
  refine wp_mono (blk_loop m K B ih w1 w5 k bA nA w1.heap.size (Maps.size D) dark p n c rs ⟨ns, wk, lt⟩ l a5 hF5 hn hl hK4 hk0 (Nat.le_refl _) hBk hmK hm hwf hqa) ?_
  rintro e a6 w6 (⟨rfl, hW6, k1, nI, hr, hK6⟩ | ⟨rfl, x, hx1, hx2, hr, hf6⟩)
  · refine wp_mono (blk_end hW6) ?_
    intro e a7 w7 h7
    obtain ⟨rfl, hF7, rfl⟩ := h7.out
    have hres : blockK (stmtK rs m dark) l ⟨ns, wk, lt⟩ = .ok ⟨ns, k1.work, k1.lets⟩ := by unfold blockK; rw [hr, thenK_ok]
    rw [hres]
    exact ⟨rfl, hF7, hK6.fs, fun k' hk' => by cases hk'; exact hK6.kk⟩
  · have hres : blockK (stmtK rs m dark) l ⟨ns, wk, lt⟩ = .error x := by unfold blockK; rw [hr]; rfl
    rw [hres]
    exact ⟨rfl, ⟨hx1, hx2⟩, hf6, fun k' hk' => by cases hk'⟩
set_option maxHeartbeats 8000000 in
set_option maxRecDepth 100000 in
theorem kblock_succ (m : Nat) (ih : ∀ m', m = m' + 1 → KBlock m') : KBlock m := by
  intro K B k bA nA bN nN rs ns wk lt dark l sl w hmK hm hwf hkk hmp hNk hnn hfew hBk hi
  obtain ⟨p, n, c, rfl, hl, hnc, hn, hqa⟩ := hi
  have HA := keep (fun a hF => blk_all m K B ih w k bA nA bN nN dark p n c rs ns wk lt l a hF hn hl hkk hmp hNk hnn hfew hBk hmK hm hwf hqa)
  clear hkk hmp hfew hqa hwf ih
  go_enter Tryd.func24, Tryd.ntmps24
  refine wp_mono (HA.out _ ⟨⟨rfl, rfl⟩, rfl, rfl, rfl, rfl⟩) ?_
  rintro e a' w' ⟨rfl, hF, hfs, hkk⟩
  obtain ⟨g, rfl⟩ := hF.opens
  clear hF HA
  go_ret
  exact ⟨rfl, hfs, hkk⟩
theorem kblock_ok : ∀ m, KBlock m
  | 0 => kblock_succ 0 fun m' h => by cases h
  | m + 1 => kblock_succ (m + 1) fun m' h => by cases h; exact kblock_ok m
end Go.Proofs.YtemdnmfldihalaaDoor.Lr
