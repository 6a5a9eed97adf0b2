/- The closed fact that the laws of chapter 3 ask first. Written by tools/gen_alive.py. -/
import Derived.Test.YtkobiojndamofaaDoorLgAll
import Derived.Test.YtkobiojndamofaaDoorLwWtx
namespace Go.Proofs.YtkobiojndamofaaDoor.Lr
set_option linter.unusedVariables false
set_option linter.unusedSimpArgs false
open Go.ChangeShapes Go.WideShapes Go.ChangeAt Go.RowKit Lg

def sB : ByteArray := ⟨([40, 102, 110, 32, 40, 40, 112, 117, 98, 32, 97, 41, 32, 40, 115, 101, 99, 32, 98, 41, 41, 32, 40, 40, 115, 101, 99, 32, 116, 32, 52, 41, 41, 32, 40, 108, 101, 116, 32, 115, 101, 99].append [32, 120, 32, 40, 43, 32, 97, 32, 98, 41, 41, 32, 40, 105, 102, 32, 120, 32, 40, 40, 115, 101, 116, 32, 120, 32, 49, 41, 41, 32, 40, 41, 41, 32, 40, 114, 101, 116, 32, 120, 41, 41]).toArray⟩
theorem sB_list : sB.data.toList = sL := rfl
theorem parse_sB : parseP sL = (fS, 0) := by
  unfold parseP
  rw [if_neg (by decide), sL_read]
/-- What Parse gives of the closed text, by parts. -/
theorem alive_parse (w : World) (ht : Tabs w) :
    Calls Tryd.prog 6 #[.string ⟨([40, 102, 110, 32, 40, 40, 112, 117, 98, 32, 97, 41, 32, 40, 115, 101, 99, 32, 98, 41, 41, 32, 40, 40, 115, 101, 99, 32, 116, 32, 52, 41, 41, 32, 40, 108, 101, 116, 32, 115, 101, 99].append [32, 120, 32, 40, 43, 32, 97, 32, 98, 41, 41, 32, 40, 105, 102, 32, 120, 32, 40, 40, 115, 101, 116, 32, 120, 32, 49, 41, 41, 32, 40, 41, 41, 32, 40, 114, 101, 116, 32, 120, 41, 41]).toArray⟩] w fun r w' => ∃ (p1 p2 : Option Addr) (n1 c1 n2 c2 g o c3 : Nat), r = .returned (.tuple #[.agg #[.slice p1 n1 c1, .slice p2 n2 c2, .slice (some ⟨g, o, none⟩) 3 c3], .int .i64 0]) ∧ 3 ≤ c3 ∧ g < w'.heap.size ∧ FnIs w' w'.heap.size 10 11 fS (.agg #[.slice p1 n1 c1, .slice p2 n2 c2, .slice (some ⟨g, o, none⟩) 3 c3]) ∧ Below w.heap.size w w' := by
  refine (parse_any sB (by decide) w ht).mono ?_
  rintro r w' ⟨v1, v2, v3, rfl, hx, hb⟩
  rw [sB_list, parse_sB] at hx
  rw [sB_list, parse_sB]
  have hx0 := hx
  obtain ⟨s1, s2, s3, e, h1, h2, h3⟩ := hx
  injection e with e; injection e with e; injection e with e1 e; injection e with e2 e; injection e with e3 e
  subst e1; subst e2; subst e3
  obtain ⟨p1, n1, c1, rfl⟩ := h1.slice
  obtain ⟨p2, n2, c2, rfl⟩ := h2.slice
  obtain ⟨p, n, c3, rfl, hn, hc, hm, hj⟩ := h3
  obtain ⟨g, o, t1, t2, t3, rfl, hg, _⟩ := hj 2 tRet rfl
  have hn3 : n = 3 := hn.symm
  subst hn3
  exact ⟨p1, p2, n1, c1, n2, c2, g, o, c3, rfl, hc, hg, hx0, hb⟩

set_option maxHeartbeats 16000000 in
set_option maxRecDepth 100000 in
theorem alive_any (w : World) (ht : Tabs w) :
    Calls Tryd.prog 5 #[] w fun r w' => r = .returned (.bool true) ∧ Below w.heap.size w w' := by
  have HT := keep ht
  have HP := keep (alive_parse w ht)
  have HN1 : Hid (∀ W, Tabs W → Calls Tryd.prog 11 #[.string ⟨#[97, 98]⟩] W fun r w' => r = .returned (.bool true) ∧ Below W.heap.size W w') := fun W hW => by
    have h := name_any ⟨#[97, 98]⟩ (by decide) W hW
    rw [show (⟨#[97, 98]⟩ : ByteArray).data.toList = [97, 98] from rfl, name_ab] at h
    exact h
  have HN2 : Hid (∀ W, Tabs W → Calls Tryd.prog 11 #[.string ⟨#[108, 101, 116]⟩] W fun r w' => r = .returned (.bool false) ∧ Below W.heap.size W w') := fun W hW => by
    have h := name_any ⟨#[108, 101, 116]⟩ (by decide) W hW
    rw [show (⟨#[108, 101, 116]⟩ : ByteArray).data.toList = [108, 101, 116] from rfl, name_let] at h
    exact h
  clear ht
  go_enter Tryd.func5, Tryd.ntmps5
  go_wp2_with fail
  refine HP.out.mono ?_
  rintro r w1 ⟨p1, p2, n1, c1, n2, c2, g, o, c3, rfl, hc3, hg, hx1, hb1⟩
  have HSB : Hid ((⟨(addsW [] (toksF fS)).toArray⟩ : ByteArray) = ⟨#[40, 102, 110, 32, 40, 40, 112, 117, 98, 32, 97, 41, 32, 40, 115, 101, 99, 32, 98, 41, 41, 32, 40, 40, 115, 101, 99, 32, 116, 32, 52, 41, 41, 32, 40, 108, 101, 116, 32, 115, 101, 99, 32, 120, 32, 40, 43, 32, 97, 32, 98, 41, 41, 32, 40, 105, 102, 32, 120, 32, 40, 40, 115, 101, 116, 32, 120, 32, 49, 41, 41, 32, 40, 41, 41, 32, 40, 114, 101, 116, 32, 120, 41, 41]⟩) := by
    show (⟨_⟩ : ByteArray) = _
    rw [sL_back]; rfl
  generalize (⟨#[40, 102, 110, 32, 40, 40, 112, 117, 98, 32, 97, 41, 32, 40, 115, 101, 99, 32, 98, 41, 41, 32, 40, 40, 115, 101, 99, 32, 116, 32, 52, 41, 41, 32, 40, 108, 101, 116, 32, 115, 101, 99, 32, 120, 32, 40, 43, 32, 97, 32, 98, 41, 41, 32, 40, 105, 102, 32, 120, 32, 40, 40, 115, 101, 116, 32, 120, 32, 49, 41, 41, 32, 40, 41, 41, 32, 40, 114, 101, 116, 32, 120, 41, 41]⟩ : ByteArray) = SB at *
  have HT1 := keep (HT.out.up hb1)
  have HX1 := keep hx1
  have HB1 := keep hb1
  have HD := keep (Bk.new w1 [.slice none 0 0, .slice none 0 0, .slice none 0 0] 26)
  clear hb1 HT HP hx1
  obtain ⟨w2, hw2⟩ : ∃ w2, (w1.alloc (.cells #[.slice none 0 0, .slice none 0 0, .slice none 0 0] 26)).setRow w1.heap.size #[.slice p1 n1 c1, .slice p2 n2 c2, .slice (some ⟨g, o, none⟩) 3 c3] = w2 := ⟨_, rfl⟩
  have HK2 : Hid (Bk w2 w1.heap.size [.slice p1 n1 c1, .slice p2 n2 c2, .slice (some ⟨g, o, none⟩) 3 c3] 26) := by
    show Bk _ _ _ _
    rw [← hw2]; exact setRow_heap _ _ _ _ _ _ HD.out
  have HB2 : Hid (Below w1.heap.size w1 w2) := by
    show Below _ _ _
    rw [← hw2]; exact below_setRow ((Below.refl _ _).alloc (Nat.le_refl _) _) (Nat.le_refl _) _
  have e0 := HK2.out.cell 0 rfl
  have e1 := HK2.out.cell 1 rfl
  have e2 := HK2.out.cell 2 rfl
  go_wp2_with (first
    | refine wpList_store_row rfl 26 (.tmp 2) (.tmp 7) rfl w1.heap.size #[.slice p1 n1 c1, .slice p2 n2 c2, .slice (some ⟨g, o, none⟩) 3 c3] rfl rfl 26 #[.slice none 0 0, .slice none 0 0, .slice none 0 0] HD.out (info_F [.slice p1 n1 c1, .slice p2 n2 c2, .slice (some ⟨g, o, none⟩) 3 c3] rfl) rfl (by simp [Value.oneCell']) ?_
    | rw [hw2]
    | refine wpList_load_row rfl 26 (.tmp 2) rfl w1.heap.size rfl 26 #[.slice p1 n1 c1, .slice p2 n2 c2, .slice (some ⟨g, o, none⟩) 3 c3] (0, 0) _ HK2.out Tryd.underlying26 rfl (info_F [.slice p1 n1 c1, .slice p2 n2 c2, .slice (some ⟨g, o, none⟩) 3 c3] rfl) ?_)
  clear e0 e1 e2
  have HT2 := keep (HT1.out.up HB2.out)
  have HX2 := keep (HX1.out.below HB2.out)
  have hgl : GL w1.heap.size := HT1.out.gl
  have HPr := keep (print_any w1.heap.size hgl fS sL_wf _ w2 HB2.out.size HX2.out HT2.out (by rw [sL_back]; decide))
  rw [HSB.out] at HPr
  refine HPr.out.mono ?_
  rintro r w3 ⟨rfl, hb3⟩
  have HB13 := keep (HB2.out.trans (hb3.mono HB2.out.size))
  have HX3 := keep (HX1.out.below HB13.out)
  have HT3 := keep (HT1.out.up HB13.out)
  have HK3 := keep (HK2.out.fs (Fs.of_below (l := []) hb3) (by simp))
  clear hb3 HPr HX2 HT2 HK2 HB2 hw2 HD
  obtain ⟨z1, z2, z3, ez, hz1, hz2, hz3⟩ := HX3.out
  injection ez with ez; injection ez with ez; injection ez with ez1 ez; injection ez with ez2 ez; injection ez with ez3 ez
  subst ez1; subst ez2; subst ez3
  obtain ⟨p, n, c, e0, -, -, -, hj⟩ := hz3
  injection e0 with e0 e01 e02
  subst e0; subst e01; subst e02
  obtain ⟨g', o', t1, t2, t3, eg, hg', hat, he, hthn, hels⟩ := hj 2 tRet rfl
  injection eg with eg; injection eg with eg1 eg2 eg3
  subst eg1; subst eg2; clear eg3 ez
  clear hj hz1 hz2 hg'
  obtain ⟨q1, m1, d1, rfl, hm1, hm2, hm3, hej⟩ := he.parts
  obtain ⟨g4, o4, x4, rfl, hg4, hxat, hx4⟩ := hej 0 xRet rfl
  obtain ⟨q2, m2, d2, rfl⟩ := hthn.slice
  obtain ⟨q3, m3, d3, rfl⟩ := hels.slice
  have hm11 : m1 = 1 := hm1.symm
  subst hm11
  obtain ⟨q4, m4, d4, rfl, -⟩ := hx4.parts
  have HSt : Hid (∀ W, Below w1.heap.size w3 W → Calls Tryd.prog 9 #[.agg #[.int .i64 6, .int .i64 0, .string ⟨#[]⟩, .bool false, .slice (some ⟨g4, o4, none⟩) 1 d1, .slice q2 m2 d2, .slice q3 m3 d3]] W fun r w' => r = .returned (.string ⟨#[40, 114, 101, 116, 32, 120, 41]⟩) ∧ Below W.heap.size W w') := fun W hW => by
    have h := stmtText_any w1.heap.size hgl 10 9 10 (by omega) (by omega) tRet _ _ _ W (Nat.le_trans HB13.out.size hW.size) (HT3.out.below hgl hW) (he.below hW) (hthn.below hW) (hels.below hW) ret_wf (by rw [ret_back]; decide) (by rw [ret_back]; decide)
    rw [ret_back] at h
    exact h
  have HEx : Hid (∀ W, Below w1.heap.size w3 W → Calls Tryd.prog 10 #[.agg #[.int .i64 2, .int .i64 0, .string ⟨#[120]⟩, .slice q4 m4 d4]] W fun r w' => r = .returned (.string ⟨#[120]⟩) ∧ Below W.heap.size W w') := fun W hW => by
    have h := exprText_any w1.heap.size hgl 8 10 (by omega) xRet _ W (Nat.le_trans HB13.out.size hW.size) (HT3.out.below hgl hW) (hx4.below hW) x_wf (by rw [x_back]; decide) (by rw [x_back]; decide)
    rw [x_back] at h
    exact h
  have HAt := keep hat
  have HXat := keep hxat
  have f2 : w3.cell? ⟨w1.heap.size, 2, none⟩ = some (.slice (some ⟨g, o, none⟩) 3 c3) := HK3.out.cell 2 rfl
  have y0 := hat.c0
  have y1 := hat.c1
  have y2 := hat.c2
  have y3 := hat.c3
  have y4 := hat.c4
  have y5 := hat.c5
  have y6 := hat.c6
  simp only [tRet] at y0 y1 y2 y3
  clear hat hxat he hthn hels hx4 hej HX3
  clear hm1 hm3 HX1
  have hB3 : w1.heap.size ≤ w3.heap.size := HB13.out.size
  have HB13' := keep (HB1.out.trans (HB13.out.mono HB1.out.size))
  generalize w1.heap.size = B at *
  rw [show o + 2 * 7 = o + 14 from rfl] at y0 y1 y2 y3 y4 y5 y6
  go_wp2_with fail
  refine (HSt.out w3 (Below.refl _ _)).mono ?_
  rintro r w4 ⟨rfl, hb4⟩
  have HB34 := keep hb4
  have f4 := HK3.out.fs (Fs.of_below (l := []) hb4) (by simp)
  have f2 : w4.cell? ⟨B, 2, none⟩ = some (.slice (some ⟨g, o, none⟩) 3 c3) := f4.cell 2 rfl
  have y4 := keep_cell hb4 HAt.out.c4
  have x0 := keep_cell hb4 HXat.out.c0
  have x1 := keep_cell hb4 HXat.out.c1
  have x2 := keep_cell hb4 HXat.out.c2
  have x3 := keep_cell hb4 HXat.out.c3
  simp only [xRet] at x0 x1 x2
  rw [show o4 + 0 * 4 = o4 by omega] at x0 x1 x2 x3
  rw [show o + 2 * 7 = o + 14 from rfl] at y4
  clear hb4 HAt HXat HK3 f4 HSt
  go_wp2_with fail
  refine (HEx.out w4 (HB34.out.mono hB3)).mono ?_
  rintro r w5 ⟨rfl, hb5⟩
  have HB35 := keep (HB34.out.trans (hb5.mono HB34.out.size))
  have HT5 := keep (HT3.out.up HB35.out)
  clear hb5 HB34 f2 y4 x0 x1 x2 x3 HEx HT3
  go_wp2_with fail
  refine (HN1.out w5 HT5.out).mono ?_
  rintro r w6 ⟨rfl, hb6⟩
  have HT6 := keep (HT5.out.up hb6)
  have HB36 := keep (HB35.out.trans (hb6.mono HB35.out.size))
  clear hb6 HN1 HT5 HB35
  go_wp2_with fail
  refine (HN2.out w6 HT6.out).mono ?_
  rintro r w7 ⟨rfl, hb7⟩
  have HB37 := keep (HB36.out.trans (hb7.mono HB36.out.size))
  have HBB := keep (HB13'.out.trans (HB37.out.mono HB13'.out.size))
  clear hb7 HB36 HN2 HT6
  go_wp2
  go_ret
  exact ⟨rfl, HBB.out⟩
end Go.Proofs.YtkobiojndamofaaDoor.Lr
