/- strings.IndexAny at the four signs that end a word, whatever bytes the text has: where the text is short the library goes over it rune by rune. -/
import Derived.Test.YtkobiojndamofaaDoorLrBase
import Derived.Test.YtkobiojndamofaaDoorShelf
import Derived.Laws.RangeAny
import Derived.Laws.Strings3
import Derived.Deep.LoopGhost
import Derived.WalkMore
import Derived.BigQuiet
import Derived.Lib.DecodeN
import Derived.Lib.OthersKept
namespace Go.Proofs.YtkobiojndamofaaDoor.Lr
set_option linter.unusedVariables false
open Go.ChangeShapes Go.WideShapes Go.ChangeAt Go.RowKit Lg

/-- What is read of bytes that begin beyond ASCII: a rune beyond ASCII, of bytes that are all beyond it. -/
theorem dec_high (n b0 b1 b2 b3 : Nat) (hn : 1 ≤ n) (h0 : 128 ≤ b0) (k0 : b0 < 256) (k1 : b1 < 256) (k2 : b2 < 256) (k3 : b3 < 256) :
    128 ≤ (Lib.decodeN n b0 b1 b2 b3).1 ∧ (Lib.decodeN n b0 b1 b2 b3).1 ≤ 1114111 ∧ 1 ≤ (Lib.decodeN n b0 b1 b2 b3).2 ∧ (Lib.decodeN n b0 b1 b2 b3).2 ≤ n ∧
    (2 ≤ (Lib.decodeN n b0 b1 b2 b3).2 → 128 ≤ b1) ∧ (3 ≤ (Lib.decodeN n b0 b1 b2 b3).2 → 128 ≤ b2) ∧ (4 ≤ (Lib.decodeN n b0 b1 b2 b3).2 → 128 ≤ b3) ∧ (Lib.decodeN n b0 b1 b2 b3).2 ≤ 4 := by
  unfold Lib.decodeN
  rw [if_neg (by omega)]
  repeat' split
  all_goals (simp only; omega)

/-- Of a rune beyond ASCII as bytes: two to four, the last one beyond ASCII. -/
theorem enc_high (r : Int) (h0 : 128 ≤ r) (hv : Lib.validRune r = true) : ∃ (k : Nat) (c : UInt8), (Utf8.encode r).size = k + 1 ∧ 1 ≤ k ∧ k ≤ 3 ∧ 128 ≤ c.toNat ∧ (Utf8.encode r)[k]? = some c := by
  have hv' : Utf8.valid r = true := by
    unfold Lib.validRune at hv
    unfold Utf8.valid
    have := of_decide_eq_true hv
    simp only [Bool.or_eq_true, Bool.and_eq_true, decide_eq_true_eq]
    omega
  have hc : (if Utf8.valid r = true then r.toNat else Utf8.runeError) = r.toNat := if_pos hv'
  have hlast : 128 ≤ (UInt8.ofNat (128 + r.toNat % 64)).toNat := by
    rw [UInt8.toNat_ofNat']; omega
  unfold Utf8.encode
  simp only [hc]
  rw [if_neg (by omega)]
  split
  · exact ⟨1, _, rfl, by omega, by omega, hlast, rfl⟩
  · split
    · exact ⟨2, _, rfl, by omega, by omega, hlast, rfl⟩
    · exact ⟨3, _, rfl, by omega, by omega, hlast, rfl⟩

theorem byte_high (c : UInt8) (h : 128 ≤ c.toNat) : Lib.indexByte [40, 41] c = -1 ∧ Lib.indexByte [41] c = -1 ∧ Lib.indexByte [] c = -1 := by
  have h1 : ¬ (40 : UInt8) = c := fun e => by rw [← e] at h; exact absurd h (by decide)
  have h2 : ¬ (41 : UInt8) = c := fun e => by rw [← e] at h; exact absurd h (by decide)
  refine ⟨?_, ?_, ?_⟩ <;> simp [Lib.indexByte, h1, h2]

theorem below_drewN (w : World) (n : Nat) : Below w.heap.size w (w.drewN n) := ⟨rfl, rfl, rfl, Nat.le_refl _, fun _ _ => rfl⟩
set_option maxHeartbeats 4000000 in
set_option maxRecDepth 100000 in
theorem indexRune_high (r : Int) (h0 : 128 ≤ r) (h1 : r ≤ 1114111) (w : World) :
    Calls Tryd.prog 55 #[.string ⟨#[32, 10, 40, 41]⟩, .int .i32 r] w fun e w' => e = .returned (.int .i64 (-1)) ∧ Below w.heap.size w w' := by
  have d0 : decide (r < 128) = false := decide_eq_false (by omega)
  by_cases he : r = 65533
  · subst he
    go_enter Tryd.func55, Tryd.ntmps55
    go_wp2
    go_loopg [5, 6] 4 (fun g _ _ wx => ∃ i : Nat, i + g = 4 ∧ wx = w.iter ⟨#[32, 10, 40, 41]⟩ i)
    case atStart => exact ⟨0, by omega, rfl⟩
    case round =>
      obtain ⟨i, hig, rfl⟩ := hrel
      cases gk with
      | zero =>
        obtain rfl : i = 4 := by omega
        have hnx := fun ty => run_next_end (P := Tryd.prog) w ⟨#[32, 10, 40, 41]⟩ 4 ty (by decide)
        go_wp2
        go_ret
        exact ⟨rfl, (Below.refl _ _).alloc (Nat.le_refl _) _⟩
      | succ g =>
        rcases (show i = 0 ∨ i = 1 ∨ i = 2 ∨ i = 3 by omega) with rfl | rfl | rfl | rfl
        · have hnx := fun ty => run_next_ascii (P := Tryd.prog) w ⟨#[32, 10, 40, 41]⟩ 0 ty (by decide) (by decide)
          go_wp2
          go_roundg g
          case measure => omega
          case rel => exact ⟨1, by omega, rfl⟩
        · have hnx := fun ty => run_next_ascii (P := Tryd.prog) w ⟨#[32, 10, 40, 41]⟩ 1 ty (by decide) (by decide)
          go_wp2
          go_roundg g
          case measure => omega
          case rel => exact ⟨2, by omega, rfl⟩
        · have hnx := fun ty => run_next_ascii (P := Tryd.prog) w ⟨#[32, 10, 40, 41]⟩ 2 ty (by decide) (by decide)
          go_wp2
          go_roundg g
          case measure => omega
          case rel => exact ⟨3, by omega, rfl⟩
        · have hnx := fun ty => run_next_ascii (P := Tryd.prog) w ⟨#[32, 10, 40, 41]⟩ 3 ty (by decide) (by decide)
          go_wp2
          go_roundg g
          case measure => omega
          case rel => exact ⟨4, by omega, rfl⟩
  · have de : (r == 65533) = false := by simpa using he
    have HV := keep (Tryd.utf8_ValidRune r)
    cases hv : Lib.validRune r with
    | false =>
      rw [hv] at HV
      go_enter Tryd.func55, Tryd.ntmps55
      go_wp2_with fail
      refine (HV.out _).mono ?_
      rintro e w1 ⟨rfl, rfl⟩
      go_wp2
      go_ret
      exact ⟨rfl, Below.refl _ _⟩
    | true =>
      rw [hv] at HV
      obtain ⟨k, c, hk, hk1, hk3, hc, hck⟩ := enc_high r h0 hv
      have HX := keep (byte_high c hc)
      obtain ⟨q, hq⟩ : ∃ q, Utf8.encode r = q := ⟨_, rfl⟩
      rw [hq] at hk hck
      have hcz : (128 : Int) ≤ (c.toNat : Int) := by omega
      have hqk : q[k]'(by omega) = c := by
        rw [getElem?_pos q k (by omega)] at hck
        exact Option.some.inj hck
      have HIB := keep (fun s W => Tryd.strings_IndexByte s (c.toNat : Int) W)
      have hback : ((c.toNat : Int)).toNat.toUInt8 = c := by simp
      rw [hback] at HIB
      clear hback hck hv
      have n32 : ((32 : Int) != (c.toNat : Int)) = true := by simpa using (by omega : ¬ (32 : Int) = (c.toNat : Int))
      have n10 : ((10 : Int) != (c.toNat : Int)) = true := by simpa using (by omega : ¬ (10 : Int) = (c.toNat : Int))
      have n40 : ((40 : Int) != (c.toNat : Int)) = true := by simpa using (by omega : ¬ (40 : Int) = (c.toNat : Int))
      have n41 : ((41 : Int) != (c.toNat : Int)) = true := by simpa using (by omega : ¬ (41 : Int) = (c.toNat : Int))
      rcases (show k = 1 ∨ k = 2 ∨ k = 3 by omega) with rfl | rfl | rfl
      · have hx := HX.out.1
        have hwr : IntKind.i64.wrap 2 = 2 := by decide
        have hby : ∀ h, ((⟨#[32, 10, 40, 41]⟩ : ByteArray)[1]'h).toNat = 10 := fun _ => rfl
        have hex : ByteArray.extract ⟨#[32, 10, 40, 41]⟩ 2 4 = ⟨#[40, 41]⟩ := rfl
        go_enter Tryd.func55, Tryd.ntmps55
        go_wp2_with fail
        refine (HV.out _).mono ?_
        rintro e w1 ⟨rfl, rfl⟩
        go_wp2
        go_step3
        go_wp2
        refine wp_loop_rounds 1 ?_
        rw [rounds_succ]
        go_wp2
        go_step3
        go_wp2
        go_quiet (fail)
        go_wp2
        have HB := keep (below_drewN w1 nq)
        generalize w1.drewN nq = w2 at *
        go_quiet (first | (go_at_call 71; refine Calls.quiet_of_same (HIB.out _ _)))
        go_wp2
        rw [Exit.noGoto_ret]
        go_wp2
        rw [Exit.noGoto_ret]
        go_ret
        exact ⟨rfl, HB.out.trans ((below_drewN w2 _).mono HB.out.size)⟩
      · have hx := HX.out.2.1
        have hwr : IntKind.i64.wrap 3 = 3 := by decide
        have hby : ∀ h, ((⟨#[32, 10, 40, 41]⟩ : ByteArray)[2]'h).toNat = 40 := fun _ => rfl
        have hex : ByteArray.extract ⟨#[32, 10, 40, 41]⟩ 3 4 = ⟨#[41]⟩ := rfl
        go_enter Tryd.func55, Tryd.ntmps55
        go_wp2_with fail
        refine (HV.out _).mono ?_
        rintro e w1 ⟨rfl, rfl⟩
        go_wp2
        go_step3
        go_wp2
        refine wp_loop_rounds 1 ?_
        rw [rounds_succ]
        go_wp2
        go_step3
        go_wp2
        go_quiet (fail)
        go_wp2
        have HB := keep (below_drewN w1 nq)
        generalize w1.drewN nq = w2 at *
        go_quiet (first | (go_at_call 71; refine Calls.quiet_of_same (HIB.out _ _)))
        go_wp2
        rw [Exit.noGoto_ret]
        go_wp2
        rw [Exit.noGoto_ret]
        go_ret
        exact ⟨rfl, HB.out.trans ((below_drewN w2 _).mono HB.out.size)⟩
      · have hx := HX.out.2.2
        have hwr : IntKind.i64.wrap 4 = 4 := by decide
        have hby : ∀ h, ((⟨#[32, 10, 40, 41]⟩ : ByteArray)[3]'h).toNat = 41 := fun _ => rfl
        have hex : ByteArray.extract ⟨#[32, 10, 40, 41]⟩ 4 4 = ⟨#[]⟩ := rfl
        go_enter Tryd.func55, Tryd.ntmps55
        go_wp2_with fail
        refine (HV.out _).mono ?_
        rintro e w1 ⟨rfl, rfl⟩
        go_wp2
        go_step3
        go_wp2
        refine wp_loop_rounds 1 ?_
        rw [rounds_succ]
        go_wp2
        go_step3
        go_wp2
        go_quiet (fail)
        go_wp2
        have HB := keep (below_drewN w1 nq)
        generalize w1.drewN nq = w2 at *
        go_quiet (first | (go_at_call 71; refine Calls.quiet_of_same (HIB.out _ _)))
        go_wp2
        rw [Exit.noGoto_ret]
        go_wp2
        rw [Exit.noGoto_ret]
        go_ret
        exact ⟨rfl, HB.out.trans ((below_drewN w2 _).mono HB.out.size)⟩

theorem high_not (x : UInt8) (h : 128 ≤ x.toNat) : [32, 10, 40, 41].contains x = false := by
  cases hc : [32, 10, 40, 41].contains x with
  | false => rfl
  | true =>
    exfalso
    simp only [List.contains_iff_mem, List.mem_cons, List.not_mem_nil, or_false] at hc
    rcases hc with e | e | e | e <;> (rw [e] at h; exact absurd h (by decide))
theorem get_bang (s : ByteArray) (j : Nat) (h : j < s.size) : s.get! j = s[j]'h := by
  simp [ByteArray.get!, getElem!_pos, h]
  rfl
/-- What is read at a place of a text, where the byte is beyond ASCII. -/
theorem dec_at (s : ByteArray) (i : Nat) (hi : i < s.size) (hx : 128 ≤ (s[i]'hi).toNat) :
    128 ≤ (Utf8.decode s i).1 ∧ (Utf8.decode s i).1 ≤ 1114111 ∧ 1 ≤ (Utf8.decode s i).2 ∧ i + (Utf8.decode s i).2 ≤ s.size ∧ ∀ j y, i ≤ j → j < i + (Utf8.decode s i).2 → s.data.toList[j]? = some y → 128 ≤ y.toNat := by
  rw [Lib.decode_at]
  have hb : ∀ k, (s.get! k).toNat < 256 := fun k => (s.get! k).toNat_lt
  obtain ⟨a1, a2, a3, a4, a5, a6, a7, a8⟩ := dec_high (s.size - i) (s.get! i).toNat (s.get! (i + 1)).toNat (s.get! (i + 2)).toNat (s.get! (i + 3)).toNat (by omega) (by rw [get_bang s i hi]; exact hx) (hb _) (hb _) (hb _) (hb _)
  refine ⟨a1, a2, a3, by omega, fun j y h1 h2 hy => ?_⟩
  have hj : j < s.size := by omega
  have e : y = s.get! j := by
    have := Lib.data_getElem? s j hj
    rw [hy] at this
    rw [get_bang s j hj]
    exact Option.some.inj this
  rw [e]
  rcases (show j = i ∨ j = i + 1 ∨ j = i + 2 ∨ j = i + 3 by omega) with rfl | rfl | rfl | rfl
  · rw [get_bang s j hi]; exact hx
  · exact a5 (by omega)
  · exact a6 (by omega)
  · exact a7 (by omega)
theorem noAny_high {l : List UInt8} {i n : Nat} (h : Lib.NoAny l [32, 10, 40, 41] i) (hh : ∀ j y, i ≤ j → j < i + n → l[j]? = some y → 128 ≤ y.toNat) : Lib.NoAny l [32, 10, 40, 41] (i + n) := by
  intro j y hj hy
  by_cases hji : j < i
  · exact h j y hji hy
  · exact high_not y (hh j y (by omega) hj hy)

set_option maxHeartbeats 8000000 in
set_option maxRecDepth 1000000 in
theorem indexAny_short (s : ByteArray) (h8 : s.size ≤ 8) (w : World) :
    Calls Tryd.prog 23 #[.string s, .string ⟨#[32, 10, 40, 41]⟩] w fun e w' => e = .returned (.int .i64 (Lib.indexAny s.data.toList [32, 10, 40, 41])) ∧ Below w.heap.size w w' := by
  have h8z : decide ((8 : Int) < (s.size : Int)) = false := decide_eq_false (by omega)
  have HSh := keep (Tryd.strings_shouldUseASCIISet (s.size : Int))
  rw [h8z] at HSh
  go_enter Tryd.func23, Tryd.ntmps23
  go_wp2_with (go_at_call 56; refine (HSh.out _).mono ?_; rintro e w' ⟨rfl, hw⟩; rw [hw])
  go_loopg [9, 10] s.size (fun g _ _ wx => ∃ i : Nat, i + g = s.size ∧ wx.heap[w.heap.size]? = some (.stringIter s i) ∧ Below w.heap.size w wx ∧ Lib.NoAny s.data.toList [32, 10, 40, 41] i)
  case atStart => exact ⟨0, by omega, World.iter_heap w s 0, (Below.refl _ _).alloc (Nat.le_refl _) _, Lib.NoAny.zero _ _⟩
  case round =>
    obtain ⟨i, hig, hit, hbl, hno⟩ := hrel
    have HN := keep hno
    have HB := keep hbl
    have HI := keep hit
    clear hno hbl hit
    by_cases hi : i < s.size
    · obtain ⟨x, hx⟩ : ∃ x : UInt8, s[i]'hi = x := ⟨_, rfl⟩
      have hxl : s.data.toList[i]? = some x := by rw [← hx]; exact Lib.data_getElem? s i hi
      have Hx := keep hxl
      clear hxl
      by_cases hx128 : x.toNat < 128
      · have hnx := fun ty => Lib.run_next_ascii_at (P := Tryd.prog) wr w.heap.size s i ty HI.out hi (by rw [hx]; exact hx128)
        rw [hx] at hnx
        have HI2 := keep (Lib.iterAt_heap wr w.heap.size s i (i + 1) HI.out)
        have HB2 := keep (Lib.below_iterAt HB.out (Nat.le_refl _) s (i + 1))
        generalize wr.iterAt w.heap.size s (i + 1) = w2 at *
        have HR := keep (fun W => Tryd.strings_IndexRune_ascii ⟨#[32, 10, 40, 41]⟩ (x.toNat : Int) W (by omega) (by omega))
        have hback : ((x.toNat : Int)).toNat.toUInt8 = x := by simp
        rw [hback] at HR
        have hcon := Lib.contains_iff_indexByte [32, 10, 40, 41] x
        clear hx hback
        cases hin : [32, 10, 40, 41].contains x
        · rw [hin] at hcon
          have hlt : ¬ ((0 : Int) ≤ Lib.indexByte [32, 10, 40, 41] x) := of_decide_eq_false hcon.symm
          have HIn := keep hin
          clear hcon hin
          go_wp2_with (go_at_call 55; refine (HR.out _).mono ?_; rintro e w' ⟨rfl, hw⟩; rw [hw])
          go_roundg (s.size - (i + 1))
          case measure => omega
          case rel => exact ⟨i + 1, by omega, HI2.out, HB2.out, HN.out.succ Hx.out HIn.out⟩
        · rw [hin] at hcon
          have hge : (0 : Int) ≤ Lib.indexByte [32, 10, 40, 41] x := of_decide_eq_true hcon.symm
          have HIn := keep hin
          clear hcon hin
          go_wp2_with (go_at_call 55; refine (HR.out _).mono ?_; rintro e w' ⟨rfl, hw⟩; rw [hw])
          go_ret
          exact ⟨by rw [Lib.indexAny_hit HN.out Hx.out HIn.out]; rfl, HB2.out⟩
      · have hnx := fun ty => Lib.run_next_any_at (P := Tryd.prog) wr w.heap.size s i ty HI.out hi
        obtain ⟨r0, r1, n1, n2, hy⟩ := dec_at s i hi (by rw [hx]; omega)
        have HY := keep hy
        clear hy hx
        generalize (Utf8.decode s i).1 = r at *
        generalize (Utf8.decode s i).2 = n at *
        have HI2 := keep (Lib.iterAt_heap wr w.heap.size s i (i + n) HI.out)
        have HB2 := keep (Lib.below_iterAt HB.out (Nat.le_refl _) s (i + n))
        generalize wr.iterAt w.heap.size s (i + n) = w2 at *
        have HR := keep (fun W => indexRune_high (r : Int) (by omega) (by omega) W)
        go_wp2_with fail
        refine (HR.out _).mono ?_
        rintro e w3 ⟨rfl, hb3⟩
        have HB3 := keep (HB2.out.trans (hb3.mono HB2.out.size))
        have HI3 : Hid (w3.heap[w.heap.size]? = some (.stringIter s (i + n))) := by
          show w3.heap[w.heap.size]? = _
          rw [hb3.block _ (Array.getElem?_eq_some_iff.1 HI2.out).1]; exact HI2.out
        clear hb3
        go_wp2
        go_roundg (s.size - (i + n))
        case measure => omega
        case rel => exact ⟨i + n, by omega, HI3.out, HB3.out, noAny_high HN.out HY.out⟩
    · obtain rfl : i = s.size := by omega
      have hnx := fun ty => Lib.run_next_end_at (P := Tryd.prog) wr w.heap.size s s.size ty HI.out (by omega)
      go_wp2
      go_ret
      exact ⟨by rw [Lib.indexAny_none (by rw [← Lib.size_eq]; exact HN.out)]; rfl, HB.out⟩

theorem four_ascii : ∀ (j : Nat) b, (⟨#[32, 10, 40, 41]⟩ : ByteArray).data.toList[j]? = some b → b.toNat < 128 := by
  intro j b h
  have hm : b ∈ ([32, 10, 40, 41] : List UInt8) := List.mem_of_getElem? h
  simp only [List.mem_cons, List.not_mem_nil, or_false] at hm
  rcases hm with e | e | e | e <;> (rw [e]; decide)
theorem two_ascii : ∀ (j : Nat) b, (⟨#[32, 10]⟩ : ByteArray).data.toList[j]? = some b → b.toNat < 128 := by
  intro j b h
  have hm : b ∈ ([32, 10] : List UInt8) := List.mem_of_getElem? h
  simp only [List.mem_cons, List.not_mem_nil, or_false] at hm
  rcases hm with e | e <;> (rw [e]; decide)
/-- The first sign that ends a word. -/
theorem indexAny_any (s : ByteArray) (hs : s.size < 4294967281) (w : World) :
    Calls Tryd.prog 23 #[.string s, .string ⟨#[32, 10, 40, 41]⟩] w fun e w' => e = .returned (.int .i64 (Lib.indexAny s.data.toList [32, 10, 40, 41])) ∧ Below w.heap.size w w' := by
  by_cases h8 : s.size ≤ 8
  · exact indexAny_short s h8 w
  · refine (Tryd.strings_IndexAny_long (zero_of_info (n := 256) (by kernel_rfl)).1 s ⟨#[32, 10, 40, 41]⟩ w (by decide) (by omega) hs (by decide) four_ascii).mono ?_
    rintro e w' ⟨he, hw⟩
    refine ⟨he, ?_⟩
    rw [hw]
    exact ((Below.refl _ _).alloc (Nat.le_refl _) _).alloc (by simp) _
end Go.Proofs.YtkobiojndamofaaDoor.Lr
