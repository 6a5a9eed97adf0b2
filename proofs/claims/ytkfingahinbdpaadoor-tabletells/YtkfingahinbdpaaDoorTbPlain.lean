/- Tables of what is seen, as plain lists and numbers: the names, what is right, a table's text, and what a text is read as. No Go in it. -/
import Derived.Lib.AtoiAll
import Derived.Lib.ItoaNum
import Derived.Lib.Bytealg
namespace Go.Proofs.YtkfingahinbdpaaDoor.Tb
set_option linter.unusedVariables false

/-- The names of the ops, from the first one on. -/
def nmL : List (List UInt8) := [[97, 100, 100], [115, 117, 98], [97, 110, 100], [111, 114], [120, 111, 114], [115, 104, 108], [115, 104, 114], [109, 117, 108], [100, 105, 118], [114, 101, 109], [108, 101, 115, 115], [115, 97, 109, 101], [115, 101, 108], [99, 111, 110, 115, 116], [109, 111, 118, 101], [108, 111, 97, 100], [115, 116, 111, 114, 101]]
def nm (op : Nat) : List UInt8 := nmL.getD (op - 1) []
/-- Which op bears that name; 0: none. -/
def opOf (key : List UInt8) : Nat := if key ∈ nmL then nmL.idxOf key + 1 else 0
/-- What a right table may tell of an op at most: all of its bits. -/
def most (op : Nat) : Int := ([0, 3, 3, 3, 3, 3, 3, 3, 3, 3, 3, 3, 3, 7, 0, 1, 1, 3] : List Int).getD op 0

theorem opOf_nm : ∀ op : Nat, 1 ≤ op → op ≤ 17 → opOf (nm op) = op := by
  intro op h1 h2
  have : ∀ k : Fin 17, opOf (nm (k.val + 1)) = k.val + 1 := by decide
  have := this ⟨op - 1, by omega⟩
  rwa [show op - 1 + 1 = op by omega] at this
theorem opOf_some {key : List UInt8} (h : ¬ opOf key = 0) : nm (opOf key) = key ∧ 1 ≤ opOf key ∧ opOf key ≤ 17 := by
  unfold opOf at h ⊢
  by_cases hk : key ∈ nmL
  · rw [if_pos hk]
    have hl := List.idxOf_lt_length_of_mem hk
    refine ⟨?_, by omega, ?_⟩
    · unfold nm
      rw [show nmL.idxOf key + 1 - 1 = nmL.idxOf key by omega, List.getD_eq_getElem?_getD, List.getElem?_eq_getElem hl, Option.getD_some]
      exact List.getElem_idxOf hl
    · have : nmL.length = 17 := by decide
      omega
  · rw [if_neg hk] at h; exact absurd rfl h
theorem nm_blank : ∀ op : Nat, 32 ∉ nm op := by
  intro op
  by_cases h : op - 1 < 17
  · have : ∀ k : Fin 17, 32 ∉ nmL.getD k.val [] := by decide
    exact this ⟨op - 1, h⟩
  · unfold nm
    have hl : nmL.length = 17 := by decide
    rw [List.getD_eq_getElem?_getD, List.getElem?_eq_none (by omega)]
    simp
theorem nm_feed : ∀ op : Nat, 10 ∉ nm op := by
  intro op
  by_cases h : op - 1 < 17
  · have : ∀ k : Fin 17, 10 ∉ nmL.getD k.val [] := by decide
    exact this ⟨op - 1, h⟩
  · unfold nm
    have hl : nmL.length = 17 := by decide
    rw [List.getD_eq_getElem?_getD, List.getElem?_eq_none (by omega)]
    simp

/-- What is ahead of the first c, what is behind it, and whether there is one. -/
def pre (c : UInt8) (l : List UInt8) : List UInt8 := l.takeWhile (· != c)
def suf (c : UInt8) (l : List UInt8) : List UInt8 := (l.dropWhile (· != c)).drop 1
def has (c : UInt8) (l : List UInt8) : Bool := decide (c ∈ l)

theorem pre_no {c : UInt8} : ∀ {l : List UInt8}, c ∉ l → pre c l = l
  | [], _ => rfl
  | x :: r, h => by
    have hx : ¬ x = c := fun e => h (by simp [e])
    have := pre_no (c := c) (l := r) (fun hh => h (List.mem_cons_of_mem _ hh))
    unfold pre at this ⊢
    rw [List.takeWhile_cons, if_pos (by simpa using hx), this]
theorem pre_mem {c : UInt8} : ∀ {l : List UInt8}, c ∉ pre c l
  | [] => by simp [pre]
  | x :: r => by
    have := pre_mem (c := c) (l := r)
    unfold pre at this ⊢
    rw [List.takeWhile_cons]
    by_cases hx : x = c
    · rw [if_neg (by simpa using hx)]; simp
    · rw [if_pos (by simpa using hx)]
      simp only [List.mem_cons, not_or]
      exact ⟨fun e => hx e.symm, this⟩
theorem pre_append {c : UInt8} : ∀ {p r : List UInt8}, c ∉ p → pre c (p ++ c :: r) = p ∧ suf c (p ++ c :: r) = r
  | [], r, _ => by simp [pre, suf]
  | x :: p, r, h => by
    have hx : ¬ x = c := fun e => h (by simp [e])
    have := pre_append (c := c) (p := p) (r := r) (fun hh => h (List.mem_cons_of_mem _ hh))
    unfold pre suf at this ⊢
    rw [List.cons_append, List.takeWhile_cons, List.dropWhile_cons, if_pos (by simpa using hx), if_pos (by simpa using hx), this.1, this.2]
    exact ⟨rfl, rfl⟩
theorem pre_suf {c : UInt8} : ∀ {l : List UInt8}, c ∈ l → pre c l ++ c :: suf c l = l
  | [], h => by simp at h
  | x :: r, h => by
    unfold pre suf
    rw [List.takeWhile_cons, List.dropWhile_cons]
    by_cases hx : x = c
    · rw [if_neg (by simpa using hx), if_neg (by simpa using hx)]; simp [hx]
    · rw [if_pos (by simpa using hx), if_pos (by simpa using hx)]
      have hr : c ∈ r := by
        rcases List.mem_cons.1 h with e | e
        · exact absurd e.symm hx
        · exact e
      have := pre_suf hr
      unfold pre suf at this
      rw [List.cons_append, this]
theorem suf_length {c : UInt8} {l : List UInt8} (h : c ∈ l) : (pre c l).length + (suf c l).length + 1 = l.length := by
  have := congrArg List.length (pre_suf h)
  simp at this
  omega
theorem index_no {c : UInt8} : ∀ {l : List UInt8}, c ∉ l → Lib.indexByte l c = -1
  | [], _ => rfl
  | x :: r, h => by
    have hx : ¬ x = c := fun e => h (by simp [e])
    rw [Lib.indexByte, if_neg (by simpa using hx), if_pos (by rw [index_no (l := r) (fun hh => h (by simp [hh]))]; rfl)]
theorem index_yes {c : UInt8} : ∀ {l : List UInt8}, c ∈ l → Lib.indexByte l c = (pre c l).length
  | [], h => by simp at h
  | x :: r, h => by
    rw [Lib.indexByte]
    unfold pre
    rw [List.takeWhile_cons]
    by_cases hx : x = c
    · rw [if_pos (by simpa using hx), if_neg (by simpa using hx)]; rfl
    · have hr : c ∈ r := by
        rcases List.mem_cons.1 h with e | e
        · exact absurd e.symm hx
        · exact e
      rw [if_neg (c := (x == c) = true) (by simpa using hx), if_pos (c := (x != c) = true) (by simpa using hx), index_yes hr]
      unfold pre
      rw [if_neg (by simp)]
      simp
theorem take_pre {c : UInt8} {l : List UInt8} (h : c ∈ l) : l.take (pre c l).length = pre c l := by
  have := pre_suf h
  generalize pre c l = p at this ⊢
  generalize suf c l = q at this
  subst this
  simp
theorem drop_suf {c : UInt8} {l : List UInt8} (h : c ∈ l) : l.drop ((pre c l).length + 1) = suf c l := by
  have := pre_suf h
  generalize pre c l = p at this ⊢
  generalize suf c l = q at this ⊢
  subst this
  rw [← List.drop_drop]
  simp

/-- A number above 0, in tens, as it is written; 0: it is none. -/
def posV (l : List UInt8) : Int := match Lib.atoiAll l with
  | .ok v => if 0 < v ∧ Lib.itoa v = l then v else 0
  | _ => 0
theorem posV_ok {l : List UInt8} {v : Int} (h : Lib.atoiAll l = .ok v) : posV l = if 0 < v ∧ Lib.itoa v = l then v else 0 := by
  unfold posV; rw [h]
theorem posV_no {l : List UInt8} (h : ∀ v, Lib.atoiAll l ≠ .ok v) : posV l = 0 := by
  unfold posV
  split
  · rename_i v hv; exact absurd hv (h v)
  · rfl
theorem posV_nonneg (l : List UInt8) : 0 ≤ posV l := by
  unfold posV
  split
  · split <;> omega
  · omega
theorem posV_some {l : List UInt8} (h : ¬ posV l = 0) : Lib.itoa (posV l) = l ∧ 0 < posV l := by
  by_cases hv : ∃ v, Lib.atoiAll l = .ok v
  · obtain ⟨v, hv⟩ := hv
    rw [posV_ok hv] at h ⊢
    by_cases hc : 0 < v ∧ Lib.itoa v = l
    · rw [if_pos hc]; exact ⟨hc.2, hc.1⟩
    · rw [if_neg hc] at h; exact absurd rfl h
  · exact absurd (posV_no fun v hh => hv ⟨v, hh⟩) h
theorem itoa_small (v : Int) (h1 : 1 ≤ v) (h2 : v ≤ 7) : Lib.itoa v = [UInt8.ofNat (48 + v.toNat)] := by
  unfold Lib.itoa
  rw [if_neg (by omega), Lib.decDigits, dif_pos (by omega)]
theorem posV_small (v : Int) (h1 : 1 ≤ v) (h2 : v ≤ 7) : posV (Lib.itoa v) = v := by
  have h : v = 1 ∨ v = 2 ∨ v = 3 ∨ v = 4 ∨ v = 5 ∨ v = 6 ∨ v = 7 := by omega
  have e := itoa_small v h1 h2
  have hk : ∀ k : Fin 7, Lib.atoiAll [UInt8.ofNat (48 + (k.val + 1))] = .ok ((k.val + 1 : Nat) : Int) := by decide
  have ha : Lib.atoiAll (Lib.itoa v) = .ok v := by
    have := hk ⟨v.toNat - 1, by omega⟩
    rw [e]
    rw [show (⟨v.toNat - 1, by omega⟩ : Fin 7).val + 1 = v.toNat by simp; omega] at this
    rw [this, Int.toNat_of_nonneg (by omega)]
  rw [posV_ok ha, if_pos ⟨by omega, rfl⟩]

/-- A line, without its line feed: what is wrong with it; its op; its number. -/
def entE (l : List UInt8) : Int := if has 32 l = false then 2 else if opOf (pre 32 l) = 0 then 7 else if posV (suf 32 l) = 0 then 2 else 0
def entOp (l : List UInt8) : Nat := opOf (pre 32 l)
def entV (l : List UInt8) : Int := posV (suf 32 l)

theorem entE_ok {l : List UInt8} (h : entE l = 0) : 32 ∈ l ∧ ¬ entOp l = 0 ∧ ¬ entV l = 0 := by
  unfold entE at h
  by_cases h1 : has 32 l = false
  · rw [if_pos h1] at h; omega
  · rw [if_neg h1] at h
    by_cases h2 : opOf (pre 32 l) = 0
    · rw [if_pos h2] at h; omega
    · rw [if_neg h2] at h
      by_cases h3 : posV (suf 32 l) = 0
      · rw [if_pos h3] at h; omega
      · refine ⟨?_, h2, h3⟩
        unfold has at h1
        simpa using h1

/-- What an op's line is: nothing, where nothing is seen of it. -/
def lineOf (op : Nat) (v : Int) : List UInt8 := if v = 0 then [] else nm op ++ 32 :: (Lib.itoa v ++ [10])

theorem ent_line {l : List UInt8} (h : entE l = 0) : l ++ [10] = lineOf (entOp l) (entV l) ∧ 1 ≤ entOp l ∧ entOp l ≤ 17 := by
  obtain ⟨h1, h2, h3⟩ := entE_ok h
  obtain ⟨e1, e2, e3⟩ := opOf_some (key := pre 32 l) h2
  obtain ⟨e4, e5⟩ := posV_some (l := suf 32 l) h3
  refine ⟨?_, e2, e3⟩
  unfold lineOf
  rw [if_neg h3]
  unfold entOp entV
  rw [e1, e4]
  conv => lhs; rw [← pre_suf h1]
  simp
theorem itoa_feed (v : Int) (h1 : 1 ≤ v) (h2 : v ≤ 7) : 10 ∉ Lib.itoa v := by
  rw [itoa_small v h1 h2]
  have h : v = 1 ∨ v = 2 ∨ v = 3 ∨ v = 4 ∨ v = 5 ∨ v = 6 ∨ v = 7 := by omega
  rcases h with rfl | rfl | rfl | rfl | rfl | rfl | rfl <;> decide
theorem line_ent {op : Nat} {v : Int} (o1 : 1 ≤ op) (o2 : op ≤ 17) (h1 : 1 ≤ v) (h2 : v ≤ 7) :
    lineOf op v = (nm op ++ 32 :: Lib.itoa v) ++ [10] ∧ 10 ∉ nm op ++ 32 :: Lib.itoa v ∧ entE (nm op ++ 32 :: Lib.itoa v) = 0 ∧ entOp (nm op ++ 32 :: Lib.itoa v) = op ∧ entV (nm op ++ 32 :: Lib.itoa v) = v := by
  obtain ⟨e1, e2⟩ := pre_append (c := 32) (p := nm op) (r := Lib.itoa v) (nm_blank op)
  have e3 := opOf_nm op o1 o2
  have e4 := posV_small v h1 h2
  refine ⟨?_, ?_, ?_, ?_, ?_⟩
  · unfold lineOf; rw [if_neg (by omega)]; simp
  · have := nm_feed op
    have := itoa_feed v h1 h2
    simp only [List.mem_append, List.mem_cons]
    rintro (h | h | h)
    · exact absurd h (nm_feed op)
    · exact absurd h (by decide)
    · exact absurd h (itoa_feed v h1 h2)
  · unfold entE
    rw [e1, e2, e3, e4, if_neg (by simp [has]), if_neg (by omega), if_neg (by omega)]
  · unfold entOp; rw [e1, e3]
  · unfold entV; rw [e2, e4]

/-- Tables: numbers by their op. -/
def zer : Nat → Int := fun _ => 0
def upd (t : Nat → Int) (op : Nat) (v : Int) : Nat → Int := fun k => if k = op then v else t k
/-- What is wrong with a table. -/
def fits (t : Nat → Int) (op : Nat) : Bool := decide (0 ≤ t op ∧ t op ≤ most op)
def wrongT (t : Nat → Int) : Int := if ¬ t 0 = 0 then 1 else if ∀ k : Fin 17, fits t (k.val + 1) = true then 0 else 3

/-- A text of lines, one behind the other: lines that end, and what is behind them. -/
def lns : List UInt8 → List (List UInt8) × List UInt8
  | [] => ([], [])
  | c :: r => if c = 10 then ([] :: (lns r).1, (lns r).2) else match (lns r).1 with
    | [] => ([], c :: (lns r).2)
    | l :: ls => ((c :: l) :: ls, (lns r).2)
theorem lns_no : ∀ {p : List UInt8}, 10 ∉ p → lns p = ([], p)
  | [], _ => rfl
  | x :: p, h => by
    have hx : ¬ x = 10 := fun e => h (by simp [e])
    rw [lns, if_neg hx, lns_no (p := p) (fun hh => h (by simp [hh]))]
theorem lns_yes : ∀ {p r : List UInt8}, 10 ∉ p → lns (p ++ 10 :: r) = (p :: (lns r).1, (lns r).2)
  | [], r, _ => by rw [List.nil_append, lns, if_pos rfl]
  | x :: p, r, h => by
    have hx : ¬ x = 10 := fun e => h (by simp [e])
    rw [List.cons_append, lns, if_neg hx, lns_yes (p := p) (fun hh => h (by simp [hh]))]
theorem lns_back : ∀ (s : List UInt8), ((lns s).1.flatMap fun l => l ++ [10]) ++ (lns s).2 = s
  | [] => rfl
  | c :: r => by
    have ih := lns_back r
    rw [lns]
    by_cases hc : c = 10
    · rw [if_pos hc, List.flatMap_cons]
      simp only [List.nil_append, List.append_assoc, ih]
      rw [hc]; rfl
    · rw [if_neg hc]
      cases hl : (lns r).1 with
      | nil =>
        rw [hl] at ih
        simp only [List.flatMap_nil, List.nil_append] at ih ⊢
        rw [ih]
      | cons l ls =>
        rw [hl] at ih
        simp only [List.flatMap_cons, List.cons_append, List.append_assoc] at ih ⊢
        rw [ih]

/-- Lines read, one behind the other, from a table and its last op on: what is wrong, and the table (all 0, if something is). -/
def runL : List (List UInt8) → Nat → (Nat → Int) → Int × (Nat → Int)
  | [], _, t => (0, t)
  | l :: ls, last, t => if ¬ entE l = 0 then (entE l, zer) else if entOp l ≤ last then (2, zer) else runL ls (entOp l) (upd t (entOp l) (entV l))
/-- A text read, from a table and its last op on. -/
def parL (last : Nat) (t : Nat → Int) (s : List UInt8) : Int × (Nat → Int) :=
  if ¬ (runL (lns s).1 last t).1 = 0 then ((runL (lns s).1 last t).1, zer) else if ¬ (lns s).2 = [] then (2, zer) else
    if ¬ wrongT (runL (lns s).1 last t).2 = 0 then (wrongT (runL (lns s).1 last t).2, zer) else (0, (runL (lns s).1 last t).2)

theorem entE_vals (l : List UInt8) : entE l = 0 ∨ entE l = 2 ∨ entE l = 7 := by
  unfold entE
  split
  · exact .inr (.inl rfl)
  · split
    · exact .inr (.inr rfl)
    · split
      · exact .inr (.inl rfl)
      · exact .inl rfl

theorem parL_end (last : Nat) (t : Nat → Int) : parL last t [] = if ¬ wrongT t = 0 then (wrongT t, zer) else (0, t) := by
  unfold parL
  rw [show lns [] = ([], []) from rfl, show runL [] last t = (0, t) from rfl, if_neg (by simp), if_neg (by simp)]
theorem parL_open (last : Nat) (t : Nat → Int) {s : List UInt8} (h : 10 ∉ s) (h0 : ¬ s = []) : parL last t s = (2, zer) := by
  unfold parL
  rw [lns_no h, show runL [] last t = (0, t) from rfl, if_neg (by simp), if_pos h0]
theorem parL_line (last : Nat) (t : Nat → Int) {s : List UInt8} (h : 10 ∈ s) :
    parL last t s = if ¬ entE (pre 10 s) = 0 then (entE (pre 10 s), zer) else if entOp (pre 10 s) ≤ last then (2, zer) else parL (entOp (pre 10 s)) (upd t (entOp (pre 10 s)) (entV (pre 10 s))) (suf 10 s) := by
  have e : lns s = (pre 10 s :: (lns (suf 10 s)).1, (lns (suf 10 s)).2) := by
    conv => lhs; rw [← pre_suf h]
    exact lns_yes pre_mem
  conv => lhs; unfold parL
  rw [e, runL]
  by_cases h1 : entE (pre 10 s) = 0
  · rw [if_neg (c := ¬ entE (pre 10 s) = 0) (by simpa using h1), if_neg (c := ¬ entE (pre 10 s) = 0) (by simpa using h1)]
    by_cases h2 : entOp (pre 10 s) ≤ last
    · rw [if_pos h2, if_pos h2, if_pos (by simp)]
    · rw [if_neg h2, if_neg h2]
      rfl
  · rw [if_pos (c := ¬ entE (pre 10 s) = 0) h1, if_pos (c := ¬ entE (pre 10 s) = 0) h1, if_pos (by simpa using h1)]

/-- Where something is wrong the table is all 0. -/
theorem parL_zero (last : Nat) (t : Nat → Int) (s : List UInt8) (h : ¬ (parL last t s).1 = 0) : (parL last t s).2 = zer := by
  unfold parL at h ⊢
  split
  · rfl
  · split
    · rfl
    · split
      · rfl
      · rename_i h1 h2 h3
        rw [if_neg h1, if_neg h2, if_neg h3] at h
        exact absurd rfl h

/-- A table's text, from an op on: n ops. -/
def txt (t : Nat → Int) : Nat → Nat → List UInt8
  | _, 0 => []
  | op, n + 1 => lineOf op (t op) ++ txt t (op + 1) n
/-- The whole text. -/
def text (t : Nat → Int) : List UInt8 := txt t 1 17
theorem txt_snoc (t : Nat → Int) : ∀ (n op : Nat), txt t op (n + 1) = txt t op n ++ lineOf (op + n) (t (op + n))
  | 0, op => by simp [txt]
  | n + 1, op => by
    rw [txt, txt_snoc t n (op + 1), txt, List.append_assoc, show op + 1 + n = op + (n + 1) by omega]
theorem txt_congr {t u : Nat → Int} : ∀ (n op : Nat), (∀ k, op ≤ k → k < op + n → t k = u k) → txt t op n = txt u op n
  | 0, op, _ => rfl
  | n + 1, op, h => by
    rw [txt, txt, h op (by omega) (by omega), txt_congr n (op + 1) (fun k h1 h2 => h k (by omega) (by omega))]
theorem txt_zero (t : Nat → Int) : ∀ (n op : Nat), (∀ k, op ≤ k → k < op + n → t k = 0) → txt t op n = []
  | 0, op, _ => rfl
  | n + 1, op, h => by
    rw [txt, h op (by omega) (by omega), txt_zero t n (op + 1) (fun k h1 h2 => h k (by omega) (by omega))]
    rfl
theorem txt_add (t : Nat → Int) : ∀ (n m op : Nat), txt t op (n + m) = txt t op n ++ txt t (op + n) m
  | 0, m, op => by simp [txt]
  | n + 1, m, op => by
    rw [show n + 1 + m = (n + m) + 1 by omega, txt, txt_add t n m (op + 1), txt, List.append_assoc, show op + 1 + n = op + (n + 1) by omega]

/-- What a right table tells. -/
theorem right_facts {t : Nat → Int} (h : wrongT t = 0) : t 0 = 0 ∧ ∀ op : Nat, 1 ≤ op → op ≤ 17 → 0 ≤ t op ∧ t op ≤ most op := by
  unfold wrongT at h
  by_cases h0 : t 0 = 0
  · rw [if_neg (by simpa using h0)] at h
    refine ⟨h0, fun op h1 h2 => ?_⟩
    by_cases ha : ∀ k : Fin 17, fits t (k.val + 1) = true
    · have := ha ⟨op - 1, by omega⟩
      rw [show (⟨op - 1, by omega⟩ : Fin 17).val + 1 = op by simp; omega] at this
      exact of_decide_eq_true this
    · rw [if_neg ha] at h; omega
  · rw [if_pos h0] at h; omega
theorem most_le (op : Nat) : most op ≤ 7 := by
  unfold most
  by_cases h : op < 18
  · have : ∀ k : Fin 18, ([0, 3, 3, 3, 3, 3, 3, 3, 3, 3, 3, 3, 3, 7, 0, 1, 1, 3] : List Int).getD k.val 0 ≤ 7 := by decide
    exact this ⟨op, h⟩
  · rw [List.getD_eq_getElem?_getD, List.getElem?_eq_none (by simp; omega)]
    decide

/-- WRITTEN, AND READ AGAIN: from an op on. -/
theorem read_from {t : Nat → Int} (hr : wrongT t = 0) : ∀ (n op last : Nat) (u : Nat → Int), op + n = 18 → 1 ≤ op → last < op → (∀ k, k < op → u k = t k) → (∀ k, op ≤ k → u k = 0) → (∀ k, 18 ≤ k → t k = 0) → parL last u (txt t op n) = (0, t)
  | 0, op, last, u, ho, h1, hl, hb, ha, h18 => by
    have e : u = t := by
      funext k
      by_cases hk : k < op
      · exact hb k hk
      · rw [ha k (by omega), h18 k (by omega)]
    rw [txt, parL_end, e, if_neg (by simpa using hr)]
  | n + 1, op, last, u, ho, h1, hl, hb, ha, h18 => by
    rw [txt]
    by_cases hz : t op = 0
    · rw [hz, show lineOf op 0 = [] from rfl, List.nil_append]
      refine read_from hr n (op + 1) last u (by omega) (by omega) (by omega) (fun k hk => ?_) (fun k hk => ha k (by omega)) h18
      by_cases e : k = op
      · rw [e, ha op (Nat.le_refl _), hz]
      · exact hb k (by omega)
    · obtain ⟨f1, f2⟩ := (right_facts hr).2 op h1 (by omega)
      have f3 := most_le op
      obtain ⟨g1, g2, g3, g4, g5⟩ := line_ent (op := op) (v := t op) h1 (by omega) (by omega) (by omega)
      rw [g1, List.append_assoc, List.singleton_append]
      obtain ⟨e1, e2⟩ := pre_append (c := 10) (p := nm op ++ 32 :: Lib.itoa (t op)) (r := txt t (op + 1) n) g2
      rw [parL_line _ _ (by simp), e1, e2, if_neg (by simpa using g3), g4, if_neg (by omega), g5]
      refine read_from hr n (op + 1) op (upd u op (t op)) (by omega) (by omega) (by omega) (fun k hk => ?_) (fun k hk => ?_) h18
      · unfold upd
        by_cases e : k = op
        · rw [if_pos e, e]
        · rw [if_neg e]; exact hb k (by omega)
      · unfold upd
        rw [if_neg (by omega)]; exact ha k (by omega)

/-- A right table comes back from its text. -/
theorem there_back {t : Nat → Int} (hr : wrongT t = 0) (h18 : ∀ k, 18 ≤ k → t k = 0) : parL 0 zer (text t) = (0, t) := by
  refine read_from hr 17 1 0 zer rfl (Nat.le_refl _) (by omega) (fun k hk => ?_) (fun _ _ => rfl) h18
  have : k = 0 := by omega
  rw [this, (right_facts hr).1]; rfl

/-- What is read of lines: below the first op it is as it was; it is 0 behind the last one; and its text is those lines. -/
theorem run_facts : ∀ (ls : List (List UInt8)) (last : Nat) (t : Nat → Int), last ≤ 17 → (runL ls last t).1 = 0 → (∀ k, last < k → t k = 0) →
    (∀ k, k ≤ last → (runL ls last t).2 k = t k) ∧ (∀ k, 18 ≤ k → (runL ls last t).2 k = 0) ∧ txt (runL ls last t).2 (last + 1) (17 - last) = ls.flatMap fun l => l ++ [10]
  | [], last, t, hl, _, h0 => by
    refine ⟨fun _ _ => rfl, fun k hk => h0 k (by omega), ?_⟩
    exact txt_zero _ _ _ fun k h1 h2 => h0 k (by omega)
  | l :: ls, last, t, hl, hok, h0 => by
    rw [runL] at hok ⊢
    by_cases h1 : entE l = 0
    · rw [if_neg (by simpa using h1)] at hok ⊢
      by_cases h2 : entOp l ≤ last
      · rw [if_pos h2] at hok; exact absurd hok (by simp)
      · rw [if_neg h2] at hok ⊢
        obtain ⟨e1, e2, e3⟩ := ent_line h1
        obtain ⟨f1, f2, f3⟩ := run_facts ls (entOp l) (upd t (entOp l) (entV l)) e3 hok (fun k hk => by unfold upd; rw [if_neg (by omega)]; exact h0 k (by omega))
        generalize (runL ls (entOp l) (upd t (entOp l) (entV l))).2 = x at f1 f2 f3
        have g : ∀ k, k ≤ last → x k = t k := fun k hk => by
          rw [f1 k (by omega)]; unfold upd; rw [if_neg (by omega)]
        refine ⟨g, f2, ?_⟩
        have ho : x (entOp l) = entV l := by rw [f1 _ (Nat.le_refl _)]; unfold upd; rw [if_pos rfl]
        rw [show 17 - last = (entOp l - last - 1) + ((17 - entOp l) + 1) by omega, txt_add, txt_zero x (entOp l - last - 1) (last + 1) (fun k k1 k2 => by
          rw [f1 k (by omega)]; unfold upd; rw [if_neg (by omega)]; exact h0 k (by omega)), List.nil_append, show last + 1 + (entOp l - last - 1) = entOp l by omega, txt, f3, ho, ← e1, List.flatMap_cons]
    · rw [if_pos h1] at hok; exact absurd hok h1

/-- A text that is read is its table's. -/
theorem back_there {s : List UInt8} (h : (parL 0 zer s).1 = 0) : text (parL 0 zer s).2 = s ∧ wrongT (parL 0 zer s).2 = 0 ∧ ∀ k, 18 ≤ k → (parL 0 zer s).2 k = 0 := by
  unfold parL at h ⊢
  by_cases h1 : (runL (lns s).1 0 zer).1 = 0
  · rw [if_neg (by simpa using h1)] at h ⊢
    by_cases h2 : (lns s).2 = []
    · rw [if_neg (by simpa using h2)] at h ⊢
      by_cases h3 : wrongT (runL (lns s).1 0 zer).2 = 0
      · rw [if_neg (by simpa using h3)]
        obtain ⟨f1, f2, f3⟩ := run_facts (lns s).1 0 zer (by omega) h1 (fun _ _ => rfl)
        refine ⟨?_, h3, f2⟩
        have := lns_back s
        rw [h2, List.append_nil] at this
        exact f3.trans this
      · rw [if_pos h3] at h; exact absurd h h3
    · rw [if_pos h2] at h; exact absurd h (by simp)
  · rw [if_pos h1] at h; exact absurd h h1
end Go.Proofs.YtkfingahinbdpaaDoor.Tb
