/- The document's Block: one statement, whole. Written by tools/gen_msw.py. -/
import Derived.Test.YtemdnmfldihalaaGreatDoorGr44
import Derived.Test.YtemdnmfldihalaaGreatDoorGr43
namespace Go.Proofs.YtemdnmfldihalaaGreatDoor.Lr
set_option linter.unusedVariables false
set_option linter.unusedSimpArgs false
open Go.ChangeShapes Go.WideShapes Go.ChangeAt Go.RowKit Go.Maps Go.WideMaps Lg
theorem each_one {f : Ex → Except Int Bool} {e : Ex} {bs : List Bool} (h : eachK f [e] = .ok bs) : ∃ b,f e = .ok b ∧ bs = [b] := by
 rw [eachK] at h
 obtain ⟨b,h1,h2⟩ := thenK_inv h
 cases h2
 exact ⟨b,h1,rfl⟩
theorem each_one_err {f : Ex → Except Int Bool} {e : Ex} {x : Int} (h : eachK f [e] = .error x) : f e = .error x := by
 rw [eachK] at h
 cases hf : f e with
 | error y => rw [hf] at h; cases h; rfl
 | ok b => rw [hf] at h; cases h
theorem each_two {f : Ex → Except Int Bool} {d e : Ex} {bs : List Bool} (h : eachK f [d,e] = .ok bs) : ∃ a b,f d = .ok a ∧ f e = .ok b ∧ bs = [a,b] := by
 rw [eachK] at h
 obtain ⟨a,h1,h2⟩ := thenK_inv h
 obtain ⟨bs',h3,h4⟩ := thenK_inv h2
 obtain ⟨b,h5,rfl⟩ := each_one h3
 cases h4
 exact ⟨a,b,h1,h5,rfl⟩
theorem each_two_err {f : Ex → Except Int Bool} {d e : Ex} {x : Int} (h : eachK f [d,e] = .error x) : f d = .error x ∨ ∃ a,f d = .ok a ∧ f e = .error x := by
 rw [eachK] at h
 cases hf : f d with
 | error y => rw [hf] at h; cases h; exact .inl rfl
 | ok b =>
  rw [hf,thenK_ok] at h
  refine .inr ⟨b,rfl,?_⟩
  cases he : eachK f [e] with
  | error y => rw [he] at h; cases h; exact each_one_err he
  | ok bs => rw [he] at h; cases h
theorem SwP.inside {id : Nat} {w0 : World} {k bA nA bI j : Nat} {dark : Bool} {p : Option Addr} {n c : Nat} {rs : List Vr} {res : Except Int Ks} {e : Exit} {a : Act} {w : World} (h : SwP w0 k bA nA bI j dark p n c rs res e a w) : Exit.inBlock id (SwP w0 k bA nA bI j dark p n c rs res) e a w := by
 rcases h with ⟨rfl,h⟩ | ⟨rfl,h⟩
 ·exact .inl ⟨rfl,h⟩
 ·exact .inr ⟨rfl,h⟩
theorem row_cell {w w' : World} {lo n : Nat} {sv : Value} {bs : List Bool} (h : w.ownsRow lo 4 1 sv n (bs.map Value.bool)) (hn : 0 < n) (hb : Below w.heap.size w w') : ∃ g cap,sv = .slice (some ⟨g,0,none⟩) n cap ∧ lo ≤ g ∧ g < w'.heap.size ∧ ∀ i b,bs[i]? = some b → w'.cell? ⟨g,i,none⟩ = some (.bool b) := by
 have h' := row_below h hb
 obtain ⟨g,cap,rfl,h1,h2⟩ := h'.form hn
 refine ⟨g,cap,rfl,h1,h2,fun i b hi => ?_⟩
 have := h'.cells (g:=g) rfl i (.bool b) (by rw [List.getElem?_map,hi]; rfl)
 by_cases h0 : i = 0
 ·subst h0; exact this
 ·simpa [Addr.add,h0] using this
theorem one_front (m M B : Nat) (w0 w : World) (k bA nA bI nI j : Nat) (dark : Bool) (g o n c : Nat) (rs : List Vr) (ns : List Nm) (wk lt : Nat) (tk tn : Int) (tx : List UInt8) (tsec : Bool) (ta : List Ex) (tth tel : List St) (p1 : Option Addr) (n1 c1 : Nat) (p2 : Option Addr) (n2 c2 : Nat) (p3 : Option Addr) (n3 c3 : Nat) (a : Act) (res : Except Int Ks)
  (hF : FB a k bI j dark (some ⟨g,o,none⟩) n c) (hjn : j < n) (hn : n ≤ 281474976710656) (hK : KS w0 w k bA nA bI nI rs ⟨ns,wk,lt⟩) (hk0 : k < w0.heap.size) (hI0 : w0.heap.size ≤ bI) (hBk : B ≤ k) (hx : tx.length ≤ maxLen)
  (hat : StAt w g (o + j * 7) ⟨tk,tn,tx,tsec,ta,tth,tel⟩ (.slice p1 n1 c1) (.slice p2 n2 c2) (.slice p3 n3 c3)) (hi1 : ExIs w B (M + 1) (ar ta) (.slice p1 n1 c1)) (hM : m ≤ M) (hta : ta.length ≤ 2) (hwa : ∀ x ∈ ta,wfE m x)
  (h4 : 300 < wk + 1 → res = .error 4) (hbad : ¬ 300 < wk + 1 → ∀ x,eachK (exprK rs ns dark m) ta = .error x → res = .error x)
  (hgood : ¬ 300 < wk + 1 → ∀ bs,eachK (exprK rs ns dark m) ta = .ok bs → ∀ (a' : Act) (w' : World) (bT : Nat) (sv : Value),FT a' k bI j dark (some ⟨g,o,none⟩) n c bT sv (byN ns tx).isSome (byV rs tx).isSome tk → KS w0 w' k bA nA bI nI rs ⟨ns,wk + 1,lt⟩ →
   Bk w' bT [.int .i64 tk,.int .i64 tn,.string ⟨tx.toArray⟩,.bool tsec,.slice p1 n1 c1,.slice p2 n2 c2,.slice p3 n3 c3] 89 → w0.heap.size ≤ bT → Below B w w' → (0 < ta.length → ∃ gS cS,sv = .slice (some ⟨gS,0,none⟩) ta.length cS ∧ w0.heap.size ≤ gS ∧ gS < w'.heap.size ∧ ∀ i b,bs[i]? = some b → w'.cell? ⟨gS,i,none⟩ = some (.bool b)) → bKind.wp Tryz.prog (SwP w0 k bA nA bI j dark (some ⟨g,o,none⟩) n c rs res) a' w') :
  bOne.wp Tryz.prog (SwP w0 k bA nA bI j dark (some ⟨g,o,none⟩) n c rs res) a w := by
 show (Code.seq (fstC bOne) (Code.seq (fstC (sndC bOne)) (Code.seq (fstC (sndC (sndC bOne))) (Code.seq (fstC (sndC (sndC (sndC bOne)))) (Code.seq (Code.seq (fstC (fstC (sndC (sndC (sndC (sndC bOne)))))) (Code.block 4 (Code.loop bArg))) (Code.seq (fstC bBehind) (Code.seq (fstC (sndC bBehind)) (Code.seq (fstC (sndC (sndC bBehind))) (Code.block 6 bKind))))))))).wp Tryz.prog _ a w
 have hkw := hK.kk.box.lt
 refine OnP.go (one_load hF hjn hn hat) ?_
 rintro a1 w1' ⟨hF1,rfl⟩
 obtain ⟨w1,hw1⟩ : ∃ w1,w.alloc (.cells #[.int .i64 tk,.int .i64 tn,.string ⟨tx.toArray⟩,.bool tsec,.slice p1 n1 c1,.slice p2 n2 c2,.slice p3 n3 c3] 89) = w1 := ⟨_,rfl⟩
 have hb1 : Below w.heap.size w w1 := by rw [← hw1]; exact (Below.refl _ _).alloc (Nat.le_refl _) _
 have hT1 : Bk w1 w.heap.size [.int .i64 tk,.int .i64 tn,.string ⟨tx.toArray⟩,.bool tsec,.slice p1 n1 c1,.slice p2 n2 c2,.slice p3 n3 c3] 89 := by rw [← hw1]; exact Bk.new _ _ _
 rw [hw1]
 clear hw1
 have hK1 := hK.below hb1
 obtain ⟨bT,hbT⟩ : ∃ b,w.heap.size = b := ⟨_,rfl⟩
 have hT0 : w0.heap.size ≤ bT := by rw [← hbT]; exact hK.fs.size
 have hbB : B ≤ w.heap.size := by omega
 rw [hbT] at hF1 hT1
 refine OnP.go (one_work hF1 hK1.kk.box hK.few.2.1) ?_
 rintro a2 w2' ⟨hF2,rfl⟩
 obtain ⟨w2,hw2⟩ : ∃ w2,w1.setCell ⟨k,1,none⟩ (.int .i64 ((wk : Int) + 1)) = w2 := ⟨_,rfl⟩
 have hf2 : Fs [k] w1 w2 := by rw [← hw2]; exact (Fs.refl _ _).set (by simp) _ _
 have hk2 : Bk w2 k [.map (some bA),.int .i64 ((wk + 1 : Nat) : Int),.int .i64 (lt : Int)] 61 := by rw [← hw2]; exact hK1.kk.box.set 1 _
 dsimp only
 rw [hw2]
 clear hw2
 have hT2 := hT1.fs hf2 (by simp; omega)
 have hIk : bI ≠ k := by omega
 have hm2 : MapN w2 bI nI ns := hK1.mp.stay (hf2.block bI hK1.mp.lt (by simpa using hIk))
 have hkk2 : KK w2 k bA nA rs (wk + 1) lt := ⟨hk2,hK1.kk.arr.stay (hf2.block bA (by have := hK1.kk.lt; have := hK1.kk.box.lt; omega) (by have := hK1.kk.lt; simp; omega)),hK1.kk.lt⟩
 have hfs2 : Fs [k] w0 w2 := hK1.fs.trans hf2
 refine wp_seq (wp_mono (one_much hF2 (hk2.cell 1 rfl)) ?_)
 rintro e a3 w3 (⟨rfl,hF3,rfl,hmuch⟩ | ⟨rfl,x,hx1,hx2,rfl,rfl,hmuch⟩)
 rotate_left
 ·exact .err hx1 hx2 (h4 hmuch) hfs2
 have hfw := hK.few
 have hnn := hK.nn
 dsimp only at hfw hnn
 have hK2 : KS w0 w3 k bA nA bI nI rs ⟨ns,wk + 1,lt⟩ := ⟨hkk2,hm2,hfs2,⟨by have := hfw.1; dsimp only; omega,by dsimp only; omega,hfw.2.2⟩,by dsimp only; omega⟩
 refine OnP.go (one_nil hF3) ?_
 rintro a4 w4 ⟨hF4,rfl⟩
 obtain ⟨q1,q2,q3,hq0,hql,_,_,hqa⟩ := hi1.parts
 cases hq0
 have hb02 : Below B w w4 := (hb1.mono hbB).trans (hf2.below (by have := hb1.size; omega) (by simpa using hBk))
 refine wp_seq (OnP.go (one_args hF4 (hT2.cell 4 rfl)) ?_)
 rintro a5 w5 ⟨hF5,rfl⟩
 have hwB : B ≤ w5.heap.size := by have := hkk2.box.lt; omega
 have hloop := arg_loop m M B w5 k bA nA bI nI j dark (some ⟨g,o,none⟩) n c bT p1 n1 c1 (by rw [← hql]; exact hta) rs ns (wk + 1) lt ta hql a5 hF5 hM hwa hkk2 hm2 hwB (fun i x hx => by
  obtain ⟨g,o,sa,h1,h2,h3,h4⟩ := hqa i x hx
  exact ⟨g,o,sa,h1,h2,h3.below hb02 h2,h4.below hb02⟩)
 refine wp_block (wp_mono hloop ?_)
 rintro e a6 w6 (⟨rfl,bs,sv,hr,hF6,hrow,hb6⟩ | ⟨rfl,x,hx1,hx2,hr,hb6⟩)
 rotate_left
 ·exact .err hx1 hx2 (hbad hmuch x hr) (hK2.below hb6).fs
 refine in_block_here ?_
 have hK6 := hK2.below hb6
 have hT6 := hT2.fs (Fs.of_below (l:=[]) hb6) (by simp)
 refine OnP.go (behind_name (vs:=(nmO (byN ns tx)).secret) (vl:=(nmO (byN ns tx)).loop) hF6 (hT6.cell 2 rfl) (hK6.mp.look tx hx)) ?_
 rintro a7 w7' ⟨hF7,rfl⟩
 obtain ⟨w7,hw7⟩ : ∃ x,w6.alloc (.cells #[.bool (nmO (byN ns tx)).secret,.bool (nmO (byN ns tx)).loop] 64) = x := ⟨_,rfl⟩
 have hb7 : Below w6.heap.size w6 w7 := by rw [← hw7]; exact (Below.refl _ _).alloc (Nat.le_refl _) _
 rw [hw7]
 clear hw7
 have hK7 := hK6.below hb7
 have hT7 := hT6.fs (Fs.of_below (l:=[]) hb7) (by simp)
 refine OnP.go (behind_array (bA:=bA) (tx:=tx) (yn:=(vrO (byV rs tx)).name) (ys:=(vrO (byV rs tx)).secret) (yz:=(vrO (byV rs tx)).size) (arr:=(byV rs tx).isSome) hF7 (fun W' hW => ⟨cell_old hW (hK7.kk.box.cell 0 rfl) hK7.kk.box.lt,cell_old hW (hT7.cell 2 rfl) hT7.lt,(hK7.kk.below hW).arr.look tx hx⟩)) ?_
 rintro a8 w8 ⟨hF8,hb8⟩
 have hK8 := hK7.below hb8
 have hT8 := hT7.fs (Fs.of_below (l:=[]) hb8) (by simp)
 refine OnP.go (behind_kind hF8 (hT8.cell 0 rfl)) ?_
 rintro a9 w9 ⟨hF9,rfl⟩
 have hb69 : Below w6.heap.size w6 w9 := hb7.trans (hb8.mono hb7.size)
 have hb59 : Below w5.heap.size w5 w9 := hb6.trans (hb69.mono hb6.size)
 have hg9 := hgood hmuch bs hr a9 w9 bT sv hF9 hK8 hT8 hT0 (hb02.trans (hb59.mono hwB)) (fun h0 => by
  have h0' : 0 < n1 := by rw [← hql]; exact h0
  obtain ⟨gS,cS,e1,h1,h2,h3⟩ := row_cell hrow h0' hb69
  refine ⟨gS,cS,?_,by have := hfs2.size; omega,h2,h3⟩
  rw [e1,← hql]; rfl)
 exact wp_block (wp_mono hg9 fun e a w h => h.inside)
theorem one_all (m K B : Nat) (hKB : KBlock m) (w0 w : World) (k bA nA bI nI j : Nat) (dark : Bool) (g o n c : Nat) (rs : List Vr) (ns : List Nm) (wk lt : Nat) (t : St) (s1 s2 s3 : Value) (a : Act)
  (hF : FB a k bI j dark (some ⟨g,o,none⟩) n c) (hjn : j < n) (hn : n ≤ 281474976710656) (hK : KS w0 w k bA nA bI nI rs ⟨ns,wk,lt⟩) (hk0 : k < w0.heap.size) (hI0 : w0.heap.size ≤ bI) (hBk : B ≤ k) (hmK : m ≤ K) (hm : m ≤ 9) (hwf : wfS (m + 1) t)
  (hat : StAt w g (o + j * 7) t s1 s2 s3) (hi1 : ExIs w B 11 (ar t.args) s1) (hi2 : StIs w B 10 (K + 1) t.thn s2) (hi3 : StIs w B 10 (K + 1) t.els s3) :
  bOne.wp Tryz.prog (SwP w0 k bA nA bI j dark (some ⟨g,o,none⟩) n c rs (stmtK rs (m + 1) dark t ⟨ns,wk,lt⟩)) a w := by
 obtain ⟨p1,n1,c1,rfl⟩ := hi1.slice
 obtain ⟨p2,n2,c2,rfl⟩ := hi2.slice
 obtain ⟨p3,n3,c3,rfl⟩ := hi3.slice
 obtain ⟨tk,tn,tx,tsec,ta,tth,tel⟩ := t
 dsimp only at hi1 hi2 hi3
 have hfw := hK.few
 have hnn := hK.nn
 dsimp only at hfw hnn
 have h4 : 300 < wk + 1 → stmtK rs (m + 1) dark ⟨tk,tn,tx,tsec,ta,tth,tel⟩ ⟨ns,wk,lt⟩ = .error 4 := fun h => by rw [stmtK,if_pos h]
 rcases hwf with ⟨hkind,e1,e2,e3,x,e4,hwx⟩ | ⟨e0,hname,e1,e2,e3,e4,x,y,e5,hwx,hwy⟩ | ⟨e0,e1,e2,e3,⟨x,e4,hwx⟩,hth,hel⟩ | ⟨e0,hname,e1,hn0,hn8,e2,e3,hth⟩
 ·dsimp only at e1 e2 e3 e4
  subst e1 e2 e3 e4
  have hwa : ∀ z ∈ [x],wfE m z := fun z hz => by rw [List.mem_singleton] at hz; rw [hz]; exact hwx
  rcases hkind with ⟨e0,hname⟩ | ⟨e0,hname,e5⟩ | ⟨e0,e6,e5⟩
  ·dsimp only at e0 hname
   subst e0
   have hres : ¬ 300 < wk + 1 → stmtK rs (m + 1) dark ⟨1,0,tx,tsec,[x],[],[]⟩ ⟨ns,wk,lt⟩ = thenK (exprK rs ns dark m x) fun s => letK rs ⟨1,0,tx,tsec,[x],[],[]⟩ dark s ⟨ns,wk + 1,lt⟩ := fun h => by
    rw [stmtK,if_neg h,if_pos rfl]; rfl
   refine one_front m 10 B w0 w k bA nA bI nI j dark g o n c rs ns wk lt 1 0 tx tsec [x] [] [] p1 n1 c1 p2 n2 c2 p3 n3 c3 a _ hF hjn hn hK hk0 hI0 hBk (name_short hname) hat hi1 (by omega) (by simp) hwa h4 (fun hm z hz => by rw [hres hm,each_one_err hz]; rfl) ?_
   intro hm bs hbs a' w' bT sv hF' hK' hT' hT0 hB' hsv
   obtain ⟨gS,cS,rfl,h1,h2,h3⟩ := hsv (by simp)
   obtain ⟨b,hb1,rfl⟩ := each_one hbs
   rw [hres hm,hb1,thenK_ok]
   exact sw_let w0 w' k bA nA bI nI j dark _ n c bT rs ns (wk + 1) lt 0 tx tsec [x] [] [] _ _ _ a' b gS cS (h3 0 b rfl) h1 (name_short hname) hF' hK' hk0 hI0 hT' hT0 (by omega) (by have := hfw.1; omega)
  ·dsimp only at e0 hname e5
   subst e0 e5
   have hres : ¬ 300 < wk + 1 → stmtK rs (m + 1) dark ⟨2,0,tx,false,[x],[],[]⟩ ⟨ns,wk,lt⟩ = thenK (exprK rs ns dark m x) fun s => setK ⟨2,0,tx,false,[x],[],[]⟩ dark s ⟨ns,wk + 1,lt⟩ := fun h => by
    rw [stmtK,if_neg h,if_neg (show ¬ (2 : Int) = 1 by decide),if_pos rfl]; rfl
   refine one_front m 10 B w0 w k bA nA bI nI j dark g o n c rs ns wk lt 2 0 tx false [x] [] [] p1 n1 c1 p2 n2 c2 p3 n3 c3 a _ hF hjn hn hK hk0 hI0 hBk (name_short hname) hat hi1 (by omega) (by simp) hwa h4 (fun hm z hz => by rw [hres hm,each_one_err hz]; rfl) ?_
   intro hm bs hbs a' w' bT sv hF' hK' hT' hT0 hB' hsv
   obtain ⟨gS,cS,rfl,h1,h2,h3⟩ := hsv (by simp)
   obtain ⟨b,hb1,rfl⟩ := each_one hbs
   rw [hres hm,hb1,thenK_ok]
   exact sw_set w0 w' k bA nA bI nI j dark _ n c bT rs ns (wk + 1) lt 0 tx false [x] [] [] _ _ _ a' b gS cS (h3 0 b rfl) h1 (name_short hname) _ hF' hK' hk0 hI0 hT' hT0
  ·dsimp only at e0 e6 e5
   subst e0 e5 e6
   have hres : ¬ 300 < wk + 1 → stmtK rs (m + 1) dark ⟨6,0,[],false,[x],[],[]⟩ ⟨ns,wk,lt⟩ = thenK (exprK rs ns dark m x) fun s => if dark = true then .error 10 else .ok ⟨ns,wk + 1,lt⟩ := fun h => by
    rw [stmtK,if_neg h,if_neg (show ¬ (6 : Int) = 1 by decide),if_neg (show ¬ (6 : Int) = 2 by decide),if_neg (show ¬ (6 : Int) = 3 by decide),if_neg (show ¬ (6 : Int) = 4 by decide),if_neg (show ¬ (6 : Int) = 5 by decide),if_pos rfl]; rfl
   refine one_front m 10 B w0 w k bA nA bI nI j dark g o n c rs ns wk lt 6 0 [] false [x] [] [] p1 n1 c1 p2 n2 c2 p3 n3 c3 a _ hF hjn hn hK hk0 hI0 hBk (by simp) hat hi1 (by omega) (by simp) hwa h4 (fun hm z hz => by rw [hres hm,each_one_err hz]; rfl) ?_
   intro hm bs hbs a' w' bT sv hF' hK' hT' hT0 hB' hsv
   obtain ⟨b,hb1,rfl⟩ := each_one hbs
   rw [hres hm,hb1,thenK_ok]
   exact sw_ret w0 w' k bA nA bI nI j dark _ n c bT rs ns (wk + 1) lt 0 [] false [x] [] [] _ _ _ a' sv _ _ hF' hK' hk0 hI0 hT' hT0
 ·dsimp only at e0 hname e1 e2 e3 e4 e5
  subst e0 e1 e2 e3 e4 e5
  have hwa : ∀ z ∈ [x,y],wfE m z := fun z hz => by
   rw [List.mem_cons,List.mem_singleton] at hz
   rcases hz with rfl | rfl
   ·exact hwx
   ·exact hwy
  have hres : ¬ 300 < wk + 1 → stmtK rs (m + 1) dark ⟨3,0,tx,false,[x,y],[],[]⟩ ⟨ns,wk,lt⟩ = thenK (exprK rs ns dark m x) fun s => thenK (exprK rs ns dark m y) fun u => thenK (placeK rs dark tx x s) fun to => if (!to && (u || dark)) = true then .error 10 else .ok ⟨ns,wk + 1,lt⟩ := fun h => by
   rw [stmtK,if_neg h,if_neg (show ¬ (3 : Int) = 1 by decide),if_neg (show ¬ (3 : Int) = 2 by decide),if_pos rfl]; rfl
  refine one_front m 10 B w0 w k bA nA bI nI j dark g o n c rs ns wk lt 3 0 tx false [x,y] [] [] p1 n1 c1 p2 n2 c2 p3 n3 c3 a _ hF hjn hn hK hk0 hI0 hBk (name_short hname) hat hi1 (by omega) (by simp) hwa h4 (fun hm z hz => by
   rw [hres hm]
   rcases each_two_err hz with h | ⟨b,h,h'⟩
   ·rw [h]; rfl
   ·rw [h,thenK_ok,h']; rfl) ?_
  intro hm bs hbs a' w' bT sv hF' hK' hT' hT0 hB' hsv
  obtain ⟨gS,cS,rfl,h1,h2,h3⟩ := hsv (by simp)
  obtain ⟨s,u,hb1,hb2,rfl⟩ := each_two hbs
  rw [hres hm,hb1,thenK_ok,hb2,thenK_ok]
  obtain ⟨q1,q2,q3,hq0,hql,_,_,hqa⟩ := hi1.parts
  cases hq0
  obtain ⟨ge,oe,sa,rfl,hge,hea,hes⟩ := hqa 0 x rfl
  obtain ⟨tp,tq,tc,rfl⟩ := hes.slice
  have hql' : n1 = 2 := hql.symm
  subst hql'
  obtain ⟨pk,pn,px,pa⟩ := x
  have hea' := hea.below hB' hge
  simp only [Nat.zero_mul,Nat.add_zero] at hea'
  exact sw_put w0 w' k bA nA bI nI j dark _ n c bT rs ns (wk + 1) lt 0 tx false [⟨pk,pn,px,pa⟩,y] [] [] _ _ _ a' s u gS cS ge oe c1 pk pn px pa tp tq tc (h3 0 s rfl) (h3 1 u rfl) h2 (name_short hname) hea' (by have := hK'.kk.box.lt; omega) _ _ rfl hF' hK' hk0 hI0 hT' hT0
 ·dsimp only at e0 e1 e2 e3 e4 hth hel
  subst e0 e1 e2 e3 e4
  have hwa : ∀ z ∈ [x],wfE m z := fun z hz => by rw [List.mem_singleton] at hz; rw [hz]; exact hwx
  have hres : ¬ 300 < wk + 1 → stmtK rs (m + 1) dark ⟨4,0,[],false,[x],tth,tel⟩ ⟨ns,wk,lt⟩ = thenK (exprK rs ns dark m x) fun s => thenK (blockK (stmtK rs m (s || dark)) tth ⟨ns,wk + 1,lt⟩) fun k => blockK (stmtK rs m (s || dark)) tel k := fun h => by
   rw [stmtK,if_neg h,if_neg (show ¬ (4 : Int) = 1 by decide),if_neg (show ¬ (4 : Int) = 2 by decide),if_neg (show ¬ (4 : Int) = 3 by decide),if_pos rfl]; rfl
  refine one_front m 10 B w0 w k bA nA bI nI j dark g o n c rs ns wk lt 4 0 [] false [x] tth tel p1 n1 c1 p2 n2 c2 p3 n3 c3 a _ hF hjn hn hK hk0 hI0 hBk (by simp) hat hi1 (by omega) (by simp) hwa h4 (fun hm z hz => by rw [hres hm,each_one_err hz]; rfl) ?_
  intro hm' bs hbs a' w' bT sv hF' hK' hT' hT0 hB' hsv
  obtain ⟨gS,cS,rfl,h1,h2,h3⟩ := hsv (by simp)
  obtain ⟨b,hb1,rfl⟩ := each_one hbs
  rw [hres hm',hb1,thenK_ok]
  exact sw_if m K B hKB w0 w' k bA nA bI nI j dark _ n c bT rs ns (wk + 1) lt 0 [] false [x] tth tel _ _ _ a' b gS cS (h3 0 b rfl) h1 h2 _ _ hF' hK' hk0 hI0 hT' hT0 hmK (by omega) hth hel hBk (hi2.below hB') (hi3.below hB')
 ·dsimp only at e0 hname e1 hn0 hn8 e2 e3 hth
  subst e0 e1 e2 e3
  have hres : ¬ 300 < wk + 1 → stmtK rs (m + 1) dark ⟨5,tn,tx,false,[],tth,[]⟩ ⟨ns,wk,lt⟩ = if takenK rs ns tx = true then .error 7 else thenK (roundsK (blockK (stmtK rs m dark) tth) tn.toNat ⟨ns ++ [⟨tx,false,true⟩],wk + 1,lt⟩) fun k' => .ok ⟨ns,k'.work,k'.lets⟩ := fun h => by
   rw [stmtK,if_neg h,if_neg (show ¬ (5 : Int) = 1 by decide),if_neg (show ¬ (5 : Int) = 2 by decide),if_neg (show ¬ (5 : Int) = 3 by decide),if_neg (show ¬ (5 : Int) = 4 by decide),if_pos rfl]
  refine one_front m 10 B w0 w k bA nA bI nI j dark g o n c rs ns wk lt 5 tn tx false [] tth [] p1 n1 c1 p2 n2 c2 p3 n3 c3 a _ hF hjn hn hK hk0 hI0 hBk (name_short hname) hat hi1 (by omega) (by simp) (fun z hz => by cases hz) h4 (fun hm z hz => by cases hz) ?_
  intro hm' bs hbs a' w' bT sv hF' hK' hT' hT0 hB' hsv
  rw [hres hm']
  exact sw_for m K B hKB w0 w' k bA nA bI nI j dark _ n c bT rs ns (wk + 1) lt tn tx false [] tth [] _ _ _ a' tn.toNat (by omega) (by omega) (name_short hname) sv hF' hK' hk0 hI0 hT' hT0 (by omega) (by have := hfw.1; omega) hmK (by omega) hth hBk (hi2.below hB')
end Go.Proofs.YtemdnmfldihalaaGreatDoor.Lr
