/- Whatever text and two lots of words and arrays EvalPublic is called with, it returns true and the arguments read as they did. Condition: the library's tables and its two errors are as their own initialisers lay them (tied to the program's text by the card). -/
import Derived.Test.YtemdnmfldihalaaGreatDoorCards
import Derived.Test.YtemdnmfldihalaaGreatDoorTie
import Derived.Test.YtemdnmfldihalaaGreatDoorLvEPub
import Derived.Test.YtemdnmfldihalaaGreatDoorGr49
import Derived.Carry
import Derived.WalkKit
import Derived.ProofKit
import Derived.OpenShut
import Derived.ShutString
import Derived.LaidMore
import Derived.Stop.Joined
import Derived.Stop.LaidErr
import Derived.Lib.LaidTab
import Derived.SevenTiedAt
namespace Go.Proofs.YtemdnmfldihalaaGreatDoor.epublic
set_option maxHeartbeats 32000000
set_option maxRecDepth 100000
open Go.ChangeShapes Go.WideShapes Go.ChangeAt Go.RowKit Go.WideMaps Go.WideElems
open Go.ChangeMaps (open_string shut_string)
set_option linter.unusedVariables false
theorem laidOut : laidOutB Tryz.prog = true := by kernel_rfl
theorem own : ownKnob Tryz.prog.godebug = none := by kernel_rfl
theorem gTab : Tryz.prog.globalNamed "internal/strconv.uint64pow10" = some 2 := by kernel_rfl
theorem tTab : (Tryz.prog.globals[2]?).map (·.type) = some 165 := by kernel_rfl
theorem tSyn : (Tryz.prog.globals[0]?).map (·.type) = some 110 := by kernel_rfl
theorem tRan : (Tryz.prog.globals[1]?).map (·.type) = some 110 := by kernel_rfl
theorem cellsU : Tryz.prog.cellsOf 144 = 1 := by kernel_rfl
theorem cellsTab : Tryz.prog.cellsOf 165 = 20 := by kernel_rfl
theorem cellsE : Tryz.prog.cellsOf 163 = 1 := by kernel_rfl
theorem cellsS : Tryz.prog.cellsOf 9 = 1 := by kernel_rfl
theorem star : "*" ++ "errors.errorString" = "*errors.errorString" := by decide
theorem row (u : TypeId) (h : Tryz.prog.typeName? 3 u = some "*errors.errorString") : u = 161 :=
 typeName_ptr_named (nm := "errors.errorString") (by rw [star]; kernel_rfl) (by kernel_rfl) (by decide) u (by rw [star]; exact h)
theorem door_met (os : Os) (args : Array Value) : laidMetH Tryz.prog Rows.evalPublicRow.laid ((World.doorLaid Tryz.prog 62 os).forCall (fun _ _ => 0) ⟨#[],args,[]⟩).memory :=
 laidMetH_of_parts3 (fuel:=8) (laidMet_of_run' 8 (by kernel_rfl) (by kernel_rfl)) (by kernel_rfl) (by kernel_rfl)
theorem pow10_is : (Rows.laid_internal_strconv_uint64pow10 : DataW Unit) = Lib.tabData .u64 Lib.pow10Tab := by rfl
theorem of_laid {W : World} (h : laidMetH Tryz.prog Rows.evalPublicRow.laid W) : Rf.Tabs W := by
 rw [MakeChecks.laidMetH_plain _ _ _ (by kernel_rfl)] at h
 have h3 : laidMet Tryz.prog (("internal/strconv.uint64pow10", Rows.laid_internal_strconv_uint64pow10) :: ("strconv.ErrRange", Rows.laid_strconv_ErrRange) :: ("strconv.ErrSyntax", Rows.laid_strconv_ErrSyntax) :: []) W := h.tail.tail
 have h4 := h3.tail
 have h5 := h4.tail
 rw [pow10_is] at h3
 have hT := Lib.tabIs_of_head gTab tTab Tryz.underlying165 Tryz.underlying144 cellsU cellsTab h3
 obtain ⟨a0,s0,hv0,-,-,-⟩ := laid_sentinel h4 Rf.gRan tRan Tryz.underlying110 row Tryz.underlying161 Tryz.underlying163 rfl rfl Tryz.underlying9 cellsE cellsS
 obtain ⟨a1,s1,hv1,-,-,-⟩ := laid_sentinel h5 Rf.gSyn tSyn Tryz.underlying110 row Tryz.underlying161 Tryz.underlying163 rfl rfl Tryz.underlying9 cellsE cellsS
 exact ⟨hT,⟨_,_,hv1⟩,_,_,hv0⟩
theorem lifted (os : Os) (started : os.Started) (H : Type) (enc : TypeId × Value → H) :
  ReturnsInHanded {} Tryz.checked os 4 .any (fun w args => (Rows.evalPublicSpec.pre enc Tryz.prog Tryz.f4 [] false w args ∧ laidMetH Tryz.prog Rows.evalPublicRow.laid w) ∧ sizedMet enc Tryz.prog Tryz.f4 (OpenSpec.ofChange Rows.evalPublicSpec) false w args)
   (Rows.evalPublicSpec.post enc Tryz.prog Tryz.f4 false true false false) := by
 refine returnsInHanded_of_change_and (C:=Tryz.checked) (X:=fun w _ => laidMetH Tryz.prog Rows.evalPublicRow.laid w) (fun _ _ _ hh h => h.of_heap hh) own started (by kernel_rfl) Tryz.func4
  (ChangeSpec.witness_shaped (enc:=enc) (C:=Tryz.checked) (os:=os) (X:=fun w _ => laidMetH Tryz.prog Rows.evalPublicRow.laid w) false (World.doorLaid Tryz.prog 62 os) #[.string ByteArray.empty,.agg #[.slice none 0 0,.slice none 0 0],.agg #[.slice none 0 0,.slice none 0 0]] 8 rfl (World.shaped_of_RefB (by kernel_rfl) (by kernel_rfl)) (by kernel_rfl) (by kernel_rfl) (by kernel_rfl) (door_met os _)) ?_
 intro W base args ds gs before hval0 hW _ hsz0 hL _
 have hval : ∀ (j : Nat) t v,Tryz.f4.params[j]? = some t → args[j]? = some v → Value.okWide Tryz.prog W .any base t v := hval0
 have hW' := hW
 obtain ⟨p,q,hA0,hV,rfl,hfz,hnd⟩ := hW
 have hA : DataW.TrodAll enc Tryz.prog W 0 (fun _ => true) true Tryz.f4.params.toList args.toList ds p := hA0
 have hsz : (DataW.weightsEach Tryz.prog (Tryz.f4.params.toList ++ Rows.evalPublicSpec.plain.varTypes Tryz.prog) (ds ++ gs)).all (· ≤ reachBytes) = true := hsz0
 rw [Tryz.params4] at hA hval hsz
 obtain ⟨v0,vs0,d0,ds0,p0,q0,hargs,rfl,rfl,h0,r0⟩ := trodAll_cons hA
 obtain ⟨v1,vs1,d1,ds1,p1,q1,rfl,rfl,rfl,h1,r1⟩ := trodAll_cons r0
 obtain ⟨v2,vs2,d2,ds2,p2,q2,rfl,rfl,rfl,h2,r2⟩ := trodAll_cons r1
 obtain ⟨rfl,rfl,rfl⟩ := trodAll_nil r2
 obtain rfl : args = #[v0,v1,v2] := by cases args; simp_all
 obtain ⟨rfl,rfl⟩ := trodVars_none hV
 obtain ⟨s,rfl,rfl,rfl,hs⟩ := open_string Tryz.underlying9 (hval 0 9 v0 rfl rfl) h0
 have hlt1 : ∀ x ∈ p1,x.block < W.heap.size := fun x hx => hW'.lt x (by simp [hx])
 have hwt1 : ∀ n ∈ d1.weights Tryz.prog 25,n ≤ reachBytes := fun n hn => by
  have := List.all_eq_true.1 hsz n (DataW.weights_mem_each (j:=1) (t:=25) (d:=d1) rfl rfl n hn)
  simpa using this
 have hlt2 : ∀ x ∈ p2,x.block < W.heap.size := fun x hx => hW'.lt x (by simp [hx])
 have hwt2 : ∀ n ∈ d2.weights Tryz.prog 25,n ≤ reachBytes := fun n hn => by
  have := List.all_eq_true.1 hsz n (DataW.weights_mem_each (j:=2) (t:=25) (d:=d2) rfl rfl n hn)
  simpa using this
 obtain ⟨ws2,aa2,hg2⟩ := Lr.open_given (hval 2 25 v2 rfl rfl) h2 hwt2
 obtain ⟨ws1,aa1,hg1⟩ := Lr.open_given (hval 1 25 v1 rfl rfl) h1 hwt1
 have hsz1 : s.size ≤ 281474976710656 := by
  have h := sized_string hsz (j:=0) (t:=9) rfl rfl
  have h' := reachBytes_lt
  rw [show s.data.toList.length = s.size from (Lib.size_eq s).symm] at h
  omega
 clear hA0 hval0
 refine (Lr.public5_any s hsz1 ws1 aa1 v1 ws2 aa2 v2 W hg1 hg2 (of_laid hL)).mono fun e W' ⟨he,hnx⟩ => ?_
 subst he
 refine ⟨_,rfl,_,_,_,[],[] ++ (p1 ++ (p2 ++ [])),[],hW',?_,?_,rfl,hnx.frame _,fun h => by cases h⟩
 ·exact trodAll_cons_mk (shut_bool Tryz.underlying4 _) trodAll_mk0
 ·exact trodAll_cons_mk (shut_string Tryz.underlying9 hs) (trodAll_cons_mk (Below.trod laidOut (by kernel_rfl) (of_decide_eq_true (by kernel_rfl)) h1 hnx hlt1) (trodAll_cons_mk (Below.trod laidOut (by kernel_rfl) (of_decide_eq_true (by kernel_rfl)) h2 hnx hlt2) trodAll_mk0))
theorem over : Rows.EvalPublicSaid :=
 OpenClaim.holds_of_wide 4 Tryz.f4 rfl rfl rfl rfl rfl rfl rfl ⟨rfl,rfl,rfl,rfl,rfl⟩ rfl rfl rfl rfl rfl (by kernel_rfl) Tryz.func4 (by kernel_rfl)
  (of_decide_eq_true (by kernel_rfl)) (by unfold Func.isWrapper; first | (rw [if_pos (by decide +kernel)]; kernel_rfl) | (rw [if_neg (by decide +kernel)]; exact ⟨rfl,rfl⟩))
  (fun os started H enc _ => lifted os started H enc)
end Go.Proofs.YtemdnmfldihalaaGreatDoor.epublic
namespace Go.Proofs.YtemdnmfldihalaaGreatDoor
set_option maxHeartbeats 32000000
set_option maxRecDepth 100000
open Go
theorem eval_public : Rows.EvalPublicCardSaid :=
 Claim7.holds_tied_plain_at .later [] [.data,.data,.data,.sentinel,.sentinel] true Rows.evalPublicCard.stood.harness true
  epublic.over (fun _ h => by cases h) (by kernel_rfl) (fun _ h => by cases h) evalPublic_row_tie rfl ⟨rfl,rfl⟩ (by kernel_rfl) rfl
  (fun f fn hf hfn => by
   obtain rfl : f = 4 := Option.some.inj ((show Tryz.prog.funcNamed Rows.evalPublicRow.func = some 4 by kernel_rfl).symm.trans hf) |>.symm
   obtain rfl : fn = Tryz.f4 := (Option.some.inj (Tryz.func4.symm.trans hfn)).symm
   exact ⟨by kernel_rfl,fun j t ht => by
    rw [Tryz.params4] at ht
    have hm : t ∈ [9,25,25] := by simpa using Array.mem_of_getElem? ht
    have hall : ([9,25,25].all fun u => !Tryz.prog.wantsStandIn u) = true := by kernel_rfl
    exact (show Tryz.prog.wantsStandIn t = false by simpa using List.all_eq_true.1 hall t hm)⟩)
  (by kernel_rfl)
#print axioms eval_public
end Go.Proofs.YtemdnmfldihalaaGreatDoor
