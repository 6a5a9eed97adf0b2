/- Laid together: LgStmt, LgShow, LgOwn. -/
import Derived.Test.YtfbmkcogkiejnaaGr0
namespace Go.Proofs.Ytfbmkcogkiejnaa.Lg
set_option linter.unusedVariables false
set_option linter.unusedSimpArgs false
open Wd Rf

/-- There are at least as many words as things that have one. -/
theorem flat_len {α : Type} {toks : α → List (List UInt8)} : ∀ (as : List α), (∀ a ∈ as, (toks a).head? = some [40]) → as.length ≤ (as.flatMap toks).length
  | [], _ => by simp
  | a :: as, h => by
    have h1 := h a (by simp)
    have h2 := flat_len as (fun b hb => h b (by simp [hb]))
    rw [List.flatMap_cons, List.length_append, List.length_cons]
    cases ht : toks a with
    | nil => rw [ht] at h1; cases h1
    | cons x y => rw [List.length_cons]; omega
end Go.Proofs.Ytfbmkcogkiejnaa.Lg
