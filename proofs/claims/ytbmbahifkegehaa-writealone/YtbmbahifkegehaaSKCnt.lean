/- How many locks for writing a transaction has behind its first write. -/
import Derived.Test.YtbmbahifkegehaaSKFresh
import Derived.Test.YtbmbahifkegehaaSWritesCnt
namespace Go.Proofs.Ytbmbahifkegehaa.St
open Go.ChangeShapes Go.WideShapes Go.ChangeAt Go.RowKit
set_option linter.unusedVariables false

theorem wOf_plus {p : PS} {x : Int × Int} {k va ask : Int} (hF : Fresh p x) : (p.locks ++ [(⟨x, k, true, va, ask⟩ : LkV)]).filter (wOf x) = [⟨x, k, true, va, ask⟩] := by
  rw [List.filter_append]
  have : p.locks.filter (wOf x) = [] := List.filter_eq_nil_iff.2 fun o ho => by simp [wOf, hF.nl o ho]
  rw [this]
  simp [wOf]
theorem cnt_plus {p : PS} {u : SV} {x : Int × Int} {k va ask : Int} (hF : Fresh p x) (hP : Plus p u.data ⟨x, k, true, va, ask⟩) (ho : OKP u.data) : cntErr u x = 0 ∧ cntIs u x = 1 := by
  have el : u.locks = p.locks ++ [⟨x, k, true, va, ask⟩] := hP.locks
  have hE : cntErr u x = 0 := by unfold cntErr; rw [if_pos ho.ok, if_pos hF.okx]
  refine ⟨hE, ?_⟩
  unfold cntIs
  rw [if_pos hE, el, wOf_plus hF]
  rfl
end Go.Proofs.Ytbmbahifkegehaa.St
