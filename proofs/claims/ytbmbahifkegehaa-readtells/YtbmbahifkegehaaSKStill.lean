/- What Still tells a transaction of a key that it has just read. -/
import Derived.Test.YtbmbahifkegehaaSKFresh
import Derived.Test.YtbmbahifkegehaaSStill
namespace Go.Proofs.Ytbmbahifkegehaa.St
open Go.ChangeShapes Go.WideShapes Go.ChangeAt Go.RowKit
set_option linter.unusedVariables false

theorem still_plus {p : PS} {u : SV} {x : Int × Int} {k : Int} {wr : Bool} {va ask : Int} (hF : Fresh p x) (hP : Plus p u.data ⟨x, k, wr, va, ask⟩) (ho : OKP u.data) (hk : inR k 0 7 = true) :
    refErr u x k = 0 ∧ stillIs u x k (itemAt p.items k).version = true := by
  have h0 := ref0 ho hF.okx hk
  have el : u.locks = p.locks ++ [⟨x, k, wr, va, ask⟩] := hP.locks
  have ei : u.items = p.items := hP.items
  refine ⟨h0, ?_⟩
  unfold stillIs
  rw [h0, el, ei]
  simp [byT]
end Go.Proofs.Ytbmbahifkegehaa.St
