/- What Peek tells of a store that may be. -/
import Derived.Test.YtbmbahifkegehabSKFresh
import Derived.Test.YtbmbahifkegehabSPeek
namespace Go.Proofs.Ytbmbahifkegehab.St
open Go.ChangeShapes Go.WideShapes Go.ChangeAt Go.RowKit
set_option linter.unusedVariables false

theorem peek_is {s : SV} {k : Int} (ho : OKP s.data) (hk : inR k 0 7 = true) :
    (s.locks.any (wrT k) = true → peekErr s k = 11 ∧ peekVal s k = 0 ∧ peekVer s k = 0) ∧ (s.locks.any (wrT k) = false → peekErr s k = 0 ∧ peekVal s k = (itemAt s.items k).value ∧ peekVer s k = (itemAt s.items k).version) := by
  have hE : peekErr s k = if s.locks.any (wrT k) then 11 else 0 := by
    unfold peekErr
    rw [if_pos ho.ok, if_pos hk]
  constructor
  · intro h
    rw [h] at hE
    have hE' : peekErr s k = 11 := hE
    exact ⟨hE', by unfold peekVal; rw [hE']; rfl, by unfold peekVer; rw [hE']; rfl⟩
  · intro h
    rw [h] at hE
    have hE' : peekErr s k = 0 := hE
    exact ⟨hE', by unfold peekVal; rw [if_pos hE'], by unfold peekVer; rw [if_pos hE']⟩
end Go.Proofs.Ytbmbahifkegehab.St
