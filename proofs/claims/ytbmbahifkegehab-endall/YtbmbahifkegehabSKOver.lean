/- What who is over is told. -/
import Derived.Test.YtbmbahifkegehabSKEnd
namespace Go.Proofs.Ytbmbahifkegehab.St
open Go.ChangeShapes Go.WideShapes Go.ChangeAt Go.RowKit
set_option linter.unusedVariables false

theorem read_over {u : SV} {x : Int × Int} {k : Int} (ho : OKP u.data) (hx : txOK x = true) (hin : x ∈ u.over) (hno : ∀ o ∈ u.locks, o.t ≠ x) (hk : inR k 0 7 = true) : readErr u x k = 13 ∧ readVal u x k = 0 ∧ readVer u x k = 0 := by
  have h0 := ref0 ho hx hk
  have hi : idxI (byT x k) u.locks < 0 := idx_neg fun o h => by simp [byT, hno o h]
  have hE : readErr u x k = 13 := by
    unfold readErr
    rw [if_pos h0, if_pos hi]
    unfold rrErr
    rw [if_pos hin]
  exact ⟨hE, by unfold readVal; rw [hE]; rfl, by unfold readVer; rw [hE]; rfl⟩
theorem write_over {u : SV} {x : Int × Int} {k va ask : Int} (ho : OKP u.data) (hx : txOK x = true) (hin : x ∈ u.over) (hk : inR k 0 7 = true) (hva : inR va 0 1073741824 = true) (hask : inR ask 0 1048576 = true) : writeErr u x k va ask = 13 := by
  have h0 := ref0 ho hx hk
  have hl : lateT u x k ask = true := by
    unfold lateT
    rw [decide_eq_true hin]
    rfl
  unfold writeErr
  rw [if_pos h0, hva, hask]
  unfold rwErr
  rw [hl]
  rfl
theorem cnt_none {u : SV} {x : Int × Int} (ho : OKP u.data) (hx : txOK x = true) (hno : ∀ o ∈ u.locks, o.t ≠ x) : cntErr u x = 0 ∧ cntIs u x = 0 := by
  have hE : cntErr u x = 0 := by unfold cntErr; rw [if_pos ho.ok, if_pos hx]
  refine ⟨hE, ?_⟩
  have h1 : u.locks.filter (wOf x) = [] := List.filter_eq_nil_iff.2 fun o h => by simp [wOf, hno o h]
  unfold cntIs
  rw [if_pos hE, h1]
  rfl
end Go.Proofs.Ytbmbahifkegehab.St
