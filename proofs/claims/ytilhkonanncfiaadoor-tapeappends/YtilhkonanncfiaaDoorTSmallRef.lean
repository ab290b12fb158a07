/- The document's side of the small functions of tapes. -/
import Derived.Test.YtilhkonanncfiaaDoorTSmall
namespace Go.Proofs.YtilhkonanncfiaaDoor
open Go.ChangeShapes Go.WideShapes Go.ChangeAt Go.RowKit
set_option linter.unusedVariables false

theorem inRefT_any (n lo hi : Int) (w : World) :
    Calls Tryd.prog 38 #[.int .i64 n, .int .i64 lo, .int .i64 hi] w fun e w' => e = .returned (.bool (inT n lo hi)) ∧ w' = w := by
  go_enter Tryd.func38, Tryd.ntmps38
  go_wp2
  all_goals go_ret
  all_goals exact ⟨ret_bool (by unfold inT; rw [Bool.eq_iff_iff]; simp; omega), rfl⟩

theorem tapeMay_any (a : Option Addr) (len cap : Nat) (y : Int) (w : World) (hl : len ≤ 9223372036854775807) :
    Calls Tryd.prog 28 #[.agg #[.slice a len cap, .int .i64 y]] w fun e w' => e = .returned (.bool (mayT len y)) ∧ Below w.heap.size w w' := by
  have hA : Below w.heap.size w (w.alloc (.cells #[.slice a len cap, .int .i64 y] 40)) := (Below.refl _ _).alloc (Nat.le_refl _) _
  by_cases h6 : (len : Int) ≤ 6000
  · have e : mayT len y = inT y 0 len := by unfold mayT inT; rw [Bool.eq_iff_iff]; simp; omega
    rw [e]
    clear e
    go_enter Tryd.func28, Tryd.ntmps28
    go_wp2_with (go_at_call 38; refine (inRefT_any _ _ _ _).mono ?_; rintro e w1 ⟨rfl, hu1⟩; rw [hu1]; clear hu1)
    go_ret
    exact ⟨rfl, hA⟩
  · have e : mayT len y = false := by unfold mayT; simp; omega
    rw [e]
    clear e
    go_enter Tryd.func28, Tryd.ntmps28
    go_wp2
    go_ret
    exact ⟨rfl, hA⟩
end Go.Proofs.YtilhkonanncfiaaDoor
