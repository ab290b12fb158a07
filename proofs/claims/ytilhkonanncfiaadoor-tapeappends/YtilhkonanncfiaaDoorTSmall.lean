/- Contracts of the small functions of tapes: which tape may be, how much room there is; the program's and the document's. -/
import Derived.Test.YtilhkonanncfiaaDoorWBytes
import Derived.Below
namespace Go.Proofs.YtilhkonanncfiaaDoor
open Go.ChangeShapes Go.WideShapes Go.ChangeAt Go.RowKit
set_option linter.unusedVariables false

def inT (n lo hi : Int) : Bool := decide (lo ≤ n ∧ n ≤ hi)
def mayT (len : Nat) (y : Int) : Bool := decide (len ≤ 6000 ∧ 0 ≤ y ∧ y ≤ (len : Int))
theorem mayT_of {len : Nat} {y : Int} (h : mayT len y = true) : len ≤ 6000 ∧ 0 ≤ y ∧ y ≤ (len : Int) := by simpa [mayT] using h

theorem withinT_any (n lo hi : Int) (w : World) :
    Calls Tryd.prog 30 #[.int .i64 n, .int .i64 lo, .int .i64 hi] w fun e w' => e = .returned (.bool (inT n lo hi)) ∧ w' = w := by
  go_enter Tryd.func30, Tryd.ntmps30
  go_wp2
  all_goals go_ret
  all_goals exact ⟨ret_bool (by unfold inT; rw [Bool.eq_iff_iff]; simp; omega), rfl⟩

theorem mayBe_any (a : Option Addr) (len cap : Nat) (y : Int) (w : World) (hl : len ≤ 9223372036854775807) :
    Calls Tryd.prog 27 #[.agg #[.slice a len cap, .int .i64 y]] w fun e w' => e = .returned (.bool (mayT len y)) ∧ Below w.heap.size w w' := by
  have hA : Below w.heap.size w (w.alloc (.cells #[.slice a len cap, .int .i64 y] 40)) := (Below.refl _ _).alloc (Nat.le_refl _) _
  by_cases h6 : (len : Int) ≤ 6000
  · have e : mayT len y = inT y 0 len := by unfold mayT inT; rw [Bool.eq_iff_iff]; simp; omega
    rw [e]
    clear e
    go_enter Tryd.func27, Tryd.ntmps27
    go_wp2_with (go_at_call 30; refine (withinT_any _ _ _ _).mono ?_; rintro e w1 ⟨rfl, hu1⟩; rw [hu1]; clear hu1)
    go_ret
    exact ⟨rfl, hA⟩
  · have e : mayT len y = false := by unfold mayT; simp; omega
    rw [e]
    clear e
    go_enter Tryd.func27, Tryd.ntmps27
    go_wp2
    go_ret
    exact ⟨rfl, hA⟩
end Go.Proofs.YtilhkonanncfiaaDoor
