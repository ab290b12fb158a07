/- The contract of the document's labelMay: whether there is such a label. -/
import Derived.Test.YtijpncibpfbkaaaFault
import Derived.Test.YtijpncibpfbkaaaPlace
namespace Go.Proofs.Ytijpncibpfbkaaa
open Go.ChangeShapes Go.WideShapes Go.ChangeAt Go.RowKit

theorem labelMay_any (s p : Int) (a : Option Addr) (len cap : Nat) (l : Int) (w : World) (hl : len ≤ maxLen) :
    Calls Try.prog 22 #[.agg #[.int .i64 s, .slice a len cap, .int .i64 p], .int .i64 l] w fun e w' => e = .returned (.bool (plc l len)) ∧ Below w.heap.size w w' := by
  have hA : Below w.heap.size w (w.alloc (.cells #[.int .i64 s, .slice a len cap, .int .i64 p] 24)) := (Below.refl _ _).alloc (Nat.le_refl _) _
  unfold maxLen at hl
  go_enter Try.func22, Try.ntmps22
  go_wp2_with (go_at_call 19; refine (in_any _ _ _ _).mono ?_; rintro e w2 ⟨rfl, rfl⟩)
  go_ret
  exact ⟨ret_bool (by unfold plc inR; rw [Bool.eq_iff_iff]; simp; omega), hA⟩

end Go.Proofs.Ytijpncibpfbkaaa
