/- Texts of this claim, one behind the other. -/
import Derived.Test.YtgohpgollpjlnaaDoorProg
import Derived.WalkKit
import Derived.ProofKit
import Derived.Below
import Derived.Test.YtgohpgollpjlnaaDoorA0ConsoleShows
/- The contract of label.Above: for labels of any numbers it returns whether the first dominates the other, and leaves what was in memory. -/
namespace Go.Proofs.YtgohpgollpjlnaaDoor
open Go.ChangeShapes Go.WideShapes Go.ChangeAt Go.RowKit

/-- Dominance of labels, on numbers. -/
def abv (al ac bl bc : Int) : Bool := decide (bl ≤ al) && (bits .and .i64 ac bc == bc)

theorem abv_pos {al ac bl bc : Int} (h : bl ≤ al) : abv al ac bl bc = (bits .and .i64 ac bc == bc) := by simp [abv, h]
theorem abv_neg {al ac bl bc : Int} (h : al < bl) : abv al ac bl bc = false := by
  have : ¬ bl ≤ al := by omega
  simp [abv, this]

theorem above_any (al ac bl bc : Int) (w : World) :
    Calls Tryd.prog 86 #[.agg #[.int .i64 al, .int .i64 ac], .agg #[.int .i64 bl, .int .i64 bc]] w fun e w' => e = .returned (.bool (abv al ac bl bc)) ∧ Below w.heap.size w w' := by
  go_enter Tryd.func86, Tryd.ntmps86
  go_wp2
  · go_ret
    exact ⟨ret_bool (abv_pos ‹_›).symm, ((Below.refl _ _).alloc (Nat.le_refl _) _).alloc (by simp) _⟩
  · go_ret
    exact ⟨ret_bool (abv_neg ‹_›).symm, ((Below.refl _ _).alloc (Nat.le_refl _) _).alloc (by simp) _⟩

end Go.Proofs.YtgohpgollpjlnaaDoor
/- The contract of the document's answer Dominates: the same truth value as label.Above. -/
namespace Go.Proofs.YtgohpgollpjlnaaDoor
open Go.ChangeShapes Go.WideShapes Go.ChangeAt Go.RowKit

theorem dominates_any (al ac bl bc : Int) (w : World) :
    Calls Tryd.prog 31 #[.agg #[.int .i64 al, .int .i64 ac], .agg #[.int .i64 bl, .int .i64 bc]] w fun e w' => e = .returned (.bool (abv al ac bl bc)) ∧ Below w.heap.size w w' := by
  go_enter Tryd.func31, Tryd.ntmps31
  go_wp2
  · go_ret
    exact ⟨ret_bool (abv_pos ‹_›).symm, ((Below.refl _ _).alloc (Nat.le_refl _) _).alloc (by simp) _⟩
  · go_ret
    exact ⟨ret_bool (abv_neg ‹_›).symm, ((Below.refl _ _).alloc (Nat.le_refl _) _).alloc (by simp) _⟩

end Go.Proofs.YtgohpgollpjlnaaDoor
