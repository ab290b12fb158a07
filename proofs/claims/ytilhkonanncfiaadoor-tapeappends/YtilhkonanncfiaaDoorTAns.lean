/- A tape as an answer. -/
import Derived.Test.YtilhkonanncfiaaDoorTSmall
namespace Go.Proofs.YtilhkonanncfiaaDoor
open Go.ChangeShapes Go.WideShapes Go.ChangeAt Go.RowKit

/-- A tape that is answered, and an error: its bytes lie in new memory. -/
def TapeAns (w w' : World) (e : Ending) (bs : List Int) (y err : Int) : Prop :=
  ∃ a len cap, e = .returned (.tuple #[.agg #[.slice a len cap, .int .i64 y], .int .i64 err]) ∧ IsB w' a len cap bs ∧ (∀ b off, a = some ⟨b, off, none⟩ → w.heap.size ≤ b) ∧ Below w.heap.size w w'

end Go.Proofs.YtilhkonanncfiaaDoor
