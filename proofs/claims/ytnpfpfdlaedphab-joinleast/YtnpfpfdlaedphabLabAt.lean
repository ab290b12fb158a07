/- What the order laws need of Lab's call at one number. -/
import Derived.Test.YtnpfpfdlaedphabRaw1
import Derived.Test.YtnpfpfdlaedphabOrder
namespace Go.Proofs.Ytnpfpfdlaedphab
open Go.ChangeShapes Go.WideShapes Go.ChangeAt Go.RowKit
set_option linter.unusedVariables false

/-- What the law needs of Lab's call at one number. -/
def LabAt (n l c : Int) : Prop := ∀ w, Calls Try.prog 12 #[.int .i64 n] w fun e w' => e = .returned (.agg #[.int .i64 l, .int .i64 c]) ∧ Below w.heap.size w w'
theorem labAt_of {n : Int} (h : (Lit.int .i64 n).wf = true) : LabAt n (labL n) (labC n) := fun w => lab_any n w (i64_bd h)
end Go.Proofs.Ytnpfpfdlaedphab
