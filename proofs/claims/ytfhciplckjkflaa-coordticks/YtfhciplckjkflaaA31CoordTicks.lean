/- A reply laid into a row of its own. -/
import Derived.Test.YtfhciplckjkflaaM10CoordTicks
import Derived.Test.YtfhciplckjkflaaM12CoordTicks
namespace Go.Proofs.Ytfhciplckjkflaa.Cd
open Go.ChangeShapes Go.WideShapes Go.ChangeAt Go.RowKit
open Go.Proofs.Ytfhciplckjkflaa.Co
set_option linter.unusedVariables false

set_option maxRecDepth 100000 in
theorem wpv_reply {o : Oper} {A : Act} {w : World} {K : Value → World → Prop} {Q : Exit → Act → World → Prop} (x : Operand) (ho : o.op = .buildSlice 33 1 #[(0, x)]) {n0 n1 n2 n3 n4 n5 : Int} (hx : A.eval x = .agg #[.int .i64 n0, .int .i64 n1, .int .i64 n2, .int .i64 n3, .int .i64 n4, .int .i64 n5]) (h : K (.slice (some ⟨w.heap.size, 0, none⟩) 1 1) (w.alloc (.cells #[.int .i64 n0, .int .i64 n1, .int .i64 n2, .int .i64 n3, .int .i64 n4, .int .i64 n5] 62))) : Oper.wpv Try.prog o A w K Q := by
  unfold Oper.wpv execOp
  simp only [ho, List.map_toArray, List.map_cons, List.map_nil, hx]
  simp [go_sem]
  exact h
end Go.Proofs.Ytfhciplckjkflaa.Cd
