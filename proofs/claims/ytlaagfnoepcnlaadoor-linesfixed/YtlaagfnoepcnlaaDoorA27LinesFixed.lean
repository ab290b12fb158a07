/- Closed facts of the row of LinesFixed, by the kernel. -/
import Derived.Test.YtlaagfnoepcnlaaDoorRows
import Derived.JoinedOf
import Derived.KernelRfl
namespace Go.Proofs.YtlaagfnoepcnlaaDoor.linesFixedProof
set_option maxRecDepth 100000
theorem c_sh : Tryd.pinned.checked.prog.stopsHeard = true := by kernel_rfl
theorem c_me : Tryd.pinned.checked.prog.mayEnter = true := by kernel_rfl
theorem c_li : (Rows.linesFixedRow.lifted == Tryd.pinned.checked.prog.liftsFinal) = true := by kernel_rfl
theorem c_mk : (Tryd.pinned.checked.prog.make == some Rows.linesFixedRow.make) = true := by kernel_rfl
theorem c_pk : (Rows.linesFixedRow.plainKeys == Tryd.pinned.checked.prog.plainKeys) = true := by kernel_rfl
end Go.Proofs.YtlaagfnoepcnlaaDoor.linesFixedProof
