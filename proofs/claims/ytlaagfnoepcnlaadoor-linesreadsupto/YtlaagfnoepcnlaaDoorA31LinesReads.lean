/- Closed facts of the row of LinesReads, by the kernel. -/
import Derived.Test.YtlaagfnoepcnlaaDoorRows
import Derived.JoinedOf
import Derived.KernelRfl
namespace Go.Proofs.YtlaagfnoepcnlaaDoor.linesReadsProof
set_option maxRecDepth 100000
theorem c_sh : Tryd.pinned.checked.prog.stopsHeard = true := by kernel_rfl
theorem c_me : Tryd.pinned.checked.prog.mayEnter = true := by kernel_rfl
theorem c_li : (Rows.linesReadsUptoRow.lifted == Tryd.pinned.checked.prog.liftsFinal) = true := by kernel_rfl
theorem c_mk : (Tryd.pinned.checked.prog.make == some Rows.linesReadsUptoRow.make) = true := by kernel_rfl
theorem c_pk : (Rows.linesReadsUptoRow.plainKeys == Tryd.pinned.checked.prog.plainKeys) = true := by kernel_rfl
end Go.Proofs.YtlaagfnoepcnlaaDoor.linesReadsProof
