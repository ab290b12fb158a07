/- Texts of this claim, one behind the other. -/
import Derived.Test.YtlaagfnoepcnlaaDoorRows
import Derived.JoinedOf
import Derived.KernelRfl
/- Closed facts of the row of LinesBad, by the kernel. -/
namespace Go.Proofs.YtlaagfnoepcnlaaDoor.linesBadProof
set_option maxRecDepth 100000
theorem c_laid1 : laidOutB Tryd.pinned.checked.prog = true := by kernel_rfl
theorem c_laid2 : mapsRowed Tryd.pinned.checked.prog = true := by kernel_rfl
end Go.Proofs.YtlaagfnoepcnlaaDoor.linesBadProof
/- Closed facts of the row of LinesBad, by the kernel. -/
namespace Go.Proofs.YtlaagfnoepcnlaaDoor.linesBadProof
set_option maxRecDepth 100000
theorem c_sh : Tryd.pinned.checked.prog.stopsHeard = true := by kernel_rfl
theorem c_me : Tryd.pinned.checked.prog.mayEnter = true := by kernel_rfl
theorem c_li : (Rows.linesBadRow.lifted == Tryd.pinned.checked.prog.liftsFinal) = true := by kernel_rfl
theorem c_mk : (Tryd.pinned.checked.prog.make == some Rows.linesBadRow.make) = true := by kernel_rfl
theorem c_pk : (Rows.linesBadRow.plainKeys == Tryd.pinned.checked.prog.plainKeys) = true := by kernel_rfl
end Go.Proofs.YtlaagfnoepcnlaaDoor.linesBadProof
