/- Texts of this claim, one behind the other. -/
import Derived.Test.YtlaagfnoepcnlaaDoorRows
import Derived.JoinedOf
import Derived.KernelRfl
/- Closed facts of the row of LinesFixed, by the kernel. -/
namespace Go.Proofs.YtlaagfnoepcnlaaDoor.linesFixedProof
set_option maxRecDepth 100000
theorem c_rec : (Rows.linesFixedRow.recurses == Tryd.pinned.checked.prog.recurses 6) = true := by kernel_rfl
end Go.Proofs.YtlaagfnoepcnlaaDoor.linesFixedProof
/- Closed facts of the row of LinesFixed, by the kernel. -/
namespace Go.Proofs.YtlaagfnoepcnlaaDoor.linesFixedProof
set_option maxRecDepth 100000
theorem c_named : (Rows.linesFixedRow.named == Tryd.pinned.checked.prog.varsNamed 6) = true := by kernel_rfl
end Go.Proofs.YtlaagfnoepcnlaaDoor.linesFixedProof
/- Closed facts of the row of LinesFixed, by the kernel. -/
namespace Go.Proofs.YtlaagfnoepcnlaaDoor.linesFixedProof
set_option maxRecDepth 100000
theorem c_laid1 : laidOutB Tryd.pinned.checked.prog = true := by kernel_rfl
theorem c_laid2 : mapsRowed Tryd.pinned.checked.prog = true := by kernel_rfl
end Go.Proofs.YtlaagfnoepcnlaaDoor.linesFixedProof
