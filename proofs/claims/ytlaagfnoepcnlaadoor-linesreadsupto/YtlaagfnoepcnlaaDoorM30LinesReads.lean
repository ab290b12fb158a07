/- Texts of this claim, one behind the other. -/
import Derived.Test.YtlaagfnoepcnlaaDoorRows
import Derived.JoinedOf
import Derived.KernelRfl
/- Closed facts of the row of LinesReads, by the kernel. -/
namespace Go.Proofs.YtlaagfnoepcnlaaDoor.linesReadsProof
set_option maxRecDepth 100000
theorem c_rec : (Rows.linesReadsUptoRow.recurses == Tryd.pinned.checked.prog.recurses 4) = true := by kernel_rfl
end Go.Proofs.YtlaagfnoepcnlaaDoor.linesReadsProof
/- Closed facts of the row of LinesReads, by the kernel. -/
namespace Go.Proofs.YtlaagfnoepcnlaaDoor.linesReadsProof
set_option maxRecDepth 100000
theorem c_named : (Rows.linesReadsUptoRow.named == Tryd.pinned.checked.prog.varsNamed 4) = true := by kernel_rfl
end Go.Proofs.YtlaagfnoepcnlaaDoor.linesReadsProof
/- Closed facts of the row of LinesReads, by the kernel. -/
namespace Go.Proofs.YtlaagfnoepcnlaaDoor.linesReadsProof
set_option maxRecDepth 100000
theorem c_laid1 : laidOutB Tryd.pinned.checked.prog = true := by kernel_rfl
theorem c_laid2 : mapsRowed Tryd.pinned.checked.prog = true := by kernel_rfl
end Go.Proofs.YtlaagfnoepcnlaaDoor.linesReadsProof
