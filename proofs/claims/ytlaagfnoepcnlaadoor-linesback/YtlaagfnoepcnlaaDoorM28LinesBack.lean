/- Texts of this claim, one behind the other. -/
import Derived.Test.YtlaagfnoepcnlaaDoorRows
import Derived.JoinedOf
import Derived.KernelRfl
/- Closed facts of the row of LinesBack, by the kernel. -/
namespace Go.Proofs.YtlaagfnoepcnlaaDoor.linesBackProof
set_option maxRecDepth 100000
theorem c_unf : (Rows.linesBackRow.unfollowed == Tryd.pinned.checked.prog.unfollowed 5) = true := by kernel_rfl
end Go.Proofs.YtlaagfnoepcnlaaDoor.linesBackProof
/- Closed facts of the row of LinesBack, by the kernel. -/
namespace Go.Proofs.YtlaagfnoepcnlaaDoor.linesBackProof
set_option maxRecDepth 100000
theorem c_rec : (Rows.linesBackRow.recurses == Tryd.pinned.checked.prog.recurses 5) = true := by kernel_rfl
end Go.Proofs.YtlaagfnoepcnlaaDoor.linesBackProof
/- Closed facts of the row of LinesBack, by the kernel. -/
namespace Go.Proofs.YtlaagfnoepcnlaaDoor.linesBackProof
set_option maxRecDepth 100000
theorem c_named : (Rows.linesBackRow.named == Tryd.pinned.checked.prog.varsNamed 5) = true := by kernel_rfl
end Go.Proofs.YtlaagfnoepcnlaaDoor.linesBackProof
