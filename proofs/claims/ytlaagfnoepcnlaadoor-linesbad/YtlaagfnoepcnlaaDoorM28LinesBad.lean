/- Texts of this claim, one behind the other. -/
import Derived.Test.YtlaagfnoepcnlaaDoorRows
import Derived.JoinedOf
import Derived.KernelRfl
/- Closed facts of the row of LinesBad, by the kernel. -/
namespace Go.Proofs.YtlaagfnoepcnlaaDoor.linesBadProof
set_option maxRecDepth 100000
theorem c_unf : (Rows.linesBadRow.unfollowed == Tryd.pinned.checked.prog.unfollowed 7) = true := by kernel_rfl
end Go.Proofs.YtlaagfnoepcnlaaDoor.linesBadProof
/- Closed facts of the row of LinesBad, by the kernel. -/
namespace Go.Proofs.YtlaagfnoepcnlaaDoor.linesBadProof
set_option maxRecDepth 100000
theorem c_rec : (Rows.linesBadRow.recurses == Tryd.pinned.checked.prog.recurses 7) = true := by kernel_rfl
end Go.Proofs.YtlaagfnoepcnlaaDoor.linesBadProof
/- Closed facts of the row of LinesBad, by the kernel. -/
namespace Go.Proofs.YtlaagfnoepcnlaaDoor.linesBadProof
set_option maxRecDepth 100000
theorem c_named : (Rows.linesBadRow.named == Tryd.pinned.checked.prog.varsNamed 7) = true := by kernel_rfl
end Go.Proofs.YtlaagfnoepcnlaaDoor.linesBadProof
