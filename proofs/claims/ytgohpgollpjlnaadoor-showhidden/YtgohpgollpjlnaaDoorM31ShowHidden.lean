/- Texts of this claim, one behind the other. -/
import Derived.Test.YtgohpgollpjlnaaDoorRows
import Derived.JoinedOf
import Derived.KernelRfl
/- Closed facts of the row of ShowHidden, by the kernel. -/
namespace Go.Proofs.YtgohpgollpjlnaaDoor.showHiddenProof
set_option maxRecDepth 100000
theorem c_inPlace : (Rows.showHiddenRow.inPlace == Tryd.pinned.checked.prog.inPlace 7) = true := by kernel_rfl
end Go.Proofs.YtgohpgollpjlnaaDoor.showHiddenProof
/- Closed facts of the row of ShowHidden, by the kernel. -/
namespace Go.Proofs.YtgohpgollpjlnaaDoor.showHiddenProof
set_option maxRecDepth 100000
theorem c_unf : (Rows.showHiddenRow.unfollowed == Tryd.pinned.checked.prog.unfollowed 7) = true := by kernel_rfl
end Go.Proofs.YtgohpgollpjlnaaDoor.showHiddenProof
/- Closed facts of the row of ShowHidden, by the kernel. -/
namespace Go.Proofs.YtgohpgollpjlnaaDoor.showHiddenProof
set_option maxRecDepth 100000
theorem c_rec : (Rows.showHiddenRow.recurses == Tryd.pinned.checked.prog.recurses 7) = true := by kernel_rfl
end Go.Proofs.YtgohpgollpjlnaaDoor.showHiddenProof
