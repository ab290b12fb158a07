/- Texts of this claim, one behind the other. -/
import Derived.Test.YtgohpgollpjlnaaDoorRows
import Derived.JoinedOf
import Derived.KernelRfl
/- Closed facts of the row of ShowList, by the kernel. -/
namespace Go.Proofs.YtgohpgollpjlnaaDoor.showListProof
set_option maxRecDepth 100000
theorem c_inPlace : (Rows.showListRow.inPlace == Tryd.pinned.checked.prog.inPlace 8) = true := by kernel_rfl
end Go.Proofs.YtgohpgollpjlnaaDoor.showListProof
/- Closed facts of the row of ShowList, by the kernel. -/
namespace Go.Proofs.YtgohpgollpjlnaaDoor.showListProof
set_option maxRecDepth 100000
theorem c_unf : (Rows.showListRow.unfollowed == Tryd.pinned.checked.prog.unfollowed 8) = true := by kernel_rfl
end Go.Proofs.YtgohpgollpjlnaaDoor.showListProof
/- Closed facts of the row of ShowList, by the kernel. -/
namespace Go.Proofs.YtgohpgollpjlnaaDoor.showListProof
set_option maxRecDepth 100000
theorem c_rec : (Rows.showListRow.recurses == Tryd.pinned.checked.prog.recurses 8) = true := by kernel_rfl
end Go.Proofs.YtgohpgollpjlnaaDoor.showListProof
