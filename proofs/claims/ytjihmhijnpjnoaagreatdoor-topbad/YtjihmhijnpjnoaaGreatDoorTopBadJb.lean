/- Closed facts of the row of TopBad, by the kernel. -/
import Derived.Test.YtjihmhijnpjnoaaGreatDoorRows
import Derived.JoinedOf
import Derived.KernelRfl
namespace Go.Proofs.YtjihmhijnpjnoaaGreatDoor.topBadProof
set_option maxRecDepth 100000
theorem c_unf : (Rows.topBadRow.unfollowed == Tryz.pinned.checked.prog.unfollowed 3) = true := by kernel_rfl
end Go.Proofs.YtjihmhijnpjnoaaGreatDoor.topBadProof
