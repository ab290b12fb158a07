/- Closed facts of the row of TopBad, by the kernel. -/
import Derived.Test.YtjihmhijnpjnoaaGreatDoorRows
import Derived.JoinedOf
import Derived.KernelRfl
namespace Go.Proofs.YtjihmhijnpjnoaaGreatDoor.topBadProof
set_option maxRecDepth 100000
theorem c_laid1 : laidOutB Tryz.pinned.checked.prog = true := by kernel_rfl
theorem c_laid2 : mapsRowed Tryz.pinned.checked.prog = true := by kernel_rfl
end Go.Proofs.YtjihmhijnpjnoaaGreatDoor.topBadProof
