/- Closed facts of the row of TopBad, by the kernel. -/
import Derived.Test.YtjihmhijnpjnoaaGreatDoorRows
import Derived.JoinedOf
import Derived.KernelRfl
namespace Go.Proofs.YtjihmhijnpjnoaaGreatDoor.topBadProof
set_option maxRecDepth 100000
theorem c_sh : Tryz.pinned.checked.prog.stopsHeard = true := by kernel_rfl
theorem c_me : Tryz.pinned.checked.prog.mayEnter = true := by kernel_rfl
theorem c_li : (Rows.topBadRow.lifted == Tryz.pinned.checked.prog.liftsFinal) = true := by kernel_rfl
theorem c_mk : (Tryz.pinned.checked.prog.make == some Rows.topBadRow.make) = true := by kernel_rfl
theorem c_pk : (Rows.topBadRow.plainKeys == Tryz.pinned.checked.prog.plainKeys) = true := by kernel_rfl
end Go.Proofs.YtjihmhijnpjnoaaGreatDoor.topBadProof
