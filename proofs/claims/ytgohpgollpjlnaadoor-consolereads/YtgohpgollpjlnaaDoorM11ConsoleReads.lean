/- Texts of this claim, one behind the other. -/
import Derived.Test.YtgohpgollpjlnaaDoorRows
import Derived.JoinedOf
import Derived.KernelRfl
/- Closed facts of the row of ConsoleReads, by the kernel. -/
namespace Go.Proofs.YtgohpgollpjlnaaDoor.consoleReadsProof
set_option maxRecDepth 100000
theorem c_inPlace : (Rows.consoleReadsRow.inPlace == Tryd.pinned.checked.prog.inPlace 3) = true := by kernel_rfl
end Go.Proofs.YtgohpgollpjlnaaDoor.consoleReadsProof
/- Closed facts of the row of ConsoleReads, by the kernel. -/
namespace Go.Proofs.YtgohpgollpjlnaaDoor.consoleReadsProof
set_option maxRecDepth 100000
theorem c_unf : (Rows.consoleReadsRow.unfollowed == Tryd.pinned.checked.prog.unfollowed 3) = true := by kernel_rfl
end Go.Proofs.YtgohpgollpjlnaaDoor.consoleReadsProof
/- Closed facts of the row of ConsoleReads, by the kernel. -/
namespace Go.Proofs.YtgohpgollpjlnaaDoor.consoleReadsProof
set_option maxRecDepth 100000
theorem c_rec : (Rows.consoleReadsRow.recurses == Tryd.pinned.checked.prog.recurses 3) = true := by kernel_rfl
end Go.Proofs.YtgohpgollpjlnaaDoor.consoleReadsProof
