/- Texts of this claim, one behind the other. -/
import Derived.Test.YtgohpgollpjlnaaDoorRows
import Derived.JoinedOf
import Derived.KernelRfl
/- Closed facts of the row of ConsoleShows, by the kernel. -/
namespace Go.Proofs.YtgohpgollpjlnaaDoor.consoleShowsProof
set_option maxRecDepth 100000
theorem c_inPlace : (Rows.consoleShowsUptoRow.inPlace == Tryd.pinned.checked.prog.inPlace 4) = true := by kernel_rfl
end Go.Proofs.YtgohpgollpjlnaaDoor.consoleShowsProof
/- Closed facts of the row of ConsoleShows, by the kernel. -/
namespace Go.Proofs.YtgohpgollpjlnaaDoor.consoleShowsProof
set_option maxRecDepth 100000
theorem c_unf : (Rows.consoleShowsUptoRow.unfollowed == Tryd.pinned.checked.prog.unfollowed 4) = true := by kernel_rfl
end Go.Proofs.YtgohpgollpjlnaaDoor.consoleShowsProof
/- Closed facts of the row of ConsoleShows, by the kernel. -/
namespace Go.Proofs.YtgohpgollpjlnaaDoor.consoleShowsProof
set_option maxRecDepth 100000
theorem c_rec : (Rows.consoleShowsUptoRow.recurses == Tryd.pinned.checked.prog.recurses 4) = true := by kernel_rfl
end Go.Proofs.YtgohpgollpjlnaaDoor.consoleShowsProof
