/- Texts of this claim, one behind the other. -/
import Derived.Test.YtgohpgollpjlnaaDoorRows
import Derived.JoinedOf
import Derived.KernelRfl
/- Closed facts of the row of ConsoleBack, by the kernel. -/
namespace Go.Proofs.YtgohpgollpjlnaaDoor.consoleBackProof
set_option maxRecDepth 100000
theorem c_unf : (Rows.consoleBackRow.unfollowed == Tryd.pinned.checked.prog.unfollowed 5) = true := by kernel_rfl
end Go.Proofs.YtgohpgollpjlnaaDoor.consoleBackProof
/- Closed facts of the row of ConsoleBack, by the kernel. -/
namespace Go.Proofs.YtgohpgollpjlnaaDoor.consoleBackProof
set_option maxRecDepth 100000
theorem c_rec : (Rows.consoleBackRow.recurses == Tryd.pinned.checked.prog.recurses 5) = true := by kernel_rfl
end Go.Proofs.YtgohpgollpjlnaaDoor.consoleBackProof
/- Closed facts of the row of ConsoleBack, by the kernel. -/
namespace Go.Proofs.YtgohpgollpjlnaaDoor.consoleBackProof
set_option maxRecDepth 100000
theorem c_named : (Rows.consoleBackRow.named == Tryd.pinned.checked.prog.varsNamed 5) = true := by kernel_rfl
end Go.Proofs.YtgohpgollpjlnaaDoor.consoleBackProof
