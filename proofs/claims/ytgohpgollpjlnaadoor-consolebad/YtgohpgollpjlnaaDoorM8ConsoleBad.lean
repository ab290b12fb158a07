/- Texts of this claim, one behind the other. -/
import Derived.Test.YtgohpgollpjlnaaDoorRows
import Derived.JoinedOf
import Derived.KernelRfl
/- Closed facts of the row of ConsoleBad, by the kernel. -/
namespace Go.Proofs.YtgohpgollpjlnaaDoor.consoleBadProof
set_option maxRecDepth 100000
theorem c_unf : (Rows.consoleBadRow.unfollowed == Tryd.pinned.checked.prog.unfollowed 6) = true := by kernel_rfl
end Go.Proofs.YtgohpgollpjlnaaDoor.consoleBadProof
/- Closed facts of the row of ConsoleBad, by the kernel. -/
namespace Go.Proofs.YtgohpgollpjlnaaDoor.consoleBadProof
set_option maxRecDepth 100000
theorem c_rec : (Rows.consoleBadRow.recurses == Tryd.pinned.checked.prog.recurses 6) = true := by kernel_rfl
end Go.Proofs.YtgohpgollpjlnaaDoor.consoleBadProof
/- Closed facts of the row of ConsoleBad, by the kernel. -/
namespace Go.Proofs.YtgohpgollpjlnaaDoor.consoleBadProof
set_option maxRecDepth 100000
theorem c_named : (Rows.consoleBadRow.named == Tryd.pinned.checked.prog.varsNamed 6) = true := by kernel_rfl
end Go.Proofs.YtgohpgollpjlnaaDoor.consoleBadProof
