/- Texts of this claim, one behind the other. -/
import Derived.Test.YtgohpgollpjlnaaDoorRows
import Derived.JoinedOf
import Derived.KernelRfl
/- Closed facts of the row of ShowList, by the kernel. -/
namespace Go.Proofs.YtgohpgollpjlnaaDoor.showListProof
set_option maxRecDepth 100000
theorem c_named : (Rows.showListRow.named == Tryd.pinned.checked.prog.varsNamed 8) = true := by kernel_rfl
end Go.Proofs.YtgohpgollpjlnaaDoor.showListProof
/- Closed facts of the row of ShowList, by the kernel. -/
namespace Go.Proofs.YtgohpgollpjlnaaDoor.showListProof
set_option maxRecDepth 100000
theorem c_laid1 : laidOutB Tryd.pinned.checked.prog = true := by kernel_rfl
theorem c_laid2 : mapsRowed Tryd.pinned.checked.prog = true := by kernel_rfl
end Go.Proofs.YtgohpgollpjlnaaDoor.showListProof
/- Closed facts of the row of ShowList, by the kernel. -/
namespace Go.Proofs.YtgohpgollpjlnaaDoor.showListProof
set_option maxRecDepth 100000
theorem c_sh : Tryd.pinned.checked.prog.stopsHeard = true := by kernel_rfl
theorem c_me : Tryd.pinned.checked.prog.mayEnter = true := by kernel_rfl
theorem c_li : (Rows.showListRow.lifted == Tryd.pinned.checked.prog.liftsFinal) = true := by kernel_rfl
theorem c_mk : (Tryd.pinned.checked.prog.make == some Rows.showListRow.make) = true := by kernel_rfl
theorem c_pk : (Rows.showListRow.plainKeys == Tryd.pinned.checked.prog.plainKeys) = true := by kernel_rfl
end Go.Proofs.YtgohpgollpjlnaaDoor.showListProof
