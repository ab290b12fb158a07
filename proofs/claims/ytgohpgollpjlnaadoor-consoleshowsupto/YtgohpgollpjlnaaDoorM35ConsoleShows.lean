/- Texts of this claim, one behind the other. -/
import Derived.Test.YtgohpgollpjlnaaDoorRows
import Derived.JoinedOf
import Derived.KernelRfl
/- Closed facts of the row of ConsoleShows, by the kernel. -/
namespace Go.Proofs.YtgohpgollpjlnaaDoor.consoleShowsProof
set_option maxRecDepth 100000
theorem c_named : (Rows.consoleShowsUptoRow.named == Tryd.pinned.checked.prog.varsNamed 4) = true := by kernel_rfl
end Go.Proofs.YtgohpgollpjlnaaDoor.consoleShowsProof
/- Closed facts of the row of ConsoleShows, by the kernel. -/
namespace Go.Proofs.YtgohpgollpjlnaaDoor.consoleShowsProof
set_option maxRecDepth 100000
theorem c_laid1 : laidOutB Tryd.pinned.checked.prog = true := by kernel_rfl
theorem c_laid2 : mapsRowed Tryd.pinned.checked.prog = true := by kernel_rfl
end Go.Proofs.YtgohpgollpjlnaaDoor.consoleShowsProof
/- Closed facts of the row of ConsoleShows, by the kernel. -/
namespace Go.Proofs.YtgohpgollpjlnaaDoor.consoleShowsProof
set_option maxRecDepth 100000
theorem c_sh : Tryd.pinned.checked.prog.stopsHeard = true := by kernel_rfl
theorem c_me : Tryd.pinned.checked.prog.mayEnter = true := by kernel_rfl
theorem c_li : (Rows.consoleShowsUptoRow.lifted == Tryd.pinned.checked.prog.liftsFinal) = true := by kernel_rfl
theorem c_mk : (Tryd.pinned.checked.prog.make == some Rows.consoleShowsUptoRow.make) = true := by kernel_rfl
theorem c_pk : (Rows.consoleShowsUptoRow.plainKeys == Tryd.pinned.checked.prog.plainKeys) = true := by kernel_rfl
end Go.Proofs.YtgohpgollpjlnaaDoor.consoleShowsProof
