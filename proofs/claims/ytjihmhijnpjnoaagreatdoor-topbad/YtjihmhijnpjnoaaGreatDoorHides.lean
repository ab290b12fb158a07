/- Contracts of label.hasLabel and label.hides: whether an act of a kind is of a label, and whether a label's place is one that another one does not see. -/
import Derived.Test.YtjihmhijnpjnoaaGreatDoorActMem
import Derived.Deep.QuietTactic
import Derived.BigQuiet
import Derived.Lib.QuietBelow
namespace Go.Proofs.YtjihmhijnpjnoaaGreatDoor
open Go.ChangeShapes Go.WideShapes Go.ChangeAt Go.RowKit
set_option linter.unusedVariables false

end Go.Proofs.YtjihmhijnpjnoaaGreatDoor
