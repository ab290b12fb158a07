/- What of a message that may be is known. -/
import Derived.Test.YtcfhhjnbkpgpeaaDoorM9RebuildDesk
namespace Go.Proofs.YtcfhhjnbkpgpeaaDoor
open Go.ChangeShapes Go.WideShapes Go.ChangeAt Go.RowKit

/-- What of a message that may be is known. -/
theorem may_msg {s : Int} {ls : List (Int × Int)} {p : Int} {m : MV} (h : msgFault s ls p m = 0) : cfgFault s ls p = 0 ∧ inR m.kind 1 9 = true ∧ msgRange s ls.length m = true ∧ msgForm m = true := by
  unfold msgFault at h
  split at h
  · omega
  split at h
  · omega
  split at h
  · omega
  split at h
  · omega
  simp_all

end Go.Proofs.YtcfhhjnbkpgpeaaDoor
