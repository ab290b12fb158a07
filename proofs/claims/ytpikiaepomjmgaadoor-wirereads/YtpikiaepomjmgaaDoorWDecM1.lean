/- A message off bytes, on plain data. -/
import Derived.Test.YtpikiaepomjmgaaDoorWDec
import Derived.Test.YtpikiaepomjmgaaDoorWMsg
namespace Go.Proofs.YtpikiaepomjmgaaDoor
open Go.ChangeShapes Go.WideShapes Go.ChangeAt Go.RowKit

/-- A message off bytes: what readMessage gives, and what the reader is then. -/
def decMsgRS (r : RS) : MV × RS :=
  (⟨(r.kind 10).1, ((r.kind 10).2.num 1).1, (((r.kind 10).2.num 1).2.num 1).1, ((((r.kind 10).2.num 1).2.num 1).2.num 1).1, (((((r.kind 10).2.num 1).2.num 1).2.num 1).2.num 3).1,
    (decParts 0 (mHasOf (r.kind 10).1) widL (((((r.kind 10).2.num 1).2.num 1).2.num 1).2.num 3).2).1.getD 0 0,
    (decParts 0 (mHasOf (r.kind 10).1) widL (((((r.kind 10).2.num 1).2.num 1).2.num 1).2.num 3).2).1.getD 1 0,
    (decParts 0 (mHasOf (r.kind 10).1) widL (((((r.kind 10).2.num 1).2.num 1).2.num 1).2.num 3).2).1.getD 2 0,
    (decParts 0 (mHasOf (r.kind 10).1) widL (((((r.kind 10).2.num 1).2.num 1).2.num 1).2.num 3).2).1.getD 3 0,
    (decParts 0 (mHasOf (r.kind 10).1) widL (((((r.kind 10).2.num 1).2.num 1).2.num 1).2.num 3).2).1.getD 4 0,
    decide ((decParts 0 (mHasOf (r.kind 10).1) widL (((((r.kind 10).2.num 1).2.num 1).2.num 1).2.num 3).2).1.getD 5 0 = 1),
    (decParts 0 (mHasOf (r.kind 10).1) widL (((((r.kind 10).2.num 1).2.num 1).2.num 1).2.num 3).2).1.getD 6 0⟩,
   (decParts 0 (mHasOf (r.kind 10).1) widL (((((r.kind 10).2.num 1).2.num 1).2.num 1).2.num 3).2).2)

end Go.Proofs.YtpikiaepomjmgaaDoor
