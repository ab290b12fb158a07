/- A record off bytes, on plain data. -/
import Derived.Test.YtpikiaepomjmgaaDoorWDec
import Derived.Test.YtpikiaepomjmgaaDoorWRec
namespace Go.Proofs.YtpikiaepomjmgaaDoor
open Go.ChangeShapes Go.WideShapes Go.ChangeAt Go.RowKit

/-- The record without where its sites lie. -/
def RcV.pl (r : RcV) : RcV := { r with sa := none, sc := 0 }
def RcV.zero : RcV := ⟨0, 0, 0, 0, 0, 0, false, none, 0, 0, []⟩
/-- The sites that are counted. -/
def RS.sites (r : RS) (n : Int) : List Int × RS := rdNums (List.replicate n.toNat 1) r
/-- A record of what was read: its parts, and the sites behind. -/
def recMk (k s n : Int) (p : List Int) (z : List Int) : RcV := ⟨k, s, n, p.getD 1 0, p.getD 2 0, p.getD 4 0, decide (p.getD 5 0 = 1), none, z.length, 0, z⟩
def decRecRS (r : RS) : RcV × RS :=
  (recMk (r.kind 7).1 ((r.kind 7).2.num 1).1 (((r.kind 7).2.num 1).2.num 3).1
      (decParts 0 (rHasOf (r.kind 7).1) widL (((r.kind 7).2.num 1).2.num 3).2).1
      ((decParts 0 (rHasOf (r.kind 7).1) widL (((r.kind 7).2.num 1).2.num 3).2).2.sites ((decParts 0 (rHasOf (r.kind 7).1) widL (((r.kind 7).2.num 1).2.num 3).2).1.getD 7 0)).1,
   ((decParts 0 (rHasOf (r.kind 7).1) widL (((r.kind 7).2.num 1).2.num 3).2).2.sites ((decParts 0 (rHasOf (r.kind 7).1) widL (((r.kind 7).2.num 1).2.num 3).2).1.getD 7 0)).2)
/-- What DecodeRecord answers. -/
def recOf (s : Int) (ls : List (Int × Int)) (p : Int) (b : List Int) : RcV × Int :=
  if cfgFault s ls p ≠ 0 then (RcV.zero, cfgFault s ls p)
  else if (decRecRS ⟨b, 0⟩).2.fin.wrong ≠ 0 then (RcV.zero, (decRecRS ⟨b, 0⟩).2.fin.wrong)
  else if recFault s ls p (decRecRS ⟨b, 0⟩).1 ≠ 0 then (RcV.zero, recFault s ls p (decRecRS ⟨b, 0⟩).1)
  else ((decRecRS ⟨b, 0⟩).1, 0)
end Go.Proofs.YtpikiaepomjmgaaDoor
