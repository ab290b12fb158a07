/- What lines.Check tells of an act and of a call, on plain data. -/
import Derived.Test.YtjihmhijnpjnoaaGreatDoorActMem
namespace Go.Proofs.YtjihmhijnpjnoaaGreatDoor.Ln
open Go.ChangeShapes Go.WideShapes Go.ChangeAt Go.RowKit

/-- Is all that is not 0 among what there is? -/
def only : List Bool → List Int → Bool
  | _, [] => true
  | [], _ :: _ => false
  | h :: hs, p :: ps => (h || p == 0) && only hs ps
/-- Which parts an act of a kind has: site, to, label, pick, keep, call, line. -/
def aHas : List (List Bool) :=
  [[false, false, false, false, false, false, false], [true, false, true, false, false, true, false], [true, true, true, true, false, false, false],
   [true, true, true, true, false, false, false], [true, true, true, true, false, false, false], [false, false, false, false, false, false, false],
   [true, false, false, false, true, false, false], [true, false, false, false, false, false, false], [true, false, true, false, false, false, true]]
/-- Which parts a call of a kind has: n, label, key, value. -/
def cHas : List (List Bool) :=
  [[false, false, false, false], [false, false, false, false], [true, true, true, false], [true, false, true, true], [true, false, false, false], [true, false, false, false]]
def cTops : List Int := [1048576, 5, 8, 1073741824]
def inTops : List Int → List Int → Bool
  | [], _ => true
  | _ :: _, [] => true
  | t :: ts, p :: ps => inR p 0 t && inTops ts ps
def one (b : Bool) : Int := if b then 1 else 0
def nz (c0 c1 c2 c3 c4 : Int) : Bool := !(c0 == 0 && c1 == 0 && c2 == 0 && c3 == 0 && c4 == 0)
def aParts (a : AV) : List Int := [a.site, a.to, a.label, a.pick, (a.kl : Int), one (nz a.c0 a.c1 a.c2 a.c3 a.c4), (a.line.size : Int)]
def callFault (c0 c1 c2 c3 c4 : Int) : Int :=
  if inR c0 1 5 = false then 3 else if inTops cTops [c1, c2, c3, c4] = false then 2 else if only (cHas.getD c0.toNat []) [c1, c2, c3, c4] = false then 4 else 0
def keepIn (zs : List Int) : Bool := zs.all fun z => inR z 0 6000
def actIn (s : Int) (n : Nat) (a : AV) : Bool :=
  decide (a.kl ≤ n) && keepIn a.keep && decide (a.line.size ≤ 60) && inR a.pick 0 1048576 && (inR a.site 0 (s - 1) && inR a.to 0 (s - 1) && plc a.label n)
def actFault (s : Int) (ls : List (Int × Int)) (p : Int) (a : AV) : Int :=
  if cfgFault s ls p ≠ 0 then cfgFault s ls p else if inR a.kind 1 8 = false then 3 else if actIn s ls.length a = false then 2
  else if only (aHas.getD a.kind.toNat []) (aParts a) = false then 4 else if a.kind = 1 then callFault a.c0 a.c1 a.c2 a.c3 a.c4 else 0

theorem only_at {hs : List Bool} {ps : List Int} {k : Nat} (h1 : k < hs.length) (h2 : k < ps.length) : only (hs.drop k) (ps.drop k) = ((hs.getD k false || ps.getD k 0 == 0) && only (hs.drop (k + 1)) (ps.drop (k + 1))) := by
  rw [List.drop_eq_getElem_cons h1, List.drop_eq_getElem_cons h2]
  simp [only, List.getD, h1, h2]
theorem only_end {hs : List Bool} {ps : List Int} {k : Nat} (h2 : ps.length ≤ k) : only (hs.drop k) (ps.drop k) = true := by
  rw [List.drop_eq_nil_of_le h2]
  cases hs.drop k <;> rfl
theorem inTops_at {ts ps : List Int} {k : Nat} (h1 : k < ts.length) (h2 : k < ps.length) : inTops (ts.drop k) (ps.drop k) = (inR (ps.getD k 0) 0 (ts.getD k 0) && inTops (ts.drop (k + 1)) (ps.drop (k + 1))) := by
  rw [List.drop_eq_getElem_cons h1, List.drop_eq_getElem_cons h2]
  simp [inTops, List.getD, h1, h2]

def Bools (w : World) (b : Nat) (hs : List Bool) : Prop := b < w.heap.size ∧ ∀ i, i < hs.length → w.cell? ⟨b, i, none⟩ = some (.bool (hs.getD i false))
def Nms (w : World) (b : Nat) (ps : List Int) : Prop := b < w.heap.size ∧ ∀ i, i < ps.length → w.cell? ⟨b, i, none⟩ = some (.int .i64 (ps.getD i 0))
theorem Bools.below {w w' : World} {b B : Nat} {hs : List Bool} (h : Bools w b hs) (hb : Below B w w') (hB : b < B) : Bools w' b hs :=
  ⟨Nat.lt_of_lt_of_le h.1 hb.size, fun i hi => (hb.cell (p := ⟨b, i, none⟩) hB).trans (h.2 i hi)⟩
theorem Nms.below {w w' : World} {b B : Nat} {ps : List Int} (h : Nms w b ps) (hb : Below B w w') (hB : b < B) : Nms w' b ps :=
  ⟨Nat.lt_of_lt_of_le h.1 hb.size, fun i hi => (hb.cell (p := ⟨b, i, none⟩) hB).trans (h.2 i hi)⟩
end Go.Proofs.YtjihmhijnpjnoaaGreatDoor.Ln
