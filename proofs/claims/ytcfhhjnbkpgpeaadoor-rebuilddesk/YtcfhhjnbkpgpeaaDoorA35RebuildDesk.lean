/- A config made of raw numbers: what the laws of the keeping kind begin with. -/
import Derived.Test.YtcfhhjnbkpgpeaaDoorA31RebuildDesk
import Derived.Test.YtcfhhjnbkpgpeaaDoorA33RebuildDesk
import Derived.Test.YtcfhhjnbkpgpeaaDoorA34RebuildDesk
namespace Go.Proofs.YtcfhhjnbkpgpeaaDoor
open Go.ChangeShapes Go.WideShapes Go.ChangeAt Go.RowKit
set_option linter.unusedVariables false

/-- A config that may be, and where its labels lie. -/
structure GoodC (w : World) (S P : Int) (g n cp : Nat) (L : List (Int × Int)) : Prop where
  labs : IsLabs w (some ⟨g, 0, none⟩) n cp L
  ok : cfgFault S L P = 0
  s1 : 1 ≤ S
  s3 : S ≤ 3
  n1 : 1 ≤ n
  n4 : n ≤ 4
  nl : Hid (n = L.length)

theorem GoodC.below {w w' : World} {S P : Int} {g n cp : Nat} {L : List (Int × Int)} (h : GoodC w S P g n cp L) (hb : Below w.heap.size w w') : GoodC w' S P g n cp L :=
  ⟨h.labs.below hb, h.ok, h.s1, h.s3, h.n1, h.n4, h.nl⟩

/-- What lies above a world stays below it. -/
theorem bA {W V : World} (h : Below W.heap.size W V) (ob : Obj) : Below W.heap.size W (V.alloc ob) := h.alloc h.size ob
theorem bD {W V : World} (h : Below W.heap.size W V) : Below W.heap.size W V.drew := h.drew
theorem bS {W V : World} (h : Below W.heap.size W V) {b i : Nat} (hb : W.heap.size ≤ b) (v : Value) : Below W.heap.size W (V.setCell ⟨b, i, none⟩ v) := h.setCell (p := ⟨b, i, none⟩) hb v
theorem bG {W V V' : World} {row : Option Nat} (h : Below W.heap.size W V) (hg : V.grownBy V' row) (hr : ∀ k, row = some k → W.heap.size ≤ k) : Below W.heap.size W V' := h.grown hg h.size hr
theorem bT {W V V' : World} (h : Below W.heap.size W V) (hb : Below V.heap.size V V') : Below W.heap.size W V' := h.trans (hb.mono h.size)
end Go.Proofs.YtcfhhjnbkpgpeaaDoor
