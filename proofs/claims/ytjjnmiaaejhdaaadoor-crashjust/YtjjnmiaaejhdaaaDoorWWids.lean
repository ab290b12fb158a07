/- The table of widths, as the program lays it. -/
import Derived.Test.YtjjnmiaaejhdaaaDoorWLaid
import Derived.Test.YtjjnmiaaejhdaaaDoorWBytes
namespace Go.Proofs.YtjjnmiaaejhdaaaDoor
open Go.ChangeShapes Go.WideShapes Go.ChangeAt Go.RowKit

def WidsAt (w : World) : Prop := w.cell? ⟨1, 0, none⟩ = some (.int .i64 1) ∧ w.cell? ⟨1, 1, none⟩ = some (.int .i64 1) ∧ w.cell? ⟨1, 2, none⟩ = some (.int .i64 4) ∧ w.cell? ⟨1, 3, none⟩ = some (.int .i64 3) ∧ w.cell? ⟨1, 4, none⟩ = some (.int .i64 3) ∧ w.cell? ⟨1, 5, none⟩ = some (.int .i64 1) ∧ w.cell? ⟨1, 6, none⟩ = some (.int .i64 1) ∧ w.cell? ⟨1, 7, none⟩ = some (.int .i64 1)
theorem WidsAt.below {w w' : World} {B : Nat} (h : WidsAt w) (hb : Below B w w') (hB : 1 < B) : WidsAt w' := by
  unfold WidsAt at h ⊢
  simp only [fun i => hb.cell (p := ⟨1, i, none⟩) hB]
  exact h
theorem WidsAt.lt {w : World} (h : WidsAt w) : 1 < w.heap.size := World.block_lt_of_cell? w _ h.1
theorem WidsAt.grown {w w' : World} {row : Option Nat} (h : WidsAt w) (hg : w.grownBy w' row) (hne : some 1 ≠ row) : WidsAt w' := by
  have hlt := h.lt
  unfold WidsAt at h ⊢
  simp only [fun i => World.cell?_of_block (a := ⟨1, i, none⟩) (hg.block 1 hlt hne)]
  exact h

section
variable {H : Type} {enc : TypeId × Value → H} {W : World} {base : Nat} {sp : Nat → Bool} {held : Bool}
theorem wids_of {fuel : Nat} {cs : Array Value} {p : List MemPlace} {name : String} (hg : Tryd.prog.globalNamed name = some 1) (hv : W.var? Tryd.prog name = some cs)
    (h : DataW.trod enc Tryd.prog W base sp held fuel 72 cs.toList = some (Lib.tabData .i64 [1, 1, 4, 3, 3, 1, 1, 1], p)) : WidsAt W := by
  have e := Lib.cells_of_tab Tryd.underlying72 Tryd.underlying3 (by kernel_rfl) (by kernel_rfl) h
  have c : ∀ i, W.cell? ⟨1, i, none⟩ = (([1, 1, 4, 3, 3, 1, 1, 1] : List Int).map fun z => Value.int .i64 z)[i]? := by
    intro i
    rw [World.var?_cell hg hv, ← Array.getElem?_toList, e]
  unfold WidsAt
  simp only [c]
  simp
end
end Go.Proofs.YtjjnmiaaejhdaaaDoor
