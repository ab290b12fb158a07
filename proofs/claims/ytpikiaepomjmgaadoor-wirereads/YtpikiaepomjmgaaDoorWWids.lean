/- The table of widths, as the program lays it. -/
import Derived.Test.YtpikiaepomjmgaaDoorWLaid
import Derived.Test.YtpikiaepomjmgaaDoorWBytes
namespace Go.Proofs.YtpikiaepomjmgaaDoor
open Go.ChangeShapes Go.WideShapes Go.ChangeAt Go.RowKit

def WidsAt (w : World) : Prop := w.cell? ⟨2, 0, none⟩ = some (.int .i64 1) ∧ w.cell? ⟨2, 1, none⟩ = some (.int .i64 1) ∧ w.cell? ⟨2, 2, none⟩ = some (.int .i64 4) ∧ w.cell? ⟨2, 3, none⟩ = some (.int .i64 3) ∧ w.cell? ⟨2, 4, none⟩ = some (.int .i64 3) ∧ w.cell? ⟨2, 5, none⟩ = some (.int .i64 1) ∧ w.cell? ⟨2, 6, none⟩ = some (.int .i64 1) ∧ w.cell? ⟨2, 7, none⟩ = some (.int .i64 1)
theorem WidsAt.below {w w' : World} {B : Nat} (h : WidsAt w) (hb : Below B w w') (hB : 2 < B) : WidsAt w' := by
  unfold WidsAt at h ⊢
  simp only [fun i => hb.cell (p := ⟨2, i, none⟩) hB]
  exact h
theorem WidsAt.lt {w : World} (h : WidsAt w) : 2 < w.heap.size := World.block_lt_of_cell? w _ h.1
theorem WidsAt.grown {w w' : World} {row : Option Nat} (h : WidsAt w) (hg : w.grownBy w' row) (hne : some 2 ≠ row) : WidsAt w' := by
  have hlt := h.lt
  unfold WidsAt at h ⊢
  simp only [fun i => World.cell?_of_block (a := ⟨2, i, none⟩) (hg.block 2 hlt hne)]
  exact h

section
variable {H : Type} {enc : TypeId × Value → H} {W : World} {base : Nat} {sp : Nat → Bool} {held : Bool}
theorem wids_of {fuel : Nat} {cs : Array Value} {p : List MemPlace} {name : String} (hg : Tryd.prog.globalNamed name = some 2) (hv : W.var? Tryd.prog name = some cs)
    (h : DataW.trod enc Tryd.prog W base sp held fuel 76 cs.toList = some (Lib.tabData .i64 [1, 1, 4, 3, 3, 1, 1, 1], p)) : WidsAt W := by
  have e := Lib.cells_of_tab Tryd.underlying76 Tryd.underlying3 (by kernel_rfl) (by kernel_rfl) h
  have c : ∀ i, W.cell? ⟨2, i, none⟩ = (([1, 1, 4, 3, 3, 1, 1, 1] : List Int).map fun z => Value.int .i64 z)[i]? := by
    intro i
    rw [World.var?_cell hg hv, ← Array.getElem?_toList, e]
  unfold WidsAt
  simp only [c]
  simp
end
end Go.Proofs.YtpikiaepomjmgaaDoor
