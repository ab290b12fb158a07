/- A box of n cells in memory, and what leaves it alone. -/
import Derived.Test.YtjihmhijnpjnoaaGreatDoorSBase
namespace Go.Proofs.YtjihmhijnpjnoaaGreatDoor.St
open Go.ChangeShapes Go.WideShapes Go.ChangeAt Go.RowKit
set_option linter.unusedVariables false

theorem set_ne {u : World} {b i j : Nat} {v : Value} (h : i ≠ j) : (u.setCell ⟨b, i, none⟩ v).cell? ⟨b, j, none⟩ = u.cell? ⟨b, j, none⟩ := by
  unfold World.setCell World.cell?
  simp only [Array.getElem?_modify]
  by_cases hb : b < u.heap.size
  · rw [Array.getElem?_eq_getElem hb]
    cases hc : u.heap[b] <;> simp [h]
  · rw [Array.getElem?_eq_none (by omega)]
    rfl
theorem set_frozen {u : World} {b i j : Nat} {v : Value} : (u.setCell ⟨b, i, none⟩ v).frozen? ⟨b, j, none⟩ = u.frozen? ⟨b, j, none⟩ := by
  unfold World.setCell World.frozen?
  simp only [Array.getElem?_modify]
  by_cases hb : b < u.heap.size
  · rw [Array.getElem?_eq_getElem hb]
    cases hc : u.heap[b] <;> simp
  · rw [Array.getElem?_eq_none (by omega)]
    rfl
/-- A box of n cells. -/
structure BoxN (u : World) (b n : Nat) (vs : List Value) : Prop where
  len : vs.length = n
  lt : b < u.heap.size
  c : ∀ i, i < n → u.cell? ⟨b, i, none⟩ = some (vs.getD i (.bool false)) ∧ u.frozen? ⟨b, i, none⟩ = false
theorem BoxN.set {u : World} {b n : Nat} {vs : List Value} (h : BoxN u b n vs) (k : Nat) (hk : k < n) (v : Value) : BoxN (u.setCell ⟨b, k, none⟩ v) b n (vs.set k v) := by
  refine ⟨by simp [h.len], by simpa using h.lt, fun i hi => ⟨?_, ?_⟩⟩
  · by_cases hik : k = i
    · subst hik
      rw [World.cell?_setCell_same u ⟨b, k, none⟩ _ (h.c k hk).1]
      simp [List.getD, h.len, hk]
    · rw [set_ne hik, (h.c i hi).1]
      simp [List.getD, hik]
  · rw [set_frozen]; exact (h.c i hi).2
theorem boxn_new (u : World) (cs : Array Value) (t : TypeId) (n : Nat) (hn : cs.size = n) : BoxN (u.alloc (.cells cs t)) u.heap.size n cs.toList := by
  refine ⟨by simpa using hn, by simp, fun i hi => ?_⟩
  have hb : (u.alloc (.cells cs t)).heap[u.heap.size]? = some (.cells cs t (0, 0)) := heap_alloc_new u _
  refine ⟨?_, ?_⟩
  · rw [cell_of_row _ u.heap.size i cs t (0, 0) hb]
    rw [Array.getElem?_eq_getElem (by omega)]
    simp [List.getD, show i < cs.size by omega]
  · simp only [World.frozen?, hb]
    simp
theorem BoxN.below {u u' : World} {b n B : Nat} {vs : List Value} (h : BoxN u b n vs) (hb : Below B u u') (hB : b < B) : BoxN u' b n vs := by
  have e := hb.block b hB
  refine ⟨h.len, Nat.lt_of_lt_of_le h.lt hb.size, fun i hi => ⟨?_, ?_⟩⟩
  · rw [World.cell?_of_block (a := ⟨b, i, none⟩) e]; exact (h.c i hi).1
  · rw [World.frozen?_of_block (a := ⟨b, i, none⟩) e]; exact (h.c i hi).2
theorem BoxN.grown {u u' : World} {b n : Nat} {vs : List Value} {row : Option Nat} (h : BoxN u b n vs) (hg : u.grownBy u' row) (hne : some b ≠ row) : BoxN u' b n vs := by
  have e := hg.block b h.lt hne
  refine ⟨h.len, Nat.lt_of_lt_of_le h.lt hg.size, fun i hi => ⟨?_, ?_⟩⟩
  · rw [World.cell?_of_block (a := ⟨b, i, none⟩) e]; exact (h.c i hi).1
  · rw [World.frozen?_of_block (a := ⟨b, i, none⟩) e]; exact (h.c i hi).2
theorem BoxN.far {u : World} {b n c k : Nat} {vs : List Value} {v : Value} (h : BoxN u b n vs) (hne : b ≠ c) : BoxN (u.setCell ⟨c, k, none⟩ v) b n vs := by
  have e : (u.setCell ⟨c, k, none⟩ v).heap[b]? = u.heap[b]? := Below.heap_setCell u _ _ b hne
  refine ⟨h.len, by simpa using h.lt, fun i hi => ⟨?_, ?_⟩⟩
  · rw [World.cell?_of_block (a := ⟨b, i, none⟩) e]; exact (h.c i hi).1
  · rw [World.frozen?_of_block (a := ⟨b, i, none⟩) e]; exact (h.c i hi).2
end Go.Proofs.YtjihmhijnpjnoaaGreatDoor.St
