/- Small laws of rows of the caller's own, for slices.DeleteFunc's callers. -/
import Derived.Test.YtbmbahifkegehaaSDelF
import Derived.Test.YtbmbahifkegehaaSMade
import Derived.Test.YtbmbahifkegehaaSCheck
import Derived.Test.YtbmbahifkegehaaSOf
import Derived.Test.YtbmbahifkegehaaSAgePlain
import Derived.Deep.RegionHeld3
namespace Go.Proofs.Ytbmbahifkegehaa.St
open Go.ChangeShapes Go.WideShapes Go.ChangeAt Go.RowKit
set_option linter.unusedVariables false

theorem at_same (a : Option Addr) (n n' c X : Nat) : (Value.slice a n' c).ownBlock = (Value.slice a n c).ownBlock ∨ (Value.slice a n' c).ownBlock = some X := .inl (by cases a <;> rfl)
theorem own_block {w : World} {B : Nat} {e : TypeId} {size n c b off : Nat} {xs : List Value} (h : w.ownsRow B e size (.slice (some ⟨b, off, none⟩) n c) n xs) : (Value.slice (some ⟨b, off, none⟩) n c).ownBlock = some b := by
  rcases h.2 with ⟨hv, _⟩ | ⟨g', cap', cur, hv, _⟩
  · simp at hv
  · simp at hv
    obtain ⟨⟨rfl, rfl⟩, rfl⟩ := hv
    rfl
/-- A list that has no block: then no block is left out. -/
theorem forget2_none {α : Type} {fn : Nat} {cps : Array Value} {val : α → Value} {p : α → Bool} {w : World} {n c : Nat} (h : ∀ g, AsksG fn cps val p (some (w.heap.size + g)) w) : AsksG fn cps val p (Value.slice none n c).ownBlock w := by
  refine ⟨(h 0).1, fun x w' hg => (h 0).2 x w' ?_⟩
  exact ⟨hg.os, hg.tape, hg.output, hg.size, fun k hk _ => hg.block k hk (by simp [Value.ownBlock])⟩

end Go.Proofs.Ytbmbahifkegehaa.St
