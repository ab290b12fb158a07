/- Ints in memory stay, where a store or a new block is elsewhere. -/
import Derived.Test.YtjjnmiaaejhdaaaDoorInts
namespace Go.Proofs.YtjjnmiaaejhdaaaDoor
open Go.ChangeShapes Go.WideShapes Go.ChangeAt Go.RowKit
set_option linter.unusedVariables false

/-- Ints that lie elsewhere stay. -/
theorem isI_far {U : World} {a : Option Addr} {len cap q k : Nat} {zs : List Int} {v : Value} (h : IsInts U a len cap zs) (hne : ∀ b off, a = some ⟨b, off, none⟩ → q ≠ b) : IsInts (U.setCell ⟨q, k, none⟩ v) a len cap zs := by
  obtain ⟨h1, h2, h3, hbd, h4⟩ := h
  refine ⟨h1, h2, h3, hbd, fun hp => ?_⟩
  obtain ⟨b, off, e, hlt, hl⟩ := h4 hp
  have hn := hne b off e
  refine ⟨b, off, e, by simpa using hlt, fun i hi => ?_⟩
  rw [World.cell?_of_block (a := ⟨b, off + i, none⟩) (Below.heap_setCell U _ _ b (fun e' => hn e'.symm))]
  exact hl i hi
theorem isI_alloc {U : World} {a : Option Addr} {len cap : Nat} {zs : List Int} (h : IsInts U a len cap zs) (ob : Obj) : IsInts (U.alloc ob) a len cap zs := h.below ((Below.refl _ _).alloc (Nat.le_refl _) ob)
end Go.Proofs.YtjjnmiaaejhdaaaDoor
