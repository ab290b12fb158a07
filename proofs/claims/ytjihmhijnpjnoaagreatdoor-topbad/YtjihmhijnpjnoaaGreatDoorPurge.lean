/- The contract of label.Purge: the acts that a label sees, in their order, in memory of their own; or the error. -/
import Derived.Test.YtjihmhijnpjnoaaGreatDoorOwnActs
import Derived.LoopTactic
namespace Go.Proofs.YtjihmhijnpjnoaaGreatDoor
open Go.ChangeShapes Go.WideShapes Go.ChangeAt Go.RowKit
set_option linter.unusedVariables false

theorem actInfo : (Tryz.prog.info? 34).map (fun i => (i.zero, i.size, i.bytes)) = some (some (.agg #[.int .i64 0, .int .i64 0, .int .i64 0, .int .i64 0, .int .i64 0, .slice none 0 0, .int .i64 0, .int .i64 0, .int .i64 0, .int .i64 0, .int .i64 0, .string .empty]), 12, 120) := by kernel_rfl

def purgeErr (s : Int) (ls : List (Int × Int)) (p l : Int) : Int := if cfgFault s ls p = 0 then (if plc l ls.length then 0 else 6) else cfgFault s ls p
def purgeR (s : Int) (ls : List (Int × Int)) (p l : Int) (xs : List AV) : List AV := if purgeErr s ls p l = 0 then purgeF ls l xs else []

theorem keepOf_nums {ls : List (Int × Int)} {l kind : Int} {keep : List Int} (h : Nums keep) : Nums (keepOf ls l kind keep) := by
  intro i
  unfold keepOf
  split
  · by_cases hi : i < keep.length
    · have := h i
      simp only [List.getD, List.getElem?_map, List.getElem?_zipIdx] at this ⊢
      simp [hi] at this ⊢
      split <;> simp_all
    · simp [List.getD, hi]
  · exact h i

theorem news_new {W : World} {n : Nat} (cs : Array Value) (t : TypeId) (h : W.heap.size = n) : ∀ j u, cs.toList[j]? = some u → (W.alloc (.cells cs t)).cell? ((⟨n, 0, none⟩ : Addr).add j) = some u := by
  subst h
  exact World.news_of_block (heap_alloc_new W _)

theorem cells_one (y : AV) : ∀ u ∈ y.cells, u.oneCell' = true := by
  intro u hu
  simp [AV.cells] at hu
  rcases hu with h | h | h | h | h | h | h | h | h | h | h | h <;> subst h <;> rfl

theorem ret_purge {ao : Option Addr} {n m cp : Nat} {e f : Int} (h : n = m) (he : e = f) : Ending.returned (.tuple #[.slice ao n cp, .int .i64 e]) = .returned (.tuple #[.slice ao m cp, .int .i64 f]) := by rw [h, he]

end Go.Proofs.YtjihmhijnpjnoaaGreatDoor
