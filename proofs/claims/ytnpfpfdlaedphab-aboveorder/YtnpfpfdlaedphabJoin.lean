/- Contracts of label.Join and label.Meet: for labels of any numbers. -/
import Derived.Test.YtnpfpfdlaedphabProg
import Derived.WalkKit
import Derived.ProofKit
import Derived.Below
import Derived.Test.YtnpfpfdlaedphabBase
namespace Go.Proofs.Ytnpfpfdlaedphab
open Go.ChangeShapes Go.WideShapes Go.ChangeAt Go.RowKit

def great (a b : Int) : Int := if a < b then b else a
def least (a b : Int) : Int := if b < a then b else a

theorem join_any (al ac bl bc : Int) (w : World) :
    Calls Try.prog 14 #[.agg #[.int .i64 al, .int .i64 ac], .agg #[.int .i64 bl, .int .i64 bc]] w fun e w' => e = .returned (.agg #[.int .i64 (great al bl), .int .i64 (bits .or .i64 ac bc)]) ∧ Below w.heap.size w w' := by
  by_cases h : al < bl
  · rw [show great al bl = bl from if_pos h]
    go_enter Try.func14, Try.ntmps14
    go_wp2
    exact bodyPost_ret (v := .agg #[.int .i64 bl, .int .i64 (bits .or .i64 ac bc)]) (by simp [results, Try.results14, go_sem]) rfl ⟨rfl, (((Below.refl _ _).alloc (Nat.le_refl _) _).alloc (by simp) _).alloc (by simp; omega) _⟩
  · rw [show great al bl = al from if_neg h]
    go_enter Try.func14, Try.ntmps14
    go_wp2
    exact bodyPost_ret (v := .agg #[.int .i64 al, .int .i64 (bits .or .i64 ac bc)]) (by simp [results, Try.results14, go_sem]) rfl ⟨rfl, (((Below.refl _ _).alloc (Nat.le_refl _) _).alloc (by simp) _).alloc (by simp; omega) _⟩

theorem meet_any (al ac bl bc : Int) (w : World) :
    Calls Try.prog 15 #[.agg #[.int .i64 al, .int .i64 ac], .agg #[.int .i64 bl, .int .i64 bc]] w fun e w' => e = .returned (.agg #[.int .i64 (least al bl), .int .i64 (bits .and .i64 ac bc)]) ∧ Below w.heap.size w w' := by
  by_cases h : bl < al
  · rw [show least al bl = bl from if_pos h]
    go_enter Try.func15, Try.ntmps15
    go_wp2
    exact bodyPost_ret (v := .agg #[.int .i64 bl, .int .i64 (bits .and .i64 ac bc)]) (by simp [results, Try.results15, go_sem]) rfl ⟨rfl, (((Below.refl _ _).alloc (Nat.le_refl _) _).alloc (by simp) _).alloc (by simp; omega) _⟩
  · rw [show least al bl = al from if_neg h]
    go_enter Try.func15, Try.ntmps15
    go_wp2
    exact bodyPost_ret (v := .agg #[.int .i64 al, .int .i64 (bits .and .i64 ac bc)]) (by simp [results, Try.results15, go_sem]) rfl ⟨rfl, (((Below.refl _ _).alloc (Nat.le_refl _) _).alloc (by simp) _).alloc (by simp; omega) _⟩
end Go.Proofs.Ytnpfpfdlaedphab
