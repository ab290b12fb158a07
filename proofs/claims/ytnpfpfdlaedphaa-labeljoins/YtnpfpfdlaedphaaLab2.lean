/- Contracts of label.Join and label.Meet and of the document's answers JoinOf and MeetOf: for labels of any numbers. -/
import Derived.Test.YtnpfpfdlaedphaaProg
import Derived.WalkKit
import Derived.ProofKit
import Derived.Below
import Derived.Test.YtnpfpfdlaedphaaBase
namespace Go.Proofs.Ytnpfpfdlaedphaa
open Go.ChangeShapes Go.WideShapes Go.ChangeAt Go.RowKit

def great (a b : Int) : Int := if a < b then b else a
def least (a b : Int) : Int := if b < a then b else a

theorem join_any (al ac bl bc : Int) (w : World) :
    Calls Try.prog 11 #[.agg #[.int .i64 al, .int .i64 ac], .agg #[.int .i64 bl, .int .i64 bc]] w fun e w' => e = .returned (.agg #[.int .i64 (great al bl), .int .i64 (bits .or .i64 ac bc)]) ∧ Below w.heap.size w w' := by
  by_cases h : al < bl
  · rw [show great al bl = bl from if_pos h]
    go_enter Try.func11, Try.ntmps11
    go_wp2
    exact bodyPost_ret (v := .agg #[.int .i64 bl, .int .i64 (bits .or .i64 ac bc)]) (by simp [results, Try.results11, go_sem]) rfl ⟨rfl, (((Below.refl _ _).alloc (Nat.le_refl _) _).alloc (by simp) _).alloc (by simp; omega) _⟩
  · rw [show great al bl = al from if_neg h]
    go_enter Try.func11, Try.ntmps11
    go_wp2
    exact bodyPost_ret (v := .agg #[.int .i64 al, .int .i64 (bits .or .i64 ac bc)]) (by simp [results, Try.results11, go_sem]) rfl ⟨rfl, (((Below.refl _ _).alloc (Nat.le_refl _) _).alloc (by simp) _).alloc (by simp; omega) _⟩

theorem joinOf_any (al ac bl bc : Int) (w : World) :
    Calls Try.prog 12 #[.agg #[.int .i64 al, .int .i64 ac], .agg #[.int .i64 bl, .int .i64 bc]] w fun e w' => e = .returned (.agg #[.int .i64 (great al bl), .int .i64 (bits .or .i64 ac bc)]) ∧ Below w.heap.size w w' := by
  by_cases h : al < bl
  · rw [show great al bl = bl from if_pos h]
    go_enter Try.func12, Try.ntmps12
    go_wp2
    exact bodyPost_ret (v := .agg #[.int .i64 bl, .int .i64 (bits .or .i64 ac bc)]) (by simp [results, Try.results12, go_sem]) rfl ⟨rfl, (((Below.refl _ _).alloc (Nat.le_refl _) _).alloc (by simp) _).alloc (by simp; omega) _⟩
  · rw [show great al bl = al from if_neg h]
    go_enter Try.func12, Try.ntmps12
    go_wp2
    exact bodyPost_ret (v := .agg #[.int .i64 al, .int .i64 (bits .or .i64 ac bc)]) (by simp [results, Try.results12, go_sem]) rfl ⟨rfl, (((Below.refl _ _).alloc (Nat.le_refl _) _).alloc (by simp) _).alloc (by simp; omega) _⟩

theorem meet_any (al ac bl bc : Int) (w : World) :
    Calls Try.prog 13 #[.agg #[.int .i64 al, .int .i64 ac], .agg #[.int .i64 bl, .int .i64 bc]] w fun e w' => e = .returned (.agg #[.int .i64 (least al bl), .int .i64 (bits .and .i64 ac bc)]) ∧ Below w.heap.size w w' := by
  by_cases h : bl < al
  · rw [show least al bl = bl from if_pos h]
    go_enter Try.func13, Try.ntmps13
    go_wp2
    exact bodyPost_ret (v := .agg #[.int .i64 bl, .int .i64 (bits .and .i64 ac bc)]) (by simp [results, Try.results13, go_sem]) rfl ⟨rfl, (((Below.refl _ _).alloc (Nat.le_refl _) _).alloc (by simp) _).alloc (by simp; omega) _⟩
  · rw [show least al bl = al from if_neg h]
    go_enter Try.func13, Try.ntmps13
    go_wp2
    exact bodyPost_ret (v := .agg #[.int .i64 al, .int .i64 (bits .and .i64 ac bc)]) (by simp [results, Try.results13, go_sem]) rfl ⟨rfl, (((Below.refl _ _).alloc (Nat.le_refl _) _).alloc (by simp) _).alloc (by simp; omega) _⟩

theorem meetOf_any (al ac bl bc : Int) (w : World) :
    Calls Try.prog 14 #[.agg #[.int .i64 al, .int .i64 ac], .agg #[.int .i64 bl, .int .i64 bc]] w fun e w' => e = .returned (.agg #[.int .i64 (least al bl), .int .i64 (bits .and .i64 ac bc)]) ∧ Below w.heap.size w w' := by
  by_cases h : bl < al
  · rw [show least al bl = bl from if_pos h]
    go_enter Try.func14, Try.ntmps14
    go_wp2
    exact bodyPost_ret (v := .agg #[.int .i64 bl, .int .i64 (bits .and .i64 ac bc)]) (by simp [results, Try.results14, go_sem]) rfl ⟨rfl, (((Below.refl _ _).alloc (Nat.le_refl _) _).alloc (by simp) _).alloc (by simp; omega) _⟩
  · rw [show least al bl = al from if_neg h]
    go_enter Try.func14, Try.ntmps14
    go_wp2
    exact bodyPost_ret (v := .agg #[.int .i64 al, .int .i64 (bits .and .i64 ac bc)]) (by simp [results, Try.results14, go_sem]) rfl ⟨rfl, (((Below.refl _ _).alloc (Nat.le_refl _) _).alloc (by simp) _).alloc (by simp; omega) _⟩
end Go.Proofs.Ytnpfpfdlaedphaa
