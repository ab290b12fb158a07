/- The walk of the law LabelAbove: at any two labels it returns true and leaves what was in memory. -/
import Derived.Test.YtnpfpfdlaedphaaLab1
namespace Go.Proofs.Ytnpfpfdlaedphaa
open Go.ChangeShapes Go.WideShapes Go.ChangeAt Go.RowKit

theorem labelAbove_walk (al ac bl bc : Int) (w : World) (_ : (Lit.int .i64 al).wf = true) (_ : (Lit.int .i64 ac).wf = true) (_ : (Lit.int .i64 bl).wf = true) (_ : (Lit.int .i64 bc).wf = true) :
    Calls Try.prog 3 #[.agg #[.int .i64 al, .int .i64 ac], .agg #[.int .i64 bl, .int .i64 bc]] w fun e w' => e = .returned (.bool true) ∧ Below w.heap.size w w' := by
  go_enter Try.func3, Try.ntmps3
  go_wp2_with (first
    | (go_at_call 9; refine (above_any _ _ _ _ _).mono ?_; rintro e w1 ⟨rfl, hb1⟩; obtain ⟨hc1, hf1⟩ := bcell hb1; have hz1 : w.heap.size + 1 < w1.heap.size := by have := hb1.size; simp at this; omega)
    | (go_at_call 10; refine (dominates_any _ _ _ _ _).mono ?_; rintro e w2 ⟨rfl, hb2⟩))
  go_ret
  exact ⟨rfl, (((Below.refl _ _).alloc (Nat.le_refl _) _).alloc (by simp) _).trans ((hb1.mono (by simp; omega)).trans (hb2.mono (by omega)))⟩
end Go.Proofs.Ytnpfpfdlaedphaa
