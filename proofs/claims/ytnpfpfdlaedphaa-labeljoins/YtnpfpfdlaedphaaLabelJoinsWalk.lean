/- The walk of the law LabelJoins: at any two labels it returns true and leaves what was in memory. -/
import Derived.Test.YtnpfpfdlaedphaaLab2
namespace Go.Proofs.Ytnpfpfdlaedphaa
open Go.ChangeShapes Go.WideShapes Go.ChangeAt Go.RowKit

theorem labelJoins_walk (al ac bl bc : Int) (w : World) (_ : (Lit.int .i64 al).wf = true) (_ : (Lit.int .i64 ac).wf = true) (_ : (Lit.int .i64 bl).wf = true) (_ : (Lit.int .i64 bc).wf = true) :
    Calls Try.prog 4 #[.agg #[.int .i64 al, .int .i64 ac], .agg #[.int .i64 bl, .int .i64 bc]] w fun e w' => e = .returned (.bool true) ∧ Below w.heap.size w w' := by
  go_enter Try.func4, Try.ntmps4
  go_wp2_with (first
    | (go_at_call 11; refine (join_any _ _ _ _ _).mono ?_; rintro e w1 ⟨rfl, hb1⟩; obtain ⟨hc1, hf1⟩ := bcell hb1; have hz1 : w.heap.size + 1 < w1.heap.size := by have := hb1.size; simp at this; omega
       have hz0 : w.heap.size < w1.heap.size := by omega)
    | (go_at_call 12; refine (joinOf_any _ _ _ _ _).mono ?_; rintro e w2 ⟨rfl, hb2⟩; obtain ⟨hc2, hf2⟩ := bcell hb2
       have hz2 : w1.heap.size < w2.heap.size := by have := hb2.size; simp at this; omega))
  go_ret
  exact ⟨rfl, ((((((Below.refl _ _).alloc (Nat.le_refl _) _).alloc (by simp) _).trans (hb1.mono (by simp; omega))).alloc (by omega) _).trans (hb2.mono (by simp; omega))).alloc (by omega) _⟩
end Go.Proofs.Ytnpfpfdlaedphaa
