/- The walk of the law LabelChecks: at any config it returns true and leaves what was in memory. -/
import Derived.Test.YtijpncibpfbkaaaFault
namespace Go.Proofs.Ytijpncibpfbkaaa
open Go.ChangeShapes Go.WideShapes Go.ChangeAt Go.RowKit

theorem labelChecks_walk (s : Int) (a : Option Addr) (len cap : Nat) (p : Int) (ls : List (Int × Int)) (w : World) (_ : (Lit.int .i64 s).wf = true) (h : IsLabs w a len cap ls) (_ : (Lit.int .i64 p).wf = true) :
    Calls Try.prog 3 #[.agg #[.int .i64 s, .slice a len cap, .int .i64 p]] w fun e w' => e = .returned (.bool true) ∧ Below w.heap.size w w' := by
  have hA : Below w.heap.size w (w.alloc (.cells #[.int .i64 s, .slice a len cap, .int .i64 p] 24)) := (Below.refl _ _).alloc (Nat.le_refl _) _
  go_enter Try.func3, Try.ntmps3
  go_wp2_with (first
    | (go_at_call 7; refine (check_any s p a len cap ls _ (h.below hA)).mono ?_; rintro e w1 ⟨rfl, hb1⟩
       have hB : Below w.heap.size w w1 := hA.trans (hb1.mono (by simp))
       have hL := h.below hB
       have hz1 : w.heap.size < w1.heap.size := by have := hb1.size; simp at this; omega
       obtain ⟨hc1, hf1⟩ := bcell hb1)
    | (go_at_call 8; refine (fault_any s p a len cap ls _ hL).mono ?_; rintro e w2 ⟨rfl, hb2⟩))
  go_ret
  exact ⟨rfl, hB.trans (hb2.mono (by omega))⟩
end Go.Proofs.Ytijpncibpfbkaaa
