/- The walk of the law LabelSees: at any config and places it returns true and leaves what was in memory. -/
import Derived.Test.YtijpncibpfbkaaaSeesRef
namespace Go.Proofs.Ytijpncibpfbkaaa
open Go.ChangeShapes Go.WideShapes Go.ChangeAt Go.RowKit

theorem labelSees_walk (s : Int) (a : Option Addr) (len cap : Nat) (p : Int) (ls : List (Int × Int)) (x y : Int) (w : World) (_ : (Lit.int .i64 s).wf = true) (h : IsLabs w a len cap ls) (_ : (Lit.int .i64 p).wf = true) (_ : (Lit.int .i64 x).wf = true) (_ : (Lit.int .i64 y).wf = true) :
    Calls Try.prog 4 #[.agg #[.int .i64 s, .slice a len cap, .int .i64 p], .int .i64 x, .int .i64 y] w fun e w' => e = .returned (.bool true) ∧ Below w.heap.size w w' := by
  have hA : Below w.heap.size w (w.alloc (.cells #[.int .i64 s, .slice a len cap, .int .i64 p] 24)) := (Below.refl _ _).alloc (Nat.le_refl _) _
  go_enter Try.func4, Try.ntmps4
  go_wp2_with (first
    | (go_at_call 9; refine (sees_any s p a len cap ls x y _ (h.below hA)).mono ?_; rintro e w1 ⟨rfl, hb1⟩
       have hB : Below w.heap.size w w1 := hA.trans (hb1.mono (by simp))
       have hL := h.below hB
       have hz1 : w.heap.size < w1.heap.size := by have := hb1.size; simp at this; omega
       obtain ⟨hc1, hf1⟩ := bcell hb1)
    | (go_at_call 10; refine (seesOf_any s p a len cap ls x y _ hL).mono ?_; rintro e w2 ⟨rfl, hb2⟩))
  go_ret
  exact ⟨rfl, hB.trans (hb2.mono (by omega))⟩
end Go.Proofs.Ytijpncibpfbkaaa
