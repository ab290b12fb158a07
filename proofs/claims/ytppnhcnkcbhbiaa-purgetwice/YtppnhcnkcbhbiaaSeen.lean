/- The contract of seen: does the label at place a dominate the one at b? For a config and places that are good. -/
import Derived.Test.YtppnhcnkcbhbiaaSees
import Derived.LoopTactic
namespace Go.Proofs.Ytppnhcnkcbhbiaa
open Go.ChangeShapes Go.WideShapes Go.ChangeAt Go.RowKit
set_option linter.unusedVariables false

set_option maxHeartbeats 1000000 in
theorem seen_any (s p : Int) (ad : Option Addr) (len cap : Nat) (ls : List (Int × Int)) (a b : Int) (w : World) (h : IsLabs w ad len cap ls) (hc : cfgFault s ls p = 0) (ha : plc a ls.length = true) (hb : plc b ls.length = true) :
    Calls Try.prog 14 #[.agg #[.int .i64 s, .slice ad len cap, .int .i64 p], .int .i64 a, .int .i64 b] w fun e w' => e = .returned (.bool (abv (labAtI ls a).1 (labAtI ls a).2 (labAtI ls b).1 (labAtI ls b).2)) ∧ Below w.heap.size w w' := by
  have hA : Below w.heap.size w (w.alloc (.cells #[.int .i64 s, .slice ad len cap, .int .i64 p] 25)) := (Below.refl _ _).alloc (Nat.le_refl _) _
  have hS := sees_any s p ad len cap ls a b _ (h.below hA)
  rw [(sees_ok hc ha hb).1, (sees_ok hc ha hb).2] at hS
  obtain ⟨v, ev⟩ : ∃ v, v = abv (labAtI ls a).1 (labAtI ls a).2 (labAtI ls b).1 (labAtI ls b).2 := ⟨_, rfl⟩
  rw [← ev] at hS ⊢
  clear ev
  go_enter Try.func14, Try.ntmps14
  cases v <;>
  · go_wp2_with (go_at_call 27; refine hS.mono ?_; rintro e w1 ⟨rfl, hb1⟩)
    go_ret
    exact ⟨rfl, hA.trans (hb1.mono (by simp))⟩
end Go.Proofs.Ytppnhcnkcbhbiaa
