/- The contract of storeTells: it returns true. -/
import Derived.Test.YtbmbahifkegehabSRead
namespace Go.Proofs.Ytbmbahifkegehab.St
open Go.ChangeShapes Go.WideShapes Go.ChangeAt Go.RowKit
set_option linter.unusedVariables false

set_option maxRecDepth 100000 in
set_option maxHeartbeats 2000000 in
theorem storeTells_any (w : World) : Calls Try.prog 15 #[] w fun e w' => e = .returned (.bool true) ∧ Below w.heap.size w w' := by
  have hRd : Calls Try.prog 10 #[.agg #[.slice none 0 0, .slice none 0 0, .slice none 0 0, .slice none 0 0], .agg #[.int .i64 3, .int .i64 9], .int .i64 7] w fun e w' => ∃ r : SV, e = .returned (.tuple #[r.val, .int .i64 0, .int .i64 0, .int .i64 0]) ∧ r.ll = 1 ∧ Below w.heap.size w w' :=
    (read_own SV.nil (3, 9) 7 w (isStore_nil _) (fun t h => by simp [SV.nil] at h) (by decide)).mono fun e w' ⟨r, q1, q2, q3, q4⟩ => ⟨r, by rw [q1]; rfl, by
      have h1 := q2.isStore.locks.1
      have h2 : r.locks = [⟨(3, 9), 7, false, 0, 0⟩] := congrArg PS.locks q3
      rw [h2] at h1
      exact h1.symm, q4⟩
  go_enter Try.func15, Try.ntmps15
  go_upto_region 2 with (go_at_call 10; refine hRd.mono ?_; rintro e w1 ⟨⟨a0, n0, u0, a1, n1, u1, a2, n2, u2, a3, n3, u3, xi, xl, xd, xo⟩, rfl, h1, hb1⟩; simp only [SV.val])
  simp only [] at h1
  subst h1
  go_wp2
  go_ret
  exact ⟨rfl, hb1.alloc hb1.size _⟩
end Go.Proofs.Ytbmbahifkegehab.St
