/- The contract of tape.cut: the first bytes, in new memory. -/
import Derived.Test.YtjjnmiaaejhdaaaDoorTSmall
namespace Go.Proofs.YtjjnmiaaejhdaaaDoor
open Go.ChangeShapes Go.WideShapes Go.ChangeAt Go.RowKit
set_option linter.unusedVariables false

theorem grown_none {w w' : World} (h : w.grownBy w' none) : Below w.heap.size w w' := by
  refine (Below.refl w.heap.size w).grown h (Nat.le_refl _) (fun k hk => by cases hk)

theorem cut_any (a : Option Addr) (len cap : Nat) (bs : List Int) (n : Nat) (w : World) (h : IsB w a len cap bs) (hl : len ≤ 140737488355328) (hn : n ≤ len) :
    Calls Tryd.prog 32 #[.slice a len cap, .int .i64 n] w fun e w' => ∃ a', e = .returned (.slice a' n n) ∧ IsB w' a' n n (bs.take n) ∧ Below w.heap.size w w' ∧ (∀ b off, a' = some ⟨b, off, none⟩ → w.heap.size ≤ b) := by
  go_enter Tryd.func32, Tryd.ntmps32
  go_wp2_with (at_builtin; go_loud (refine wpList_append_bytes (by rfl) _ _ (by rfl) w.heap.size (.slice none 0 0) 0 [] (by rfl) (World.ownsRow_nil _ _ _ _) a len cap bs (by rfl) h (by omega) (Nat.le_refl _) ?_))
  intro v' w1 hown hgrow hat
  obtain ⟨a', cap', rfl, hB, hge, _⟩ := isB_own hown (by simpa using h.2.2.2.1)
  have hbel := grown_none hgrow
  have hc : n ≤ cap' := Nat.le_trans hn hB.2.1
  go_wp2
  go_ret
  exact ⟨a', rfl, hB.take n n hn (Nat.le_refl _) hc, hbel, hge⟩
end Go.Proofs.YtjjnmiaaejhdaaaDoor
