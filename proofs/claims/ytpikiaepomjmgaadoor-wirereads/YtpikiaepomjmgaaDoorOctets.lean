/- The contract of the law's octets: the same bytes, in new memory. -/
import Derived.Test.YtpikiaepomjmgaaDoorWBytes
namespace Go.Proofs.YtpikiaepomjmgaaDoor
open Go.ChangeShapes Go.WideShapes Go.ChangeAt Go.RowKit
set_option linter.unusedVariables false

theorem grownN {w w' : World} (h : w.grownBy w' none) : Below w.heap.size w w' := (Below.refl w.heap.size w).grown h (Nat.le_refl _) (fun k hk => by cases hk)

theorem octets_any (a : Option Addr) (len cap : Nat) (bs : List Int) (w : World) (h : IsB w a len cap bs) (hl : len ≤ 140737488355328) :
    Calls Tryd.prog 7 #[.slice a len cap] w fun e w' => ∃ a' cap', e = .returned (.slice a' len cap') ∧ IsB w' a' len cap' bs ∧ Below w.heap.size w w' ∧ (∀ b off, a' = some ⟨b, off, none⟩ → w.heap.size ≤ b) := by
  go_enter Tryd.func7, Tryd.ntmps7
  go_wp2_with (at_builtin; go_loud (refine wpList_append_bytes (by rfl) _ _ (by rfl) w.heap.size (.slice none 0 0) 0 [] (by rfl) (World.ownsRow_nil _ _ _ _) a len cap bs (by rfl) h (by omega) (Nat.le_refl _) ?_))
  intro v' w1 hown hgrow hat
  obtain ⟨a', cap', rfl, hB, hge, _⟩ := isB_own hown (by simpa using h.2.2.2.1)
  have hbel := grownN hgrow
  go_wp2
  go_ret
  exact ⟨a', cap', rfl, hB, hbel, hge⟩
end Go.Proofs.YtpikiaepomjmgaaDoor
