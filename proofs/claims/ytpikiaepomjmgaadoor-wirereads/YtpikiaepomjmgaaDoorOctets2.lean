/- The contract of the law's octets, with where the bytes lie. -/
import Derived.Test.YtpikiaepomjmgaaDoorOctets
namespace Go.Proofs.YtpikiaepomjmgaaDoor
open Go.ChangeShapes Go.WideShapes Go.ChangeAt Go.RowKit
set_option linter.unusedVariables false

theorem octets_lt (a : Option Addr) (len cap : Nat) (bs : List Int) (w : World) (h : IsB w a len cap bs) (hl : len ≤ 140737488355328) :
    Calls Tryd.prog 7 #[.slice a len cap] w fun e w' => ∃ a' cap', e = .returned (.slice a' len cap') ∧ IsB w' a' len cap' bs ∧ Below w.heap.size w w' ∧ (∀ b off, a' = some ⟨b, off, none⟩ → w.heap.size ≤ b ∧ b < w'.heap.size) := by
  go_enter Tryd.func7, Tryd.ntmps7
  go_wp2_with (at_builtin; go_loud (refine wpList_append_bytes (by rfl) _ _ (by rfl) w.heap.size (.slice none 0 0) 0 [] (by rfl) (World.ownsRow_nil _ _ _ _) a len cap bs (by rfl) h (by omega) (Nat.le_refl _) ?_))
  intro v' w1 hown hgrow hat
  obtain ⟨a', cap', rfl, hB, hge, _⟩ := isB_own hown (by simpa using h.2.2.2.1)
  have hbel := grownN hgrow
  go_wp2
  go_ret
  exact ⟨a', cap', rfl, hB, hbel, fun b off e => ⟨hge b off e, (hown.lt b (by rw [e]; rfl)).2⟩⟩
end Go.Proofs.YtpikiaepomjmgaaDoor
