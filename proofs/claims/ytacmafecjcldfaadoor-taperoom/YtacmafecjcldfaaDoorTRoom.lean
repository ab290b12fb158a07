/- The contract of tape.Room. -/
import Derived.Test.YtacmafecjcldfaaDoorTSmall
namespace Go.Proofs.YtacmafecjcldfaaDoor
open Go.ChangeShapes Go.WideShapes Go.ChangeAt Go.RowKit
set_option linter.unusedVariables false

def roomT (len : Nat) (y : Int) : Int := if mayT len y then 6000 - (len : Int) else 0
def stateT (len : Nat) (y : Int) : Int := if mayT len y then 0 else 9

theorem room_any (a : Option Addr) (len cap : Nat) (y : Int) (w : World) (hl : len ≤ 9223372036854775807) :
    Calls Tryd.prog 19 #[.agg #[.slice a len cap, .int .i64 y]] w fun e w' => e = .returned (.tuple #[.int .i64 (roomT len y), .int .i64 (stateT len y)]) ∧ Below w.heap.size w w' := by
  unfold roomT stateT
  cases hm : mayT len y with
  | true =>
    have := mayT_of hm
    have h6 : (len : Int) ≤ 6000 := by omega
    go_enter Tryd.func19, Tryd.ntmps19
    go_wp2_with (go_at_call 38; refine (mayBe_any _ _ _ _ _ hl).mono ?_; rintro e w1 ⟨rfl, hb1⟩; rw [hm]; obtain ⟨hc, hf⟩ := bcell hb1)
    go_ret2
    exact ⟨rfl, ((Below.refl _ _).alloc (Nat.le_refl _) _).trans (hb1.mono (by simp))⟩
  | false =>
    go_enter Tryd.func19, Tryd.ntmps19
    go_wp2_with (go_at_call 38; refine (mayBe_any _ _ _ _ _ hl).mono ?_; rintro e w1 ⟨rfl, hb1⟩; rw [hm])
    go_ret2
    exact ⟨rfl, ((Below.refl _ _).alloc (Nat.le_refl _) _).trans (hb1.mono (by simp))⟩
end Go.Proofs.YtacmafecjcldfaaDoor
