/- The document's side of the room on a tape. -/
import Derived.Test.YtofijgoffjdjmaaTRoom
import Derived.Test.YtofijgoffjdjmaaTSmallRef
namespace Go.Proofs.Ytofijgoffjdjmaa
open Go.ChangeShapes Go.WideShapes Go.ChangeAt Go.RowKit
set_option linter.unusedVariables false

theorem roomOf_any (a : Option Addr) (len cap : Nat) (y : Int) (w : World) (hl : len ≤ 9223372036854775807) :
    Calls Try.prog 7 #[.agg #[.slice a len cap, .int .i64 y]] w fun e w' => e = .returned (.tuple #[.int .i64 (roomT len y), .int .i64 (stateT len y)]) ∧ Below w.heap.size w w' := by
  unfold roomT stateT
  cases hm : mayT len y with
  | true =>
    have := mayT_of hm
    have h6 : (len : Int) ≤ 6000 := by omega
    go_enter Try.func7, Try.ntmps7
    go_wp2_with (go_at_call 15; refine (tapeMay_any _ _ _ _ _ hl).mono ?_; rintro e w1 ⟨rfl, hb1⟩; rw [hm]; obtain ⟨hc, hf⟩ := bcell hb1)
    go_ret2
    exact ⟨rfl, ((Below.refl _ _).alloc (Nat.le_refl _) _).trans (hb1.mono (by simp))⟩
  | false =>
    go_enter Try.func7, Try.ntmps7
    go_wp2_with (go_at_call 15; refine (tapeMay_any _ _ _ _ _ hl).mono ?_; rintro e w1 ⟨rfl, hb1⟩; rw [hm])
    go_ret2
    exact ⟨rfl, ((Below.refl _ _).alloc (Nat.le_refl _) _).trans (hb1.mono (by simp))⟩

theorem tapeRooms_walk (a : Option Addr) (len cap : Nat) (bs : List Int) (y : Int) (w : World) (h : IsB w a len cap bs) (hy : -9223372036854775808 ≤ y ∧ y ≤ 9223372036854775807) :
    Calls Try.prog 3 #[.agg #[.slice a len cap, .int .i64 y]] w fun e w' => e = .returned (.bool true) ∧ Below w.heap.size w w' := by
  have hl : len ≤ 9223372036854775807 := by have := h.2.1; have := h.2.2.1; unfold maxLen at this; omega
  go_enter Try.func3, Try.ntmps3
  go_wp2_with (first
    | (go_at_call 6; refine (room_any _ _ _ _ _ hl).mono ?_; rintro e w1 ⟨rfl, hb1⟩; obtain ⟨hc, hf⟩ := bcell hb1)
    | (go_at_call 7; refine (roomOf_any _ _ _ _ _ hl).mono ?_; rintro e w2 ⟨rfl, hb2⟩))
  go_ret
  have hA : Below w.heap.size w (w.alloc (.cells #[.slice a len cap, .int .i64 y] 24)) := (Below.refl _ _).alloc (Nat.le_refl _) _
  exact ⟨rfl, (hA.trans (hb1.mono (by simp))).trans (hb2.mono (by have := hb1.size; simp at this; omega))⟩
end Go.Proofs.Ytofijgoffjdjmaa
