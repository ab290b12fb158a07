/- Texts of this claim, one behind the other. -/
import Derived.Test.YtfhciplckjkflaaM10CoordTicks
import Derived.Test.YtfhciplckjkflaaM2CoordTicks
import Derived.Deep.QuietTactic
import Derived.BigQuiet
import Derived.BigRegion
import Derived.LoopTactic
import Derived.RegionTactic
import Derived.Deep.RegionWith
import Derived.Deep.RegionHeld3
import Derived.WalkSmall
import Derived.Deep.Cut
import Derived.Lib.QuietBelow
/- Contracts of the small functions of bounds and wire: Site, Txn, Label, isCode, truth. -/
namespace Go.Proofs.Ytfhciplckjkflaa
open Go.ChangeShapes Go.WideShapes Go.ChangeAt Go.RowKit

theorem wrap_i64 {n : Int} (h1 : -9223372036854775808 ≤ n) (h2 : n ≤ 9223372036854775807) : IntKind.i64.wrap n = n := by
  simp [IntKind.wrap, IntKind.bits, IntKind.signed]; omega

theorem site_any (s p : Int) (a : Option Addr) (len cap : Nat) (n : Int) (w : World) (hs : 1 ≤ s ∧ s ≤ 4) :
    Calls Try.prog 41 #[.agg #[.int .i64 s, .slice a len cap, .int .i64 p], .int .i64 n] w fun e w' => e = .returned (.bool (inR n 0 (s - 1))) ∧ Below w.heap.size w w' := by
  have hA : Below w.heap.size w (w.alloc (.cells #[.int .i64 s, .slice a len cap, .int .i64 p] 24)) := (Below.refl _ _).alloc (Nat.le_refl _) _
  obtain ⟨h1, h2⟩ := hs
  go_enter Try.func41, Try.ntmps41
  go_wp2_with (go_at_call 15; refine (within_any _ _ _ _).mono ?_; rintro e w1 ⟨rfl, hu1⟩; rw [hu1]; clear hu1)
  go_ret
  exact ⟨rfl, hA⟩

theorem place_any (s p : Int) (a : Option Addr) (len cap : Nat) (l : Int) (w : World) (hl : len ≤ 6) :
    Calls Try.prog 40 #[.agg #[.int .i64 s, .slice a len cap, .int .i64 p], .int .i64 l] w fun e w' => e = .returned (.bool (plc l len)) ∧ Below w.heap.size w w' := by
  have hA : Below w.heap.size w (w.alloc (.cells #[.int .i64 s, .slice a len cap, .int .i64 p] 24)) := (Below.refl _ _).alloc (Nat.le_refl _) _
  have h2 : (len : Int) ≤ 6 := by omega
  have e : plc l len = inR l 0 ((len : Int) - 1) := by unfold plc inR; rw [Bool.eq_iff_iff]; simp; omega
  rw [e]
  clear e
  go_enter Try.func40, Try.ntmps40
  go_wp2_with (go_at_call 15; refine (within_any _ _ _ _).mono ?_; rintro e w1 ⟨rfl, hu1⟩; rw [hu1]; clear hu1)
  go_ret
  exact ⟨rfl, hA⟩

end Go.Proofs.Ytfhciplckjkflaa
/- The contract of wire's messageParts: parts of a message as eight numbers. -/
namespace Go.Proofs.Ytfhciplckjkflaa
open Go.ChangeShapes Go.WideShapes Go.ChangeAt Go.RowKit

end Go.Proofs.Ytfhciplckjkflaa
/- The contract of wire.CheckMessage: at every config and message it returns the fault that msgFault tells, and leaves what was in memory. -/
namespace Go.Proofs.Ytfhciplckjkflaa
open Go.ChangeShapes Go.WideShapes Go.ChangeAt Go.RowKit
set_option linter.unusedVariables false

/-- A table of which kind has which parts, as the program lays it. -/
def HasAt (w : World) (g : Nat) (t : List (List Bool)) : Prop := ∀ i j, i < t.length → j < 8 → w.cell? ⟨g, i * 8 + j, none⟩ = some (.bool ((t.getD i []).getD j false))
theorem HasAt.below {w w' : World} {B g : Nat} {t : List (List Bool)} (h : HasAt w g t) (hb : Below B w w') (hB : g < B) : HasAt w' g t := by
  intro i j hi hj
  rw [hb.cell (p := ⟨g, i * 8 + j, none⟩) hB]
  exact h i j hi hj

theorem HasAt.lt {w : World} {g : Nat} {t : List (List Bool)} (h : HasAt w g t) (ht : 0 < t.length) : g < w.heap.size := World.block_lt_of_cell? w _ (h 0 0 ht (by decide))

theorem mHas_eight (k : Nat) (hk : k < 10) : mHas.getD k [] = [(mHas.getD k []).getD 0 false, (mHas.getD k []).getD 1 false, (mHas.getD k []).getD 2 false, (mHas.getD k []).getD 3 false, (mHas.getD k []).getD 4 false, (mHas.getD k []).getD 5 false, (mHas.getD k []).getD 6 false, (mHas.getD k []).getD 7 false] := by
  rcases (by omega : k = 0 ∨ k = 1 ∨ k = 2 ∨ k = 3 ∨ k = 4 ∨ k = 5 ∨ k = 6 ∨ k = 7 ∨ k = 8 ∨ k = 9) with rfl | rfl | rfl | rfl | rfl | rfl | rfl | rfl | rfl | rfl <;> rfl

end Go.Proofs.Ytfhciplckjkflaa
