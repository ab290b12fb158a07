/- Texts of this claim, one behind the other. -/
import Derived.Test.YtlaagfnoepcnlaaDoorProg
import Derived.WalkKit
import Derived.ProofKit
import Derived.Below
import Derived.Test.YtlaagfnoepcnlaaDoorA0LinesReads
import Derived.BigQuiet
import Derived.BigRegion
import Derived.RegionTactic
import Derived.Deep.RegionWith
import Derived.WalkSmall
import Derived.Test.YtlaagfnoepcnlaaDoorM2LinesReads
/- The contract of label.Above: for labels of any numbers it returns whether the first dominates the other, and leaves what was in memory. -/
namespace Go.Proofs.YtlaagfnoepcnlaaDoor
open Go.ChangeShapes Go.WideShapes Go.ChangeAt Go.RowKit

/-- Dominance of labels, on numbers. -/
def abv (al ac bl bc : Int) : Bool := decide (bl ≤ al) && (bits .and .i64 ac bc == bc)

theorem abv_pos {al ac bl bc : Int} (h : bl ≤ al) : abv al ac bl bc = (bits .and .i64 ac bc == bc) := by simp [abv, h]
theorem abv_neg {al ac bl bc : Int} (h : al < bl) : abv al ac bl bc = false := by
  have : ¬ bl ≤ al := by omega
  simp [abv, this]

end Go.Proofs.YtlaagfnoepcnlaaDoor
/- The contract of bounds.Label, and what a place is. -/
namespace Go.Proofs.YtlaagfnoepcnlaaDoor
open Go.ChangeShapes Go.WideShapes Go.ChangeAt Go.RowKit

/-- Is it the place of one of so many? -/
def plc (l : Int) (n : Nat) : Bool := decide (0 ≤ l ∧ l < (n : Int))
theorem plc_true {l : Int} {n : Nat} (h : plc l n = true) : 0 ≤ l ∧ l < (n : Int) := by simpa [plc] using h
theorem plc_false {l : Int} {n : Nat} (h : plc l n = false) : l < 0 ∨ (n : Int) ≤ l := by simp [plc] at h; omega

def labAtI (ls : List (Int × Int)) (l : Int) : Int × Int := ls.getD l.toNat (0, 0)

theorem isPlace_any (s p : Int) (a : Option Addr) (len cap : Nat) (l : Int) (w : World) (hl : len ≤ maxLen) :
    Calls Tryd.prog 67 #[.agg #[.int .i64 s, .slice a len cap, .int .i64 p], .int .i64 l] w fun e w' => e = .returned (.bool (plc l len)) ∧ Below w.heap.size w w' := by
  have hA : Below w.heap.size w (w.alloc (.cells #[.int .i64 s, .slice a len cap, .int .i64 p] 24)) := (Below.refl _ _).alloc (Nat.le_refl _) _
  unfold maxLen at hl
  have h2 : (len : Int) ≤ 9223372036854775807 := by omega
  have e : plc l len = inR l 0 ((len : Int) - 1) := by unfold plc inR; rw [Bool.eq_iff_iff]; simp; omega
  rw [e]
  clear e
  go_enter Tryd.func67, Tryd.ntmps67
  go_wp2_with (go_at_call 36; refine (within_any _ _ _ _).mono ?_; rintro e w1 ⟨rfl, hu1⟩; rw [hu1]; clear hu1)
  go_ret
  exact ⟨rfl, hA⟩

end Go.Proofs.YtlaagfnoepcnlaaDoor
