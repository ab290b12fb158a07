/- The contract of label.isPlace, and what a place is. -/
import Derived.Test.YtnpfpfdlaedphacProg
import Derived.WalkKit
import Derived.ProofKit
import Derived.Below
import Derived.BigQuiet
import Derived.BigRegion
import Derived.RegionTactic
import Derived.Deep.RegionWith
import Derived.WalkSmall
import Derived.Test.YtnpfpfdlaedphacLab1
import Derived.Test.YtnpfpfdlaedphacCheck
namespace Go.Proofs.Ytnpfpfdlaedphac
open Go.ChangeShapes Go.WideShapes Go.ChangeAt Go.RowKit

/-- Is it the place of one of so many? -/
def plc (l : Int) (n : Nat) : Bool := decide (0 ≤ l ∧ l < (n : Int))
theorem plc_true {l : Int} {n : Nat} (h : plc l n = true) : 0 ≤ l ∧ l < (n : Int) := by simpa [plc] using h
theorem plc_false {l : Int} {n : Nat} (h : plc l n = false) : l < 0 ∨ (n : Int) ≤ l := by simp [plc] at h; omega

def labAtI (ls : List (Int × Int)) (l : Int) : Int × Int := ls.getD l.toNat (0, 0)

theorem isPlace_any (s p : Int) (a : Option Addr) (len cap : Nat) (l : Int) (w : World) :
    Calls Try.prog 16 #[.agg #[.int .i64 s, .slice a len cap, .int .i64 p], .int .i64 l] w fun e w' => e = .returned (.bool (plc l len)) ∧ Below w.heap.size w w' := by
  have hA : Below w.heap.size w (w.alloc (.cells #[.int .i64 s, .slice a len cap, .int .i64 p] 25)) := (Below.refl _ _).alloc (Nat.le_refl _) _
  go_enter Try.func16, Try.ntmps16
  go_wp2
  all_goals go_ret
  all_goals exact ⟨ret_bool (by unfold plc; rw [Bool.eq_iff_iff]; simp; omega), hA⟩

end Go.Proofs.Ytnpfpfdlaedphac
