/- Contracts of store.writes, and of the function that it hands back. -/
import Derived.Test.YtbmbahifkegehabSFind
namespace Go.Proofs.Ytbmbahifkegehab.St
open Go.ChangeShapes Go.WideShapes Go.ChangeAt Go.RowKit
set_option linter.unusedVariables false

def wrT (ky : Int) (k : LkV) : Bool := k.write && decide (k.key = ky)
set_option maxHeartbeats 1000000 in
theorem writes_asks (b0 : Nat) (ky : Int) (w : World) (c00 : w.cell? ⟨b0, 0, none⟩ = some (.int .i64 ky)) (z0 : b0 < w.heap.size) : Asks 60 #[.pointer (some ⟨b0, 0, none⟩)] LkV.val (wrT ky) w := by
  refine ⟨enters_of Try.func60 (by kernel_rfl) rfl, fun x w' hb => ?_⟩
  rw [← hb.cell (p := ⟨b0, 0, none⟩) z0] at c00
  have y0 := Nat.lt_of_lt_of_le z0 hb.size
  obtain ⟨⟨site, num⟩, key, write, value, ask⟩ := x
  simp only [LkV.val] at *
  have hA : ∀ o, Below w'.heap.size w' (w'.alloc o) := fun o => (Below.refl _ _).alloc (Nat.le_refl _) _
  show Calls Try.prog 60 #[_, .pointer (some ⟨b0, 0, none⟩)] w' _
  go_enter Try.func60, Try.ntmps60
  go_wp2
  all_goals go_ret
  all_goals exact ⟨ret_bool (by first | (simp_all [wrT]; done) | (simp_all [wrT]; rfl)), hA _⟩
theorem writes_any (ky : Int) (w : World) :
    Calls Try.prog 42 #[.int .i64 ky] w fun e w' => ∃ b0 : Nat, e = .returned (.func (.func 60) #[] #[.pointer (some ⟨b0, 0, none⟩)]) ∧ Asks 60 #[.pointer (some ⟨b0, 0, none⟩)] LkV.val (wrT ky) w' ∧ Below w.heap.size w w' := by
  obtain ⟨W, hW⟩ : ∃ W : World, W = (w.alloc (.cells #[.int .i64 ky] 3)) := ⟨_, rfl⟩
  have hB : Below w.heap.size w W := by rw [hW]; exact ((Below.refl _ _).alloc (Nat.le_refl _) _)
  have zW : W.heap.size = w.heap.size + 1 := by rw [hW]; simp
  have c00 : W.cell? ⟨w.heap.size, 0, none⟩ = some (.int .i64 ky) := by rw [hW]; go_simp
  have hq := writes_asks w.heap.size ky W c00 (by omega)
  go_enter Try.func42, Try.ntmps42
  go_wp2
  rw [← hW]
  go_ret
  exact ⟨_, rfl, hq, hB⟩
end Go.Proofs.Ytbmbahifkegehab.St
