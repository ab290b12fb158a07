/- Contracts of store.doubtOf, and of the function that it hands back. -/
import Derived.Test.YtbmbahifkegehaaSFind
namespace Go.Proofs.Ytbmbahifkegehaa.St
open Go.ChangeShapes Go.WideShapes Go.ChangeAt Go.RowKit
set_option linter.unusedVariables false

set_option maxHeartbeats 1000000 in
theorem doubtOf_asks (b0 : Nat) (t : Int × Int) (w : World) (c00 : w.cell? ⟨b0, 0, none⟩ = some (.int .i64 t.1)) (c01 : w.cell? ⟨b0, 1, none⟩ = some (.int .i64 t.2)) (z0 : b0 < w.heap.size) : Asks 57 #[.pointer (some ⟨b0, 0, none⟩)] DbV.val (dbT t) w := by
  refine ⟨enters_of Try.func57 (by kernel_rfl) rfl, fun x w' hb => ?_⟩
  rw [← hb.cell (p := ⟨b0, 0, none⟩) z0] at c00
  rw [← hb.cell (p := ⟨b0, 1, none⟩) z0] at c01
  have y0 := Nat.lt_of_lt_of_le z0 hb.size
  obtain ⟨ts, tn⟩ := t
  obtain ⟨⟨site, num⟩, age⟩ := x
  simp only [DbV.val] at *
  have hA : ∀ o, Below w'.heap.size w' (w'.alloc o) := fun o => (Below.refl _ _).alloc (Nat.le_refl _) _
  show Calls Try.prog 57 #[_, .pointer (some ⟨b0, 0, none⟩)] w' _
  go_enter Try.func57, Try.ntmps57
  go_wp2
  all_goals go_ret
  all_goals exact ⟨ret_bool (by first | (simp_all [dbT]; done) | (simp_all [dbT]; rfl)), hA _⟩
theorem doubtOf_any (t : Int × Int) (w : World) :
    Calls Try.prog 29 #[.agg #[.int .i64 t.1, .int .i64 t.2]] w fun e w' => ∃ b0 : Nat, e = .returned (.func (.func 57) #[] #[.pointer (some ⟨b0, 0, none⟩)]) ∧ Asks 57 #[.pointer (some ⟨b0, 0, none⟩)] DbV.val (dbT t) w' ∧ Below w.heap.size w w' := by
  obtain ⟨ts, tn⟩ := t
  simp only
  obtain ⟨W, hW⟩ : ∃ W : World, W = (w.alloc (.cells #[.int .i64 ts, .int .i64 tn] 29)) := ⟨_, rfl⟩
  have hB : Below w.heap.size w W := by rw [hW]; exact ((Below.refl _ _).alloc (Nat.le_refl _) _)
  have zW : W.heap.size = w.heap.size + 1 := by rw [hW]; simp
  have c00 : W.cell? ⟨w.heap.size, 0, none⟩ = some (.int .i64 ts) := by rw [hW]; go_simp
  have c01 : W.cell? ⟨w.heap.size, 1, none⟩ = some (.int .i64 tn) := by rw [hW]; go_simp
  have hq := doubtOf_asks w.heap.size (ts, tn) W c00 c01 (by omega)
  go_enter Try.func29, Try.ntmps29
  go_wp2
  rw [← hW]
  go_ret
  exact ⟨_, rfl, hq, hB⟩
end Go.Proofs.Ytbmbahifkegehaa.St
