/- Contracts of store.against, and of the function that it hands back. -/
import Derived.Test.YtbmbahifkegehaaSFind
namespace Go.Proofs.Ytbmbahifkegehaa.St
open Go.ChangeShapes Go.WideShapes Go.ChangeAt Go.RowKit
set_option linter.unusedVariables false

set_option maxHeartbeats 2000000 in
theorem against_asks (b : Nat) (k : LkV) (w : World) (c0 : w.cell? ⟨b, 0, none⟩ = some (.int .i64 k.t.1)) (c1 : w.cell? ⟨b, 1, none⟩ = some (.int .i64 k.t.2)) (c2 : w.cell? ⟨b, 2, none⟩ = some (.int .i64 k.key)) (c3 : w.cell? ⟨b, 3, none⟩ = some (.bool k.write)) (z : b < w.heap.size) : Asks 75 #[.pointer (some ⟨b, 0, none⟩)] LkV.val (against k) w := by
  refine ⟨enters_of Try.func75 (by kernel_rfl) rfl, fun x w' hb => ?_⟩
  rw [← hb.cell (p := ⟨b, 0, none⟩) z] at c0
  rw [← hb.cell (p := ⟨b, 1, none⟩) z] at c1
  rw [← hb.cell (p := ⟨b, 2, none⟩) z] at c2
  rw [← hb.cell (p := ⟨b, 3, none⟩) z] at c3
  have y := Nat.lt_of_lt_of_le z hb.size
  obtain ⟨⟨ts, tn⟩, ky, wt, vl, ak⟩ := k
  obtain ⟨⟨site, num⟩, key, write, value, ask⟩ := x
  simp only [LkV.val] at *
  have hA : ∀ o, Below w'.heap.size w' (w'.alloc o) := fun o => (Below.refl _ _).alloc (Nat.le_refl _) _
  show Calls Try.prog 75 #[_, .pointer (some ⟨b, 0, none⟩)] w' _
  go_enter Try.func75, Try.ntmps75
  go_wp2
  all_goals go_ret
  all_goals exact ⟨ret_bool (by simp_all [against]), hA _⟩
theorem against_any (k : LkV) (w : World) :
    Calls Try.prog 67 #[k.val] w fun e w' => ∃ b : Nat, e = .returned (.func (.func 75) #[] #[.pointer (some ⟨b, 0, none⟩)]) ∧ Asks 75 #[.pointer (some ⟨b, 0, none⟩)] LkV.val (against k) w' ∧ Below w.heap.size w w' := by
  obtain ⟨⟨site, num⟩, key, write, value, ask⟩ := k
  simp only [LkV.val]
  obtain ⟨W, hW⟩ : ∃ W : World, W = w.alloc (.cells #[.int .i64 site, .int .i64 num, .int .i64 key, .bool write, .int .i64 value, .int .i64 ask] 52) := ⟨_, rfl⟩
  have hB : Below w.heap.size w W := by rw [hW]; exact (Below.refl _ _).alloc (Nat.le_refl _) _
  have zW : w.heap.size < W.heap.size := by rw [hW]; simp
  have c0 : W.cell? ⟨w.heap.size, 0, none⟩ = some (.int .i64 site) := by rw [hW]; go_simp
  have c1 : W.cell? ⟨w.heap.size, 1, none⟩ = some (.int .i64 num) := by rw [hW]; go_simp
  have c2 : W.cell? ⟨w.heap.size, 2, none⟩ = some (.int .i64 key) := by rw [hW]; go_simp
  have c3 : W.cell? ⟨w.heap.size, 3, none⟩ = some (.bool write) := by rw [hW]; go_simp
  have hq := against_asks w.heap.size ⟨(site, num), key, write, value, ask⟩ W c0 c1 c2 c3 zW
  go_enter Try.func67, Try.ntmps67
  go_wp2
  rw [← hW]
  go_ret
  exact ⟨_, rfl, hq, hB⟩
end Go.Proofs.Ytbmbahifkegehaa.St
