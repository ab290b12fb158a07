/- Contracts of store.by, and of the function that it hands back. -/
import Derived.Test.YtbmbahifkegehabSFind
namespace Go.Proofs.Ytbmbahifkegehab.St
open Go.ChangeShapes Go.WideShapes Go.ChangeAt Go.RowKit
set_option linter.unusedVariables false

def byT (t : Int × Int) (ky : Int) (k : LkV) : Bool := decide (k.t = t) && decide (k.key = ky)
set_option maxHeartbeats 1000000 in
theorem by_asks (b0 : Nat) (b1 : Nat) (t : Int × Int) (ky : Int) (w : World) (c00 : w.cell? ⟨b0, 0, none⟩ = some (.int .i64 t.1)) (c01 : w.cell? ⟨b0, 1, none⟩ = some (.int .i64 t.2)) (z0 : b0 < w.heap.size) (c10 : w.cell? ⟨b1, 0, none⟩ = some (.int .i64 ky)) (z1 : b1 < w.heap.size) : Asks 54 #[.pointer (some ⟨b0, 0, none⟩), .pointer (some ⟨b1, 0, none⟩)] LkV.val (byT t ky) w := by
  refine ⟨enters_of Try.func54 (by kernel_rfl) rfl, fun x w' hb => ?_⟩
  rw [← hb.cell (p := ⟨b0, 0, none⟩) z0] at c00
  rw [← hb.cell (p := ⟨b0, 1, none⟩) z0] at c01
  have y0 := Nat.lt_of_lt_of_le z0 hb.size
  rw [← hb.cell (p := ⟨b1, 0, none⟩) z1] at c10
  have y1 := Nat.lt_of_lt_of_le z1 hb.size
  obtain ⟨ts, tn⟩ := t
  obtain ⟨⟨site, num⟩, key, write, value, ask⟩ := x
  simp only [LkV.val] at *
  have hA : ∀ o, Below w'.heap.size w' (w'.alloc o) := fun o => (Below.refl _ _).alloc (Nat.le_refl _) _
  show Calls Try.prog 54 #[_, .pointer (some ⟨b0, 0, none⟩), .pointer (some ⟨b1, 0, none⟩)] w' _
  go_enter Try.func54, Try.ntmps54
  go_wp2
  all_goals go_ret
  all_goals exact ⟨ret_bool (by first | (simp_all [byT]; done) | (simp_all [byT]; rfl)), hA _⟩
theorem by_any (t : Int × Int) (ky : Int) (w : World) :
    Calls Try.prog 30 #[.agg #[.int .i64 t.1, .int .i64 t.2], .int .i64 ky] w fun e w' => ∃ b0 b1 : Nat, e = .returned (.func (.func 54) #[] #[.pointer (some ⟨b0, 0, none⟩), .pointer (some ⟨b1, 0, none⟩)]) ∧ Asks 54 #[.pointer (some ⟨b0, 0, none⟩), .pointer (some ⟨b1, 0, none⟩)] LkV.val (byT t ky) w' ∧ Below w.heap.size w w' := by
  obtain ⟨ts, tn⟩ := t
  simp only
  obtain ⟨W, hW⟩ : ∃ W : World, W = ((w.alloc (.cells #[.int .i64 ts, .int .i64 tn] 32)).alloc (.cells #[.int .i64 ky] 3)) := ⟨_, rfl⟩
  have hB : Below w.heap.size w W := by rw [hW]; exact (((Below.refl _ _).alloc (Nat.le_refl _) _).alloc (by simp) _)
  have zW : W.heap.size = w.heap.size + 2 := by rw [hW]; simp
  have c00 : W.cell? ⟨w.heap.size, 0, none⟩ = some (.int .i64 ts) := by rw [hW]; go_simp
  have c01 : W.cell? ⟨w.heap.size, 1, none⟩ = some (.int .i64 tn) := by rw [hW]; go_simp
  have c10 : W.cell? ⟨w.heap.size + 1, 0, none⟩ = some (.int .i64 ky) := by rw [hW]; go_simp
  have hq := by_asks w.heap.size (w.heap.size + 1) (ts, tn) ky W c00 c01 (by omega) c10 (by omega)
  go_enter Try.func30, Try.ntmps30
  go_wp2
  rw [← hW]
  go_ret
  exact ⟨_, _, rfl, hq, hB⟩
end Go.Proofs.Ytbmbahifkegehab.St
