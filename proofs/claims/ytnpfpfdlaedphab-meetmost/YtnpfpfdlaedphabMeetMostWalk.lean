/- The walk of the law MeetMost: at any three raw numbers it returns true and leaves what was in memory. -/
import Derived.Test.YtnpfpfdlaedphabLabAt
import Derived.Deep.QuietTactic
import Derived.BigQuiet
import Derived.Lib.QuietBelow
namespace Go.Proofs.Ytnpfpfdlaedphab
open Go.ChangeShapes Go.WideShapes Go.ChangeAt Go.RowKit
set_option linter.unusedVariables false

set_option maxHeartbeats 20000000 in
theorem meetMost_ff (a b c xl xc yl yc zl zc jl jc : Int) (w : World) (ha : LabAt a xl xc) (hb : LabAt b yl yc) (hc : LabAt c zl zc)
    (ej : least xl yl = jl) (ejc : bits .and .i64 xc yc = jc) (jx : abv xl xc jl jc = true) (jy : abv yl yc jl jc = true) (q : Bool) (ezx : abv xl xc zl zc = false) (ezy : abv yl yc zl zc = q) (ezj : abv jl jc zl zc = false) :
    Calls Try.prog 6 #[.int .i64 a, .int .i64 b, .int .i64 c] w fun e w' => e = .returned (.bool true) ∧ Below w.heap.size w w' := by
  have t1 : True := trivial
  have t2 : True := trivial
  have t3 : True := trivial
  have t4 : True := trivial
  go_enter Try.func6, Try.ntmps6
  go_wp2_with (first
      | (go_at_call 12; have _t := t1; refine (ha _).mono ?_; rintro e w1 ⟨rfl, hb1⟩; clear t1; have hB := hb1)
      | (go_at_call 12; have _t := t2; refine (hb _).mono ?_; rintro e w2 ⟨rfl, hb2⟩; clear t2
         have hB := (hB.alloc hb1.size _).trans (hb2.mono (by have := hb1.size; simp; omega))
         have s1 : w1.heap.size < w2.heap.size := by have := hb2.size; simp at this; omega
         obtain ⟨hc2, hf2⟩ := bcell hb2)
      | (go_at_call 12; have _t := t3; refine (hc _).mono ?_; rintro e w3 ⟨rfl, hb3⟩; clear t3
         have hB := (hB.alloc hB.size _).trans (hb3.mono (by have := hB.size; simp; omega))
         have s2 : w2.heap.size < w3.heap.size := by have := hb3.size; simp at this; omega
         have s1 : w1.heap.size < w3.heap.size := by omega
         obtain ⟨hc3, hf3⟩ := bcell hb3)
      | (go_at_call 15; refine (meet_any _ _ _ _ _).mono ?_; rintro e w0 ⟨rfl, hb0⟩
         have hB := (hB.alloc hB.size _).trans (hb0.mono (by have := hB.size; simp; omega))
         have s3 : w3.heap.size < w0.heap.size := by have := hb0.size; simp at this; omega
         have s2 : w2.heap.size < w0.heap.size := by omega
         have s1 : w1.heap.size < w0.heap.size := by omega
         obtain ⟨hc0, hf0⟩ := bcell hb0))
  obtain ⟨W, hW⟩ : ∃ W : World, W = w0.alloc (.cells #[.int .i64 jl, .int .i64 jc] 32) := ⟨_, rfl⟩
  have x0 : W.cell? ⟨w1.heap.size, 0, none⟩ = some (.int .i64 xl) := by rw [hW]; go_simp
  have x1 : W.cell? ⟨w1.heap.size, 1, none⟩ = some (.int .i64 xc) := by rw [hW]; go_simp
  have y0 : W.cell? ⟨w2.heap.size, 0, none⟩ = some (.int .i64 yl) := by rw [hW]; go_simp
  have y1 : W.cell? ⟨w2.heap.size, 1, none⟩ = some (.int .i64 yc) := by rw [hW]; go_simp
  have z0 : W.cell? ⟨w3.heap.size, 0, none⟩ = some (.int .i64 zl) := by rw [hW]; go_simp
  have z1 : W.cell? ⟨w3.heap.size, 1, none⟩ = some (.int .i64 zc) := by rw [hW]; go_simp
  have j0 : W.cell? ⟨w0.heap.size, 0, none⟩ = some (.int .i64 jl) := by rw [hW]; go_simp
  have j1 : W.cell? ⟨w0.heap.size, 1, none⟩ = some (.int .i64 jc) := by rw [hW]; go_simp
  have q0 : w0.heap.size < W.heap.size := by rw [hW]; simp
  have q1 : w1.heap.size < W.heap.size := by omega
  have q2 : w2.heap.size < W.heap.size := by omega
  have q3 : w3.heap.size < W.heap.size := by omega
  have hB : Below w.heap.size w W := by rw [hW]; exact hB.alloc hB.size _
  have hN : w.heap.size ≤ W.heap.size := hB.size
  rw [← hW]
  clear hW hc0 hf0 hc3 hf3 hc2 hf2 hb0 hb1 hb2 hb3 ej ejc
  have x0g := fun d os => cell_regrown x0 d os
  have x1g := fun d os => cell_regrown x1 d os
  have y0g := fun d os => cell_regrown y0 d os
  have y1g := fun d os => cell_regrown y1 d os
  have z0g := fun d os => cell_regrown z0 d os
  have z1g := fun d os => cell_regrown z1 d os
  have j0g := fun d os => cell_regrown j0 d os
  have j1g := fun d os => cell_regrown j1 d os
  refine wp_region_quiet_below (by kernel_rfl) (by kernel_rfl) ?_
  repeat (quiet_step ((go_at_call 13; exact Calls.regrown_of (above_any _ _ _ _ _))))
  refine wpQuiet_nil ?_
  intro _ hw'
  obtain ⟨⟨dq, osq⟩, hw''⟩ := hw'
  subst hw''
  go_wp2
  go_ret
  exact ⟨rfl, hB.trans ((below_regrown W dq osq).mono hN)⟩

set_option maxHeartbeats 20000000 in
theorem meetMost_tf (a b c xl xc yl yc zl zc jl jc : Int) (w : World) (ha : LabAt a xl xc) (hb : LabAt b yl yc) (hc : LabAt c zl zc)
    (ej : least xl yl = jl) (ejc : bits .and .i64 xc yc = jc) (jx : abv xl xc jl jc = true) (jy : abv yl yc jl jc = true) (ezx : abv xl xc zl zc = true) (ezy : abv yl yc zl zc = false) (ezj : abv jl jc zl zc = false) :
    Calls Try.prog 6 #[.int .i64 a, .int .i64 b, .int .i64 c] w fun e w' => e = .returned (.bool true) ∧ Below w.heap.size w w' := by
  have t1 : True := trivial
  have t2 : True := trivial
  have t3 : True := trivial
  have t4 : True := trivial
  go_enter Try.func6, Try.ntmps6
  go_wp2_with (first
      | (go_at_call 12; have _t := t1; refine (ha _).mono ?_; rintro e w1 ⟨rfl, hb1⟩; clear t1; have hB := hb1)
      | (go_at_call 12; have _t := t2; refine (hb _).mono ?_; rintro e w2 ⟨rfl, hb2⟩; clear t2
         have hB := (hB.alloc hb1.size _).trans (hb2.mono (by have := hb1.size; simp; omega))
         have s1 : w1.heap.size < w2.heap.size := by have := hb2.size; simp at this; omega
         obtain ⟨hc2, hf2⟩ := bcell hb2)
      | (go_at_call 12; have _t := t3; refine (hc _).mono ?_; rintro e w3 ⟨rfl, hb3⟩; clear t3
         have hB := (hB.alloc hB.size _).trans (hb3.mono (by have := hB.size; simp; omega))
         have s2 : w2.heap.size < w3.heap.size := by have := hb3.size; simp at this; omega
         have s1 : w1.heap.size < w3.heap.size := by omega
         obtain ⟨hc3, hf3⟩ := bcell hb3)
      | (go_at_call 15; refine (meet_any _ _ _ _ _).mono ?_; rintro e w0 ⟨rfl, hb0⟩
         have hB := (hB.alloc hB.size _).trans (hb0.mono (by have := hB.size; simp; omega))
         have s3 : w3.heap.size < w0.heap.size := by have := hb0.size; simp at this; omega
         have s2 : w2.heap.size < w0.heap.size := by omega
         have s1 : w1.heap.size < w0.heap.size := by omega
         obtain ⟨hc0, hf0⟩ := bcell hb0))
  obtain ⟨W, hW⟩ : ∃ W : World, W = w0.alloc (.cells #[.int .i64 jl, .int .i64 jc] 32) := ⟨_, rfl⟩
  have x0 : W.cell? ⟨w1.heap.size, 0, none⟩ = some (.int .i64 xl) := by rw [hW]; go_simp
  have x1 : W.cell? ⟨w1.heap.size, 1, none⟩ = some (.int .i64 xc) := by rw [hW]; go_simp
  have y0 : W.cell? ⟨w2.heap.size, 0, none⟩ = some (.int .i64 yl) := by rw [hW]; go_simp
  have y1 : W.cell? ⟨w2.heap.size, 1, none⟩ = some (.int .i64 yc) := by rw [hW]; go_simp
  have z0 : W.cell? ⟨w3.heap.size, 0, none⟩ = some (.int .i64 zl) := by rw [hW]; go_simp
  have z1 : W.cell? ⟨w3.heap.size, 1, none⟩ = some (.int .i64 zc) := by rw [hW]; go_simp
  have j0 : W.cell? ⟨w0.heap.size, 0, none⟩ = some (.int .i64 jl) := by rw [hW]; go_simp
  have j1 : W.cell? ⟨w0.heap.size, 1, none⟩ = some (.int .i64 jc) := by rw [hW]; go_simp
  have q0 : w0.heap.size < W.heap.size := by rw [hW]; simp
  have q1 : w1.heap.size < W.heap.size := by omega
  have q2 : w2.heap.size < W.heap.size := by omega
  have q3 : w3.heap.size < W.heap.size := by omega
  have hB : Below w.heap.size w W := by rw [hW]; exact hB.alloc hB.size _
  have hN : w.heap.size ≤ W.heap.size := hB.size
  rw [← hW]
  clear hW hc0 hf0 hc3 hf3 hc2 hf2 hb0 hb1 hb2 hb3 ej ejc
  have x0g := fun d os => cell_regrown x0 d os
  have x1g := fun d os => cell_regrown x1 d os
  have y0g := fun d os => cell_regrown y0 d os
  have y1g := fun d os => cell_regrown y1 d os
  have z0g := fun d os => cell_regrown z0 d os
  have z1g := fun d os => cell_regrown z1 d os
  have j0g := fun d os => cell_regrown j0 d os
  have j1g := fun d os => cell_regrown j1 d os
  refine wp_region_quiet_below (by kernel_rfl) (by kernel_rfl) ?_
  repeat (quiet_step ((go_at_call 13; exact Calls.regrown_of (above_any _ _ _ _ _))))
  refine wpQuiet_nil ?_
  intro _ hw'
  obtain ⟨⟨dq, osq⟩, hw''⟩ := hw'
  subst hw''
  go_wp2
  go_ret
  exact ⟨rfl, hB.trans ((below_regrown W dq osq).mono hN)⟩

set_option maxHeartbeats 20000000 in
theorem meetMost_tt (a b c xl xc yl yc zl zc jl jc : Int) (w : World) (ha : LabAt a xl xc) (hb : LabAt b yl yc) (hc : LabAt c zl zc)
    (ej : least xl yl = jl) (ejc : bits .and .i64 xc yc = jc) (jx : abv xl xc jl jc = true) (jy : abv yl yc jl jc = true) (ezx : abv xl xc zl zc = true) (ezy : abv yl yc zl zc = true) (ezj : abv jl jc zl zc = true) :
    Calls Try.prog 6 #[.int .i64 a, .int .i64 b, .int .i64 c] w fun e w' => e = .returned (.bool true) ∧ Below w.heap.size w w' := by
  have t1 : True := trivial
  have t2 : True := trivial
  have t3 : True := trivial
  have t4 : True := trivial
  go_enter Try.func6, Try.ntmps6
  go_wp2_with (first
      | (go_at_call 12; have _t := t1; refine (ha _).mono ?_; rintro e w1 ⟨rfl, hb1⟩; clear t1; have hB := hb1)
      | (go_at_call 12; have _t := t2; refine (hb _).mono ?_; rintro e w2 ⟨rfl, hb2⟩; clear t2
         have hB := (hB.alloc hb1.size _).trans (hb2.mono (by have := hb1.size; simp; omega))
         have s1 : w1.heap.size < w2.heap.size := by have := hb2.size; simp at this; omega
         obtain ⟨hc2, hf2⟩ := bcell hb2)
      | (go_at_call 12; have _t := t3; refine (hc _).mono ?_; rintro e w3 ⟨rfl, hb3⟩; clear t3
         have hB := (hB.alloc hB.size _).trans (hb3.mono (by have := hB.size; simp; omega))
         have s2 : w2.heap.size < w3.heap.size := by have := hb3.size; simp at this; omega
         have s1 : w1.heap.size < w3.heap.size := by omega
         obtain ⟨hc3, hf3⟩ := bcell hb3)
      | (go_at_call 15; refine (meet_any _ _ _ _ _).mono ?_; rintro e w0 ⟨rfl, hb0⟩
         have hB := (hB.alloc hB.size _).trans (hb0.mono (by have := hB.size; simp; omega))
         have s3 : w3.heap.size < w0.heap.size := by have := hb0.size; simp at this; omega
         have s2 : w2.heap.size < w0.heap.size := by omega
         have s1 : w1.heap.size < w0.heap.size := by omega
         obtain ⟨hc0, hf0⟩ := bcell hb0))
  obtain ⟨W, hW⟩ : ∃ W : World, W = w0.alloc (.cells #[.int .i64 jl, .int .i64 jc] 32) := ⟨_, rfl⟩
  have x0 : W.cell? ⟨w1.heap.size, 0, none⟩ = some (.int .i64 xl) := by rw [hW]; go_simp
  have x1 : W.cell? ⟨w1.heap.size, 1, none⟩ = some (.int .i64 xc) := by rw [hW]; go_simp
  have y0 : W.cell? ⟨w2.heap.size, 0, none⟩ = some (.int .i64 yl) := by rw [hW]; go_simp
  have y1 : W.cell? ⟨w2.heap.size, 1, none⟩ = some (.int .i64 yc) := by rw [hW]; go_simp
  have z0 : W.cell? ⟨w3.heap.size, 0, none⟩ = some (.int .i64 zl) := by rw [hW]; go_simp
  have z1 : W.cell? ⟨w3.heap.size, 1, none⟩ = some (.int .i64 zc) := by rw [hW]; go_simp
  have j0 : W.cell? ⟨w0.heap.size, 0, none⟩ = some (.int .i64 jl) := by rw [hW]; go_simp
  have j1 : W.cell? ⟨w0.heap.size, 1, none⟩ = some (.int .i64 jc) := by rw [hW]; go_simp
  have q0 : w0.heap.size < W.heap.size := by rw [hW]; simp
  have q1 : w1.heap.size < W.heap.size := by omega
  have q2 : w2.heap.size < W.heap.size := by omega
  have q3 : w3.heap.size < W.heap.size := by omega
  have hB : Below w.heap.size w W := by rw [hW]; exact hB.alloc hB.size _
  have hN : w.heap.size ≤ W.heap.size := hB.size
  rw [← hW]
  clear hW hc0 hf0 hc3 hf3 hc2 hf2 hb0 hb1 hb2 hb3 ej ejc
  have x0g := fun d os => cell_regrown x0 d os
  have x1g := fun d os => cell_regrown x1 d os
  have y0g := fun d os => cell_regrown y0 d os
  have y1g := fun d os => cell_regrown y1 d os
  have z0g := fun d os => cell_regrown z0 d os
  have z1g := fun d os => cell_regrown z1 d os
  have j0g := fun d os => cell_regrown j0 d os
  have j1g := fun d os => cell_regrown j1 d os
  refine wp_region_quiet_below (by kernel_rfl) (by kernel_rfl) ?_
  repeat (quiet_step ((go_at_call 13; exact Calls.regrown_of (above_any _ _ _ _ _))))
  refine wpQuiet_nil ?_
  intro _ hw'
  obtain ⟨⟨dq, osq⟩, hw''⟩ := hw'
  subst hw''
  go_wp2
  go_ret
  exact ⟨rfl, hB.trans ((below_regrown W dq osq).mono hN)⟩

theorem meetMost_core (a b c xl xc yl yc zl zc jl jc : Int) (w : World) (ha : LabAt a xl xc) (hb : LabAt b yl yc) (hc : LabAt c zl zc)
    (ej : least xl yl = jl) (ejc : bits .and .i64 xc yc = jc) (jx : abv xl xc jl jc = true) (jy : abv yl yc jl jc = true) (p q : Bool) (ezx : abv xl xc zl zc = p) (ezy : abv yl yc zl zc = q) (ezj : abv jl jc zl zc = (p && q)) :
    Calls Try.prog 6 #[.int .i64 a, .int .i64 b, .int .i64 c] w fun e w' => e = .returned (.bool true) ∧ Below w.heap.size w w' := by
  cases p with
  | false => exact meetMost_ff a b c xl xc yl yc zl zc jl jc w ha hb hc ej ejc jx jy q ezx ezy ezj
  | true =>
    cases q with
    | false => exact meetMost_tf a b c xl xc yl yc zl zc jl jc w ha hb hc ej ejc jx jy ezx ezy ezj
    | true => exact meetMost_tt a b c xl xc yl yc zl zc jl jc w ha hb hc ej ejc jx jy ezx ezy ezj

theorem meetMost_walk (a b c : Int) (w : World) (ha : (Lit.int .i64 a).wf = true) (hb : (Lit.int .i64 b).wf = true) (hc : (Lit.int .i64 c).wf = true) :
    Calls Try.prog 6 #[.int .i64 a, .int .i64 b, .int .i64 c] w fun e w' => e = .returned (.bool true) ∧ Below w.heap.size w w' :=
  meetMost_core a b c _ _ _ _ _ _ _ _ w (labAt_of ha) (labAt_of hb) (labAt_of hc) rfl rfl (meet_left (labC_bd a) (labC_bd b)) (meet_right (labC_bd a) (labC_bd b)) _ _ rfl rfl (meet_most (labC_bd a) (labC_bd b) (labC_bd c))
end Go.Proofs.Ytnpfpfdlaedphab
