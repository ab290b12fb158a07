/- The walk of the law CoordChecks: at any config and desk it returns true and leaves what was in memory. -/
import Derived.Test.YtbnlibeokekpfaaCoRef2
import Derived.Test.YtbnlibeokekpfaaCoProg2
namespace Go.Proofs.Ytbnlibeokekpfaa
open Go.ChangeShapes Go.WideShapes Go.ChangeAt Go.RowKit
open Go.Proofs.Ytbnlibeokekpfaa.Co (JbV IsJobs deskCheck_any deskFault_any dkErr)
open Go.Proofs.Ytbnlibeokekpfaa.St (BoxN boxn_new)
set_option linter.unusedVariables false

set_option maxRecDepth 100000 in
set_option maxHeartbeats 2000000 in
theorem coordChecks_walk (s : Int) (a : Option Addr) (len cap : Nat) (q : Int) (ls : List (Int × Int)) (nx : Int) (ja : Option Addr) (jl jc : Nat) (js : List JbV) (w : World) (_ : (Lit.int .i64 s).wf = true) (h : IsLabs w a len cap ls) (_ : (Lit.int .i64 q).wf = true) (hj : IsJobs w ja jl jc js) :
    Calls Try.prog 3 #[.agg #[.int .i64 s, .slice a len cap, .int .i64 q], .agg #[.int .i64 nx, .slice ja jl jc]] w fun e w' => e = .returned (.bool true) ∧ Below w.heap.size w w' := by
  have hC := fun w' h1 h2 => deskCheck_any s q a len cap ls nx ja jl jc js w' h1 h2
  have hF := fun w' h1 h2 => deskFault_any s q a len cap ls nx ja jl jc js w' h1 h2
  obtain ⟨R, eR⟩ : ∃ R, R = dkErr s ls q nx js := ⟨_, rfl⟩
  rw [← eR] at hC hF
  clear eR
  obtain ⟨W, hW⟩ : ∃ W : World, W = (w.alloc (.cells #[.int .i64 s, .slice a len cap, .int .i64 q] 24)).alloc (.cells #[.int .i64 nx, .slice ja jl jc] 27) := ⟨_, rfl⟩
  have hB : Below w.heap.size w W := by rw [hW]; exact ((Below.refl _ _).alloc (Nat.le_refl _) _).alloc (by simp) _
  have b2 : BoxN W (w.heap.size + 1) 2 [.int .i64 nx, .slice ja jl jc] := by rw [hW]; simpa using boxn_new (w.alloc (.cells #[.int .i64 s, .slice a len cap, .int .i64 q] 24)) #[.int .i64 nx, .slice ja jl jc] 27 2 rfl
  have b1 : BoxN W w.heap.size 3 [.int .i64 s, .slice a len cap, .int .i64 q] := by rw [hW]; exact (boxn_new w #[.int .i64 s, .slice a len cap, .int .i64 q] 24 3 rfl).below (B := (w.alloc (.cells #[.int .i64 s, .slice a len cap, .int .i64 q] 24)).heap.size) ((Below.refl _ _).alloc (Nat.le_refl _) _) (by simp)
  have c0 := (b1.c 0 (by decide)).1
  have c1 := (b1.c 1 (by decide)).1
  have c2 := (b1.c 2 (by decide)).1
  have k0 := (b2.c 0 (by decide)).1
  have k1 := (b2.c 1 (by decide)).1
  simp only [List.getD_cons_zero, List.getD_cons_succ] at c0 c1 c2 k0 k1
  have z1 := b1.lt
  have z2 := b2.lt
  have hcW := h.below hB
  have hjW := hj.below hB
  go_enter Try.func3, Try.ntmps3
  go_upto_region 1 with (fail)
  rw [← hW]
  clear hW
  go_wp2_with (first
    | (go_at_call 4; refine (hC _ hcW hjW).mono ?_; rintro e w1 ⟨rfl, hb1⟩; clear c0 c1 c2 k0 k1 z1 z2; replace b1 := b1.below hb1 b1.lt; replace b2 := b2.below hb1 b2.lt; have c0 := (b1.c 0 (by decide)).1; have c1 := (b1.c 1 (by decide)).1; have c2 := (b1.c 2 (by decide)).1; have k0 := (b2.c 0 (by decide)).1; have k1 := (b2.c 1 (by decide)).1; simp only [List.getD_cons_zero, List.getD_cons_succ] at c0 c1 c2 k0 k1; have z1 := b1.lt; have z2 := b2.lt)
    | (go_at_call 5; refine (hF _ (hcW.below hb1) (hjW.below hb1)).mono ?_; rintro e w2 ⟨rfl, hb2⟩))
  go_ret
  exact ⟨rfl, hB.trans ((hb1.trans (hb2.mono hb1.size)).mono hB.size)⟩
end Go.Proofs.Ytbnlibeokekpfaa
