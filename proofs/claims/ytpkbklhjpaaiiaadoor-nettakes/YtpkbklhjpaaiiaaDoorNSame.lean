/- Contracts of sameMessages and sameFlying: at the same messages they return true and leave what was in memory. -/
import Derived.Test.YtpkbklhjpaaiiaaDoorNBase
import Derived.Lib.QuietBelow
import Derived.Deep.RegionHeld3
import Derived.Deep.Cut
import Derived.Deep.CutBlock
namespace Go.Proofs.YtpkbklhjpaaiiaaDoor.Nt
open Go.ChangeShapes Go.WideShapes Go.ChangeAt Go.RowKit
set_option linter.unusedVariables false

set_option maxRecDepth 100000 in
set_option maxHeartbeats 2000000 in
theorem sameMessages_any (a b : Option Addr) (n cap cap' : Nat) (ms : List MV) (w : World) (h : IsMsgs w a n cap ms) (h' : IsMsgs w b n cap' ms) :
    Calls Tryd.prog 21 #[.slice a n cap, .slice b n cap'] w fun e w' => e = .returned (.bool true) ∧ Below w.heap.size w w' := by
  have hmx : n ≤ maxLen := Nat.le_trans h.2.1 h.2.2.1
  unfold maxLen at hmx
  go_enter Tryd.func21, Tryd.ntmps21
  go_wp2
  go_loopw [5] (fun i wr => ∃ k : Nat, k ≤ n ∧ i = .int .i64 k ∧ Below w.heap.size w wr) (fun i _ => n - (intOf i).toNat)
  case atStart => exact ⟨0, Nat.zero_le _, rfl, Below.refl _ _⟩
  case round =>
    obtain ⟨k, hk, rfl, hb⟩ := hrel
    by_cases hlt : k < n
    · have hlt' : (k : Int) < (n : Int) := by omega
      obtain ⟨b1, o1, rfl, _, c1⟩ := (h.below hb).2.2.2.2 (by omega)
      obtain ⟨b2, o2, rfl, _, c2⟩ := (h'.below hb).2.2.2.2 (by omega)
      have e1 := c1 k hlt
      have e2 := c2 k hlt
      obtain ⟨z, hz⟩ : ∃ z, z = ms.getD k default := ⟨_, rfl⟩
      rw [← hz] at e1 e2
      clear hz c1 c2
      obtain ⟨kind, frm, dst, site, num, label, key, value, version, ask, yes, code⟩ := z
      have x0 := e1 0 (by decide)
      have x1 := e1 1 (by decide)
      have x2 := e1 2 (by decide)
      have x3 := e1 3 (by decide)
      have x4 := e1 4 (by decide)
      have x5 := e1 5 (by decide)
      have x6 := e1 6 (by decide)
      have x7 := e1 7 (by decide)
      have x8 := e1 8 (by decide)
      have x9 := e1 9 (by decide)
      have x10 := e1 10 (by decide)
      have x11 := e1 11 (by decide)
      have y0 := e2 0 (by decide)
      have y1 := e2 1 (by decide)
      have y2 := e2 2 (by decide)
      have y3 := e2 3 (by decide)
      have y4 := e2 4 (by decide)
      have y5 := e2 5 (by decide)
      have y6 := e2 6 (by decide)
      have y7 := e2 7 (by decide)
      have y8 := e2 8 (by decide)
      have y9 := e2 9 (by decide)
      have y10 := e2 10 (by decide)
      have y11 := e2 11 (by decide)
      simp only [mcells, List.getElem?_cons_zero, List.getElem?_cons_succ, Nat.add_zero] at x0 x1 x2 x3 x4 x5 x6 x7 x8 x9 x10 x11 y0 y1 y2 y3 y4 y5 y6 y7 y8 y9 y10 y11
      clear e1 e2
      go_wp2
      go_quiet (fail)
      go_wp2
      go_roundw
      case rel => exact ⟨k + 1, by omega, by go_num, below_drewN hb nq⟩
      case measure => simp [intOf]; omega
    · go_wp2
      go_ret
      exact ⟨rfl, hb⟩

set_option maxRecDepth 100000 in
set_option maxHeartbeats 2000000 in
theorem sameFlying_any (a b : Option Addr) (n cap cap' : Nat) (fs gs : List FL) (w : World) (h : IsFly w a n cap fs) (h' : IsFly w b n cap' gs) (hs : ∀ i, i < n → (fs.getD i default).ms = (gs.getD i default).ms) :
    Calls Tryd.prog 11 #[.slice a n cap, .slice b n cap'] w fun e w' => e = .returned (.bool true) ∧ Below w.heap.size w w' := by
  have hmx : n ≤ maxLen := Nat.le_trans h.row.2.1 h.row.2.2.1
  unfold maxLen at hmx
  have HS : Hid (∀ i, i < n → (fs.getD i default).ms = (gs.getD i default).ms) := hs
  clear hs
  go_enter Tryd.func11, Tryd.ntmps11
  go_wp2
  go_loopw [5] (fun i wr => ∃ k : Nat, k ≤ n ∧ i = .int .i64 k ∧ Below w.heap.size w wr) (fun i _ => n - (intOf i).toNat)
  case atStart => exact ⟨0, Nat.zero_le _, rfl, Below.refl _ _⟩
  case round =>
    obtain ⟨k, hk, rfl, hb⟩ := hrel
    by_cases hlt : k < n
    · have hlt' : (k : Int) < (n : Int) := by omega
      obtain ⟨b1, o1, rfl, z1, c1, m1⟩ := (h.below hb).at hlt
      obtain ⟨b2, o2, rfl, z2, c2, m2⟩ := (h'.below hb).at hlt
      have e := HS.out k hlt
      have l1 := m1.1
      have l2 := m2.1
      rw [e, l2] at l1
      obtain ⟨⟨xa, xl, xc, xs⟩, hx⟩ : ∃ x, x = fs.getD k default := ⟨_, rfl⟩
      obtain ⟨⟨ya, yl, yc, ys⟩, hy⟩ : ∃ y, y = gs.getD k default := ⟨_, rfl⟩
      rw [← hx] at c1 m1 e l1
      rw [← hy] at c2 m2 e l1
      clear hx hy l2
      simp only [] at c1 c2 m1 m2 e l1
      subst e
      subst l1
      have hSm := fun w' h1 h2 => sameMessages_any xa ya yl xc yc xs w' h1 h2
      have ca := fun d os => cell_regrown c1 d os
      have cb := fun d os => cell_regrown c2 d os
      go_upto_region 6 with (fail)
      refine wp_region_quiet_below (by kernel_rfl) (by kernel_rfl) ?_
      repeat (go_big_quiet_step ((exact Calls.regrown_of (hSm _ (m1.below (below_regrown _ _ _)) (m2.below (below_regrown _ _ _))))))
      refine wpQuiet_nil ?_
      intro _ hw'
      obtain ⟨⟨dq, osq⟩, hw''⟩ := hw'
      subst hw''
      go_wp2
      go_roundw
      case rel => exact ⟨k + 1, by omega, by go_num, hb.trans ((below_regrown wr dq osq).mono hb.size)⟩
      case measure => simp [intOf]; omega
    · go_wp2
      go_ret
      exact ⟨rfl, hb⟩
end Go.Proofs.YtpkbklhjpaaiiaaDoor.Nt
