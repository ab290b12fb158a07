/- Contracts of label.hasLabel and label.hides: whether an act of a kind is of a label, and whether a label's place is one that another one does not see. -/
import Derived.Test.YtppnhcnkcbhbiaaActMem
import Derived.Deep.QuietTactic
import Derived.BigQuiet
import Derived.Lib.QuietBelow
namespace Go.Proofs.Ytppnhcnkcbhbiaa
open Go.ChangeShapes Go.WideShapes Go.ChangeAt Go.RowKit
set_option linter.unusedVariables false

theorem hasLabel_any (k : Int) (w : World) :
    Calls Try.prog 24 #[.int .i64 k] w fun e w' => e = .returned (.bool (hasLab k)) ∧ w' = w := by
  by_cases h5 : k = 5
  · subst h5
    go_enter Try.func24, Try.ntmps24
    go_wp2
    go_ret
    exact ⟨rfl, rfl⟩
  · by_cases h7 : k = 7
    · subst h7
      go_enter Try.func24, Try.ntmps24
      go_wp2
      go_ret
      exact ⟨rfl, rfl⟩
    · by_cases h6 : k = 6
      · subst h6
        go_enter Try.func24, Try.ntmps24
        go_wp2
        go_ret
        exact ⟨rfl, rfl⟩
      · go_enter Try.func24, Try.ntmps24
        go_wp2
        go_ret
        exact ⟨ret_bool (by simp [hasLab, h5, h7, h6]), rfl⟩

set_option maxHeartbeats 1000000 in
theorem hides_any (s p : Int) (ad : Option Addr) (len cap : Nat) (ls : List (Int × Int)) (l place : Int) (w : World) (h : IsLabs w ad len cap ls) (hl : plc l len = true) :
    Calls Try.prog 25 #[.agg #[.int .i64 s, .slice ad len cap, .int .i64 p], .int .i64 l, .int .i64 place] w fun e w' => e = .returned (.bool (hid ls l place)) ∧ Below w.heap.size w w' := by
  have hA : Below w.heap.size w (w.alloc (.cells #[.int .i64 s, .slice ad len cap, .int .i64 p] 25)) := (Below.refl _ _).alloc (Nat.le_refl _) _
  have hl' := plc_true hl
  have hmx : len ≤ maxLen := Nat.le_trans h.2.1 h.2.2.1
  obtain ⟨hlen, _, _, hlab⟩ := id h
  obtain ⟨bk, off, rfl, hL0⟩ := hlab (by omega)
  have hL := hL0.below hA
  obtain ⟨W, hW⟩ : ∃ W : World, W = w.alloc (.cells #[.int .i64 s, .slice (some ⟨bk, off, none⟩) len cap, .int .i64 p] 25) := ⟨_, rfl⟩
  have d0 : W.cell? ⟨w.heap.size, 0, none⟩ = some (.int .i64 s) := by rw [hW]; go_simp
  have d1 : W.cell? ⟨w.heap.size, 1, none⟩ = some (.slice (some ⟨bk, off, none⟩) len cap) := by rw [hW]; go_simp
  have d2 : W.cell? ⟨w.heap.size, 2, none⟩ = some (.int .i64 p) := by rw [hW]; go_simp
  have g0 := fun d os => cell_regrown d0 d os
  have g1 := fun d os => cell_regrown d1 d os
  have g2 := fun d os => cell_regrown d2 d os
  rw [← hW] at hA hL
  cases hp : plc place len with
  | false =>
    have e : hid ls l place = false := by unfold hid; rw [hlen, hp]; rfl
    rw [e]
    have cP : ∀ w', Calls Try.prog 23 #[.agg #[.int .i64 s, .slice (some ⟨bk, off, none⟩) len cap, .int .i64 p], .int .i64 place] w' fun e w'' => e = .returned (.bool false) ∧ Below w'.heap.size w' w'' := fun w' => by
      rw [← hp]
      exact isPlace_any _ _ _ _ _ _ _ hmx
    go_enter Try.func25, Try.ntmps25
    go_wp2
    rw [← hW]
    clear hW e hp
    refine wp_region_quiet_below (by kernel_rfl) (by kernel_rfl) ?_
    repeat (go_big_quiet_step ((exact Calls.regrown_of (cP _))))
    refine wpQuiet_nil ?_
    intro _ hw'
    obtain ⟨⟨dq, osq⟩, hw''⟩ := hw'
    subst hw''
    go_wp2
    go_ret
    exact ⟨rfl, hA.trans ((below_regrown W dq osq).mono hA.size)⟩
  | true =>
    have hp' := plc_true hp
    obtain ⟨i, rfl⟩ : ∃ i : Nat, l = i := ⟨l.toNat, by omega⟩
    obtain ⟨j, rfl⟩ : ∃ j : Nat, place = j := ⟨place.toNat, by omega⟩
    have hil : (i : Int) < (len : Int) := by omega
    have hjl : (j : Int) < (len : Int) := by omega
    obtain ⟨x, hx⟩ : ∃ x, x = ls.getD i (0, 0) := ⟨_, rfl⟩
    obtain ⟨y, hy⟩ : ∃ y, y = ls.getD j (0, 0) := ⟨_, rfl⟩
    have ri := hL.2 i (by omega)
    have rj := hL.2 j (by omega)
    rw [← hx] at ri
    rw [← hy] at rj
    obtain ⟨r0, r1⟩ := ri
    obtain ⟨r2, r3⟩ := rj
    have q0 := fun d os => cell_regrown r0 d os
    have q1 := fun d os => cell_regrown r1 d os
    have q2 := fun d os => cell_regrown r2 d os
    have q3 := fun d os => cell_regrown r3 d os
    have e : hid ls i j = !abv x.1 x.2 y.1 y.2 := by
      unfold hid labAtI
      rw [hlen, hp, hx, hy]
      simp
    rw [e]
    have cP : ∀ w', Calls Try.prog 23 #[.agg #[.int .i64 s, .slice (some ⟨bk, off, none⟩) len cap, .int .i64 p], .int .i64 j] w' fun e w'' => e = .returned (.bool true) ∧ Below w'.heap.size w' w'' := fun w' => by
      rw [← hp]
      exact isPlace_any _ _ _ _ _ _ _ hmx
    clear hx hy e hp
    go_enter Try.func25, Try.ntmps25
    go_wp2
    rw [← hW]
    clear hW
    refine wp_region_quiet_below (by kernel_rfl) (by kernel_rfl) ?_
    repeat (go_big_quiet_step ((first | exact Calls.regrown_of (cP _) | exact Calls.regrown_of (above_any _ _ _ _ _))))
    refine wpQuiet_nil ?_
    intro _ hw'
    obtain ⟨⟨dq, osq⟩, hw''⟩ := hw'
    subst hw''
    go_wp2
    go_ret
    exact ⟨rfl, hA.trans ((below_regrown W dq osq).mono hA.size)⟩
end Go.Proofs.Ytppnhcnkcbhbiaa
