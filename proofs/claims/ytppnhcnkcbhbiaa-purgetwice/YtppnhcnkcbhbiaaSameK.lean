/- Contracts of sameInts and sameActs: at the same numbers, at the same acts, they return true and leave what was in memory. -/
import Derived.Test.YtppnhcnkcbhbiaaOwnActs
import Derived.LoopTactic
import Derived.Deep.QuietTactic
import Derived.BigQuiet
namespace Go.Proofs.Ytppnhcnkcbhbiaa
open Go.ChangeShapes Go.WideShapes Go.ChangeAt Go.RowKit
set_option linter.unusedVariables false

set_option maxHeartbeats 1000000 in
theorem sameInts_any (a b : Option Addr) (n cap cap' : Nat) (zs : List Int) (w : World) (h : IsInts w a n cap zs) (h' : IsInts w b n cap' zs) :
    Calls Try.prog 28 #[.slice a n cap, .slice b n cap'] w fun e w' => e = .returned (.bool true) ∧ Below w.heap.size w w' := by
  have hmx : n ≤ maxLen := Nat.le_trans h.2.1 h.2.2.1
  unfold maxLen at hmx
  go_enter Try.func28, Try.ntmps28
  go_wp2
  go_loopw [5] (fun i wr => ∃ k : Nat, k ≤ n ∧ i = .int .i64 k ∧ Below w.heap.size w wr) (fun i _ => n - (intOf i).toNat)
  case atStart => exact ⟨0, Nat.zero_le _, rfl, Below.refl _ _⟩
  case round =>
    obtain ⟨k, hk, rfl, hb⟩ := hrel
    by_cases hlt : k < n
    · have hlt' : (k : Int) < (n : Int) := by omega
      obtain ⟨b1, o1, rfl, _, c1⟩ := (h.below hb).2.2.2.2 (by omega)
      obtain ⟨b2, o2, rfl, _, c2⟩ := (h'.below hb).2.2.2.2 (by omega)
      have e1 := c1 k hlt
      have e2 := c2 k hlt
      obtain ⟨z, hz⟩ : ∃ z, z = zs.getD k 0 := ⟨_, rfl⟩
      rw [← hz] at e1 e2
      clear hz c1 c2
      go_wp2
      go_quiet (fail)
      go_wp2
      go_roundw
      case rel => exact ⟨k + 1, by omega, by go_num, below_drewN hb nq⟩
      case measure => simp [intOf]; omega
    · go_wp2
      go_ret
      exact ⟨rfl, hb⟩

set_option maxHeartbeats 4000000 in
theorem sameActs_any (a b : Option Addr) (n cap cap' : Nat) (xs ys : List AV) (w : World) (h : IsActs w a n cap xs) (h' : IsActs w b n cap' ys) (hs : xs.map AV.bare = ys.map AV.bare) :
    Calls Try.prog 15 #[.slice a n cap, .slice b n cap'] w fun e w' => e = .returned (.bool true) ∧ Below w.heap.size w w' := by
  have hmx : n ≤ maxLen := Nat.le_trans h.2.1 h.2.2.1
  unfold maxLen at hmx
  go_enter Try.func15, Try.ntmps15
  go_wp2
  go_loopw [5] (fun i wr => ∃ k : Nat, k ≤ n ∧ i = .int .i64 k ∧ Below w.heap.size w wr) (fun i _ => n - (intOf i).toNat)
  case atStart => exact ⟨0, Nat.zero_le _, rfl, Below.refl _ _⟩
  case round =>
    obtain ⟨k, hk, rfl, hb⟩ := hrel
    by_cases hlt : k < n
    · have hlt' : (k : Int) < (n : Int) := by omega
      obtain ⟨g1, o1, rfl, t1⟩ := (h.below hb).2.2.2 (by omega)
      obtain ⟨g2, o2, rfl, t2⟩ := (h'.below hb).2.2.2 (by omega)
      have hl1 := h.1
      have hl2 := h'.1
      obtain ⟨p1, q1⟩ := t1.2 k (by omega)
      obtain ⟨p2, q2⟩ := t2.2 k (by omega)
      have hsame : (xs.getD k default).bare = (ys.getD k default).bare := by
        have e := congrArg (fun l : List AV => l[k]?) hs
        simp only [List.getElem?_map] at e
        rw [List.getElem?_eq_getElem (by omega), List.getElem?_eq_getElem (by omega)] at e
        simp at e
        simpa [List.getD, show k < xs.length by omega, show k < ys.length by omega] using e
      obtain ⟨x, ex⟩ : ∃ x, x = xs.getD k default := ⟨_, rfl⟩
      obtain ⟨y, ey⟩ : ∃ y, y = ys.getD k default := ⟨_, rfl⟩
      rw [← ex, ← ey] at hsame
      rw [← ex] at p1 q1
      rw [← ey] at p2 q2
      clear ex ey
      obtain ⟨kind, site, to, label, pick, ka, kl, kc, c0, c1, c2, c3, c4, line, keep⟩ := x
      obtain ⟨kind', site', to', label', pick', ka', kl', kc', c0', c1', c2', c3', c4', line', keep'⟩ := y
      simp [AV.bare] at hsame
      obtain ⟨rfl, rfl, rfl, rfl, rfl, rfl, rfl, rfl, rfl, rfl, rfl, rfl⟩ := hsame
      simp only [] at q1 q2
      obtain rfl : kl = keep.length := q1.1.symm
      obtain rfl : kl' = keep.length := q2.1.symm
      have a0 := p1 0 (by decide)
      have a1 := p1 1 (by decide)
      have a2 := p1 2 (by decide)
      have a3 := p1 3 (by decide)
      have a4 := p1 4 (by decide)
      have a5 := p1 5 (by decide)
      have a6 := p1 6 (by decide)
      have a7 := p1 7 (by decide)
      have a8 := p1 8 (by decide)
      have a9 := p1 9 (by decide)
      have a10 := p1 10 (by decide)
      have a11 := p1 11 (by decide)
      have b0 := p2 0 (by decide)
      have b1 := p2 1 (by decide)
      have b2 := p2 2 (by decide)
      have b3 := p2 3 (by decide)
      have b4 := p2 4 (by decide)
      have b5 := p2 5 (by decide)
      have b6 := p2 6 (by decide)
      have b7 := p2 7 (by decide)
      have b8 := p2 8 (by decide)
      have b9 := p2 9 (by decide)
      have b10 := p2 10 (by decide)
      have b11 := p2 11 (by decide)
      simp [AV.cells] at a0 a1 a2 a3 a4 a5 a6 a7 a8 a9 a10 a11 b0 b1 b2 b3 b4 b5 b6 b7 b8 b9 b10 b11
      clear p1 p2 t1 t2
      have hz1 : g1 < wr.heap.size := World.block_lt_of_cell? wr _ a0
      have hz2 : g2 < wr.heap.size := World.block_lt_of_cell? wr _ b0
      go_wp2_with (go_at_call 28; refine (sameInts_any _ _ _ _ _ keep _ (q1.below (((Below.refl _ _).alloc (Nat.le_refl _) _).alloc (by simp) _)) (q2.below (((Below.refl _ _).alloc (Nat.le_refl _) _).alloc (by simp) _))).mono ?_; rintro e w3 ⟨rfl, hb3⟩)
      go_roundw
      case rel => exact ⟨k + 1, by omega, by go_num, hb.trans ((((Below.refl _ _).alloc hb.size _).alloc (by have := hb.size; simp; omega) _).trans (hb3.mono (by have := hb.size; simp; omega)))⟩
      case measure => simp [intOf]; omega
    · go_wp2
      go_ret
      exact ⟨rfl, hb⟩
end Go.Proofs.Ytppnhcnkcbhbiaa
