/- Texts of this claim, one behind the other. -/
import Derived.Test.YtfloplkepmpaiaaDoorM17TapeKeeps
import Derived.Test.YtfloplkepmpaiaaDoorM3TapeKeeps
import Derived.Test.YtfloplkepmpaiaaDoorM11TapeKeeps
import Derived.Test.YtfloplkepmpaiaaDoorM15TapeKeeps
import Derived.LoopTactic
import Derived.Deep.QuietTactic
import Derived.BigQuiet
import Derived.Test.YtfloplkepmpaiaaDoorM16TapeKeeps
import Derived.Lib.QuietBelow
/- The contract of tape.Recover at what is no tape. -/
namespace Go.Proofs.YtfloplkepmpaiaaDoor
open Go.ChangeShapes Go.WideShapes Go.ChangeAt Go.RowKit
set_option linter.unusedVariables false

set_option maxHeartbeats 2000000 in
theorem recover_state (S P : Int) (ad : Option Addr) (n cp0 : Nat) (ta : Option Addr) (tl tc : Nat) (y : Int) (w : World) (hl : tl ≤ 9223372036854775807) (hmy : mayT tl y = false) :
    Calls Tryd.prog 18 #[.agg #[.int .i64 S, .slice ad n cp0, .int .i64 P], .agg #[.slice ta tl tc, .int .i64 y]] w fun e w' => e = .returned (.tuple #[.slice none 0 0, .agg #[.slice none 0 0, .int .i64 0], .int .i64 9]) ∧ Below w.heap.size w w' := by
  obtain ⟨W, hW⟩ : ∃ W : World, W = ((w.alloc (.cells #[.int .i64 S, .slice ad n cp0, .int .i64 P] 27)).alloc (.cells #[.slice ta tl tc, .int .i64 y] 46)).alloc (.cells #[.slice none 0 0, .int .i64 0] 46) := ⟨_, rfl⟩
  have hB : Below w.heap.size w W := by rw [hW]; exact (((Below.refl _ _).alloc (Nat.le_refl _) _).alloc (by simp) _).alloc (by simp; omega) _
  have zW : W.heap.size = w.heap.size + 3 := by rw [hW]; simp
  have d0 : W.cell? ⟨w.heap.size, 0, none⟩ = some (.int .i64 S) := by rw [hW]; go_simp
  have d1 : W.cell? ⟨w.heap.size, 1, none⟩ = some (.slice ad n cp0) := by rw [hW]; go_simp
  have d2 : W.cell? ⟨w.heap.size, 2, none⟩ = some (.int .i64 P) := by rw [hW]; go_simp
  have d3 : W.cell? ⟨w.heap.size + 1, 0, none⟩ = some (.slice ta tl tc) := by rw [hW]; go_simp
  have d4 : W.cell? ⟨w.heap.size + 1, 1, none⟩ = some (.int .i64 y) := by rw [hW]; go_simp
  have d5 : W.cell? ⟨w.heap.size + 2, 0, none⟩ = some (.slice none 0 0) := by rw [hW]; go_simp
  have d6 : W.cell? ⟨w.heap.size + 2, 1, none⟩ = some (.int .i64 0) := by rw [hW]; go_simp
  have f0 : W.frozen? ⟨w.heap.size + 2, 0, none⟩ = false := by rw [hW]; go_simp
  have f1 : W.frozen? ⟨w.heap.size + 2, 1, none⟩ = false := by rw [hW]; go_simp
  have z0 : w.heap.size < W.heap.size := by omega
  have z1 : w.heap.size + 1 < W.heap.size := by omega
  have z2 : w.heap.size + 2 < W.heap.size := by omega
  clear zW
  have KC : Hid (∀ V : World, Below W.heap.size W V → (V.cell? ⟨w.heap.size, 0, none⟩ = some (.int .i64 S) ∧ V.cell? ⟨w.heap.size, 1, none⟩ = some (.slice ad n cp0) ∧ V.cell? ⟨w.heap.size, 2, none⟩ = some (.int .i64 P) ∧ V.cell? ⟨w.heap.size + 1, 0, none⟩ = some (.slice ta tl tc) ∧ V.cell? ⟨w.heap.size + 1, 1, none⟩ = some (.int .i64 y) ∧ V.cell? ⟨w.heap.size + 2, 0, none⟩ = some (.slice none 0 0) ∧ V.cell? ⟨w.heap.size + 2, 1, none⟩ = some (.int .i64 0)) ∧ V.frozen? ⟨w.heap.size + 2, 0, none⟩ = false ∧ V.frozen? ⟨w.heap.size + 2, 1, none⟩ = false) := fun V hV =>
    ⟨⟨(hV.cell (p := ⟨w.heap.size, 0, none⟩) z0).trans d0, (hV.cell (p := ⟨w.heap.size, 1, none⟩) z0).trans d1, (hV.cell (p := ⟨w.heap.size, 2, none⟩) z0).trans d2, (hV.cell (p := ⟨w.heap.size + 1, 0, none⟩) z1).trans d3, (hV.cell (p := ⟨w.heap.size + 1, 1, none⟩) z1).trans d4, (hV.cell (p := ⟨w.heap.size + 2, 0, none⟩) z2).trans d5, (hV.cell (p := ⟨w.heap.size + 2, 1, none⟩) z2).trans d6⟩, (hV.frozen (p := ⟨w.heap.size + 2, 0, none⟩) z2).trans f0, (hV.frozen (p := ⟨w.heap.size + 2, 1, none⟩) z2).trans f1⟩
  go_enter Tryd.func18, Tryd.ntmps18
  go_upto_region 1 with (fail)
  rw [← hW]
  clear hW
  go_upto_region 2 with (go_at_call 31; refine (mayBe_any _ _ _ _ _ hl).mono ?_; rintro e w1 ⟨rfl, hb1⟩; rw [hmy])
  clear d0 d1 d2 d3 d4 d5 d6 f0 f1
  obtain ⟨⟨d0, d1, d2, d3, d4, d5, d6⟩, f0, f1⟩ := KC.out _ hb1
  have hw1 := hB.trans (hb1.mono hB.size)
  go_wp2
  refine bodyPost_ret (v := .tuple #[.slice none 0 0, .agg #[.slice none 0 0, .int .i64 0], .int .i64 9]) (by simp [results, Tryd.results18, go_sem, d5, d6]) rfl ⟨rfl, ?_⟩
  exact (hw1.setCell (p := ⟨w.heap.size + 1 + 1, 0, none⟩) (by show w.heap.size ≤ w.heap.size + 1 + 1; omega) _).setCell (p := ⟨w.heap.size + 1 + 1, 1, none⟩) (by show w.heap.size ≤ w.heap.size + 1 + 1; omega) _
end Go.Proofs.YtfloplkepmpaiaaDoor
/- Contracts of sameInts and sameRecord: at the same numbers, at the same record, they return true and leave what was in memory. -/
namespace Go.Proofs.YtfloplkepmpaiaaDoor
open Go.ChangeShapes Go.WideShapes Go.ChangeAt Go.RowKit
set_option linter.unusedVariables false

set_option maxHeartbeats 1000000 in
theorem sameInts_rec (a b : Option Addr) (n cap cap' : Nat) (zs : List Int) (w : World) (h : IsInts w a n cap zs) (h' : IsInts w b n cap' zs) :
    Calls Tryd.prog 35 #[.slice a n cap, .slice b n cap'] w fun e w' => e = .returned (.bool true) ∧ Below w.heap.size w w' := by
  have hmx : n ≤ maxLen := Nat.le_trans h.2.1 h.2.2.1
  unfold maxLen at hmx
  go_enter Tryd.func35, Tryd.ntmps35
  go_wp2
  go_loopw [5] (fun i wr => ∃ k : Nat, k ≤ n ∧ i = .int .i64 k ∧ Below w.heap.size w wr) (fun i _ => n - (intOf i).toNat)
  case atStart => exact ⟨0, Nat.zero_le _, rfl, Below.refl _ _⟩
  case round =>
    obtain ⟨k, hk, rfl, hb⟩ := hrel
    by_cases hlt : k < n
    · have hlt' : (k : Int) < (n : Int) := by omega
      obtain ⟨b1, o1, rfl, _, c1⟩ := (h.below hb).2.2.2.2 (by omega)
      obtain ⟨b2, o2, rfl, _, c2⟩ := (h'.below hb).2.2.2.2 (by omega)
      have e1 := c1 k hlt
      have e2 := c2 k hlt
      obtain ⟨z, hz⟩ : ∃ z, z = zs.getD k 0 := ⟨_, rfl⟩
      rw [← hz] at e1 e2
      clear hz c1 c2
      go_wp2
      go_quiet (fail)
      go_wp2
      go_roundw
      case rel => exact ⟨k + 1, by omega, by go_num, below_drewN hb nq⟩
      case measure => simp [intOf]; omega
    · go_wp2
      go_ret
      exact ⟨rfl, hb⟩

set_option maxRecDepth 100000 in
set_option maxHeartbeats 4000000 in
theorem sameRecord_any (kind site num key value ask : Int) (yes : Bool) (sa sa' : Option Addr) (sl sc sc' : Nat) (zs : List Int) (w : World) (h : IsInts w sa sl sc zs) (h' : IsInts w sa' sl sc' zs) :
    Calls Tryd.prog 21 #[.agg #[.int .i64 kind, .int .i64 site, .int .i64 num, .int .i64 key, .int .i64 value, .int .i64 ask, .bool yes, .slice sa sl sc], .agg #[.int .i64 kind, .int .i64 site, .int .i64 num, .int .i64 key, .int .i64 value, .int .i64 ask, .bool yes, .slice sa' sl sc']] w fun e w' => e = .returned (.bool true) ∧ Below w.heap.size w w' := by
  obtain ⟨W, hW⟩ : ∃ W : World, W = (w.alloc (.cells #[.int .i64 kind, .int .i64 site, .int .i64 num, .int .i64 key, .int .i64 value, .int .i64 ask, .bool yes, .slice sa sl sc] 53)).alloc (.cells #[.int .i64 kind, .int .i64 site, .int .i64 num, .int .i64 key, .int .i64 value, .int .i64 ask, .bool yes, .slice sa' sl sc'] 53) := ⟨_, rfl⟩
  have hB : Below w.heap.size w W := by rw [hW]; exact ((Below.refl _ _).alloc (Nat.le_refl _) _).alloc (by simp) _
  have bx1 : BoxN W w.heap.size 8 [.int .i64 kind, .int .i64 site, .int .i64 num, .int .i64 key, .int .i64 value, .int .i64 ask, .bool yes, .slice sa sl sc] := by
    rw [hW]
    exact (boxn_new w #[.int .i64 kind, .int .i64 site, .int .i64 num, .int .i64 key, .int .i64 value, .int .i64 ask, .bool yes, .slice sa sl sc] 53 8 rfl).below ((Below.refl _ _).alloc (Nat.le_refl _) _) (by simp)
  have bx2 : BoxN W (w.heap.size + 1) 8 [.int .i64 kind, .int .i64 site, .int .i64 num, .int .i64 key, .int .i64 value, .int .i64 ask, .bool yes, .slice sa' sl sc'] := by
    rw [hW]
    simpa using boxn_new (w.alloc (.cells #[.int .i64 kind, .int .i64 site, .int .i64 num, .int .i64 key, .int .i64 value, .int .i64 ask, .bool yes, .slice sa sl sc] 53)) #[.int .i64 kind, .int .i64 site, .int .i64 num, .int .i64 key, .int .i64 value, .int .i64 ask, .bool yes, .slice sa' sl sc'] 53 8 rfl
  have hS := sameInts_rec sa sa' sl sc sc' zs W (h.below hB) (h'.below hB)
  have a0 : W.cell? ⟨w.heap.size, 0, none⟩ = some (.int .i64 kind) := (bx1.c 0 (by omega)).1
  have a1 : W.cell? ⟨w.heap.size, 1, none⟩ = some (.int .i64 site) := (bx1.c 1 (by omega)).1
  have a2 : W.cell? ⟨w.heap.size, 2, none⟩ = some (.int .i64 num) := (bx1.c 2 (by omega)).1
  have a3 : W.cell? ⟨w.heap.size, 3, none⟩ = some (.int .i64 key) := (bx1.c 3 (by omega)).1
  have a4 : W.cell? ⟨w.heap.size, 4, none⟩ = some (.int .i64 value) := (bx1.c 4 (by omega)).1
  have a5 : W.cell? ⟨w.heap.size, 5, none⟩ = some (.int .i64 ask) := (bx1.c 5 (by omega)).1
  have a6 : W.cell? ⟨w.heap.size, 6, none⟩ = some (.bool yes) := (bx1.c 6 (by omega)).1
  have a7 : W.cell? ⟨w.heap.size, 7, none⟩ = some (.slice sa sl sc) := (bx1.c 7 (by omega)).1
  have b0 : W.cell? ⟨w.heap.size + 1, 0, none⟩ = some (.int .i64 kind) := (bx2.c 0 (by omega)).1
  have b1 : W.cell? ⟨w.heap.size + 1, 1, none⟩ = some (.int .i64 site) := (bx2.c 1 (by omega)).1
  have b2 : W.cell? ⟨w.heap.size + 1, 2, none⟩ = some (.int .i64 num) := (bx2.c 2 (by omega)).1
  have b3 : W.cell? ⟨w.heap.size + 1, 3, none⟩ = some (.int .i64 key) := (bx2.c 3 (by omega)).1
  have b4 : W.cell? ⟨w.heap.size + 1, 4, none⟩ = some (.int .i64 value) := (bx2.c 4 (by omega)).1
  have b5 : W.cell? ⟨w.heap.size + 1, 5, none⟩ = some (.int .i64 ask) := (bx2.c 5 (by omega)).1
  have b6 : W.cell? ⟨w.heap.size + 1, 6, none⟩ = some (.bool yes) := (bx2.c 6 (by omega)).1
  have b7 : W.cell? ⟨w.heap.size + 1, 7, none⟩ = some (.slice sa' sl sc') := (bx2.c 7 (by omega)).1
  clear bx1 bx2
  go_enter Tryd.func21, Tryd.ntmps21
  go_upto_region 1 with (fail)
  rw [← hW]
  clear hW
  go_wp2_with (go_at_call 35; refine hS.mono ?_; rintro e u ⟨rfl, hbu⟩)
  go_ret
  exact ⟨rfl, hB.trans (hbu.mono hB.size)⟩
end Go.Proofs.YtfloplkepmpaiaaDoor
/- The contract of reredoskeep.begins: where the one list's records are the first ones of the other's, it returns true. -/
namespace Go.Proofs.YtfloplkepmpaiaaDoor
open Go.ChangeShapes Go.WideShapes Go.ChangeAt Go.RowKit
set_option linter.unusedVariables false

/-- A record's numbers, wherever its sites lie. -/
def RcV.bare (r : RcV) : RcV := { r with sa := none, sc := 0 }

set_option maxRecDepth 100000 in
set_option maxHeartbeats 4000000 in
theorem begins_any (a b : Option Addr) (n m cap cap' : Nat) (xs ys : List RcV) (w : World) (h : IsRecs w a n cap xs) (h' : IsRecs w b m cap' ys) (hnm : n ≤ m) (hs : ∀ i, i < n → (xs.getD i default).bare = (ys.getD i default).bare) :
    Calls Tryd.prog 19 #[.slice a n cap, .slice b m cap'] w fun e w' => e = .returned (.bool true) ∧ Below w.heap.size w w' := by
  have hmx : m ≤ maxLen := Nat.le_trans h'.2.1 h'.2.2.1
  unfold maxLen at hmx
  have hnm' : (n : Int) ≤ (m : Int) := by omega
  have hnm2 : ¬ (m : Int) < (n : Int) := by omega
  go_enter Tryd.func19, Tryd.ntmps19
  go_wp2
  go_loopw [5] (fun i wr => ∃ k : Nat, k ≤ n ∧ i = .int .i64 k ∧ Below w.heap.size w wr) (fun i _ => n - (intOf i).toNat)
  case atStart => exact ⟨0, Nat.zero_le _, rfl, Below.refl _ _⟩
  case round =>
    obtain ⟨k, hk, rfl, hb⟩ := hrel
    by_cases hlt : k < n
    · have hlt' : (k : Int) < (n : Int) := by omega
      have hltm' : (k : Int) < (m : Int) := by omega
      have hr := h.below hb
      have hr' := h'.below hb
      have hsame := hs k hlt
      obtain ⟨g1, o1, rfl, z1, t1⟩ := hr.2.2.2.2 (by omega)
      obtain ⟨g2, o2, rfl, z2, t2⟩ := hr'.2.2.2.2 (by omega)
      have p1 := t1 k hlt
      have p2 := t2 k (by omega)
      have q1 := hr.2.2.2.1 (xs.getD k default) (by have := h.1; simp [List.getD, show k < xs.length by omega])
      have q2 := hr'.2.2.2.1 (ys.getD k default) (by have := h'.1; simp [List.getD, show k < ys.length by omega])
      obtain ⟨x, ex⟩ : ∃ x, x = xs.getD k default := ⟨_, rfl⟩
      obtain ⟨y, ey⟩ : ∃ y, y = ys.getD k default := ⟨_, rfl⟩
      rw [← ex, ← ey] at hsame
      rw [← ex] at p1 q1
      rw [← ey] at p2 q2
      clear ex ey t1 t2 hs
      obtain ⟨kind, site, num, key, value, ask, yes, sa, sl, sc, sites⟩ := x
      obtain ⟨kind', site', num', key', value', ask', yes', sa', sl', sc', sites'⟩ := y
      simp [RcV.bare] at hsame
      obtain ⟨rfl, rfl, rfl, rfl, rfl, rfl, rfl, rfl, rfl⟩ := hsame
      simp only [] at q1 q2
      have a0 := p1 0 (by decide)
      have a1 := p1 1 (by decide)
      have a2 := p1 2 (by decide)
      have a3 := p1 3 (by decide)
      have a4 := p1 4 (by decide)
      have a5 := p1 5 (by decide)
      have a6 := p1 6 (by decide)
      have a7 := p1 7 (by decide)
      have b0 := p2 0 (by decide)
      have b1 := p2 1 (by decide)
      have b2 := p2 2 (by decide)
      have b3 := p2 3 (by decide)
      have b4 := p2 4 (by decide)
      have b5 := p2 5 (by decide)
      have b6 := p2 6 (by decide)
      have b7 := p2 7 (by decide)
      simp [RcV.cells] at a0 a1 a2 a3 a4 a5 a6 a7 b0 b1 b2 b3 b4 b5 b6 b7
      clear p1 p2
      have ca0 := fun d os => cell_regrown a0 d os
      have ca1 := fun d os => cell_regrown a1 d os
      have ca2 := fun d os => cell_regrown a2 d os
      have ca3 := fun d os => cell_regrown a3 d os
      have ca4 := fun d os => cell_regrown a4 d os
      have ca5 := fun d os => cell_regrown a5 d os
      have ca6 := fun d os => cell_regrown a6 d os
      have ca7 := fun d os => cell_regrown a7 d os
      have cb0 := fun d os => cell_regrown b0 d os
      have cb1 := fun d os => cell_regrown b1 d os
      have cb2 := fun d os => cell_regrown b2 d os
      have cb3 := fun d os => cell_regrown b3 d os
      have cb4 := fun d os => cell_regrown b4 d os
      have cb5 := fun d os => cell_regrown b5 d os
      have cb6 := fun d os => cell_regrown b6 d os
      have cb7 := fun d os => cell_regrown b7 d os
      have hSm := fun w' h1 h2 => sameRecord_any kind site num key value ask yes sa sa' sl sc sc' sites w' h1 h2
      go_upto_region 6 with (fail)
      refine wp_region_quiet_below (by kernel_rfl) (by kernel_rfl) ?_
      repeat (go_big_quiet_step ((exact Calls.regrown_of (hSm _ (q1.below (below_regrown _ _ _)) (q2.below (below_regrown _ _ _))))))
      refine wpQuiet_nil ?_
      intro _ hw'
      obtain ⟨⟨dq, osq⟩, hw''⟩ := hw'
      subst hw''
      go_wp2
      go_roundw
      case rel => exact ⟨k + 1, by omega, by go_num, hb.trans ((below_regrown wr dq osq).mono hb.size)⟩
      case measure => simp [intOf]; omega
    · go_wp2
      go_ret
      exact ⟨rfl, hb⟩
end Go.Proofs.YtfloplkepmpaiaaDoor
