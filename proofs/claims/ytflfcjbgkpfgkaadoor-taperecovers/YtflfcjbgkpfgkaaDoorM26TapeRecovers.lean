/- Texts of this claim, one behind the other. -/
import Derived.Test.YtflfcjbgkpfgkaaDoorM7TapeRecovers
import Derived.Test.YtflfcjbgkpfgkaaDoorM21TapeRecovers
import Derived.Test.YtflfcjbgkpfgkaaDoorM25TapeRecovers
import Derived.Lib.QuietBelow
import Derived.Test.YtflfcjbgkpfgkaaDoorM4TapeRecovers
import Derived.Deep.RegionHeld3
import Derived.Deep.Cut
import Derived.WalkSmall
/- Recover and TapeRecovered where they refuse; the contract of sameRecords. -/
namespace Go.Proofs.YtflfcjbgkpfgkaaDoor
open Go.ChangeShapes Go.WideShapes Go.ChangeAt Go.RowKit
set_option linter.unusedVariables false

set_option maxRecDepth 100000 in
set_option maxHeartbeats 2000000 in
theorem recover_cfg (S P : Int) (ad : Option Addr) (n cp0 : Nat) (L : List (Int × Int)) (ta : Option Addr) (tl tc : Nat) (y : Int) (w : World) (h : IsLabs w ad n cp0 L) (hl : tl ≤ 9223372036854775807) (hmy : mayT tl y = true) (hcf : cfgFault S L P ≠ 0) :
    Calls Tryd.prog 10 #[.agg #[.int .i64 S, .slice ad n cp0, .int .i64 P], .agg #[.slice ta tl tc, .int .i64 y]] w fun e w' => e = .returned (.tuple #[.slice none 0 0, .agg #[.slice none 0 0, .int .i64 0], .int .i64 (cfgFault S L P)]) ∧ Below w.heap.size w w' := by
  have hCk := fun w' h1 => check_any S P ad n cp0 L w' h1
  obtain ⟨E, eE⟩ : ∃ x, x = cfgFault S L P := ⟨_, rfl⟩
  rw [← eE] at hcf hCk ⊢
  clear eE
  obtain ⟨W, hW⟩ : ∃ W : World, W = ((w.alloc (.cells #[.int .i64 S, .slice ad n cp0, .int .i64 P] 24)).alloc (.cells #[.slice ta tl tc, .int .i64 y] 36)).alloc (.cells #[.slice none 0 0, .int .i64 0] 36) := ⟨_, rfl⟩
  have hA : Below w.heap.size w W := by rw [hW]; exact (((Below.refl _ _).alloc (Nat.le_refl _) _).alloc (by simp) _).alloc (by simp; omega) _
  have zW : W.heap.size = w.heap.size + 3 := by rw [hW]; simp
  have d0 : W.cell? ⟨w.heap.size, 0, none⟩ = some (.int .i64 S) := by rw [hW]; go_simp
  have d1 : W.cell? ⟨w.heap.size, 1, none⟩ = some (.slice ad n cp0) := by rw [hW]; go_simp
  have d2 : W.cell? ⟨w.heap.size, 2, none⟩ = some (.int .i64 P) := by rw [hW]; go_simp
  have d3 : W.cell? ⟨w.heap.size + 1, 0, none⟩ = some (.slice ta tl tc) := by rw [hW]; go_simp
  have d4 : W.cell? ⟨w.heap.size + 1, 1, none⟩ = some (.int .i64 y) := by rw [hW]; go_simp
  have d5 : W.cell? ⟨w.heap.size + 2, 0, none⟩ = some (.slice none 0 0) := by rw [hW]; go_simp
  have d6 : W.cell? ⟨w.heap.size + 2, 1, none⟩ = some (.int .i64 0) := by rw [hW]; go_simp
  have f5 : W.frozen? ⟨w.heap.size + 2, 0, none⟩ = false := by rw [hW]; go_simp
  have f6 : W.frozen? ⟨w.heap.size + 2, 1, none⟩ = false := by rw [hW]; go_simp
  have z0 : w.heap.size < W.heap.size := by omega
  have z1 : w.heap.size + 1 < W.heap.size := by omega
  have z2 : w.heap.size + 2 < W.heap.size := by omega
  clear zW
  have KC : Hid (∀ V : World, Below W.heap.size W V → (V.cell? ⟨w.heap.size, 0, none⟩ = some (.int .i64 S) ∧ V.cell? ⟨w.heap.size, 1, none⟩ = some (.slice ad n cp0) ∧ V.cell? ⟨w.heap.size, 2, none⟩ = some (.int .i64 P) ∧ V.cell? ⟨w.heap.size + 1, 0, none⟩ = some (.slice ta tl tc) ∧ V.cell? ⟨w.heap.size + 1, 1, none⟩ = some (.int .i64 y) ∧ V.cell? ⟨w.heap.size + 2, 0, none⟩ = some (.slice none 0 0) ∧ V.cell? ⟨w.heap.size + 2, 1, none⟩ = some (.int .i64 0)) ∧ V.frozen? ⟨w.heap.size + 2, 0, none⟩ = false ∧ V.frozen? ⟨w.heap.size + 2, 1, none⟩ = false) := fun V hV =>
    ⟨⟨(hV.cell (p := ⟨w.heap.size, 0, none⟩) z0).trans d0, (hV.cell (p := ⟨w.heap.size, 1, none⟩) z0).trans d1, (hV.cell (p := ⟨w.heap.size, 2, none⟩) z0).trans d2, (hV.cell (p := ⟨w.heap.size + 1, 0, none⟩) z1).trans d3, (hV.cell (p := ⟨w.heap.size + 1, 1, none⟩) z1).trans d4, (hV.cell (p := ⟨w.heap.size + 2, 0, none⟩) z2).trans d5, (hV.cell (p := ⟨w.heap.size + 2, 1, none⟩) z2).trans d6⟩, (hV.frozen (p := ⟨w.heap.size + 2, 0, none⟩) z2).trans f5, (hV.frozen (p := ⟨w.heap.size + 2, 1, none⟩) z2).trans f6⟩
  go_enter Tryd.func10, Tryd.ntmps10
  go_upto_region 1 with (fail)
  rw [← hW]
  clear hW
  go_upto_region 3 with (go_at_call 33; refine (mayBe_any _ _ _ _ _ hl).mono ?_; rintro e w1 ⟨rfl, hb1⟩; rw [hmy])
  clear d0 d1 d2 d3 d4 d5 d6 f5 f6
  obtain ⟨⟨d0, d1, d2, d3, d4, d5, d6⟩, f5, f6⟩ := KC.out _ hb1
  have hL1 := h.below (hA.trans (hb1.mono hA.size))
  go_upto_region 5 with (go_at_call 23; refine (hCk _ hL1).mono ?_; rintro e w2 ⟨rfl, hb2'⟩; have hb2 : Below W.heap.size W w2 := hb1.trans (hb2'.mono hb1.size))
  clear d0 d1 d2 d3 d4 d5 d6 f5 f6
  obtain ⟨⟨d0, d1, d2, d3, d4, d5, d6⟩, f5, f6⟩ := KC.out _ hb2
  have hw1 := hA.trans (hb2.mono hA.size)
  have zq : w.heap.size + 2 < w2.heap.size := Nat.lt_of_lt_of_le z2 hb2.size
  go_wp2
  refine bodyPost_ret (v := .tuple #[.slice none 0 0, .agg #[.slice none 0 0, .int .i64 0], .int .i64 E]) (by simp [results, Tryd.results10, go_sem, d5, d6]) rfl ⟨rfl, ?_⟩
  exact (hw1.setCell (p := ⟨w.heap.size + 1 + 1, 0, none⟩) (by show w.heap.size ≤ w.heap.size + 1 + 1; omega) _).setCell (p := ⟨w.heap.size + 1 + 1, 1, none⟩) (by show w.heap.size ≤ w.heap.size + 1 + 1; omega) _

set_option maxRecDepth 100000 in
set_option maxHeartbeats 2000000 in
theorem recovered_state (S P : Int) (ad : Option Addr) (n cp0 : Nat) (L : List (Int × Int)) (ta : Option Addr) (tl tc : Nat) (y : Int) (w : World) (h : IsLabs w ad n cp0 L) (hl : tl ≤ 9223372036854775807) (hmy : mayT tl y = false) :
    Calls Tryd.prog 11 #[.agg #[.int .i64 S, .slice ad n cp0, .int .i64 P], .agg #[.slice ta tl tc, .int .i64 y]] w fun e w' => e = .returned (.tuple #[.slice none 0 0, .agg #[.slice none 0 0, .int .i64 0], .int .i64 9]) ∧ Below w.heap.size w w' := by
  obtain ⟨W, hW⟩ : ∃ W : World, W = ((w.alloc (.cells #[.int .i64 S, .slice ad n cp0, .int .i64 P] 24)).alloc (.cells #[.slice ta tl tc, .int .i64 y] 36)).alloc (.cells #[.slice none 0 0, .int .i64 0] 36) := ⟨_, rfl⟩
  have hA : Below w.heap.size w W := by rw [hW]; exact (((Below.refl _ _).alloc (Nat.le_refl _) _).alloc (by simp) _).alloc (by simp; omega) _
  have zW : W.heap.size = w.heap.size + 3 := by rw [hW]; simp
  have d0 : W.cell? ⟨w.heap.size, 0, none⟩ = some (.int .i64 S) := by rw [hW]; go_simp
  have d1 : W.cell? ⟨w.heap.size, 1, none⟩ = some (.slice ad n cp0) := by rw [hW]; go_simp
  have d2 : W.cell? ⟨w.heap.size, 2, none⟩ = some (.int .i64 P) := by rw [hW]; go_simp
  have d3 : W.cell? ⟨w.heap.size + 1, 0, none⟩ = some (.slice ta tl tc) := by rw [hW]; go_simp
  have d4 : W.cell? ⟨w.heap.size + 1, 1, none⟩ = some (.int .i64 y) := by rw [hW]; go_simp
  have d5 : W.cell? ⟨w.heap.size + 2, 0, none⟩ = some (.slice none 0 0) := by rw [hW]; go_simp
  have d6 : W.cell? ⟨w.heap.size + 2, 1, none⟩ = some (.int .i64 0) := by rw [hW]; go_simp
  have f5 : W.frozen? ⟨w.heap.size + 2, 0, none⟩ = false := by rw [hW]; go_simp
  have f6 : W.frozen? ⟨w.heap.size + 2, 1, none⟩ = false := by rw [hW]; go_simp
  have z0 : w.heap.size < W.heap.size := by omega
  have z1 : w.heap.size + 1 < W.heap.size := by omega
  have z2 : w.heap.size + 2 < W.heap.size := by omega
  clear zW
  have KC : Hid (∀ V : World, Below W.heap.size W V → (V.cell? ⟨w.heap.size, 0, none⟩ = some (.int .i64 S) ∧ V.cell? ⟨w.heap.size, 1, none⟩ = some (.slice ad n cp0) ∧ V.cell? ⟨w.heap.size, 2, none⟩ = some (.int .i64 P) ∧ V.cell? ⟨w.heap.size + 1, 0, none⟩ = some (.slice ta tl tc) ∧ V.cell? ⟨w.heap.size + 1, 1, none⟩ = some (.int .i64 y) ∧ V.cell? ⟨w.heap.size + 2, 0, none⟩ = some (.slice none 0 0) ∧ V.cell? ⟨w.heap.size + 2, 1, none⟩ = some (.int .i64 0)) ∧ V.frozen? ⟨w.heap.size + 2, 0, none⟩ = false ∧ V.frozen? ⟨w.heap.size + 2, 1, none⟩ = false) := fun V hV =>
    ⟨⟨(hV.cell (p := ⟨w.heap.size, 0, none⟩) z0).trans d0, (hV.cell (p := ⟨w.heap.size, 1, none⟩) z0).trans d1, (hV.cell (p := ⟨w.heap.size, 2, none⟩) z0).trans d2, (hV.cell (p := ⟨w.heap.size + 1, 0, none⟩) z1).trans d3, (hV.cell (p := ⟨w.heap.size + 1, 1, none⟩) z1).trans d4, (hV.cell (p := ⟨w.heap.size + 2, 0, none⟩) z2).trans d5, (hV.cell (p := ⟨w.heap.size + 2, 1, none⟩) z2).trans d6⟩, (hV.frozen (p := ⟨w.heap.size + 2, 0, none⟩) z2).trans f5, (hV.frozen (p := ⟨w.heap.size + 2, 1, none⟩) z2).trans f6⟩
  go_enter Tryd.func11, Tryd.ntmps11
  go_upto_region 1 with (fail)
  rw [← hW]
  clear hW
  go_upto_region 2 with (go_at_call 36; refine (tapeMay_any _ _ _ _ _ hl).mono ?_; rintro e w1 ⟨rfl, hb1⟩; rw [hmy])
  clear d0 d1 d2 d3 d4 d5 d6 f5 f6
  obtain ⟨⟨d0, d1, d2, d3, d4, d5, d6⟩, f5, f6⟩ := KC.out _ hb1
  have hw1 := hA.trans (hb1.mono hA.size)
  have zq : w.heap.size + 2 < w1.heap.size := Nat.lt_of_lt_of_le z2 hb1.size
  go_wp2
  refine bodyPost_ret (v := .tuple #[.slice none 0 0, .agg #[.slice none 0 0, .int .i64 0], .int .i64 9]) (by simp [results, Tryd.results11, go_sem, d5, d6]) rfl ⟨rfl, ?_⟩
  exact (hw1.setCell (p := ⟨w.heap.size + 1 + 1, 0, none⟩) (by show w.heap.size ≤ w.heap.size + 1 + 1; omega) _).setCell (p := ⟨w.heap.size + 1 + 1, 1, none⟩) (by show w.heap.size ≤ w.heap.size + 1 + 1; omega) _

set_option maxRecDepth 100000 in
set_option maxHeartbeats 2000000 in
theorem recovered_cfg (S P : Int) (ad : Option Addr) (n cp0 : Nat) (L : List (Int × Int)) (ta : Option Addr) (tl tc : Nat) (y : Int) (w : World) (h : IsLabs w ad n cp0 L) (hl : tl ≤ 9223372036854775807) (hmy : mayT tl y = true) (hcf : cfgFault S L P ≠ 0) :
    Calls Tryd.prog 11 #[.agg #[.int .i64 S, .slice ad n cp0, .int .i64 P], .agg #[.slice ta tl tc, .int .i64 y]] w fun e w' => e = .returned (.tuple #[.slice none 0 0, .agg #[.slice none 0 0, .int .i64 0], .int .i64 (cfgFault S L P)]) ∧ Below w.heap.size w w' := by
  have hCk := fun w' h1 => fault_any S P ad n cp0 L w' h1
  obtain ⟨E, eE⟩ : ∃ x, x = cfgFault S L P := ⟨_, rfl⟩
  rw [← eE] at hcf hCk ⊢
  clear eE
  obtain ⟨W, hW⟩ : ∃ W : World, W = ((w.alloc (.cells #[.int .i64 S, .slice ad n cp0, .int .i64 P] 24)).alloc (.cells #[.slice ta tl tc, .int .i64 y] 36)).alloc (.cells #[.slice none 0 0, .int .i64 0] 36) := ⟨_, rfl⟩
  have hA : Below w.heap.size w W := by rw [hW]; exact (((Below.refl _ _).alloc (Nat.le_refl _) _).alloc (by simp) _).alloc (by simp; omega) _
  have zW : W.heap.size = w.heap.size + 3 := by rw [hW]; simp
  have d0 : W.cell? ⟨w.heap.size, 0, none⟩ = some (.int .i64 S) := by rw [hW]; go_simp
  have d1 : W.cell? ⟨w.heap.size, 1, none⟩ = some (.slice ad n cp0) := by rw [hW]; go_simp
  have d2 : W.cell? ⟨w.heap.size, 2, none⟩ = some (.int .i64 P) := by rw [hW]; go_simp
  have d3 : W.cell? ⟨w.heap.size + 1, 0, none⟩ = some (.slice ta tl tc) := by rw [hW]; go_simp
  have d4 : W.cell? ⟨w.heap.size + 1, 1, none⟩ = some (.int .i64 y) := by rw [hW]; go_simp
  have d5 : W.cell? ⟨w.heap.size + 2, 0, none⟩ = some (.slice none 0 0) := by rw [hW]; go_simp
  have d6 : W.cell? ⟨w.heap.size + 2, 1, none⟩ = some (.int .i64 0) := by rw [hW]; go_simp
  have f5 : W.frozen? ⟨w.heap.size + 2, 0, none⟩ = false := by rw [hW]; go_simp
  have f6 : W.frozen? ⟨w.heap.size + 2, 1, none⟩ = false := by rw [hW]; go_simp
  have z0 : w.heap.size < W.heap.size := by omega
  have z1 : w.heap.size + 1 < W.heap.size := by omega
  have z2 : w.heap.size + 2 < W.heap.size := by omega
  clear zW
  have KC : Hid (∀ V : World, Below W.heap.size W V → (V.cell? ⟨w.heap.size, 0, none⟩ = some (.int .i64 S) ∧ V.cell? ⟨w.heap.size, 1, none⟩ = some (.slice ad n cp0) ∧ V.cell? ⟨w.heap.size, 2, none⟩ = some (.int .i64 P) ∧ V.cell? ⟨w.heap.size + 1, 0, none⟩ = some (.slice ta tl tc) ∧ V.cell? ⟨w.heap.size + 1, 1, none⟩ = some (.int .i64 y) ∧ V.cell? ⟨w.heap.size + 2, 0, none⟩ = some (.slice none 0 0) ∧ V.cell? ⟨w.heap.size + 2, 1, none⟩ = some (.int .i64 0)) ∧ V.frozen? ⟨w.heap.size + 2, 0, none⟩ = false ∧ V.frozen? ⟨w.heap.size + 2, 1, none⟩ = false) := fun V hV =>
    ⟨⟨(hV.cell (p := ⟨w.heap.size, 0, none⟩) z0).trans d0, (hV.cell (p := ⟨w.heap.size, 1, none⟩) z0).trans d1, (hV.cell (p := ⟨w.heap.size, 2, none⟩) z0).trans d2, (hV.cell (p := ⟨w.heap.size + 1, 0, none⟩) z1).trans d3, (hV.cell (p := ⟨w.heap.size + 1, 1, none⟩) z1).trans d4, (hV.cell (p := ⟨w.heap.size + 2, 0, none⟩) z2).trans d5, (hV.cell (p := ⟨w.heap.size + 2, 1, none⟩) z2).trans d6⟩, (hV.frozen (p := ⟨w.heap.size + 2, 0, none⟩) z2).trans f5, (hV.frozen (p := ⟨w.heap.size + 2, 1, none⟩) z2).trans f6⟩
  go_enter Tryd.func11, Tryd.ntmps11
  go_upto_region 1 with (fail)
  rw [← hW]
  clear hW
  go_upto_region 3 with (go_at_call 36; refine (tapeMay_any _ _ _ _ _ hl).mono ?_; rintro e w1 ⟨rfl, hb1⟩; rw [hmy])
  clear d0 d1 d2 d3 d4 d5 d6 f5 f6
  obtain ⟨⟨d0, d1, d2, d3, d4, d5, d6⟩, f5, f6⟩ := KC.out _ hb1
  have hL1 := h.below (hA.trans (hb1.mono hA.size))
  go_upto_region 5 with (go_at_call 27; refine (hCk _ hL1).mono ?_; rintro e w2 ⟨rfl, hb2'⟩; have hb2 : Below W.heap.size W w2 := hb1.trans (hb2'.mono hb1.size))
  clear d0 d1 d2 d3 d4 d5 d6 f5 f6
  obtain ⟨⟨d0, d1, d2, d3, d4, d5, d6⟩, f5, f6⟩ := KC.out _ hb2
  have hw1 := hA.trans (hb2.mono hA.size)
  have zq : w.heap.size + 2 < w2.heap.size := Nat.lt_of_lt_of_le z2 hb2.size
  go_wp2
  refine bodyPost_ret (v := .tuple #[.slice none 0 0, .agg #[.slice none 0 0, .int .i64 0], .int .i64 E]) (by simp [results, Tryd.results11, go_sem, d5, d6]) rfl ⟨rfl, ?_⟩
  exact (hw1.setCell (p := ⟨w.heap.size + 1 + 1, 0, none⟩) (by show w.heap.size ≤ w.heap.size + 1 + 1; omega) _).setCell (p := ⟨w.heap.size + 1 + 1, 1, none⟩) (by show w.heap.size ≤ w.heap.size + 1 + 1; omega) _

theorem pl_at {ys zs : List RcV} (h : ys.map RcV.pl = zs.map RcV.pl) {k : Nat} (hk : k < ys.length) : (ys.getD k default).pl = (zs.getD k default).pl := by
  have hl : ys.length = zs.length := by simpa using congrArg List.length h
  have h1 := congrArg (fun l => l.getD k default) h
  have e : ∀ l : List RcV, k < l.length → (l.map RcV.pl).getD k default = (l.getD k default).pl := fun l hh => by simp [List.getD, hh]
  rw [e ys hk, e zs (by omega)] at h1
  exact h1
theorem isRecs_mem {w : World} {a : Option Addr} {n cap : Nat} {ys : List RcV} (h : IsRecs w a n cap ys) {k : Nat} (hk : k < n) : ys.getD k default ∈ ys := by
  have : k < ys.length := by rw [h.1]; exact hk
  simp [List.getD, this]
set_option maxRecDepth 100000 in
set_option maxHeartbeats 2000000 in
theorem sameRecords_pl (a b : Option Addr) (n cap cap' : Nat) (ys zs : List RcV) (w : World) (h : IsRecs w a n cap ys) (h' : IsRecs w b n cap' zs) (hpl : ys.map RcV.pl = zs.map RcV.pl) :
    Calls Tryd.prog 12 #[.slice a n cap, .slice b n cap'] w fun e w' => e = .returned (.bool true) ∧ Below w.heap.size w w' := by
  have hmx : n ≤ maxLen := Nat.le_trans h.2.1 h.2.2.1
  unfold maxLen at hmx
  have HP : Hid (ys.map RcV.pl = zs.map RcV.pl) := hpl
  clear hpl
  go_enter Tryd.func12, Tryd.ntmps12
  go_wp2
  go_loopw [5] (fun i wr => ∃ k : Nat, k ≤ n ∧ i = .int .i64 k ∧ Below w.heap.size w wr) (fun i _ => n - (intOf i).toNat)
  case atStart => exact ⟨0, Nat.zero_le _, rfl, Below.refl _ _⟩
  case round =>
    obtain ⟨k, hk, rfl, hb⟩ := hrel
    by_cases hlt : k < n
    · have hlt' : (k : Int) < (n : Int) := by omega
      have hw1 := h.below hb
      have hw2 := h'.below hb
      obtain ⟨b1, o1, rfl, _, c1⟩ := hw1.2.2.2.2 (by omega)
      obtain ⟨b2, o2, rfl, _, c2⟩ := hw2.2.2.2.2 (by omega)
      have e1 := c1 k hlt
      have e2 := c2 k hlt
      have i1 := hw1.2.2.2.1 _ (isRecs_mem hw1 hlt)
      have i2 := hw2.2.2.2.1 _ (isRecs_mem hw2 hlt)
      have ep := pl_at HP.out (k := k) (by rw [h.1]; exact hlt)
      obtain ⟨⟨kind, site, num, key, value, ask, yes, sa, sl, sc, sites⟩, ex⟩ : ∃ x, x = ys.getD k default := ⟨_, rfl⟩
      obtain ⟨⟨kind', site', num', key', value', ask', yes', sa', sl', sc', sites'⟩, ey⟩ : ∃ x, x = zs.getD k default := ⟨_, rfl⟩
      rw [← ex] at e1 i1 ep
      rw [← ey] at e2 i2 ep
      clear ex ey c1 c2 hw1 hw2
      simp only [RcV.pl, RcV.mk.injEq, true_and] at ep
      obtain ⟨rfl, rfl, rfl, rfl, rfl, rfl, rfl, rfl, rfl⟩ := ep
      simp only [] at i1 i2
      have x0 := e1 0 (by decide)
      have y0 := e2 0 (by decide)
      have x1 := e1 1 (by decide)
      have y1 := e2 1 (by decide)
      have x2 := e1 2 (by decide)
      have y2 := e2 2 (by decide)
      have x3 := e1 3 (by decide)
      have y3 := e2 3 (by decide)
      have x4 := e1 4 (by decide)
      have y4 := e2 4 (by decide)
      have x5 := e1 5 (by decide)
      have y5 := e2 5 (by decide)
      have x6 := e1 6 (by decide)
      have y6 := e2 6 (by decide)
      have x7 := e1 7 (by decide)
      have y7 := e2 7 (by decide)
      simp only [RcV.cells, List.getElem?_cons_zero, List.getElem?_cons_succ, Nat.add_zero] at x0 y0 x1 y1 x2 y2 x3 y3 x4 y4 x5 y5 x6 y6 x7 y7
      clear e1 e2
      have hS := fun u (hu : Below wr.heap.size wr u) => sameRecord_any kind site num key value ask yes sa sa' sl sc sc' sites u (i1.below hu) (i2.below hu)
      have q0 := fun d os => cell_regrown x0 d os
      have r0 := fun d os => cell_regrown y0 d os
      have q1 := fun d os => cell_regrown x1 d os
      have r1 := fun d os => cell_regrown y1 d os
      have q2 := fun d os => cell_regrown x2 d os
      have r2 := fun d os => cell_regrown y2 d os
      have q3 := fun d os => cell_regrown x3 d os
      have r3 := fun d os => cell_regrown y3 d os
      have q4 := fun d os => cell_regrown x4 d os
      have r4 := fun d os => cell_regrown y4 d os
      have q5 := fun d os => cell_regrown x5 d os
      have r5 := fun d os => cell_regrown y5 d os
      have q6 := fun d os => cell_regrown x6 d os
      have r6 := fun d os => cell_regrown y6 d os
      have q7 := fun d os => cell_regrown x7 d os
      have r7 := fun d os => cell_regrown y7 d os
      go_upto_region 6 with (fail)
      refine wp_region_quiet_below (by kernel_rfl) (by kernel_rfl) ?_
      repeat (go_big_quiet_step ((exact Calls.regrown_of (hS _ (below_regrown _ _ _)))))
      refine wpQuiet_nil ?_
      intro _ hw'
      obtain ⟨⟨dq, osq⟩, hw''⟩ := hw'
      subst hw''
      go_wp2
      go_roundw
      case rel => exact ⟨k + 1, by omega, by go_num, hb.trans ((below_regrown wr dq osq).mono hb.size)⟩
      case measure => simp [intOf]; omega
    · go_wp2
      go_ret
      exact ⟨rfl, hb⟩
end Go.Proofs.YtflfcjbgkpfgkaaDoor
/- The contract of the law's octets: the same bytes, in new memory. -/
namespace Go.Proofs.YtflfcjbgkpfgkaaDoor
open Go.ChangeShapes Go.WideShapes Go.ChangeAt Go.RowKit
set_option linter.unusedVariables false

theorem grownN {w w' : World} (h : w.grownBy w' none) : Below w.heap.size w w' := (Below.refl w.heap.size w).grown h (Nat.le_refl _) (fun k hk => by cases hk)

theorem octets_any (a : Option Addr) (len cap : Nat) (bs : List Int) (w : World) (h : IsB w a len cap bs) (hl : len ≤ 140737488355328) :
    Calls Tryd.prog 7 #[.slice a len cap] w fun e w' => ∃ a' cap', e = .returned (.slice a' len cap') ∧ IsB w' a' len cap' bs ∧ Below w.heap.size w w' ∧ (∀ b off, a' = some ⟨b, off, none⟩ → w.heap.size ≤ b) := by
  go_enter Tryd.func7, Tryd.ntmps7
  go_wp2_with (at_builtin; go_loud (refine wpList_append_bytes (by rfl) _ _ (by rfl) w.heap.size (.slice none 0 0) 0 [] (by rfl) (World.ownsRow_nil _ _ _ _) a len cap bs (by rfl) h (by omega) (Nat.le_refl _) ?_))
  intro v' w1 hown hgrow hat
  obtain ⟨a', cap', rfl, hB, hge, _⟩ := isB_own hown (by simpa using h.2.2.2.1)
  have hbel := grownN hgrow
  go_wp2
  go_ret
  exact ⟨a', cap', rfl, hB, hbel, hge⟩
end Go.Proofs.YtflfcjbgkpfgkaaDoor
/- The contracts of the law's tapes (a tape of the same bytes, in new memory) and sameTape. -/
namespace Go.Proofs.YtflfcjbgkpfgkaaDoor
open Go.ChangeShapes Go.WideShapes Go.ChangeAt Go.RowKit
set_option linter.unusedVariables false

/-- Bytes in new memory. -/
def NewB (w w' : World) (a : Option Addr) (len cap : Nat) (bs : List Int) : Prop := IsB w' a len cap bs ∧ (∀ b off, a = some ⟨b, off, none⟩ → w.heap.size ≤ b)

theorem tapes_any (a : Option Addr) (len cap : Nat) (bs : List Int) (y : Int) (w : World) (h : IsB w a len cap bs) (hl : len ≤ 140737488355328) :
    Calls Tryd.prog 9 #[.agg #[.slice a len cap, .int .i64 y]] w fun e w' => ∃ a' cap', e = .returned (.agg #[.slice a' len cap', .int .i64 y]) ∧ NewB w w' a' len cap' bs ∧ Below w.heap.size w w' := by
  obtain ⟨W, hW⟩ : ∃ W : World, W = (w.alloc (.cells #[.slice a len cap, .int .i64 y] 36)).alloc (.cells #[.slice none 0 0, .int .i64 0] 36) := ⟨_, rfl⟩
  have hB : Below w.heap.size w W := by rw [hW]; exact ((Below.refl _ _).alloc (Nat.le_refl _) _).alloc (by simp) _
  have zW : W.heap.size = w.heap.size + 2 := by rw [hW]; simp
  have d0 : W.cell? ⟨w.heap.size, 0, none⟩ = some (.slice a len cap) := by rw [hW]; go_simp
  have d1 : W.cell? ⟨w.heap.size, 1, none⟩ = some (.int .i64 y) := by rw [hW]; go_simp
  have r0 : W.cell? ⟨w.heap.size + 1, 0, none⟩ = some (.slice none 0 0) := by rw [hW]; go_simp
  have r1 : W.cell? ⟨w.heap.size + 1, 1, none⟩ = some (.int .i64 0) := by rw [hW]; go_simp
  have f0 : W.frozen? ⟨w.heap.size + 1, 0, none⟩ = false := by rw [hW]; go_simp
  have f1 : W.frozen? ⟨w.heap.size + 1, 1, none⟩ = false := by rw [hW]; go_simp
  have hD : Below W.heap.size W W.drew := (Below.refl _ _).drew
  have KC : Hid (∀ V : World, Below W.heap.size W V → V.cell? ⟨w.heap.size, 0, none⟩ = some (.slice a len cap) ∧ V.cell? ⟨w.heap.size, 1, none⟩ = some (.int .i64 y) ∧ V.cell? ⟨w.heap.size + 1, 0, none⟩ = some (.slice none 0 0) ∧ V.cell? ⟨w.heap.size + 1, 1, none⟩ = some (.int .i64 0) ∧ V.frozen? ⟨w.heap.size + 1, 0, none⟩ = false ∧ V.frozen? ⟨w.heap.size + 1, 1, none⟩ = false) := by
    intro V hV
    exact ⟨(hV.cell (p := ⟨w.heap.size, 0, none⟩) (by show w.heap.size < _; omega)).trans d0, (hV.cell (p := ⟨w.heap.size, 1, none⟩) (by show w.heap.size < _; omega)).trans d1, (hV.cell (p := ⟨w.heap.size + 1, 0, none⟩) (by show w.heap.size + 1 < _; omega)).trans r0, (hV.cell (p := ⟨w.heap.size + 1, 1, none⟩) (by show w.heap.size + 1 < _; omega)).trans r1, (hV.frozen (p := ⟨w.heap.size + 1, 0, none⟩) (by show w.heap.size + 1 < _; omega)).trans f0, (hV.frozen (p := ⟨w.heap.size + 1, 1, none⟩) (by show w.heap.size + 1 < _; omega)).trans f1⟩
  go_enter Tryd.func9, Tryd.ntmps9
  go_wp2
  rw [← hW]
  clear hW
  go_region_held3 (fun w' => w'.cell? ⟨w.heap.size, 0, none⟩ = some (.slice a len cap) ∧ w'.cell? ⟨w.heap.size, 1, none⟩ = some (.int .i64 y))
    (first | (go_keep; done) | exact ⟨k0, k1⟩)
    (first
      | ((go_at_call 7; refine (octets_any a len cap bs _ ((h.below hB).below hD) hl).mono ?_; rintro e w1 ⟨a', cap', rfl, hB1, hb1, hge⟩; have hW1 : Below W.heap.size W w1 := hD.trans (hb1.mono (Nat.le_refl _)); obtain ⟨k0, k1, k2, k3, k4, k5⟩ := KC.out _ hW1)))
  all_goals
    have hsz := hW1.size
    have hne : ∀ b off, a' = some ⟨b, off, none⟩ → b ≠ w.heap.size + 1 := fun b off e => by have := hge b off e; simp at this; omega
    have hfin : IsB ((w1.setCell ⟨w.heap.size + 1, 0, none⟩ (.slice a' len cap')).setCell ⟨w.heap.size + 1, 1, none⟩ (.int .i64 y)) a' len cap' bs := (hB1.set _ _ hne).set _ _ hne
    have hbf : Below w.heap.size w ((w1.setCell ⟨w.heap.size + 1, 0, none⟩ (.slice a' len cap')).setCell ⟨w.heap.size + 1, 1, none⟩ (.int .i64 y)) := ((hB.trans (hW1.mono hB.size)).setCell (by simp) _).setCell (by simp) _
    go_wp2
    exact bodyPost_ret (v := .agg #[.slice a' len cap', .int .i64 y]) (by simp [results, Tryd.results9, go_sem, k2, k3]) rfl ⟨a', cap', rfl, ⟨hfin, fun b off e => by have := hge b off e; simp at this; omega⟩, hbf⟩

theorem sameTape_any (a : Option Addr) (len cap : Nat) (bs : List Int) (y : Int) (a2 : Option Addr) (len2 cap2 : Nat) (bs2 : List Int) (y2 : Int) (w : World) (h : IsB w a len cap bs) (h2 : IsB w a2 len2 cap2 bs2) (hy : y = y2) (hb : bs = bs2) :
    Calls Tryd.prog 13 #[.agg #[.slice a len cap, .int .i64 y], .agg #[.slice a2 len2 cap2, .int .i64 y2]] w fun e w' => e = .returned (.bool true) ∧ Below w.heap.size w w' := by
  subst hy
  subst hb
  obtain ⟨W, hW⟩ : ∃ W : World, W = (w.alloc (.cells #[.slice a len cap, .int .i64 y] 36)).alloc (.cells #[.slice a2 len2 cap2, .int .i64 y] 36) := ⟨_, rfl⟩
  have hB : Below w.heap.size w W := by rw [hW]; exact ((Below.refl _ _).alloc (Nat.le_refl _) _).alloc (by simp) _
  have s1 := run_string (h.below hB)
  have s2 := run_string (h2.below hB)
  have d0 : W.cell? ⟨w.heap.size, 0, none⟩ = some (.slice a len cap) := by rw [hW]; go_simp
  have d1 : W.cell? ⟨w.heap.size, 1, none⟩ = some (.int .i64 y) := by rw [hW]; go_simp
  have r0 : W.cell? ⟨w.heap.size + 1, 0, none⟩ = some (.slice a2 len2 cap2) := by rw [hW]; go_simp
  have r1 : W.cell? ⟨w.heap.size + 1, 1, none⟩ = some (.int .i64 y) := by rw [hW]; go_simp
  go_enter Tryd.func13, Tryd.ntmps13
  go_upto_region 1 with (fail)
  rw [← hW]
  clear hW
  go_wp2
  go_ret
  exact ⟨rfl, hB⟩
/-- A tape that was laid into a new block of its own. -/
theorem boxT (u : World) (a : Option Addr) (len cap : Nat) (y : Int) : ∃ V : World, V = u.alloc (.cells #[.slice a len cap, .int .i64 y] 36) ∧
    V.cell? ⟨u.heap.size, 0, none⟩ = some (.slice a len cap) ∧ V.cell? ⟨u.heap.size, 1, none⟩ = some (.int .i64 y) ∧ V.heap.size = u.heap.size + 1 ∧ Below u.heap.size u V := by
  refine ⟨_, rfl, by go_simp, by go_simp, by simp, ?_⟩
  exact (Below.refl _ _).alloc (Nat.le_refl _) _

end Go.Proofs.YtflfcjbgkpfgkaaDoor
