/- The contract of the document's TakenOf. -/
import Derived.Test.YtpkbklhjpaaiiaaDoorNTake
import Derived.Test.YtpkbklhjpaaiiaaDoorNCopy
import Derived.Test.YtpkbklhjpaaiiaaDoorNFault
namespace Go.Proofs.YtpkbklhjpaaiiaaDoor.Nt
open Go.ChangeShapes Go.WideShapes Go.ChangeAt Go.RowKit
set_option linter.unusedVariables false

theorem in_eq {n lo hi : Int} {b : Bool} (h : inR n lo hi = b) (w : World) : Calls Tryd.prog 24 #[.int .i64 n, .int .i64 lo, .int .i64 hi] w fun e w' => e = .returned (.bool b) ∧ w' = w := by
  rw [← h]
  exact in_any n lo hi w
theorem te_inr' {kind : Int} (h : inR kind 2 4 = false) : kind ≠ 2 ∧ kind ≠ 3 ∧ kind ≠ 4 := by simp [inR] at h; omega
theorem te_inr {kind : Int} : (kind = 2 ∨ kind = 3 ∨ kind = 4) ↔ inR kind 2 4 = true := by simp [inR]; omega

set_option maxRecDepth 100000 in
set_option maxHeartbeats 4000000 in
theorem takenOf_bad (s p : Int) (a : Option Addr) (len cap : Nat) (ls : List (Int × Int)) (fa : Option Addr) (fl fc : Nat) (fs : List FL) (f t pick kind : Int) (w : World) (hpk : pick ≤ 9223372036854775807) (h : IsLabs w a len cap ls) (hL : IsFly w fa fl fc fs) (hte : takeErr s ls p fs f t pick kind ≠ 0) :
    Calls Tryd.prog 13 #[.agg #[.int .i64 s, .slice a len cap, .int .i64 p], .slice fa fl fc, .int .i64 f, .int .i64 t, .int .i64 pick, .int .i64 kind] w fun e w' => e = .returned (.tuple #[.slice none 0 0, .agg #[.int .i64 0, .int .i64 0, .int .i64 0, .int .i64 0, .int .i64 0, .int .i64 0, .int .i64 0, .int .i64 0, .int .i64 0, .int .i64 0, .bool false, .int .i64 0], .int .i64 (takeErr s ls p fs f t pick kind)]) ∧ Below w.heap.size w w' := by
  have HN : Hid (fs.length = fl) := hL.row.1
  have HLen : Hid (∀ i, i < fl → (fs.getD i default).ms.length = (fs.getD i default).len) := fun i hi => (hL.each _ (getD_mem (by rw [HN.out]; exact hi))).1
  have hFF := fun w' h1 h2 => flyingFault_any s p a len cap ls fa fl fc fs w' h1 h2
  obtain ⟨W, hW⟩ : ∃ W : World, W = (w.alloc (.cells #[.int .i64 s, .slice a len cap, .int .i64 p] 24)).alloc (.cells #[.int .i64 0, .int .i64 0, .int .i64 0, .int .i64 0, .int .i64 0, .int .i64 0, .int .i64 0, .int .i64 0, .int .i64 0, .int .i64 0, .bool false, .int .i64 0] 38) := ⟨_, rfl⟩
  have hB : Below w.heap.size w W := by rw [hW]; exact ((Below.refl _ _).alloc (Nat.le_refl _) _).alloc (by simp) _
  have z0 : w.heap.size < W.heap.size := by rw [hW]; simp; omega
  have z1 : w.heap.size + 1 < W.heap.size := by rw [hW]; simp
  have c0 : W.cell? ⟨w.heap.size, 0, none⟩ = some (.int .i64 s) := by rw [hW]; go_simp
  have c1 : W.cell? ⟨w.heap.size, 1, none⟩ = some (.slice a len cap) := by rw [hW]; go_simp
  have c2 : W.cell? ⟨w.heap.size, 2, none⟩ = some (.int .i64 p) := by rw [hW]; go_simp
  have bxR : BoxN W (w.heap.size + 1) 12 [.int .i64 0, .int .i64 0, .int .i64 0, .int .i64 0, .int .i64 0, .int .i64 0, .int .i64 0, .int .i64 0, .int .i64 0, .int .i64 0, .bool false, .int .i64 0] := by
    rw [hW]
    simpa using boxn_new (w.alloc (.cells #[.int .i64 s, .slice a len cap, .int .i64 p] 24)) #[.int .i64 0, .int .i64 0, .int .i64 0, .int .i64 0, .int .i64 0, .int .i64 0, .int .i64 0, .int .i64 0, .int .i64 0, .int .i64 0, .bool false, .int .i64 0] 38 12 rfl
  have KA : Hid (∀ U : World, Below W.heap.size W U → U.cell? ⟨w.heap.size, 0, none⟩ = some (.int .i64 s) ∧ U.cell? ⟨w.heap.size, 1, none⟩ = some (.slice a len cap) ∧ U.cell? ⟨w.heap.size, 2, none⟩ = some (.int .i64 p)) := fun U hU =>
    ⟨(hU.cell (p := ⟨w.heap.size, 0, none⟩) z0).trans c0, (hU.cell (p := ⟨w.heap.size, 1, none⟩) z0).trans c1, (hU.cell (p := ⟨w.heap.size, 2, none⟩) z0).trans c2⟩
  have HS : Hid (∀ U : World, Below W.heap.size W U → IsFly U fa fl fc fs) := fun U hU => hL.below (hB.trans (hU.mono hB.size))
  have hlW := h.below hB
  have hfW := hL.below hB
  clear h hL
  go_enter Tryd.func13, Tryd.ntmps13
  go_upto_region 1 with (fail)
  rw [← hW]
  clear hW
  by_cases hf0 : flyFault s ls p fs = 0
  · obtain ⟨hcf, hsq, hfl⟩ := flyFault_of hf0
    obtain ⟨s1, s4, _⟩ := cfg_zero hcf
    obtain ⟨q1, q2, q3⟩ := sq_bd s1 s4
    rw [HN.out] at hsq
    have HSQ : Hid ((fl : Int) = s * s) := hsq
    have HF : Hid (flyFault s ls p fs = 0) := hf0
    have ws : IntKind.i64.wrap (s - 1) = s - 1 := wrapI (by omega)
    rw [hf0] at hFF
    clear hfl hsq hf0
    go_upto_region 2 with (go_at_call 7; refine (hFF _ hlW hfW).mono ?_; rintro e w1 ⟨rfl, hb1⟩)
    clear c0 c1 c2
    obtain ⟨c0, c1, c2⟩ := KA.out _ hb1
    obtain ⟨Kb, eK⟩ : ∃ Kb, inR kind 2 4 = Kb := ⟨_, rfl⟩
    cases Kb with
    | false =>
      have HC : Hid (takeErr s ls p fs f t pick kind = 3) := te_kind HF.out (te_inr' eK)
      go_upto_region 7 with (go_at_call 24; refine (in_eq (by assumption) _).mono ?_; rintro e u ⟨rfl, hu⟩; rw [hu]; clear hu)
      have bR := bxR.below hb1 z1
      have r0 : _ = some (Value.int .i64 0) := (bR.c 0 (by omega)).1
      have f0 := (bR.c 0 (by omega)).2
      have r1 : _ = some (Value.int .i64 0) := (bR.c 1 (by omega)).1
      have f1 := (bR.c 1 (by omega)).2
      have r2 : _ = some (Value.int .i64 0) := (bR.c 2 (by omega)).1
      have f2 := (bR.c 2 (by omega)).2
      have r3 : _ = some (Value.int .i64 0) := (bR.c 3 (by omega)).1
      have f3 := (bR.c 3 (by omega)).2
      have r4 : _ = some (Value.int .i64 0) := (bR.c 4 (by omega)).1
      have f4 := (bR.c 4 (by omega)).2
      have r5 : _ = some (Value.int .i64 0) := (bR.c 5 (by omega)).1
      have f5 := (bR.c 5 (by omega)).2
      have r6 : _ = some (Value.int .i64 0) := (bR.c 6 (by omega)).1
      have f6 := (bR.c 6 (by omega)).2
      have r7 : _ = some (Value.int .i64 0) := (bR.c 7 (by omega)).1
      have f7 := (bR.c 7 (by omega)).2
      have r8 : _ = some (Value.int .i64 0) := (bR.c 8 (by omega)).1
      have f8 := (bR.c 8 (by omega)).2
      have r9 : _ = some (Value.int .i64 0) := (bR.c 9 (by omega)).1
      have f9 := (bR.c 9 (by omega)).2
      have r10 : _ = some (Value.bool false) := (bR.c 10 (by omega)).1
      have f10 := (bR.c 10 (by omega)).2
      have r11 : _ = some (Value.int .i64 0) := (bR.c 11 (by omega)).1
      have f11 := (bR.c 11 (by omega)).2
      go_wp2
      clear r0 f0 r1 f1 r2 f2 r3 f3 r4 f4 r5 f5 r6 f6 r7 f7 r8 f8 r9 f9 r10 f10 r11 f11
      have bF := ((((((((((((bR.set 0 (by omega) (.int .i64 0)).set 1 (by omega) (.int .i64 0)).set 2 (by omega) (.int .i64 0)).set 3 (by omega) (.int .i64 0)).set 4 (by omega) (.int .i64 0)).set 5 (by omega) (.int .i64 0)).set 6 (by omega) (.int .i64 0)).set 7 (by omega) (.int .i64 0)).set 8 (by omega) (.int .i64 0)).set 9 (by omega) (.int .i64 0)).set 10 (by omega) (.bool false)).set 11 (by omega) (.int .i64 0))
      have wF := (Below.setCell (Below.setCell (Below.setCell (Below.setCell (Below.setCell (Below.setCell (Below.setCell (Below.setCell (Below.setCell (Below.setCell (Below.setCell (Below.setCell (hB.trans (hb1.mono hB.size)) (p := ⟨w.heap.size + 1, 0, none⟩) (by show w.heap.size ≤ w.heap.size + 1; omega) (.int .i64 0)) (p := ⟨w.heap.size + 1, 1, none⟩) (by show w.heap.size ≤ w.heap.size + 1; omega) (.int .i64 0)) (p := ⟨w.heap.size + 1, 2, none⟩) (by show w.heap.size ≤ w.heap.size + 1; omega) (.int .i64 0)) (p := ⟨w.heap.size + 1, 3, none⟩) (by show w.heap.size ≤ w.heap.size + 1; omega) (.int .i64 0)) (p := ⟨w.heap.size + 1, 4, none⟩) (by show w.heap.size ≤ w.heap.size + 1; omega) (.int .i64 0)) (p := ⟨w.heap.size + 1, 5, none⟩) (by show w.heap.size ≤ w.heap.size + 1; omega) (.int .i64 0)) (p := ⟨w.heap.size + 1, 6, none⟩) (by show w.heap.size ≤ w.heap.size + 1; omega) (.int .i64 0)) (p := ⟨w.heap.size + 1, 7, none⟩) (by show w.heap.size ≤ w.heap.size + 1; omega) (.int .i64 0)) (p := ⟨w.heap.size + 1, 8, none⟩) (by show w.heap.size ≤ w.heap.size + 1; omega) (.int .i64 0)) (p := ⟨w.heap.size + 1, 9, none⟩) (by show w.heap.size ≤ w.heap.size + 1; omega) (.int .i64 0)) (p := ⟨w.heap.size + 1, 10, none⟩) (by show w.heap.size ≤ w.heap.size + 1; omega) (.bool false)) (p := ⟨w.heap.size + 1, 11, none⟩) (by show w.heap.size ≤ w.heap.size + 1; omega) (.int .i64 0))
      obtain ⟨Y, eY⟩ : ∃ Y : World, Y = ((((((((((((w1.setCell ⟨w.heap.size + 1, 0, none⟩ (.int .i64 0)).setCell ⟨w.heap.size + 1, 1, none⟩ (.int .i64 0)).setCell ⟨w.heap.size + 1, 2, none⟩ (.int .i64 0)).setCell ⟨w.heap.size + 1, 3, none⟩ (.int .i64 0)).setCell ⟨w.heap.size + 1, 4, none⟩ (.int .i64 0)).setCell ⟨w.heap.size + 1, 5, none⟩ (.int .i64 0)).setCell ⟨w.heap.size + 1, 6, none⟩ (.int .i64 0)).setCell ⟨w.heap.size + 1, 7, none⟩ (.int .i64 0)).setCell ⟨w.heap.size + 1, 8, none⟩ (.int .i64 0)).setCell ⟨w.heap.size + 1, 9, none⟩ (.int .i64 0)).setCell ⟨w.heap.size + 1, 10, none⟩ (.bool false)).setCell ⟨w.heap.size + 1, 11, none⟩ (.int .i64 0)) := ⟨_, rfl⟩
      rw [← eY] at bF wF ⊢
      clear eY bR
      have k0 : Y.cell? ⟨w.heap.size + 1, 0, none⟩ = some (Value.int .i64 0) := (bF.c 0 (by omega)).1
      have k1 : Y.cell? ⟨w.heap.size + 1, 1, none⟩ = some (Value.int .i64 0) := (bF.c 1 (by omega)).1
      have k2 : Y.cell? ⟨w.heap.size + 1, 2, none⟩ = some (Value.int .i64 0) := (bF.c 2 (by omega)).1
      have k3 : Y.cell? ⟨w.heap.size + 1, 3, none⟩ = some (Value.int .i64 0) := (bF.c 3 (by omega)).1
      have k4 : Y.cell? ⟨w.heap.size + 1, 4, none⟩ = some (Value.int .i64 0) := (bF.c 4 (by omega)).1
      have k5 : Y.cell? ⟨w.heap.size + 1, 5, none⟩ = some (Value.int .i64 0) := (bF.c 5 (by omega)).1
      have k6 : Y.cell? ⟨w.heap.size + 1, 6, none⟩ = some (Value.int .i64 0) := (bF.c 6 (by omega)).1
      have k7 : Y.cell? ⟨w.heap.size + 1, 7, none⟩ = some (Value.int .i64 0) := (bF.c 7 (by omega)).1
      have k8 : Y.cell? ⟨w.heap.size + 1, 8, none⟩ = some (Value.int .i64 0) := (bF.c 8 (by omega)).1
      have k9 : Y.cell? ⟨w.heap.size + 1, 9, none⟩ = some (Value.int .i64 0) := (bF.c 9 (by omega)).1
      have k10 : Y.cell? ⟨w.heap.size + 1, 10, none⟩ = some (Value.bool false) := (bF.c 10 (by omega)).1
      have k11 : Y.cell? ⟨w.heap.size + 1, 11, none⟩ = some (Value.int .i64 0) := (bF.c 11 (by omega)).1
      refine bodyPost_ret (v := .tuple #[.slice none 0 0, .agg #[.int .i64 0, .int .i64 0, .int .i64 0, .int .i64 0, .int .i64 0, .int .i64 0, .int .i64 0, .int .i64 0, .int .i64 0, .int .i64 0, .bool false, .int .i64 0], .int .i64 3]) (by simp [results, Tryd.results13, go_sem, k0, k1, k2, k3, k4, k5, k6, k7, k8, k9, k10, k11]) rfl ⟨by rw [HC.out], wF⟩
    | true =>
      have HK : Hid (kind = 2 ∨ kind = 3 ∨ kind = 4) := te_inr.2 eK
      obtain ⟨A, eA⟩ : ∃ A, inR f 0 (s - 1) = A := ⟨_, rfl⟩
      obtain ⟨Bb, eB⟩ : ∃ B, inR t 0 (s - 1) = B := ⟨_, rfl⟩
      by_cases hbad : A = false ∨ Bb = false ∨ pick < 0
      · have HC : Hid (takeErr s ls p fs f t pick kind = 2) := te_range HF.out HK.out (by rw [eA, eB]; exact hbad)
        cases A with
        | false =>
          clear hbad
          go_upto_region 7 with (go_at_call 24; refine (in_eq (by assumption) _).mono ?_; rintro e u ⟨rfl, hu⟩; rw [hu]; clear hu)
          have bR := bxR.below hb1 z1
          have r0 : _ = some (Value.int .i64 0) := (bR.c 0 (by omega)).1
          have f0 := (bR.c 0 (by omega)).2
          have r1 : _ = some (Value.int .i64 0) := (bR.c 1 (by omega)).1
          have f1 := (bR.c 1 (by omega)).2
          have r2 : _ = some (Value.int .i64 0) := (bR.c 2 (by omega)).1
          have f2 := (bR.c 2 (by omega)).2
          have r3 : _ = some (Value.int .i64 0) := (bR.c 3 (by omega)).1
          have f3 := (bR.c 3 (by omega)).2
          have r4 : _ = some (Value.int .i64 0) := (bR.c 4 (by omega)).1
          have f4 := (bR.c 4 (by omega)).2
          have r5 : _ = some (Value.int .i64 0) := (bR.c 5 (by omega)).1
          have f5 := (bR.c 5 (by omega)).2
          have r6 : _ = some (Value.int .i64 0) := (bR.c 6 (by omega)).1
          have f6 := (bR.c 6 (by omega)).2
          have r7 : _ = some (Value.int .i64 0) := (bR.c 7 (by omega)).1
          have f7 := (bR.c 7 (by omega)).2
          have r8 : _ = some (Value.int .i64 0) := (bR.c 8 (by omega)).1
          have f8 := (bR.c 8 (by omega)).2
          have r9 : _ = some (Value.int .i64 0) := (bR.c 9 (by omega)).1
          have f9 := (bR.c 9 (by omega)).2
          have r10 : _ = some (Value.bool false) := (bR.c 10 (by omega)).1
          have f10 := (bR.c 10 (by omega)).2
          have r11 : _ = some (Value.int .i64 0) := (bR.c 11 (by omega)).1
          have f11 := (bR.c 11 (by omega)).2
          go_wp2
          clear r0 f0 r1 f1 r2 f2 r3 f3 r4 f4 r5 f5 r6 f6 r7 f7 r8 f8 r9 f9 r10 f10 r11 f11
          have bF := ((((((((((((bR.set 0 (by omega) (.int .i64 0)).set 1 (by omega) (.int .i64 0)).set 2 (by omega) (.int .i64 0)).set 3 (by omega) (.int .i64 0)).set 4 (by omega) (.int .i64 0)).set 5 (by omega) (.int .i64 0)).set 6 (by omega) (.int .i64 0)).set 7 (by omega) (.int .i64 0)).set 8 (by omega) (.int .i64 0)).set 9 (by omega) (.int .i64 0)).set 10 (by omega) (.bool false)).set 11 (by omega) (.int .i64 0))
          have wF := (Below.setCell (Below.setCell (Below.setCell (Below.setCell (Below.setCell (Below.setCell (Below.setCell (Below.setCell (Below.setCell (Below.setCell (Below.setCell (Below.setCell (hB.trans (hb1.mono hB.size)) (p := ⟨w.heap.size + 1, 0, none⟩) (by show w.heap.size ≤ w.heap.size + 1; omega) (.int .i64 0)) (p := ⟨w.heap.size + 1, 1, none⟩) (by show w.heap.size ≤ w.heap.size + 1; omega) (.int .i64 0)) (p := ⟨w.heap.size + 1, 2, none⟩) (by show w.heap.size ≤ w.heap.size + 1; omega) (.int .i64 0)) (p := ⟨w.heap.size + 1, 3, none⟩) (by show w.heap.size ≤ w.heap.size + 1; omega) (.int .i64 0)) (p := ⟨w.heap.size + 1, 4, none⟩) (by show w.heap.size ≤ w.heap.size + 1; omega) (.int .i64 0)) (p := ⟨w.heap.size + 1, 5, none⟩) (by show w.heap.size ≤ w.heap.size + 1; omega) (.int .i64 0)) (p := ⟨w.heap.size + 1, 6, none⟩) (by show w.heap.size ≤ w.heap.size + 1; omega) (.int .i64 0)) (p := ⟨w.heap.size + 1, 7, none⟩) (by show w.heap.size ≤ w.heap.size + 1; omega) (.int .i64 0)) (p := ⟨w.heap.size + 1, 8, none⟩) (by show w.heap.size ≤ w.heap.size + 1; omega) (.int .i64 0)) (p := ⟨w.heap.size + 1, 9, none⟩) (by show w.heap.size ≤ w.heap.size + 1; omega) (.int .i64 0)) (p := ⟨w.heap.size + 1, 10, none⟩) (by show w.heap.size ≤ w.heap.size + 1; omega) (.bool false)) (p := ⟨w.heap.size + 1, 11, none⟩) (by show w.heap.size ≤ w.heap.size + 1; omega) (.int .i64 0))
          obtain ⟨Y, eY⟩ : ∃ Y : World, Y = ((((((((((((w1.setCell ⟨w.heap.size + 1, 0, none⟩ (.int .i64 0)).setCell ⟨w.heap.size + 1, 1, none⟩ (.int .i64 0)).setCell ⟨w.heap.size + 1, 2, none⟩ (.int .i64 0)).setCell ⟨w.heap.size + 1, 3, none⟩ (.int .i64 0)).setCell ⟨w.heap.size + 1, 4, none⟩ (.int .i64 0)).setCell ⟨w.heap.size + 1, 5, none⟩ (.int .i64 0)).setCell ⟨w.heap.size + 1, 6, none⟩ (.int .i64 0)).setCell ⟨w.heap.size + 1, 7, none⟩ (.int .i64 0)).setCell ⟨w.heap.size + 1, 8, none⟩ (.int .i64 0)).setCell ⟨w.heap.size + 1, 9, none⟩ (.int .i64 0)).setCell ⟨w.heap.size + 1, 10, none⟩ (.bool false)).setCell ⟨w.heap.size + 1, 11, none⟩ (.int .i64 0)) := ⟨_, rfl⟩
          rw [← eY] at bF wF ⊢
          clear eY bR
          have k0 : Y.cell? ⟨w.heap.size + 1, 0, none⟩ = some (Value.int .i64 0) := (bF.c 0 (by omega)).1
          have k1 : Y.cell? ⟨w.heap.size + 1, 1, none⟩ = some (Value.int .i64 0) := (bF.c 1 (by omega)).1
          have k2 : Y.cell? ⟨w.heap.size + 1, 2, none⟩ = some (Value.int .i64 0) := (bF.c 2 (by omega)).1
          have k3 : Y.cell? ⟨w.heap.size + 1, 3, none⟩ = some (Value.int .i64 0) := (bF.c 3 (by omega)).1
          have k4 : Y.cell? ⟨w.heap.size + 1, 4, none⟩ = some (Value.int .i64 0) := (bF.c 4 (by omega)).1
          have k5 : Y.cell? ⟨w.heap.size + 1, 5, none⟩ = some (Value.int .i64 0) := (bF.c 5 (by omega)).1
          have k6 : Y.cell? ⟨w.heap.size + 1, 6, none⟩ = some (Value.int .i64 0) := (bF.c 6 (by omega)).1
          have k7 : Y.cell? ⟨w.heap.size + 1, 7, none⟩ = some (Value.int .i64 0) := (bF.c 7 (by omega)).1
          have k8 : Y.cell? ⟨w.heap.size + 1, 8, none⟩ = some (Value.int .i64 0) := (bF.c 8 (by omega)).1
          have k9 : Y.cell? ⟨w.heap.size + 1, 9, none⟩ = some (Value.int .i64 0) := (bF.c 9 (by omega)).1
          have k10 : Y.cell? ⟨w.heap.size + 1, 10, none⟩ = some (Value.bool false) := (bF.c 10 (by omega)).1
          have k11 : Y.cell? ⟨w.heap.size + 1, 11, none⟩ = some (Value.int .i64 0) := (bF.c 11 (by omega)).1
          refine bodyPost_ret (v := .tuple #[.slice none 0 0, .agg #[.int .i64 0, .int .i64 0, .int .i64 0, .int .i64 0, .int .i64 0, .int .i64 0, .int .i64 0, .int .i64 0, .int .i64 0, .int .i64 0, .bool false, .int .i64 0], .int .i64 2]) (by simp [results, Tryd.results13, go_sem, k0, k1, k2, k3, k4, k5, k6, k7, k8, k9, k10, k11]) rfl ⟨by rw [HC.out], wF⟩
        | true =>
          cases Bb with
          | false =>
            clear hbad
            go_upto_region 7 with (go_at_call 24; refine (in_eq (by assumption) _).mono ?_; rintro e u ⟨rfl, hu⟩; rw [hu]; clear hu)
            have bR := bxR.below hb1 z1
            have r0 : _ = some (Value.int .i64 0) := (bR.c 0 (by omega)).1
            have f0 := (bR.c 0 (by omega)).2
            have r1 : _ = some (Value.int .i64 0) := (bR.c 1 (by omega)).1
            have f1 := (bR.c 1 (by omega)).2
            have r2 : _ = some (Value.int .i64 0) := (bR.c 2 (by omega)).1
            have f2 := (bR.c 2 (by omega)).2
            have r3 : _ = some (Value.int .i64 0) := (bR.c 3 (by omega)).1
            have f3 := (bR.c 3 (by omega)).2
            have r4 : _ = some (Value.int .i64 0) := (bR.c 4 (by omega)).1
            have f4 := (bR.c 4 (by omega)).2
            have r5 : _ = some (Value.int .i64 0) := (bR.c 5 (by omega)).1
            have f5 := (bR.c 5 (by omega)).2
            have r6 : _ = some (Value.int .i64 0) := (bR.c 6 (by omega)).1
            have f6 := (bR.c 6 (by omega)).2
            have r7 : _ = some (Value.int .i64 0) := (bR.c 7 (by omega)).1
            have f7 := (bR.c 7 (by omega)).2
            have r8 : _ = some (Value.int .i64 0) := (bR.c 8 (by omega)).1
            have f8 := (bR.c 8 (by omega)).2
            have r9 : _ = some (Value.int .i64 0) := (bR.c 9 (by omega)).1
            have f9 := (bR.c 9 (by omega)).2
            have r10 : _ = some (Value.bool false) := (bR.c 10 (by omega)).1
            have f10 := (bR.c 10 (by omega)).2
            have r11 : _ = some (Value.int .i64 0) := (bR.c 11 (by omega)).1
            have f11 := (bR.c 11 (by omega)).2
            go_wp2
            clear r0 f0 r1 f1 r2 f2 r3 f3 r4 f4 r5 f5 r6 f6 r7 f7 r8 f8 r9 f9 r10 f10 r11 f11
            have bF := ((((((((((((bR.set 0 (by omega) (.int .i64 0)).set 1 (by omega) (.int .i64 0)).set 2 (by omega) (.int .i64 0)).set 3 (by omega) (.int .i64 0)).set 4 (by omega) (.int .i64 0)).set 5 (by omega) (.int .i64 0)).set 6 (by omega) (.int .i64 0)).set 7 (by omega) (.int .i64 0)).set 8 (by omega) (.int .i64 0)).set 9 (by omega) (.int .i64 0)).set 10 (by omega) (.bool false)).set 11 (by omega) (.int .i64 0))
            have wF := (Below.setCell (Below.setCell (Below.setCell (Below.setCell (Below.setCell (Below.setCell (Below.setCell (Below.setCell (Below.setCell (Below.setCell (Below.setCell (Below.setCell (hB.trans (hb1.mono hB.size)) (p := ⟨w.heap.size + 1, 0, none⟩) (by show w.heap.size ≤ w.heap.size + 1; omega) (.int .i64 0)) (p := ⟨w.heap.size + 1, 1, none⟩) (by show w.heap.size ≤ w.heap.size + 1; omega) (.int .i64 0)) (p := ⟨w.heap.size + 1, 2, none⟩) (by show w.heap.size ≤ w.heap.size + 1; omega) (.int .i64 0)) (p := ⟨w.heap.size + 1, 3, none⟩) (by show w.heap.size ≤ w.heap.size + 1; omega) (.int .i64 0)) (p := ⟨w.heap.size + 1, 4, none⟩) (by show w.heap.size ≤ w.heap.size + 1; omega) (.int .i64 0)) (p := ⟨w.heap.size + 1, 5, none⟩) (by show w.heap.size ≤ w.heap.size + 1; omega) (.int .i64 0)) (p := ⟨w.heap.size + 1, 6, none⟩) (by show w.heap.size ≤ w.heap.size + 1; omega) (.int .i64 0)) (p := ⟨w.heap.size + 1, 7, none⟩) (by show w.heap.size ≤ w.heap.size + 1; omega) (.int .i64 0)) (p := ⟨w.heap.size + 1, 8, none⟩) (by show w.heap.size ≤ w.heap.size + 1; omega) (.int .i64 0)) (p := ⟨w.heap.size + 1, 9, none⟩) (by show w.heap.size ≤ w.heap.size + 1; omega) (.int .i64 0)) (p := ⟨w.heap.size + 1, 10, none⟩) (by show w.heap.size ≤ w.heap.size + 1; omega) (.bool false)) (p := ⟨w.heap.size + 1, 11, none⟩) (by show w.heap.size ≤ w.heap.size + 1; omega) (.int .i64 0))
            obtain ⟨Y, eY⟩ : ∃ Y : World, Y = ((((((((((((w1.setCell ⟨w.heap.size + 1, 0, none⟩ (.int .i64 0)).setCell ⟨w.heap.size + 1, 1, none⟩ (.int .i64 0)).setCell ⟨w.heap.size + 1, 2, none⟩ (.int .i64 0)).setCell ⟨w.heap.size + 1, 3, none⟩ (.int .i64 0)).setCell ⟨w.heap.size + 1, 4, none⟩ (.int .i64 0)).setCell ⟨w.heap.size + 1, 5, none⟩ (.int .i64 0)).setCell ⟨w.heap.size + 1, 6, none⟩ (.int .i64 0)).setCell ⟨w.heap.size + 1, 7, none⟩ (.int .i64 0)).setCell ⟨w.heap.size + 1, 8, none⟩ (.int .i64 0)).setCell ⟨w.heap.size + 1, 9, none⟩ (.int .i64 0)).setCell ⟨w.heap.size + 1, 10, none⟩ (.bool false)).setCell ⟨w.heap.size + 1, 11, none⟩ (.int .i64 0)) := ⟨_, rfl⟩
            rw [← eY] at bF wF ⊢
            clear eY bR
            have k0 : Y.cell? ⟨w.heap.size + 1, 0, none⟩ = some (Value.int .i64 0) := (bF.c 0 (by omega)).1
            have k1 : Y.cell? ⟨w.heap.size + 1, 1, none⟩ = some (Value.int .i64 0) := (bF.c 1 (by omega)).1
            have k2 : Y.cell? ⟨w.heap.size + 1, 2, none⟩ = some (Value.int .i64 0) := (bF.c 2 (by omega)).1
            have k3 : Y.cell? ⟨w.heap.size + 1, 3, none⟩ = some (Value.int .i64 0) := (bF.c 3 (by omega)).1
            have k4 : Y.cell? ⟨w.heap.size + 1, 4, none⟩ = some (Value.int .i64 0) := (bF.c 4 (by omega)).1
            have k5 : Y.cell? ⟨w.heap.size + 1, 5, none⟩ = some (Value.int .i64 0) := (bF.c 5 (by omega)).1
            have k6 : Y.cell? ⟨w.heap.size + 1, 6, none⟩ = some (Value.int .i64 0) := (bF.c 6 (by omega)).1
            have k7 : Y.cell? ⟨w.heap.size + 1, 7, none⟩ = some (Value.int .i64 0) := (bF.c 7 (by omega)).1
            have k8 : Y.cell? ⟨w.heap.size + 1, 8, none⟩ = some (Value.int .i64 0) := (bF.c 8 (by omega)).1
            have k9 : Y.cell? ⟨w.heap.size + 1, 9, none⟩ = some (Value.int .i64 0) := (bF.c 9 (by omega)).1
            have k10 : Y.cell? ⟨w.heap.size + 1, 10, none⟩ = some (Value.bool false) := (bF.c 10 (by omega)).1
            have k11 : Y.cell? ⟨w.heap.size + 1, 11, none⟩ = some (Value.int .i64 0) := (bF.c 11 (by omega)).1
            refine bodyPost_ret (v := .tuple #[.slice none 0 0, .agg #[.int .i64 0, .int .i64 0, .int .i64 0, .int .i64 0, .int .i64 0, .int .i64 0, .int .i64 0, .int .i64 0, .int .i64 0, .int .i64 0, .bool false, .int .i64 0], .int .i64 2]) (by simp [results, Tryd.results13, go_sem, k0, k1, k2, k3, k4, k5, k6, k7, k8, k9, k10, k11]) rfl ⟨by rw [HC.out], wF⟩
          | true =>
            have hp : pick < 0 := by simpa using hbad
            clear hbad
            go_upto_region 7 with (go_at_call 24; refine (in_eq (by assumption) _).mono ?_; rintro e u ⟨rfl, hu⟩; rw [hu]; clear hu)
            have bR := bxR.below hb1 z1
            have r0 : _ = some (Value.int .i64 0) := (bR.c 0 (by omega)).1
            have f0 := (bR.c 0 (by omega)).2
            have r1 : _ = some (Value.int .i64 0) := (bR.c 1 (by omega)).1
            have f1 := (bR.c 1 (by omega)).2
            have r2 : _ = some (Value.int .i64 0) := (bR.c 2 (by omega)).1
            have f2 := (bR.c 2 (by omega)).2
            have r3 : _ = some (Value.int .i64 0) := (bR.c 3 (by omega)).1
            have f3 := (bR.c 3 (by omega)).2
            have r4 : _ = some (Value.int .i64 0) := (bR.c 4 (by omega)).1
            have f4 := (bR.c 4 (by omega)).2
            have r5 : _ = some (Value.int .i64 0) := (bR.c 5 (by omega)).1
            have f5 := (bR.c 5 (by omega)).2
            have r6 : _ = some (Value.int .i64 0) := (bR.c 6 (by omega)).1
            have f6 := (bR.c 6 (by omega)).2
            have r7 : _ = some (Value.int .i64 0) := (bR.c 7 (by omega)).1
            have f7 := (bR.c 7 (by omega)).2
            have r8 : _ = some (Value.int .i64 0) := (bR.c 8 (by omega)).1
            have f8 := (bR.c 8 (by omega)).2
            have r9 : _ = some (Value.int .i64 0) := (bR.c 9 (by omega)).1
            have f9 := (bR.c 9 (by omega)).2
            have r10 : _ = some (Value.bool false) := (bR.c 10 (by omega)).1
            have f10 := (bR.c 10 (by omega)).2
            have r11 : _ = some (Value.int .i64 0) := (bR.c 11 (by omega)).1
            have f11 := (bR.c 11 (by omega)).2
            go_wp2
            clear r0 f0 r1 f1 r2 f2 r3 f3 r4 f4 r5 f5 r6 f6 r7 f7 r8 f8 r9 f9 r10 f10 r11 f11
            have bF := ((((((((((((bR.set 0 (by omega) (.int .i64 0)).set 1 (by omega) (.int .i64 0)).set 2 (by omega) (.int .i64 0)).set 3 (by omega) (.int .i64 0)).set 4 (by omega) (.int .i64 0)).set 5 (by omega) (.int .i64 0)).set 6 (by omega) (.int .i64 0)).set 7 (by omega) (.int .i64 0)).set 8 (by omega) (.int .i64 0)).set 9 (by omega) (.int .i64 0)).set 10 (by omega) (.bool false)).set 11 (by omega) (.int .i64 0))
            have wF := (Below.setCell (Below.setCell (Below.setCell (Below.setCell (Below.setCell (Below.setCell (Below.setCell (Below.setCell (Below.setCell (Below.setCell (Below.setCell (Below.setCell (hB.trans (hb1.mono hB.size)) (p := ⟨w.heap.size + 1, 0, none⟩) (by show w.heap.size ≤ w.heap.size + 1; omega) (.int .i64 0)) (p := ⟨w.heap.size + 1, 1, none⟩) (by show w.heap.size ≤ w.heap.size + 1; omega) (.int .i64 0)) (p := ⟨w.heap.size + 1, 2, none⟩) (by show w.heap.size ≤ w.heap.size + 1; omega) (.int .i64 0)) (p := ⟨w.heap.size + 1, 3, none⟩) (by show w.heap.size ≤ w.heap.size + 1; omega) (.int .i64 0)) (p := ⟨w.heap.size + 1, 4, none⟩) (by show w.heap.size ≤ w.heap.size + 1; omega) (.int .i64 0)) (p := ⟨w.heap.size + 1, 5, none⟩) (by show w.heap.size ≤ w.heap.size + 1; omega) (.int .i64 0)) (p := ⟨w.heap.size + 1, 6, none⟩) (by show w.heap.size ≤ w.heap.size + 1; omega) (.int .i64 0)) (p := ⟨w.heap.size + 1, 7, none⟩) (by show w.heap.size ≤ w.heap.size + 1; omega) (.int .i64 0)) (p := ⟨w.heap.size + 1, 8, none⟩) (by show w.heap.size ≤ w.heap.size + 1; omega) (.int .i64 0)) (p := ⟨w.heap.size + 1, 9, none⟩) (by show w.heap.size ≤ w.heap.size + 1; omega) (.int .i64 0)) (p := ⟨w.heap.size + 1, 10, none⟩) (by show w.heap.size ≤ w.heap.size + 1; omega) (.bool false)) (p := ⟨w.heap.size + 1, 11, none⟩) (by show w.heap.size ≤ w.heap.size + 1; omega) (.int .i64 0))
            obtain ⟨Y, eY⟩ : ∃ Y : World, Y = ((((((((((((w1.setCell ⟨w.heap.size + 1, 0, none⟩ (.int .i64 0)).setCell ⟨w.heap.size + 1, 1, none⟩ (.int .i64 0)).setCell ⟨w.heap.size + 1, 2, none⟩ (.int .i64 0)).setCell ⟨w.heap.size + 1, 3, none⟩ (.int .i64 0)).setCell ⟨w.heap.size + 1, 4, none⟩ (.int .i64 0)).setCell ⟨w.heap.size + 1, 5, none⟩ (.int .i64 0)).setCell ⟨w.heap.size + 1, 6, none⟩ (.int .i64 0)).setCell ⟨w.heap.size + 1, 7, none⟩ (.int .i64 0)).setCell ⟨w.heap.size + 1, 8, none⟩ (.int .i64 0)).setCell ⟨w.heap.size + 1, 9, none⟩ (.int .i64 0)).setCell ⟨w.heap.size + 1, 10, none⟩ (.bool false)).setCell ⟨w.heap.size + 1, 11, none⟩ (.int .i64 0)) := ⟨_, rfl⟩
            rw [← eY] at bF wF ⊢
            clear eY bR
            have k0 : Y.cell? ⟨w.heap.size + 1, 0, none⟩ = some (Value.int .i64 0) := (bF.c 0 (by omega)).1
            have k1 : Y.cell? ⟨w.heap.size + 1, 1, none⟩ = some (Value.int .i64 0) := (bF.c 1 (by omega)).1
            have k2 : Y.cell? ⟨w.heap.size + 1, 2, none⟩ = some (Value.int .i64 0) := (bF.c 2 (by omega)).1
            have k3 : Y.cell? ⟨w.heap.size + 1, 3, none⟩ = some (Value.int .i64 0) := (bF.c 3 (by omega)).1
            have k4 : Y.cell? ⟨w.heap.size + 1, 4, none⟩ = some (Value.int .i64 0) := (bF.c 4 (by omega)).1
            have k5 : Y.cell? ⟨w.heap.size + 1, 5, none⟩ = some (Value.int .i64 0) := (bF.c 5 (by omega)).1
            have k6 : Y.cell? ⟨w.heap.size + 1, 6, none⟩ = some (Value.int .i64 0) := (bF.c 6 (by omega)).1
            have k7 : Y.cell? ⟨w.heap.size + 1, 7, none⟩ = some (Value.int .i64 0) := (bF.c 7 (by omega)).1
            have k8 : Y.cell? ⟨w.heap.size + 1, 8, none⟩ = some (Value.int .i64 0) := (bF.c 8 (by omega)).1
            have k9 : Y.cell? ⟨w.heap.size + 1, 9, none⟩ = some (Value.int .i64 0) := (bF.c 9 (by omega)).1
            have k10 : Y.cell? ⟨w.heap.size + 1, 10, none⟩ = some (Value.bool false) := (bF.c 10 (by omega)).1
            have k11 : Y.cell? ⟨w.heap.size + 1, 11, none⟩ = some (Value.int .i64 0) := (bF.c 11 (by omega)).1
            refine bodyPost_ret (v := .tuple #[.slice none 0 0, .agg #[.int .i64 0, .int .i64 0, .int .i64 0, .int .i64 0, .int .i64 0, .int .i64 0, .int .i64 0, .int .i64 0, .int .i64 0, .int .i64 0, .bool false, .int .i64 0], .int .i64 2]) (by simp [results, Tryd.results13, go_sem, k0, k1, k2, k3, k4, k5, k6, k7, k8, k9, k10, k11]) rfl ⟨by rw [HC.out], wF⟩
      · have e1 : A = true := by cases A <;> simp_all
        have e2 : Bb = true := by cases Bb <;> simp_all
        have hp : ¬ pick < 0 := fun e => hbad (.inr (.inr e))
        subst e1 e2
        clear hbad
        have hrest := te_rest HF.out HK.out eA eB (by omega : 0 ≤ pick)
        have sf := inR_of eA
        have sd := inR_of eB
        obtain ⟨u1, u2, u3⟩ := mul_bd s1 s4 sf.1 sf.2
        obtain ⟨q', eq'⟩ : ∃ q', q' = f * s := ⟨_, rfl⟩
        have k1 : IntKind.i64.wrap (f * s) = q' := by rw [eq']; exact wrapI (by omega)
        have hq0 : 0 ≤ f * s + t ∧ f * s + t < (fl : Int) := by rw [HSQ.out]; omega
        obtain ⟨q, eq⟩ : ∃ q : Nat, (q : Int) = f * s + t := ⟨(f * s + t).toNat, by omega⟩
        have hat : atWay s (mss fs) f t = (fs.getD q default).ms := by
          unfold atWay
          rw [← eq, Int.toNat_natCast, mss_at]
        have k2 : IntKind.i64.wrap (q' + t) = (q : Int) := by rw [eq', eq]; exact wrapI (by omega)
        have hqf : q < fl := by omega
        have hqf' : (q : Int) < (fl : Int) := by omega
        rw [hat, HLen.out q hqf] at hrest
        obtain ⟨b, off, rfl, hbl, hcell, _⟩ := (HS.out _ hb1).at hqf
        obtain ⟨x, ex⟩ : ∃ x, x = fs.getD q default := ⟨_, rfl⟩
        rw [← ex] at hcell hrest
        clear ex eq eq' u1 u2 u3 hq0 hat
        obtain ⟨xa, xl, xc, xs⟩ := x
        simp only [] at hcell hrest
        by_cases hn0 : xl = 0
        · subst hn0
          have HC : Hid (takeErr s ls p fs f t pick kind = 6) := by show _ = _; rw [hrest]; simp
          clear hrest
          go_upto_region 11 with (go_at_call 24; refine (in_eq (by assumption) _).mono ?_; rintro e u ⟨rfl, hu⟩; rw [hu]; clear hu)
          have bR := bxR.below hb1 z1
          have r0 : _ = some (Value.int .i64 0) := (bR.c 0 (by omega)).1
          have f0 := (bR.c 0 (by omega)).2
          have r1 : _ = some (Value.int .i64 0) := (bR.c 1 (by omega)).1
          have f1 := (bR.c 1 (by omega)).2
          have r2 : _ = some (Value.int .i64 0) := (bR.c 2 (by omega)).1
          have f2 := (bR.c 2 (by omega)).2
          have r3 : _ = some (Value.int .i64 0) := (bR.c 3 (by omega)).1
          have f3 := (bR.c 3 (by omega)).2
          have r4 : _ = some (Value.int .i64 0) := (bR.c 4 (by omega)).1
          have f4 := (bR.c 4 (by omega)).2
          have r5 : _ = some (Value.int .i64 0) := (bR.c 5 (by omega)).1
          have f5 := (bR.c 5 (by omega)).2
          have r6 : _ = some (Value.int .i64 0) := (bR.c 6 (by omega)).1
          have f6 := (bR.c 6 (by omega)).2
          have r7 : _ = some (Value.int .i64 0) := (bR.c 7 (by omega)).1
          have f7 := (bR.c 7 (by omega)).2
          have r8 : _ = some (Value.int .i64 0) := (bR.c 8 (by omega)).1
          have f8 := (bR.c 8 (by omega)).2
          have r9 : _ = some (Value.int .i64 0) := (bR.c 9 (by omega)).1
          have f9 := (bR.c 9 (by omega)).2
          have r10 : _ = some (Value.bool false) := (bR.c 10 (by omega)).1
          have f10 := (bR.c 10 (by omega)).2
          have r11 : _ = some (Value.int .i64 0) := (bR.c 11 (by omega)).1
          have f11 := (bR.c 11 (by omega)).2
          go_wp2
          clear r0 f0 r1 f1 r2 f2 r3 f3 r4 f4 r5 f5 r6 f6 r7 f7 r8 f8 r9 f9 r10 f10 r11 f11
          have bF := ((((((((((((bR.set 0 (by omega) (.int .i64 0)).set 1 (by omega) (.int .i64 0)).set 2 (by omega) (.int .i64 0)).set 3 (by omega) (.int .i64 0)).set 4 (by omega) (.int .i64 0)).set 5 (by omega) (.int .i64 0)).set 6 (by omega) (.int .i64 0)).set 7 (by omega) (.int .i64 0)).set 8 (by omega) (.int .i64 0)).set 9 (by omega) (.int .i64 0)).set 10 (by omega) (.bool false)).set 11 (by omega) (.int .i64 0))
          have wF := (Below.setCell (Below.setCell (Below.setCell (Below.setCell (Below.setCell (Below.setCell (Below.setCell (Below.setCell (Below.setCell (Below.setCell (Below.setCell (Below.setCell (hB.trans (hb1.mono hB.size)) (p := ⟨w.heap.size + 1, 0, none⟩) (by show w.heap.size ≤ w.heap.size + 1; omega) (.int .i64 0)) (p := ⟨w.heap.size + 1, 1, none⟩) (by show w.heap.size ≤ w.heap.size + 1; omega) (.int .i64 0)) (p := ⟨w.heap.size + 1, 2, none⟩) (by show w.heap.size ≤ w.heap.size + 1; omega) (.int .i64 0)) (p := ⟨w.heap.size + 1, 3, none⟩) (by show w.heap.size ≤ w.heap.size + 1; omega) (.int .i64 0)) (p := ⟨w.heap.size + 1, 4, none⟩) (by show w.heap.size ≤ w.heap.size + 1; omega) (.int .i64 0)) (p := ⟨w.heap.size + 1, 5, none⟩) (by show w.heap.size ≤ w.heap.size + 1; omega) (.int .i64 0)) (p := ⟨w.heap.size + 1, 6, none⟩) (by show w.heap.size ≤ w.heap.size + 1; omega) (.int .i64 0)) (p := ⟨w.heap.size + 1, 7, none⟩) (by show w.heap.size ≤ w.heap.size + 1; omega) (.int .i64 0)) (p := ⟨w.heap.size + 1, 8, none⟩) (by show w.heap.size ≤ w.heap.size + 1; omega) (.int .i64 0)) (p := ⟨w.heap.size + 1, 9, none⟩) (by show w.heap.size ≤ w.heap.size + 1; omega) (.int .i64 0)) (p := ⟨w.heap.size + 1, 10, none⟩) (by show w.heap.size ≤ w.heap.size + 1; omega) (.bool false)) (p := ⟨w.heap.size + 1, 11, none⟩) (by show w.heap.size ≤ w.heap.size + 1; omega) (.int .i64 0))
          obtain ⟨Y, eY⟩ : ∃ Y : World, Y = ((((((((((((w1.setCell ⟨w.heap.size + 1, 0, none⟩ (.int .i64 0)).setCell ⟨w.heap.size + 1, 1, none⟩ (.int .i64 0)).setCell ⟨w.heap.size + 1, 2, none⟩ (.int .i64 0)).setCell ⟨w.heap.size + 1, 3, none⟩ (.int .i64 0)).setCell ⟨w.heap.size + 1, 4, none⟩ (.int .i64 0)).setCell ⟨w.heap.size + 1, 5, none⟩ (.int .i64 0)).setCell ⟨w.heap.size + 1, 6, none⟩ (.int .i64 0)).setCell ⟨w.heap.size + 1, 7, none⟩ (.int .i64 0)).setCell ⟨w.heap.size + 1, 8, none⟩ (.int .i64 0)).setCell ⟨w.heap.size + 1, 9, none⟩ (.int .i64 0)).setCell ⟨w.heap.size + 1, 10, none⟩ (.bool false)).setCell ⟨w.heap.size + 1, 11, none⟩ (.int .i64 0)) := ⟨_, rfl⟩
          rw [← eY] at bF wF ⊢
          clear eY bR
          have k0 : Y.cell? ⟨w.heap.size + 1, 0, none⟩ = some (Value.int .i64 0) := (bF.c 0 (by omega)).1
          have k1 : Y.cell? ⟨w.heap.size + 1, 1, none⟩ = some (Value.int .i64 0) := (bF.c 1 (by omega)).1
          have k2 : Y.cell? ⟨w.heap.size + 1, 2, none⟩ = some (Value.int .i64 0) := (bF.c 2 (by omega)).1
          have k3 : Y.cell? ⟨w.heap.size + 1, 3, none⟩ = some (Value.int .i64 0) := (bF.c 3 (by omega)).1
          have k4 : Y.cell? ⟨w.heap.size + 1, 4, none⟩ = some (Value.int .i64 0) := (bF.c 4 (by omega)).1
          have k5 : Y.cell? ⟨w.heap.size + 1, 5, none⟩ = some (Value.int .i64 0) := (bF.c 5 (by omega)).1
          have k6 : Y.cell? ⟨w.heap.size + 1, 6, none⟩ = some (Value.int .i64 0) := (bF.c 6 (by omega)).1
          have k7 : Y.cell? ⟨w.heap.size + 1, 7, none⟩ = some (Value.int .i64 0) := (bF.c 7 (by omega)).1
          have k8 : Y.cell? ⟨w.heap.size + 1, 8, none⟩ = some (Value.int .i64 0) := (bF.c 8 (by omega)).1
          have k9 : Y.cell? ⟨w.heap.size + 1, 9, none⟩ = some (Value.int .i64 0) := (bF.c 9 (by omega)).1
          have k10 : Y.cell? ⟨w.heap.size + 1, 10, none⟩ = some (Value.bool false) := (bF.c 10 (by omega)).1
          have k11 : Y.cell? ⟨w.heap.size + 1, 11, none⟩ = some (Value.int .i64 0) := (bF.c 11 (by omega)).1
          refine bodyPost_ret (v := .tuple #[.slice none 0 0, .agg #[.int .i64 0, .int .i64 0, .int .i64 0, .int .i64 0, .int .i64 0, .int .i64 0, .int .i64 0, .int .i64 0, .int .i64 0, .int .i64 0, .bool false, .int .i64 0], .int .i64 6]) (by simp [results, Tryd.results13, go_sem, k0, k1, k2, k3, k4, k5, k6, k7, k8, k9, k10, k11]) rfl ⟨by rw [HC.out], wF⟩
        · rw [if_neg hn0] at hrest
          have hn0' : ¬ (xl : Int) = 0 := by omega
          by_cases hk4 : kind = 4
          · by_cases h30 : 30 ≤ xl
            · have HC : Hid (takeErr s ls p fs f t pick kind = 8) := by show _ = _; rw [hrest, if_pos ⟨hk4, h30⟩]
              have h30' : (30 : Int) ≤ (xl : Int) := by omega
              subst hk4
              clear hrest
              go_upto_region 13 with (go_at_call 24; refine (in_eq (by assumption) _).mono ?_; rintro e u ⟨rfl, hu⟩; rw [hu]; clear hu)
              have bR := bxR.below hb1 z1
              have r0 : _ = some (Value.int .i64 0) := (bR.c 0 (by omega)).1
              have f0 := (bR.c 0 (by omega)).2
              have r1 : _ = some (Value.int .i64 0) := (bR.c 1 (by omega)).1
              have f1 := (bR.c 1 (by omega)).2
              have r2 : _ = some (Value.int .i64 0) := (bR.c 2 (by omega)).1
              have f2 := (bR.c 2 (by omega)).2
              have r3 : _ = some (Value.int .i64 0) := (bR.c 3 (by omega)).1
              have f3 := (bR.c 3 (by omega)).2
              have r4 : _ = some (Value.int .i64 0) := (bR.c 4 (by omega)).1
              have f4 := (bR.c 4 (by omega)).2
              have r5 : _ = some (Value.int .i64 0) := (bR.c 5 (by omega)).1
              have f5 := (bR.c 5 (by omega)).2
              have r6 : _ = some (Value.int .i64 0) := (bR.c 6 (by omega)).1
              have f6 := (bR.c 6 (by omega)).2
              have r7 : _ = some (Value.int .i64 0) := (bR.c 7 (by omega)).1
              have f7 := (bR.c 7 (by omega)).2
              have r8 : _ = some (Value.int .i64 0) := (bR.c 8 (by omega)).1
              have f8 := (bR.c 8 (by omega)).2
              have r9 : _ = some (Value.int .i64 0) := (bR.c 9 (by omega)).1
              have f9 := (bR.c 9 (by omega)).2
              have r10 : _ = some (Value.bool false) := (bR.c 10 (by omega)).1
              have f10 := (bR.c 10 (by omega)).2
              have r11 : _ = some (Value.int .i64 0) := (bR.c 11 (by omega)).1
              have f11 := (bR.c 11 (by omega)).2
              go_wp2
              clear r0 f0 r1 f1 r2 f2 r3 f3 r4 f4 r5 f5 r6 f6 r7 f7 r8 f8 r9 f9 r10 f10 r11 f11
              have bF := ((((((((((((bR.set 0 (by omega) (.int .i64 0)).set 1 (by omega) (.int .i64 0)).set 2 (by omega) (.int .i64 0)).set 3 (by omega) (.int .i64 0)).set 4 (by omega) (.int .i64 0)).set 5 (by omega) (.int .i64 0)).set 6 (by omega) (.int .i64 0)).set 7 (by omega) (.int .i64 0)).set 8 (by omega) (.int .i64 0)).set 9 (by omega) (.int .i64 0)).set 10 (by omega) (.bool false)).set 11 (by omega) (.int .i64 0))
              have wF := (Below.setCell (Below.setCell (Below.setCell (Below.setCell (Below.setCell (Below.setCell (Below.setCell (Below.setCell (Below.setCell (Below.setCell (Below.setCell (Below.setCell (hB.trans (hb1.mono hB.size)) (p := ⟨w.heap.size + 1, 0, none⟩) (by show w.heap.size ≤ w.heap.size + 1; omega) (.int .i64 0)) (p := ⟨w.heap.size + 1, 1, none⟩) (by show w.heap.size ≤ w.heap.size + 1; omega) (.int .i64 0)) (p := ⟨w.heap.size + 1, 2, none⟩) (by show w.heap.size ≤ w.heap.size + 1; omega) (.int .i64 0)) (p := ⟨w.heap.size + 1, 3, none⟩) (by show w.heap.size ≤ w.heap.size + 1; omega) (.int .i64 0)) (p := ⟨w.heap.size + 1, 4, none⟩) (by show w.heap.size ≤ w.heap.size + 1; omega) (.int .i64 0)) (p := ⟨w.heap.size + 1, 5, none⟩) (by show w.heap.size ≤ w.heap.size + 1; omega) (.int .i64 0)) (p := ⟨w.heap.size + 1, 6, none⟩) (by show w.heap.size ≤ w.heap.size + 1; omega) (.int .i64 0)) (p := ⟨w.heap.size + 1, 7, none⟩) (by show w.heap.size ≤ w.heap.size + 1; omega) (.int .i64 0)) (p := ⟨w.heap.size + 1, 8, none⟩) (by show w.heap.size ≤ w.heap.size + 1; omega) (.int .i64 0)) (p := ⟨w.heap.size + 1, 9, none⟩) (by show w.heap.size ≤ w.heap.size + 1; omega) (.int .i64 0)) (p := ⟨w.heap.size + 1, 10, none⟩) (by show w.heap.size ≤ w.heap.size + 1; omega) (.bool false)) (p := ⟨w.heap.size + 1, 11, none⟩) (by show w.heap.size ≤ w.heap.size + 1; omega) (.int .i64 0))
              obtain ⟨Y, eY⟩ : ∃ Y : World, Y = ((((((((((((w1.setCell ⟨w.heap.size + 1, 0, none⟩ (.int .i64 0)).setCell ⟨w.heap.size + 1, 1, none⟩ (.int .i64 0)).setCell ⟨w.heap.size + 1, 2, none⟩ (.int .i64 0)).setCell ⟨w.heap.size + 1, 3, none⟩ (.int .i64 0)).setCell ⟨w.heap.size + 1, 4, none⟩ (.int .i64 0)).setCell ⟨w.heap.size + 1, 5, none⟩ (.int .i64 0)).setCell ⟨w.heap.size + 1, 6, none⟩ (.int .i64 0)).setCell ⟨w.heap.size + 1, 7, none⟩ (.int .i64 0)).setCell ⟨w.heap.size + 1, 8, none⟩ (.int .i64 0)).setCell ⟨w.heap.size + 1, 9, none⟩ (.int .i64 0)).setCell ⟨w.heap.size + 1, 10, none⟩ (.bool false)).setCell ⟨w.heap.size + 1, 11, none⟩ (.int .i64 0)) := ⟨_, rfl⟩
              rw [← eY] at bF wF ⊢
              clear eY bR
              have k0 : Y.cell? ⟨w.heap.size + 1, 0, none⟩ = some (Value.int .i64 0) := (bF.c 0 (by omega)).1
              have k1 : Y.cell? ⟨w.heap.size + 1, 1, none⟩ = some (Value.int .i64 0) := (bF.c 1 (by omega)).1
              have k2 : Y.cell? ⟨w.heap.size + 1, 2, none⟩ = some (Value.int .i64 0) := (bF.c 2 (by omega)).1
              have k3 : Y.cell? ⟨w.heap.size + 1, 3, none⟩ = some (Value.int .i64 0) := (bF.c 3 (by omega)).1
              have k4 : Y.cell? ⟨w.heap.size + 1, 4, none⟩ = some (Value.int .i64 0) := (bF.c 4 (by omega)).1
              have k5 : Y.cell? ⟨w.heap.size + 1, 5, none⟩ = some (Value.int .i64 0) := (bF.c 5 (by omega)).1
              have k6 : Y.cell? ⟨w.heap.size + 1, 6, none⟩ = some (Value.int .i64 0) := (bF.c 6 (by omega)).1
              have k7 : Y.cell? ⟨w.heap.size + 1, 7, none⟩ = some (Value.int .i64 0) := (bF.c 7 (by omega)).1
              have k8 : Y.cell? ⟨w.heap.size + 1, 8, none⟩ = some (Value.int .i64 0) := (bF.c 8 (by omega)).1
              have k9 : Y.cell? ⟨w.heap.size + 1, 9, none⟩ = some (Value.int .i64 0) := (bF.c 9 (by omega)).1
              have k10 : Y.cell? ⟨w.heap.size + 1, 10, none⟩ = some (Value.bool false) := (bF.c 10 (by omega)).1
              have k11 : Y.cell? ⟨w.heap.size + 1, 11, none⟩ = some (Value.int .i64 0) := (bF.c 11 (by omega)).1
              refine bodyPost_ret (v := .tuple #[.slice none 0 0, .agg #[.int .i64 0, .int .i64 0, .int .i64 0, .int .i64 0, .int .i64 0, .int .i64 0, .int .i64 0, .int .i64 0, .int .i64 0, .int .i64 0, .bool false, .int .i64 0], .int .i64 8]) (by simp [results, Tryd.results13, go_sem, k0, k1, k2, k3, k4, k5, k6, k7, k8, k9, k10, k11]) rfl ⟨by rw [HC.out], wF⟩
            · exact absurd (by rw [hrest, if_neg (fun e => h30 e.2)]) hte
          · exact absurd (by rw [hrest, if_neg (fun e => hk4 e.1)]) hte
  · have HC : Hid (takeErr s ls p fs f t pick kind = flyFault s ls p fs) := te_fly hf0
    obtain ⟨C, eC⟩ : ∃ C, C = flyFault s ls p fs := ⟨_, rfl⟩
    rw [← eC] at hFF hf0 HC
    clear eC
    go_upto_region 7 with (go_at_call 7; refine (hFF _ hlW hfW).mono ?_; rintro e w1 ⟨rfl, hb1⟩)
    have bR := bxR.below hb1 z1
    have r0 : _ = some (Value.int .i64 0) := (bR.c 0 (by omega)).1
    have f0 := (bR.c 0 (by omega)).2
    have r1 : _ = some (Value.int .i64 0) := (bR.c 1 (by omega)).1
    have f1 := (bR.c 1 (by omega)).2
    have r2 : _ = some (Value.int .i64 0) := (bR.c 2 (by omega)).1
    have f2 := (bR.c 2 (by omega)).2
    have r3 : _ = some (Value.int .i64 0) := (bR.c 3 (by omega)).1
    have f3 := (bR.c 3 (by omega)).2
    have r4 : _ = some (Value.int .i64 0) := (bR.c 4 (by omega)).1
    have f4 := (bR.c 4 (by omega)).2
    have r5 : _ = some (Value.int .i64 0) := (bR.c 5 (by omega)).1
    have f5 := (bR.c 5 (by omega)).2
    have r6 : _ = some (Value.int .i64 0) := (bR.c 6 (by omega)).1
    have f6 := (bR.c 6 (by omega)).2
    have r7 : _ = some (Value.int .i64 0) := (bR.c 7 (by omega)).1
    have f7 := (bR.c 7 (by omega)).2
    have r8 : _ = some (Value.int .i64 0) := (bR.c 8 (by omega)).1
    have f8 := (bR.c 8 (by omega)).2
    have r9 : _ = some (Value.int .i64 0) := (bR.c 9 (by omega)).1
    have f9 := (bR.c 9 (by omega)).2
    have r10 : _ = some (Value.bool false) := (bR.c 10 (by omega)).1
    have f10 := (bR.c 10 (by omega)).2
    have r11 : _ = some (Value.int .i64 0) := (bR.c 11 (by omega)).1
    have f11 := (bR.c 11 (by omega)).2
    go_wp2
    clear r0 f0 r1 f1 r2 f2 r3 f3 r4 f4 r5 f5 r6 f6 r7 f7 r8 f8 r9 f9 r10 f10 r11 f11
    have bF := ((((((((((((bR.set 0 (by omega) (.int .i64 0)).set 1 (by omega) (.int .i64 0)).set 2 (by omega) (.int .i64 0)).set 3 (by omega) (.int .i64 0)).set 4 (by omega) (.int .i64 0)).set 5 (by omega) (.int .i64 0)).set 6 (by omega) (.int .i64 0)).set 7 (by omega) (.int .i64 0)).set 8 (by omega) (.int .i64 0)).set 9 (by omega) (.int .i64 0)).set 10 (by omega) (.bool false)).set 11 (by omega) (.int .i64 0))
    have wF := (Below.setCell (Below.setCell (Below.setCell (Below.setCell (Below.setCell (Below.setCell (Below.setCell (Below.setCell (Below.setCell (Below.setCell (Below.setCell (Below.setCell (hB.trans (hb1.mono hB.size)) (p := ⟨w.heap.size + 1, 0, none⟩) (by show w.heap.size ≤ w.heap.size + 1; omega) (.int .i64 0)) (p := ⟨w.heap.size + 1, 1, none⟩) (by show w.heap.size ≤ w.heap.size + 1; omega) (.int .i64 0)) (p := ⟨w.heap.size + 1, 2, none⟩) (by show w.heap.size ≤ w.heap.size + 1; omega) (.int .i64 0)) (p := ⟨w.heap.size + 1, 3, none⟩) (by show w.heap.size ≤ w.heap.size + 1; omega) (.int .i64 0)) (p := ⟨w.heap.size + 1, 4, none⟩) (by show w.heap.size ≤ w.heap.size + 1; omega) (.int .i64 0)) (p := ⟨w.heap.size + 1, 5, none⟩) (by show w.heap.size ≤ w.heap.size + 1; omega) (.int .i64 0)) (p := ⟨w.heap.size + 1, 6, none⟩) (by show w.heap.size ≤ w.heap.size + 1; omega) (.int .i64 0)) (p := ⟨w.heap.size + 1, 7, none⟩) (by show w.heap.size ≤ w.heap.size + 1; omega) (.int .i64 0)) (p := ⟨w.heap.size + 1, 8, none⟩) (by show w.heap.size ≤ w.heap.size + 1; omega) (.int .i64 0)) (p := ⟨w.heap.size + 1, 9, none⟩) (by show w.heap.size ≤ w.heap.size + 1; omega) (.int .i64 0)) (p := ⟨w.heap.size + 1, 10, none⟩) (by show w.heap.size ≤ w.heap.size + 1; omega) (.bool false)) (p := ⟨w.heap.size + 1, 11, none⟩) (by show w.heap.size ≤ w.heap.size + 1; omega) (.int .i64 0))
    obtain ⟨Y, eY⟩ : ∃ Y : World, Y = ((((((((((((w1.setCell ⟨w.heap.size + 1, 0, none⟩ (.int .i64 0)).setCell ⟨w.heap.size + 1, 1, none⟩ (.int .i64 0)).setCell ⟨w.heap.size + 1, 2, none⟩ (.int .i64 0)).setCell ⟨w.heap.size + 1, 3, none⟩ (.int .i64 0)).setCell ⟨w.heap.size + 1, 4, none⟩ (.int .i64 0)).setCell ⟨w.heap.size + 1, 5, none⟩ (.int .i64 0)).setCell ⟨w.heap.size + 1, 6, none⟩ (.int .i64 0)).setCell ⟨w.heap.size + 1, 7, none⟩ (.int .i64 0)).setCell ⟨w.heap.size + 1, 8, none⟩ (.int .i64 0)).setCell ⟨w.heap.size + 1, 9, none⟩ (.int .i64 0)).setCell ⟨w.heap.size + 1, 10, none⟩ (.bool false)).setCell ⟨w.heap.size + 1, 11, none⟩ (.int .i64 0)) := ⟨_, rfl⟩
    rw [← eY] at bF wF ⊢
    clear eY bR
    have k0 : Y.cell? ⟨w.heap.size + 1, 0, none⟩ = some (Value.int .i64 0) := (bF.c 0 (by omega)).1
    have k1 : Y.cell? ⟨w.heap.size + 1, 1, none⟩ = some (Value.int .i64 0) := (bF.c 1 (by omega)).1
    have k2 : Y.cell? ⟨w.heap.size + 1, 2, none⟩ = some (Value.int .i64 0) := (bF.c 2 (by omega)).1
    have k3 : Y.cell? ⟨w.heap.size + 1, 3, none⟩ = some (Value.int .i64 0) := (bF.c 3 (by omega)).1
    have k4 : Y.cell? ⟨w.heap.size + 1, 4, none⟩ = some (Value.int .i64 0) := (bF.c 4 (by omega)).1
    have k5 : Y.cell? ⟨w.heap.size + 1, 5, none⟩ = some (Value.int .i64 0) := (bF.c 5 (by omega)).1
    have k6 : Y.cell? ⟨w.heap.size + 1, 6, none⟩ = some (Value.int .i64 0) := (bF.c 6 (by omega)).1
    have k7 : Y.cell? ⟨w.heap.size + 1, 7, none⟩ = some (Value.int .i64 0) := (bF.c 7 (by omega)).1
    have k8 : Y.cell? ⟨w.heap.size + 1, 8, none⟩ = some (Value.int .i64 0) := (bF.c 8 (by omega)).1
    have k9 : Y.cell? ⟨w.heap.size + 1, 9, none⟩ = some (Value.int .i64 0) := (bF.c 9 (by omega)).1
    have k10 : Y.cell? ⟨w.heap.size + 1, 10, none⟩ = some (Value.bool false) := (bF.c 10 (by omega)).1
    have k11 : Y.cell? ⟨w.heap.size + 1, 11, none⟩ = some (Value.int .i64 0) := (bF.c 11 (by omega)).1
    refine bodyPost_ret (v := .tuple #[.slice none 0 0, .agg #[.int .i64 0, .int .i64 0, .int .i64 0, .int .i64 0, .int .i64 0, .int .i64 0, .int .i64 0, .int .i64 0, .int .i64 0, .int .i64 0, .bool false, .int .i64 0], .int .i64 C]) (by simp [results, Tryd.results13, go_sem, k0, k1, k2, k3, k4, k5, k6, k7, k8, k9, k10, k11]) rfl ⟨by rw [HC.out], wF⟩

end Go.Proofs.YtpkbklhjpaaiiaaDoor.Nt
