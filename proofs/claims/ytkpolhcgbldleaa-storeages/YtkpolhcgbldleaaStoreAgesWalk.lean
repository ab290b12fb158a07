/- The walk of the law StoreAges. -/
import Derived.Test.YtkpolhcgbldleaaSAge
import Derived.Test.YtkpolhcgbldleaaSAgeRef
import Derived.Test.YtkpolhcgbldleaaSSame
import Derived.Test.YtkpolhcgbldleaaSOpenL
namespace Go.Proofs.Ytkpolhcgbldleaa
open Go.ChangeShapes Go.WideShapes Go.ChangeAt Go.RowKit St
set_option linter.unusedVariables false

set_option maxRecDepth 100000 in
set_option maxHeartbeats 4000000 in
theorem storeAges_walk (s : SV) (p : Int) (w : World) (h : IsStore w s) (hwf : ∀ t ∈ s.over, TxWf t) (hli : SLight s) (_ : (Lit.int .i64 p).wf = true) :
    Calls Try.prog 3 #[s.val, .int .i64 p] w fun e w' => e = .returned (.bool true) ∧ Below w.heap.size w w' := by
  have hCp := fun w' h1 => storeCopy_any s w' h1 hli.items hli.locks hli.doubts hli.over
  have hAg : ∀ (k : SV) (w' : World), s.same k → IsStore w' k → Calls Try.prog 10 #[k.val, .int .i64 p] w' fun e w'' => ∃ (r : SV) (ta : Option Addr) (tc : Nat), e = .returned (.tuple #[r.val, .slice ta (ageTold s p).length tc, .int .i64 (ageErr s p)]) ∧ IsStore w'' r ∧ r.data = ageData s p ∧ IsTxns w'' ta (ageTold s p).length tc (ageTold s p) ∧ Below w'.heap.size w' w'' := by
    intro k w' hk h1
    obtain ⟨v1, v2, v3, v4, v5, v6, v7, v8⟩ := hk
    have hA := age_any k p w' h1 (by rw [v4]; exact hwf) (by rw [v8]; exact hli.over)
    have y0 : storeOK k = storeOK s := by simp [storeOK, v1, v2, v3, v4]
    have y1 : ageErr k p = ageErr s p := by simp [ageErr, y0]
    have y2 : ageData k p = ageData s p := by simp [ageData, y1, v1, v2, v3, v4]
    have y3 : ageTold k p = ageTold s p := by simp [ageTold, y1, v3]
    rw [y1, y2, y3] at hA
    exact hA
  have hRf := fun w' h1 => ageRef_any s p w' h1 hli.over
  obtain ⟨E, e6⟩ : ∃ R : Int, R = ageErr s p := ⟨_, rfl⟩
  obtain ⟨D, e7⟩ : ∃ R, R = ageData s p := ⟨_, rfl⟩
  obtain ⟨T, e8⟩ : ∃ R, R = ageTold s p := ⟨_, rfl⟩
  rw [← e6, ← e7, ← e8] at hAg hRf
  clear e6 e7 e8 hli
  have HSD : Hid (∀ k, s.same k → k.data = s.data) := fun k hk => same_data hk
  have HAG : Hid (∀ (k : SV) (w' : World), s.same k → IsStore w' k → Calls Try.prog 10 #[k.val, .int .i64 p] w' fun e w'' => ∃ (r : SV) (ta : Option Addr) (tc : Nat), e = .returned (.tuple #[r.val, .slice ta T.length tc, .int .i64 E]) ∧ IsStore w'' r ∧ r.data = D ∧ IsTxns w'' ta T.length tc T ∧ Below w'.heap.size w' w'') := hAg
  clear hAg
  have HS0 : Hid (IsStore w s) := h
  obtain ⟨ia, il, ic, la, ll, lc, da, dl, dc, oa, ol, oc, items, locks, doubts, over⟩ := s
  simp only [SV.val] at *
  obtain ⟨W, hW⟩ : ∃ W : World, W = w.alloc (.cells #[.slice ia il ic, .slice la ll lc, .slice da dl dc, .slice oa ol oc] 27) := ⟨_, rfl⟩
  have hB : Below w.heap.size w W := by rw [hW]; exact (Below.refl _ _).alloc (Nat.le_refl _) _
  have bS : BoxN W w.heap.size 4 [.slice ia il ic, .slice la ll lc, .slice da dl dc, .slice oa ol oc] := by rw [hW]; exact boxn_new w #[.slice ia il ic, .slice la ll lc, .slice da dl dc, .slice oa ol oc] 27 4 rfl
  have KS : Hid (∀ U, Below W.heap.size W U → U.cell? ⟨w.heap.size, 0, none⟩ = some (.slice ia il ic) ∧ U.cell? ⟨w.heap.size, 1, none⟩ = some (.slice la ll lc) ∧ U.cell? ⟨w.heap.size, 2, none⟩ = some (.slice da dl dc) ∧ U.cell? ⟨w.heap.size, 3, none⟩ = some (.slice oa ol oc)) := fun U hU => by
    have hp := bS.below hU bS.lt
    exact ⟨(hp.c 0 (by decide)).1, (hp.c 1 (by decide)).1, (hp.c 2 (by decide)).1, (hp.c 3 (by decide)).1⟩
  obtain ⟨d0, d1, d2, d3⟩ := KS.out _ (Below.refl _ _)
  have hSW := h.below hB
  have HSW : Hid (IsStore W ⟨ia, il, ic, la, ll, lc, da, dl, dc, oa, ol, oc, items, locks, doubts, over⟩) := hSW
  clear bS h
  go_enter Try.func3, Try.ntmps3
  go_upto_region 1 with (fail)
  rw [← hW]
  clear hW
  go_upto_region 2 with (go_at_call 9; refine (hCp _ hSW).mono ?_; rintro e w1 ⟨⟨a0, n0, c0, a1, n1, c1, a2, n2, c2, a3, n3, c3, i', l', b', o'⟩, rfl, hsame, hown, hb1⟩; have hAk := fun w' h1 => HAG.out _ w' hsame h1; have hdk := HSD.out _ hsame; have hSk := hown.isStore; simp only [] at hAk ⊢; clear hsame hown)
  obtain ⟨X1, hX1⟩ : ∃ X : World, X = w1.alloc (.cells #[.slice a0 n0 c0, .slice a1 n1 c1, .slice a2 n2 c2, .slice a3 n3 c3] 27) := ⟨_, rfl⟩
  have b1 : Below w1.heap.size w1 X1 := by rw [hX1]; exact (Below.refl _ _).alloc (Nat.le_refl _) _
  have bK : BoxN X1 w1.heap.size 4 [.slice a0 n0 c0, .slice a1 n1 c1, .slice a2 n2 c2, .slice a3 n3 c3] := by rw [hX1]; exact boxn_new w1 #[.slice a0 n0 c0, .slice a1 n1 c1, .slice a2 n2 c2, .slice a3 n3 c3] 27 4 rfl
  have KK : Hid (∀ U, Below X1.heap.size X1 U → U.cell? ⟨w1.heap.size, 0, none⟩ = some (.slice a0 n0 c0) ∧ U.cell? ⟨w1.heap.size, 1, none⟩ = some (.slice a1 n1 c1) ∧ U.cell? ⟨w1.heap.size, 2, none⟩ = some (.slice a2 n2 c2) ∧ U.cell? ⟨w1.heap.size, 3, none⟩ = some (.slice a3 n3 c3)) := fun U hU => by
    have hp := bK.below hU bK.lt
    exact ⟨(hp.c 0 (by decide)).1, (hp.c 1 (by decide)).1, (hp.c 2 (by decide)).1, (hp.c 3 (by decide)).1⟩
  rw [← hX1]
  clear hX1 bK d0 d1 d2 d3
  replace hSk := hSk.below b1
  have hbW1 : Below W.heap.size W X1 := hb1.trans (b1.mono hb1.size)
  obtain ⟨k0, k1, k2, k3⟩ := KK.out _ (Below.refl _ _)
  obtain ⟨d0, d1, d2, d3⟩ := KS.out _ hbW1
  go_upto_region 3 with (go_at_call 10; refine (hAk _ hSk).mono ?_; rintro e w2 ⟨⟨p0, q0, r0, p1, q1, r1, p2, q2, r2, p3, q3, r3, xi, xl, xb, xo⟩, ta, tc, rfl, hSx, hdx, hTx, hb2⟩; simp only [])
  obtain ⟨X2, hX2⟩ : ∃ X : World, X = w2.alloc (.cells #[.slice p0 q0 r0, .slice p1 q1 r1, .slice p2 q2 r2, .slice p3 q3 r3] 27) := ⟨_, rfl⟩
  have b2 : Below w2.heap.size w2 X2 := by rw [hX2]; exact (Below.refl _ _).alloc (Nat.le_refl _) _
  have bX : BoxN X2 w2.heap.size 4 [.slice p0 q0 r0, .slice p1 q1 r1, .slice p2 q2 r2, .slice p3 q3 r3] := by rw [hX2]; exact boxn_new w2 #[.slice p0 q0 r0, .slice p1 q1 r1, .slice p2 q2 r2, .slice p3 q3 r3] 27 4 rfl
  have KX : Hid (∀ U, Below X2.heap.size X2 U → U.cell? ⟨w2.heap.size, 0, none⟩ = some (.slice p0 q0 r0) ∧ U.cell? ⟨w2.heap.size, 1, none⟩ = some (.slice p1 q1 r1) ∧ U.cell? ⟨w2.heap.size, 2, none⟩ = some (.slice p2 q2 r2) ∧ U.cell? ⟨w2.heap.size, 3, none⟩ = some (.slice p3 q3 r3)) := fun U hU => by
    have hp := bX.below hU bX.lt
    exact ⟨(hp.c 0 (by decide)).1, (hp.c 1 (by decide)).1, (hp.c 2 (by decide)).1, (hp.c 3 (by decide)).1⟩
  rw [← hX2]
  clear hX2 bX d0 d1 d2 d3 k0 k1 k2 k3
  replace hSx := hSx.below b2
  replace hTx := hTx.below b2
  have hbX : Below X1.heap.size X1 X2 := hb2.trans (b2.mono hb2.size)
  have hbW2 : Below W.heap.size W X2 := hbW1.trans (hbX.mono hbW1.size)
  obtain ⟨d0, d1, d2, d3⟩ := KS.out _ hbW2
  have hS2 := HSW.out.below hbW2
  go_upto_region 4 with (go_at_call 11; refine (hRf _ hS2).mono ?_; rintro e w3 ⟨⟨s0, t0, u0, s1, t1, u1, s2, t2, u2, s3, t3, u3, yi, yl, yb, yo⟩, tb, td, rfl, hSy, hdy, hTy, hb3⟩; simp only [])
  obtain ⟨X3, hX3⟩ : ∃ X : World, X = w3.alloc (.cells #[.slice s0 t0 u0, .slice s1 t1 u1, .slice s2 t2 u2, .slice s3 t3 u3] 27) := ⟨_, rfl⟩
  have b3 : Below w3.heap.size w3 X3 := by rw [hX3]; exact (Below.refl _ _).alloc (Nat.le_refl _) _
  have bY : BoxN X3 w3.heap.size 4 [.slice s0 t0 u0, .slice s1 t1 u1, .slice s2 t2 u2, .slice s3 t3 u3] := by rw [hX3]; exact boxn_new w3 #[.slice s0 t0 u0, .slice s1 t1 u1, .slice s2 t2 u2, .slice s3 t3 u3] 27 4 rfl
  rw [← hX3]
  clear hX3 d0 d1 d2 d3
  replace hSy := hSy.below b3
  replace hTy := hTy.below b3
  have hbY : Below X2.heap.size X2 X3 := hb3.trans (b3.mono hb3.size)
  have hbW3 : Below W.heap.size W X3 := hbW2.trans (hbY.mono hbW2.size)
  have hbK3 : Below X1.heap.size X1 X3 := hbX.trans (hbY.mono hbX.size)
  have y0 := (bY.c 0 (by decide)).1
  have y1 := (bY.c 1 (by decide)).1
  have y2 := (bY.c 2 (by decide)).1
  have y3 := (bY.c 3 (by decide)).1
  simp only [List.getD_cons_zero, List.getD_cons_succ] at y0 y1 y2 y3
  clear bY
  obtain ⟨x0, x1, x2, x3⟩ := KX.out _ hbY
  have tok : True := trivial
  go_wp2_with (first
    | (go_at_call 12; clear tok; refine (sameStore_any _ _ _ (hSx.below hbY) hSy (hdx.trans hdy.symm)).mono ?_; rintro e w4 ⟨rfl, hb4⟩)
    | (go_at_call 13; refine (sameTxns_any _ _ _ _ _ _ _ ((hTx.below hbY).below hb4) (hTy.below hb4)).mono ?_; rintro e w5 ⟨rfl, hb5⟩; have hb54 := hb4.trans (hb5.mono hb4.size); have hbW5 := hbW3.trans (hb54.mono hbW3.size); have hbK5 := hbK3.trans (hb54.mono hbK3.size); obtain ⟨d0, d1, d2, d3⟩ := KS.out _ hbW5; obtain ⟨k0, k1, k2, k3⟩ := KK.out _ hbK5; have hSk5 := hSk.below hbK5; have hS5 := HSW.out.below hbW5)
    | (go_at_call 12; refine (sameStore_any _ _ _ hSk5 hS5 hdk).mono ?_; rintro e w6 ⟨rfl, hb6⟩))
  go_ret
  exact ⟨rfl, hB.trans ((hbW5.trans (hb6.mono hbW5.size)).mono hB.size)⟩
end Go.Proofs.Ytkpolhcgbldleaa
