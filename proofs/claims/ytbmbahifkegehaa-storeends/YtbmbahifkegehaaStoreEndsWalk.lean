/- The walk of the law StoreEnds. -/
import Derived.Test.YtbmbahifkegehaaSEnd
import Derived.Test.YtbmbahifkegehaaSEndRef
import Derived.Test.YtbmbahifkegehaaSSame
import Derived.Test.YtbmbahifkegehaaSOpenL
namespace Go.Proofs.Ytbmbahifkegehaa
open Go.ChangeShapes Go.WideShapes Go.ChangeAt Go.RowKit St
set_option linter.unusedVariables false

set_option maxRecDepth 100000 in
set_option maxHeartbeats 4000000 in
theorem storeEnds_walk (s : SV) (t : Int × Int) (yes : Bool) (w : World) (h : IsStore w s) (hwf : ∀ t ∈ s.over, TxWf t) (hli : SLight s) (_ : TxWf t)  :
    Calls Try.prog 3 #[s.val, .agg #[.int .i64 t.1, .int .i64 t.2], .bool yes] w fun e w' => e = .returned (.bool true) ∧ Below w.heap.size w w' := by
  have hCp := fun w' h1 => storeCopy_any s w' h1 hli.items hli.locks hli.doubts hli.over
  have hAg : ∀ (k : SV) (w' : World), s.same k → IsStore w' k → Calls Try.prog 10 #[k.val, .agg #[.int .i64 t.1, .int .i64 t.2], .bool yes] w' fun e w'' => ∃ r : SV, e = .returned (.tuple #[r.val, .int .i64 (endErr s t yes)]) ∧ IsStore w'' r ∧ r.data = endData s t yes ∧ Below w'.heap.size w' w'' := by
    clear hCp
    intro k w' hk h1
    obtain ⟨v1, v2, v3, v4, v5, v6, v7, v8⟩ := hk
    have hA := end_any k t yes w' h1 (by rw [v4]; exact hwf) (by rw [v8]; exact hli.over)
    clear h1 h hwf hli
    obtain ⟨ia, il, ic, la, ll, lc, da, dl, dc, oa, ol, oc, items, locks, doubts, over⟩ := s
    obtain ⟨ja, jl, jc, ma, ml, mc, ea, el, ec, pa, pl, pc, items', locks', doubts', over'⟩ := k
    simp only [] at v1 v2 v3 v4 v5 v6 v7 v8
    subst v1 v2 v3 v4
    have y0 : endErr ⟨ja, jl, jc, ma, ml, mc, ea, el, ec, pa, pl, pc, items', locks', doubts', over'⟩ t yes = endErr ⟨ia, il, ic, la, ll, lc, da, dl, dc, oa, ol, oc, items', locks', doubts', over'⟩ t yes := rfl
    have y1 : endData ⟨ja, jl, jc, ma, ml, mc, ea, el, ec, pa, pl, pc, items', locks', doubts', over'⟩ t yes = endData ⟨ia, il, ic, la, ll, lc, da, dl, dc, oa, ol, oc, items', locks', doubts', over'⟩ t yes := rfl
    rw [y0, y1] at hA
    exact hA
  have hRf := fun w' h1 => endRef_any s t yes w' h1 hli.items hli.locks hli.doubts hli.over
  obtain ⟨E, e6⟩ : ∃ R : Int, R = endErr s t yes := ⟨_, rfl⟩
  obtain ⟨D, e7⟩ : ∃ R, R = endData s t yes := ⟨_, rfl⟩
  rw [← e6, ← e7] at hAg hRf
  clear e6 e7 hli 
  have HSD : Hid (∀ k, s.same k → k.data = s.data) := fun k hk => same_data hk
  have HAG : Hid (∀ (k : SV) (w' : World), s.same k → IsStore w' k → Calls Try.prog 10 #[k.val, .agg #[.int .i64 t.1, .int .i64 t.2], .bool yes] w' fun e w'' => ∃ r : SV, e = .returned (.tuple #[r.val, .int .i64 E]) ∧ IsStore w'' r ∧ r.data = D ∧ Below w'.heap.size w' w'') := hAg
  clear hAg
  obtain ⟨ia, il, ic, la, ll, lc, da, dl, dc, oa, ol, oc, items, locks, doubts, over⟩ := s
  obtain ⟨ts, tn⟩ := t
  simp only [SV.val] at *
  obtain ⟨W, hW⟩ : ∃ W : World, W = ((w.alloc (.cells #[.slice ia il ic, .slice la ll lc, .slice da dl dc, .slice oa ol oc] 27)).alloc (.cells #[.int .i64 ts, .int .i64 tn] 29)) := ⟨_, rfl⟩
  have hB : Below w.heap.size w W := by rw [hW]; exact (((Below.refl _ _).alloc (Nat.le_refl _) _).alloc (by simp) _)
  have zW : W.heap.size = w.heap.size + 2 := by rw [hW]; simp
  have zb0 : w.heap.size < W.heap.size := by omega
  have zb1 : w.heap.size + 1 < W.heap.size := by omega
  have HZW : Hid (W.heap.size = w.heap.size + 2) := zW
  clear zW
  have c0 : W.cell? ⟨w.heap.size, 0, none⟩ = some (.slice ia il ic) := by rw [hW]; go_simp
  have c1 : W.cell? ⟨w.heap.size, 1, none⟩ = some (.slice la ll lc) := by rw [hW]; go_simp
  have c2 : W.cell? ⟨w.heap.size, 2, none⟩ = some (.slice da dl dc) := by rw [hW]; go_simp
  have c3 : W.cell? ⟨w.heap.size, 3, none⟩ = some (.slice oa ol oc) := by rw [hW]; go_simp
  have t0 : W.cell? ⟨w.heap.size + 1, 0, none⟩ = some (.int .i64 ts) := by rw [hW]; go_simp
  have t1 : W.cell? ⟨w.heap.size + 1, 1, none⟩ = some (.int .i64 tn) := by rw [hW]; go_simp
  have KA : Hid (∀ U : World, Below W.heap.size W U → U.cell? ⟨w.heap.size, 0, none⟩ = some (.slice ia il ic) ∧ U.cell? ⟨w.heap.size, 1, none⟩ = some (.slice la ll lc) ∧ U.cell? ⟨w.heap.size, 2, none⟩ = some (.slice da dl dc) ∧ U.cell? ⟨w.heap.size, 3, none⟩ = some (.slice oa ol oc) ∧ U.cell? ⟨w.heap.size + 1, 0, none⟩ = some (.int .i64 ts) ∧ U.cell? ⟨w.heap.size + 1, 1, none⟩ = some (.int .i64 tn)) := fun U hU => ⟨(hU.cell (p := ⟨w.heap.size, 0, none⟩) zb0).trans c0, (hU.cell (p := ⟨w.heap.size, 1, none⟩) zb0).trans c1, (hU.cell (p := ⟨w.heap.size, 2, none⟩) zb0).trans c2, (hU.cell (p := ⟨w.heap.size, 3, none⟩) zb0).trans c3, (hU.cell (p := ⟨w.heap.size + 1, 0, none⟩) zb1).trans t0, (hU.cell (p := ⟨w.heap.size + 1, 1, none⟩) zb1).trans t1⟩
  have hSW := h.below hB
  have HSW : Hid (IsStore W ⟨ia, il, ic, la, ll, lc, da, dl, dc, oa, ol, oc, items, locks, doubts, over⟩) := hSW
  clear h
  go_enter Try.func3, Try.ntmps3
  go_upto_region 1 with (fail)
  rw [← hW]
  clear hW
  go_upto_region 2 with (go_at_call 9; refine (hCp _ hSW).mono ?_; rintro e w1 ⟨⟨a0, n0, u0, a1, n1, u1, a2, n2, u2, a3, n3, u3, i', l', b', o'⟩, rfl, hsame, hown, hb1⟩; have hAk := fun w' h1 => HAG.out _ w' hsame h1; have hdk := HSD.out _ hsame; have hSk := hown.isStore; simp only [] at hAk ⊢; clear hsame hown)
  clear c0 c1 c2 c3 t0 t1
  obtain ⟨WK, hWK⟩ : ∃ X : World, X = w1.alloc (.cells #[.slice a0 n0 u0, .slice a1 n1 u1, .slice a2 n2 u2, .slice a3 n3 u3] 27) := ⟨_, rfl⟩
  have bK : Below w1.heap.size w1 WK := by rw [hWK]; exact (Below.refl _ _).alloc (Nat.le_refl _) _
  have bB : BoxN WK w1.heap.size 4 [.slice a0 n0 u0, .slice a1 n1 u1, .slice a2 n2 u2, .slice a3 n3 u3] := by rw [hWK]; exact boxn_new w1 #[.slice a0 n0 u0, .slice a1 n1 u1, .slice a2 n2 u2, .slice a3 n3 u3] 27 4 rfl
  have KK : Hid (∀ U, Below WK.heap.size WK U → U.cell? ⟨w1.heap.size, 0, none⟩ = some (.slice a0 n0 u0) ∧ U.cell? ⟨w1.heap.size, 1, none⟩ = some (.slice a1 n1 u1) ∧ U.cell? ⟨w1.heap.size, 2, none⟩ = some (.slice a2 n2 u2) ∧ U.cell? ⟨w1.heap.size, 3, none⟩ = some (.slice a3 n3 u3)) := fun U hU => by
    have hp := bB.below hU bB.lt
    exact ⟨(hp.c 0 (by decide)).1, (hp.c 1 (by decide)).1, (hp.c 2 (by decide)).1, (hp.c 3 (by decide)).1⟩
  rw [← hWK]
  clear hWK bB
  replace hSk := hSk.below bK
  have hbW1 : Below W.heap.size W WK := hb1.trans (bK.mono hb1.size)
  obtain ⟨m0, m1, m2, m3⟩ := KK.out _ (Below.refl _ _)
  obtain ⟨c0, c1, c2, c3, t0, t1⟩ := KA.out _ hbW1
  go_upto_region 3 with (go_at_call 10; refine (hAk _ hSk).mono ?_; rintro e w2 ⟨⟨p0, q0, g0, p1, q1, g1, p2, q2, g2, p3, q3, g3, xi, xl, xb, xo⟩, rfl, hSx, hdx, hb2⟩; simp only [])
  clear c0 c1 c2 c3 t0 t1 m0 m1 m2 m3
  obtain ⟨WX, hWX⟩ : ∃ X : World, X = w2.alloc (.cells #[.slice p0 q0 g0, .slice p1 q1 g1, .slice p2 q2 g2, .slice p3 q3 g3] 27) := ⟨_, rfl⟩
  have bX : Below w2.heap.size w2 WX := by rw [hWX]; exact (Below.refl _ _).alloc (Nat.le_refl _) _
  have bB : BoxN WX w2.heap.size 4 [.slice p0 q0 g0, .slice p1 q1 g1, .slice p2 q2 g2, .slice p3 q3 g3] := by rw [hWX]; exact boxn_new w2 #[.slice p0 q0 g0, .slice p1 q1 g1, .slice p2 q2 g2, .slice p3 q3 g3] 27 4 rfl
  have KX : Hid (∀ U, Below WX.heap.size WX U → U.cell? ⟨w2.heap.size, 0, none⟩ = some (.slice p0 q0 g0) ∧ U.cell? ⟨w2.heap.size, 1, none⟩ = some (.slice p1 q1 g1) ∧ U.cell? ⟨w2.heap.size, 2, none⟩ = some (.slice p2 q2 g2) ∧ U.cell? ⟨w2.heap.size, 3, none⟩ = some (.slice p3 q3 g3)) := fun U hU => by
    have hp := bB.below hU bB.lt
    exact ⟨(hp.c 0 (by decide)).1, (hp.c 1 (by decide)).1, (hp.c 2 (by decide)).1, (hp.c 3 (by decide)).1⟩
  rw [← hWX]
  clear hWX bB
  replace hSx := hSx.below bX
  have hbX : Below WK.heap.size WK WX := hb2.trans (bX.mono hb2.size)
  have hbW2 : Below W.heap.size W WX := hbW1.trans (hbX.mono hbW1.size)
  obtain ⟨c0, c1, c2, c3, t0, t1⟩ := KA.out _ hbW2
  have hS2 := HSW.out.below hbW2
  go_upto_region 4 with (go_at_call 11; refine (hRf _ hS2).mono ?_; rintro e w3 ⟨⟨s0, f0, h0, s1, f1, h1, s2, f2, h2, s3, f3, h3, yi, yl, yb, yo⟩, rfl, hSy, hdy, hb3⟩; simp only [])
  clear c0 c1 c2 c3 t0 t1
  obtain ⟨WY, hWY⟩ : ∃ X : World, X = w3.alloc (.cells #[.slice s0 f0 h0, .slice s1 f1 h1, .slice s2 f2 h2, .slice s3 f3 h3] 27) := ⟨_, rfl⟩
  have bY : Below w3.heap.size w3 WY := by rw [hWY]; exact (Below.refl _ _).alloc (Nat.le_refl _) _
  have bB : BoxN WY w3.heap.size 4 [.slice s0 f0 h0, .slice s1 f1 h1, .slice s2 f2 h2, .slice s3 f3 h3] := by rw [hWY]; exact boxn_new w3 #[.slice s0 f0 h0, .slice s1 f1 h1, .slice s2 f2 h2, .slice s3 f3 h3] 27 4 rfl
  have KY : Hid (∀ U, Below WY.heap.size WY U → U.cell? ⟨w3.heap.size, 0, none⟩ = some (.slice s0 f0 h0) ∧ U.cell? ⟨w3.heap.size, 1, none⟩ = some (.slice s1 f1 h1) ∧ U.cell? ⟨w3.heap.size, 2, none⟩ = some (.slice s2 f2 h2) ∧ U.cell? ⟨w3.heap.size, 3, none⟩ = some (.slice s3 f3 h3)) := fun U hU => by
    have hp := bB.below hU bB.lt
    exact ⟨(hp.c 0 (by decide)).1, (hp.c 1 (by decide)).1, (hp.c 2 (by decide)).1, (hp.c 3 (by decide)).1⟩
  rw [← hWY]
  clear hWY bB
  replace hSy := hSy.below bY
  have hbY : Below WX.heap.size WX WY := hb3.trans (bY.mono hb3.size)
  have hbW3 : Below W.heap.size W WY := hbW2.trans (hbY.mono hbW2.size)
  have hbK3 : Below WK.heap.size WK WY := hbX.trans (hbY.mono hbX.size)
  obtain ⟨y0, y1, y2, y3⟩ := KY.out _ (Below.refl _ _)
  obtain ⟨x0, x1, x2, x3⟩ := KX.out _ hbY
  have tok : True := trivial
  go_wp2_with (first
    | (go_at_call 12; clear tok; refine (sameStore_any _ _ _ (hSx.below hbY) hSy (hdx.trans hdy.symm)).mono ?_; rintro e w4 ⟨rfl, hb4⟩; have hbW5 := hbW3.trans (hb4.mono hbW3.size); have hbK5 := hbK3.trans (hb4.mono hbK3.size); obtain ⟨c0, c1, c2, c3, t0, t1⟩ := KA.out _ hbW5; obtain ⟨m0, m1, m2, m3⟩ := KK.out _ hbK5; have hSk5 := hSk.below hbK5; have hS5 := HSW.out.below hbW5)
    | (go_at_call 12; refine (sameStore_any _ _ _ hSk5 hS5 hdk).mono ?_; rintro e w6 ⟨rfl, hb6⟩))
  go_ret
  exact ⟨rfl, hB.trans ((hbW5.trans (hb6.mono hbW5.size)).mono hB.size)⟩
end Go.Proofs.Ytbmbahifkegehaa
