/- Texts of this claim, one behind the other. -/
import Derived.Test.YtcmjcopopkafnaaDoorM20HearKind
import Derived.Test.YtcmjcopopkafnaaDoorM15HearKind
import Derived.Test.YtcmjcopopkafnaaDoorM19HearKind
import Derived.Test.YtcmjcopopkafnaaDoorM18HearKind
import Derived.Deep.RegionWith
import Derived.Test.YtcmjcopopkafnaaDoorM10HearKind
/- The contract of store.Write. -/
namespace Go.Proofs.YtcmjcopopkafnaaDoor.St
open Go.ChangeShapes Go.WideShapes Go.ChangeAt Go.RowKit
set_option linter.unusedVariables false

set_option maxRecDepth 100000 in
set_option maxHeartbeats 8000000 in
theorem write_own (s : SV) (t : Int × Int) (key value ask : Int) (w : World) (h : IsStore w s) (hwf : ∀ t ∈ s.over, TxWf t) (h4 : s.ol * 16 ≤ 140737488351232) :
    Calls Tryd.prog 18 #[s.val, .agg #[.int .i64 t.1, .int .i64 t.2], .int .i64 key, .int .i64 value, .int .i64 ask] w fun e w' => ∃ r : SV, e = .returned (.tuple #[r.val, .int .i64 (writeErr s t key value ask)]) ∧ OwnStore w' w.heap.size r ∧ r.data = writeData s t key value ask ∧ Below w.heap.size w w' := by
  have hC := fun w' h1 => refuse_any s t key w' h1 hwf
  have hRW : ∀ w', IsStore w' s → Calls Tryd.prog 49 #[s.val, .agg #[.int .i64 t.1, .int .i64 t.2, .int .i64 key, .bool true, .int .i64 value, .int .i64 ask]] w' fun e w'' => e = .returned (.int .i64 (rwErr s t key ask)) ∧ Below w'.heap.size w' w'' := fun w' h1 => refuseWrite_any s ⟨t, key, true, value, ask⟩ w' h1
  have hOwn := fun w' h1 k1 k2 k3 => own_any s w' h1 k1 k2 k3 h4
  have hok : refErr s t key = 0 → s.il ≤ 8 ∧ s.ll ≤ 24 ∧ s.dl ≤ 24 := fun e => ok_sizes (by cases hs : storeOK s with | true => rfl | false => simp [refErr, hs] at e) h
  have HHO : Hid (∀ (r : SV) (C : Nat) (w' : World), OwnStore w' C r → C ≤ w'.heap.size → r.ll ≤ 100 → r.dl ≤ 100 → Calls Tryd.prog 50 #[r.val, .agg #[.int .i64 t.1, .int .i64 t.2, .int .i64 key, .bool true, .int .i64 value, .int .i64 ask]] w' fun e w'' => ∃ q : SV, e = .returned q.val ∧ q.data = ⟨r.items, holdL r.locks ⟨t, key, true, value, ask⟩, holdD r.doubts t, r.over⟩ ∧ OwnStore w'' C q ∧ Below C w' w'') := fun r C w' g1 g2 g3 g4 => hold_any r ⟨t, key, true, value, ask⟩ C w' g1 g2 g3 g4
  obtain ⟨E, e0⟩ : ∃ R : Int, R = writeErr s t key value ask := ⟨_, rfl⟩
  obtain ⟨D, e1⟩ : ∃ R, R = writeData s t key value ask := ⟨_, rfl⟩
  obtain ⟨F, e4⟩ : ∃ R : Int, R = refErr s t key := ⟨_, rfl⟩
  obtain ⟨G, e6⟩ : ∃ R : Int, R = rwErr s t key ask := ⟨_, rfl⟩
  obtain ⟨A, e7⟩ : ∃ R, R = inR value 0 1073741824 := ⟨_, rfl⟩
  obtain ⟨B, e8⟩ : ∃ R, R = inR ask 0 1048576 := ⟨_, rfl⟩
  have eE : Hid (E = if F = 0 then (if A && B then G else 2) else F) := by rw [e4, e6, e7, e8]; exact e0
  have eD : Hid (D = if E = 0 then ⟨s.items, holdL s.locks ⟨t, key, true, value, ask⟩, holdD s.doubts t, s.over⟩ else PS.nil) := by rw [e0]; exact e1
  have HBAD : Hid (E ≠ 0 → D = PS.nil) := fun hE => by rw [eD.out, if_neg hE]
  rw [← e0, ← e1]
  rw [← e4] at hC hok
  rw [← e6] at hRW
  replace e7 := e7.symm
  replace e8 := e8.symm
  clear e0 e1 e4 e6
  have hh := h
  obtain ⟨ia, il, ic, la, ll, lc, da, dl, dc, oa, ol, oc, items, locks, doubts, over⟩ := s
  obtain ⟨ts, tn⟩ := t
  simp only [SV.val] at *
  obtain ⟨W, hW⟩ : ∃ W : World, W = (((w.alloc (.cells #[.slice ia il ic, .slice la ll lc, .slice da dl dc, .slice oa ol oc] 41)).alloc (.cells #[.int .i64 ts, .int .i64 tn] 30)).alloc (.cells #[.slice none 0 0, .slice none 0 0, .slice none 0 0, .slice none 0 0] 41)) := ⟨_, rfl⟩
  have hB : Below w.heap.size w W := by rw [hW]; exact ((((Below.refl _ _).alloc (Nat.le_refl _) _).alloc (by simp) _).alloc (by simp; omega) _)
  have zW : W.heap.size = w.heap.size + 3 := by rw [hW]; simp
  have zb0 : w.heap.size < W.heap.size := by omega
  have zb1 : w.heap.size + 1 < W.heap.size := by omega
  have zb2 : w.heap.size + 1 + 1 < W.heap.size := by omega
  have HZW : Hid (W.heap.size = w.heap.size + 3) := zW
  clear zW
  have c0 : W.cell? ⟨w.heap.size, 0, none⟩ = some (.slice ia il ic) := by rw [hW]; go_simp
  have c1 : W.cell? ⟨w.heap.size, 1, none⟩ = some (.slice la ll lc) := by rw [hW]; go_simp
  have c2 : W.cell? ⟨w.heap.size, 2, none⟩ = some (.slice da dl dc) := by rw [hW]; go_simp
  have c3 : W.cell? ⟨w.heap.size, 3, none⟩ = some (.slice oa ol oc) := by rw [hW]; go_simp
  have t0 : W.cell? ⟨w.heap.size + 1, 0, none⟩ = some (.int .i64 ts) := by rw [hW]; go_simp
  have t1 : W.cell? ⟨w.heap.size + 1, 1, none⟩ = some (.int .i64 tn) := by rw [hW]; go_simp
  have r0 : W.cell? ⟨w.heap.size + 1 + 1, 0, none⟩ = some (.slice none 0 0) := by rw [hW]; go_simp
  have r1 : W.cell? ⟨w.heap.size + 1 + 1, 1, none⟩ = some (.slice none 0 0) := by rw [hW]; go_simp
  have r2 : W.cell? ⟨w.heap.size + 1 + 1, 2, none⟩ = some (.slice none 0 0) := by rw [hW]; go_simp
  have r3 : W.cell? ⟨w.heap.size + 1 + 1, 3, none⟩ = some (.slice none 0 0) := by rw [hW]; go_simp
  have rf0 : W.frozen? ⟨w.heap.size + 1 + 1, 0, none⟩ = false := by rw [hW]; go_simp
  have rf1 : W.frozen? ⟨w.heap.size + 1 + 1, 1, none⟩ = false := by rw [hW]; go_simp
  have rf2 : W.frozen? ⟨w.heap.size + 1 + 1, 2, none⟩ = false := by rw [hW]; go_simp
  have rf3 : W.frozen? ⟨w.heap.size + 1 + 1, 3, none⟩ = false := by rw [hW]; go_simp
  have rz : w.heap.size + 1 + 1 < W.heap.size := zb2
  have KA : Hid (∀ U : World, Below W.heap.size W U → U.cell? ⟨w.heap.size, 0, none⟩ = some (.slice ia il ic) ∧ U.cell? ⟨w.heap.size, 1, none⟩ = some (.slice la ll lc) ∧ U.cell? ⟨w.heap.size, 2, none⟩ = some (.slice da dl dc) ∧ U.cell? ⟨w.heap.size, 3, none⟩ = some (.slice oa ol oc) ∧ U.cell? ⟨w.heap.size + 1, 0, none⟩ = some (.int .i64 ts) ∧ U.cell? ⟨w.heap.size + 1, 1, none⟩ = some (.int .i64 tn) ∧ U.cell? ⟨w.heap.size + 1 + 1, 0, none⟩ = some (.slice none 0 0) ∧ U.cell? ⟨w.heap.size + 1 + 1, 1, none⟩ = some (.slice none 0 0) ∧ U.cell? ⟨w.heap.size + 1 + 1, 2, none⟩ = some (.slice none 0 0) ∧ U.cell? ⟨w.heap.size + 1 + 1, 3, none⟩ = some (.slice none 0 0) ∧ U.frozen? ⟨w.heap.size + 1 + 1, 0, none⟩ = false ∧ U.frozen? ⟨w.heap.size + 1 + 1, 1, none⟩ = false ∧ U.frozen? ⟨w.heap.size + 1 + 1, 2, none⟩ = false ∧ U.frozen? ⟨w.heap.size + 1 + 1, 3, none⟩ = false ∧ w.heap.size + 1 + 1 < U.heap.size) := fun U hU => ⟨(hU.cell (p := ⟨w.heap.size, 0, none⟩) zb0).trans c0, (hU.cell (p := ⟨w.heap.size, 1, none⟩) zb0).trans c1, (hU.cell (p := ⟨w.heap.size, 2, none⟩) zb0).trans c2, (hU.cell (p := ⟨w.heap.size, 3, none⟩) zb0).trans c3, (hU.cell (p := ⟨w.heap.size + 1, 0, none⟩) zb1).trans t0, (hU.cell (p := ⟨w.heap.size + 1, 1, none⟩) zb1).trans t1, (hU.cell (p := ⟨w.heap.size + 1 + 1, 0, none⟩) zb2).trans r0, (hU.cell (p := ⟨w.heap.size + 1 + 1, 1, none⟩) zb2).trans r1, (hU.cell (p := ⟨w.heap.size + 1 + 1, 2, none⟩) zb2).trans r2, (hU.cell (p := ⟨w.heap.size + 1 + 1, 3, none⟩) zb2).trans r3, (hU.frozen (p := ⟨w.heap.size + 1 + 1, 0, none⟩) zb2).trans rf0, (hU.frozen (p := ⟨w.heap.size + 1 + 1, 1, none⟩) zb2).trans rf1, (hU.frozen (p := ⟨w.heap.size + 1 + 1, 2, none⟩) zb2).trans rf2, (hU.frozen (p := ⟨w.heap.size + 1 + 1, 3, none⟩) zb2).trans rf3, Nat.lt_of_lt_of_le zb2 hU.size⟩
  have hSW := hh.below hB
  have HS : Hid (∀ U : World, Below W.heap.size W U → IsStore U ⟨ia, il, ic, la, ll, lc, da, dl, dc, oa, ol, oc, items, locks, doubts, over⟩) := fun U hU => hSW.below hU
  clear hh h
  go_enter Tryd.func18, Tryd.ntmps18
  go_upto_region 1 with (fail)
  rw [← hW]
  clear hW
  by_cases hF : F = 0
  · subst hF
    obtain ⟨q1, q2, q3⟩ := hok rfl
    clear hok
    by_cases hAB : (A && B) = true
    · obtain ⟨rfl, rfl⟩ : A = true ∧ B = true := by simpa using hAB
      go_upto_region 7 with (first
        | (go_at_call 46; refine (hC _ hSW).mono ?_; rintro e w1 ⟨rfl, hb1⟩; clear c0 c1 c2 c3 t0 t1 r0 r1 r2 r3 rf0 rf1 rf2 rf3 rz; obtain ⟨c0, c1, c2, c3, t0, t1, r0, r1, r2, r3, rf0, rf1, rf2, rf3, rz⟩ := KA.out _ hb1)
        | (go_at_call 47; refine (value_any _ _).mono ?_; rintro e u ⟨rfl, hu⟩; rw [hu, e7]; clear hu)
        | (go_at_call 48; refine (isAsk_any _ _).mono ?_; rintro e u ⟨rfl, hu⟩; rw [hu, e8]; clear hu))
      obtain ⟨X, hX⟩ : ∃ X : World, X = w1.alloc (.cells #[.int .i64 ts, .int .i64 tn, .int .i64 key, .bool true, .int .i64 value, .int .i64 ask] 101) := ⟨_, rfl⟩
      have bx : BoxN X w1.heap.size 6 [.int .i64 ts, .int .i64 tn, .int .i64 key, .bool true, .int .i64 value, .int .i64 ask] := by rw [hX]; exact boxn_new w1 #[.int .i64 ts, .int .i64 tn, .int .i64 key, .bool true, .int .i64 value, .int .i64 ask] 101 6 rfl
      have hbX : Below W.heap.size W X := by rw [hX]; exact hb1.alloc hb1.size _
      have zm : W.heap.size ≤ w1.heap.size := hb1.size
      rw [← hX]
      clear hX c0 c1 c2 c3 t0 t1 r0 r1 r2 r3 rf0 rf1 rf2 rf3 rz
      obtain ⟨m, em⟩ : ∃ m, m = w1.heap.size := ⟨_, rfl⟩
      rw [← em] at bx zm ⊢
      clear em
      obtain ⟨c0, c1, c2, c3, t0, t1, r0, r1, r2, r3, rf0, rf1, rf2, rf3, rz⟩ := KA.out _ hbX
      have hS1 := HS.out _ hbX
      have k0 := (bx.c 0 (by decide)).1
      have k1 := (bx.c 1 (by decide)).1
      have k2 := (bx.c 2 (by decide)).1
      have k3 := (bx.c 3 (by decide)).1
      have k4 := (bx.c 4 (by decide)).1
      have k5 := (bx.c 5 (by decide)).1
      simp only [List.getD_cons_zero, List.getD_cons_succ] at k0 k1 k2 k3 k4 k5
      have bxl := bx.lt
      go_upto_region 8 with (go_at_call 49; refine (hRW _ hS1).mono ?_; rintro e w5 ⟨rfl, hb5'⟩)
      have hb5 : Below W.heap.size W w5 := hbX.trans (hb5'.mono hbX.size)
      clear c0 c1 c2 c3 t0 t1 r0 r1 r2 r3 rf0 rf1 rf2 rf3 rz k0 k1 k2 k3 k4 k5
      have bx5 := bx.below hb5' bx.lt
      clear bx
      by_cases hG : G = 0
      · subst hG
        have hE : E = 0 := by rw [eE.out]; simp
        have yD : Hid (D = ⟨items, holdL locks ⟨(ts, tn), key, true, value, ask⟩, holdD doubts (ts, tn), over⟩) := by show _ = _; rw [eD.out, if_pos hE]
        go_upto_region 10 with (fail)
        have hD5 : Below w5.heap.size w5 w5.drew := (Below.refl _ _).drew
        have KY : Hid (∀ U, Below w5.heap.size w5 U → U.cell? ⟨w.heap.size, 0, none⟩ = some (.slice ia il ic) ∧ U.cell? ⟨w.heap.size, 1, none⟩ = some (.slice la ll lc) ∧ U.cell? ⟨w.heap.size, 2, none⟩ = some (.slice da dl dc) ∧ U.cell? ⟨w.heap.size, 3, none⟩ = some (.slice oa ol oc) ∧ U.cell? ⟨m, 0, none⟩ = some (.int .i64 ts) ∧ U.cell? ⟨m, 1, none⟩ = some (.int .i64 tn) ∧ U.cell? ⟨m, 2, none⟩ = some (.int .i64 key) ∧ U.cell? ⟨m, 3, none⟩ = some (.bool true) ∧ U.cell? ⟨m, 4, none⟩ = some (.int .i64 value) ∧ U.cell? ⟨m, 5, none⟩ = some (.int .i64 ask)) := fun U hU => by
          obtain ⟨c0, c1, c2, c3, t0, t1, r0, r1, r2, r3, rf0, rf1, rf2, rf3, rz⟩ := KA.out _ (hb5.trans (hU.mono hb5.size))
          have bb := bx5.below hU bx5.lt
          exact ⟨c0, c1, c2, c3, (bb.c 0 (by decide)).1, (bb.c 1 (by decide)).1, (bb.c 2 (by decide)).1, (bb.c 3 (by decide)).1, (bb.c 4 (by decide)).1, (bb.c 5 (by decide)).1⟩
        have KF : Hid (∀ (U : World) (p0 p1 p2 p3 : Value), Below w5.heap.size w5 U → ((((U.setCell ⟨w.heap.size + 1 + 1, 0, none⟩ p0).setCell ⟨w.heap.size + 1 + 1, 1, none⟩ p1).setCell ⟨w.heap.size + 1 + 1, 2, none⟩ p2).setCell ⟨w.heap.size + 1 + 1, 3, none⟩ p3).cell? ⟨w.heap.size, 0, none⟩ = some (.slice ia il ic) ∧ ((((U.setCell ⟨w.heap.size + 1 + 1, 0, none⟩ p0).setCell ⟨w.heap.size + 1 + 1, 1, none⟩ p1).setCell ⟨w.heap.size + 1 + 1, 2, none⟩ p2).setCell ⟨w.heap.size + 1 + 1, 3, none⟩ p3).cell? ⟨w.heap.size, 1, none⟩ = some (.slice la ll lc) ∧ ((((U.setCell ⟨w.heap.size + 1 + 1, 0, none⟩ p0).setCell ⟨w.heap.size + 1 + 1, 1, none⟩ p1).setCell ⟨w.heap.size + 1 + 1, 2, none⟩ p2).setCell ⟨w.heap.size + 1 + 1, 3, none⟩ p3).cell? ⟨w.heap.size, 2, none⟩ = some (.slice da dl dc) ∧ ((((U.setCell ⟨w.heap.size + 1 + 1, 0, none⟩ p0).setCell ⟨w.heap.size + 1 + 1, 1, none⟩ p1).setCell ⟨w.heap.size + 1 + 1, 2, none⟩ p2).setCell ⟨w.heap.size + 1 + 1, 3, none⟩ p3).cell? ⟨w.heap.size, 3, none⟩ = some (.slice oa ol oc) ∧ ((((U.setCell ⟨w.heap.size + 1 + 1, 0, none⟩ p0).setCell ⟨w.heap.size + 1 + 1, 1, none⟩ p1).setCell ⟨w.heap.size + 1 + 1, 2, none⟩ p2).setCell ⟨w.heap.size + 1 + 1, 3, none⟩ p3).cell? ⟨m, 0, none⟩ = some (.int .i64 ts) ∧ ((((U.setCell ⟨w.heap.size + 1 + 1, 0, none⟩ p0).setCell ⟨w.heap.size + 1 + 1, 1, none⟩ p1).setCell ⟨w.heap.size + 1 + 1, 2, none⟩ p2).setCell ⟨w.heap.size + 1 + 1, 3, none⟩ p3).cell? ⟨m, 1, none⟩ = some (.int .i64 tn) ∧ ((((U.setCell ⟨w.heap.size + 1 + 1, 0, none⟩ p0).setCell ⟨w.heap.size + 1 + 1, 1, none⟩ p1).setCell ⟨w.heap.size + 1 + 1, 2, none⟩ p2).setCell ⟨w.heap.size + 1 + 1, 3, none⟩ p3).cell? ⟨m, 2, none⟩ = some (.int .i64 key) ∧ ((((U.setCell ⟨w.heap.size + 1 + 1, 0, none⟩ p0).setCell ⟨w.heap.size + 1 + 1, 1, none⟩ p1).setCell ⟨w.heap.size + 1 + 1, 2, none⟩ p2).setCell ⟨w.heap.size + 1 + 1, 3, none⟩ p3).cell? ⟨m, 3, none⟩ = some (.bool true) ∧ ((((U.setCell ⟨w.heap.size + 1 + 1, 0, none⟩ p0).setCell ⟨w.heap.size + 1 + 1, 1, none⟩ p1).setCell ⟨w.heap.size + 1 + 1, 2, none⟩ p2).setCell ⟨w.heap.size + 1 + 1, 3, none⟩ p3).cell? ⟨m, 4, none⟩ = some (.int .i64 value) ∧ ((((U.setCell ⟨w.heap.size + 1 + 1, 0, none⟩ p0).setCell ⟨w.heap.size + 1 + 1, 1, none⟩ p1).setCell ⟨w.heap.size + 1 + 1, 2, none⟩ p2).setCell ⟨w.heap.size + 1 + 1, 3, none⟩ p3).cell? ⟨m, 5, none⟩ = some (.int .i64 ask)) := fun U p0 p1 p2 p3 hU => by
          obtain ⟨l0, l1, l2, l3, l4, l5, l6, l7, l8, l9⟩ := KY.out _ hU
          exact ⟨(cell_four (by omega) _ _ _ _).trans l0, (cell_four (by omega) _ _ _ _).trans l1, (cell_four (by omega) _ _ _ _).trans l2, (cell_four (by omega) _ _ _ _).trans l3, (cell_four (by omega) _ _ _ _).trans l4, (cell_four (by omega) _ _ _ _).trans l5, (cell_four (by omega) _ _ _ _).trans l6, (cell_four (by omega) _ _ _ _).trans l7, (cell_four (by omega) _ _ _ _).trans l8, (cell_four (by omega) _ _ _ _).trans l9⟩
        have hS5 := HS.out _ (hb5.trans (hD5.mono hb5.size))
        have z5 : W.heap.size ≤ w5.heap.size := hb5.size
        go_region_held3 (fun U => U.cell? ⟨w.heap.size, 0, none⟩ = some (.slice ia il ic) ∧ U.cell? ⟨w.heap.size, 1, none⟩ = some (.slice la ll lc) ∧ U.cell? ⟨w.heap.size, 2, none⟩ = some (.slice da dl dc) ∧ U.cell? ⟨w.heap.size, 3, none⟩ = some (.slice oa ol oc) ∧ U.cell? ⟨m, 0, none⟩ = some (.int .i64 ts) ∧ U.cell? ⟨m, 1, none⟩ = some (.int .i64 tn) ∧ U.cell? ⟨m, 2, none⟩ = some (.int .i64 key) ∧ U.cell? ⟨m, 3, none⟩ = some (.bool true) ∧ U.cell? ⟨m, 4, none⟩ = some (.int .i64 value) ∧ U.cell? ⟨m, 5, none⟩ = some (.int .i64 ask)) (with_reducible first | exact KY.out _ hb7 | exact KF.out _ _ _ _ _ hb7 | exact KY.out _ hb6 | exact KY.out _ hD5 | exact KY.out _ (Below.refl _ _)) (first | ((go_at_call 25; refine (hOwn _ hS5 (by omega) (by omega) (by omega)).mono ?_; rintro e w6 ⟨⟨a0, n0, u0, a1, n1, u1, a2, n2, u2, a3, n3, u3, items', locks', doubts', over'⟩, rfl, hsame, hown, hb6'⟩; obtain ⟨v1, v2, v3, v4, v5, v6, v7, v8⟩ := hsame; simp only [] at v1 v2 v3 v4 v5 v6 v7 v8; obtain rfl := v1.symm; obtain rfl := v2.symm; obtain rfl := v3.symm; obtain rfl := v4.symm; obtain rfl := v5.symm; obtain rfl := v6.symm; obtain rfl := v7.symm; obtain rfl := v8.symm; simp only []; have hb6 : Below w5.heap.size w5 w6 := hD5.trans (hb6'.mono hD5.size); have hHo := HHO.out _ _ w6 hown hb6.size (by show ll ≤ 100; omega) (by show dl ≤ 100; omega); simp only [] at hHo)) | ((go_at_call 50; refine hHo.mono ?_; rintro e w7 ⟨⟨p0, m0, q0', p1, m1, q1', p2, m2, q2', p3, m3, q3', items2, locks2, doubts2, over2⟩, rfl, hqd, hqo, hb7'⟩; simp only []; have hb7 : Below w5.heap.size w5 w7 := hb6.trans hb7'; obtain ⟨c0, c1, c2, c3, t0, t1, r0, r1, r2, r3, rf0, rf1, rf2, rf3, rz⟩ := KA.out _ (hb5.trans (hb7.mono hb5.size)))))
        all_goals
          go_wp2
          refine bodyPost_ret (v := .tuple #[.agg #[.slice p0 m0 q0', .slice p1 m1 q1', .slice p2 m2 q2', .slice p3 m3 q3'], .int .i64 0]) (by simp [results, Tryd.results18, go_sem, r0, r1, r2, r3]) rfl ?_
          rw [yD.out]
          try rw [hE]
          exact ⟨⟨p0, m0, q0', p1, m1, q1', p2, m2, q2', p3, m3, q3', items2, locks2, doubts2, over2⟩, rfl, (hqo.four (b := w.heap.size + 1 + 1) (by show _ < w5.heap.size; omega) (.slice p0 m0 q0') (.slice p1 m1 q1') (.slice p2 m2 q2') (.slice p3 m3 q3')).base (Nat.le_trans hB.size hb5.size), hqd, below_four (hB.trans ((hb5.trans (hb7.mono hb5.size)).mono hB.size)) (by omega) (.slice p0 m0 q0') (.slice p1 m1 q1') (.slice p2 m2 q2') (.slice p3 m3 q3')⟩
      · have hEE : E = G := by rw [eE.out]; simp
        have hE : E ≠ 0 := by rw [hEE]; exact hG
        obtain ⟨c0, c1, c2, c3, t0, t1, r0, r1, r2, r3, rf0, rf1, rf2, rf3, rz⟩ := KA.out _ hb5
        go_wp2
        refine bodyPost_ret (v := .tuple #[.agg #[.slice none 0 0, .slice none 0 0, .slice none 0 0, .slice none 0 0], .int .i64 G]) (by simp [results, Tryd.results18, go_sem, r0, r1, r2, r3]) rfl ?_
        have y3 := HBAD.out hE
        rw [y3]
        try rw [hEE]
        exact ⟨SV.nil, rfl, ownStore_nil _ _, rfl, below_four (hB.trans (hb5.mono hB.size)) (by omega) (.slice none 0 0) (.slice none 0 0) (.slice none 0 0) (.slice none 0 0)⟩
    · have hEE : E = 2 := by rw [eE.out]; simp [hAB]
      have hE : E ≠ 0 := by rw [hEE]; decide
      have hAB' : A = false ∨ (A = true ∧ B = false) := by cases A <;> cases B <;> simp_all
      rcases hAB' with rfl | ⟨rfl, rfl⟩
      all_goals
        go_wp2_with (first
          | (go_at_call 46; refine (hC _ hSW).mono ?_; rintro e w1 ⟨rfl, hb1⟩; clear c0 c1 c2 c3 t0 t1 r0 r1 r2 r3 rf0 rf1 rf2 rf3 rz; obtain ⟨c0, c1, c2, c3, t0, t1, r0, r1, r2, r3, rf0, rf1, rf2, rf3, rz⟩ := KA.out _ hb1)
          | (go_at_call 47; refine (value_any _ _).mono ?_; rintro e u ⟨rfl, hu⟩; rw [hu, e7]; clear hu)
          | (go_at_call 48; refine (isAsk_any _ _).mono ?_; rintro e u ⟨rfl, hu⟩; rw [hu, e8]; clear hu))
        refine bodyPost_ret (v := .tuple #[.agg #[.slice none 0 0, .slice none 0 0, .slice none 0 0, .slice none 0 0], .int .i64 2]) (by simp [results, Tryd.results18, go_sem, r0, r1, r2, r3]) rfl ?_
        have y3 := HBAD.out hE
        rw [y3]
        try rw [hEE]
        exact ⟨SV.nil, rfl, ownStore_nil _ _, rfl, below_four (hB.trans (hb1.mono hB.size)) (by omega) (.slice none 0 0) (.slice none 0 0) (.slice none 0 0) (.slice none 0 0)⟩
  · have hE : E ≠ 0 := by rw [eE.out, if_neg hF]; exact hF
    have hEE : E = F := by rw [eE.out, if_neg hF]
    go_wp2_with (go_at_call 46; refine (hC _ hSW).mono ?_; rintro e w1 ⟨rfl, hb1⟩; clear c0 c1 c2 c3 t0 t1 r0 r1 r2 r3 rf0 rf1 rf2 rf3 rz; obtain ⟨c0, c1, c2, c3, t0, t1, r0, r1, r2, r3, rf0, rf1, rf2, rf3, rz⟩ := KA.out _ hb1)
    refine bodyPost_ret (v := .tuple #[.agg #[.slice none 0 0, .slice none 0 0, .slice none 0 0, .slice none 0 0], .int .i64 F]) (by simp [results, Tryd.results18, go_sem, r0, r1, r2, r3]) rfl ?_
    have y3 := HBAD.out hE
    rw [y3]
    try rw [hEE]
    exact ⟨SV.nil, rfl, ownStore_nil _ _, rfl, below_four (hB.trans (hb1.mono hB.size)) (by omega) (.slice none 0 0) (.slice none 0 0) (.slice none 0 0) (.slice none 0 0)⟩
theorem write_any (s : SV) (t : Int × Int) (key value ask : Int) (w : World) (h : IsStore w s) (hwf : ∀ t ∈ s.over, TxWf t) (h4 : s.ol * 16 ≤ 140737488351232) :
    Calls Tryd.prog 18 #[s.val, .agg #[.int .i64 t.1, .int .i64 t.2], .int .i64 key, .int .i64 value, .int .i64 ask] w fun e w' => ∃ r : SV, e = .returned (.tuple #[r.val, .int .i64 (writeErr s t key value ask)]) ∧ IsStore w' r ∧ r.data = writeData s t key value ask ∧ Below w.heap.size w w' :=
  (write_own s t key value ask w h hwf h4).mono fun e w' ⟨r, q1, q2, q3⟩ => ⟨r, q1, q2.isStore, q3⟩
end Go.Proofs.YtcmjcopopkafnaaDoor.St
/- The contract of store.Still. -/
namespace Go.Proofs.YtcmjcopopkafnaaDoor.St
open Go.ChangeShapes Go.WideShapes Go.ChangeAt Go.RowKit
set_option linter.unusedVariables false

def stillIs (s : SV) (t : Int × Int) (key version : Int) : Bool := decide (refErr s t key = 0) && (s.locks.any (byT t key) && decide ((itemAt s.items key).version = version))
theorem fldV (x y z : Int) (w : World) : (Instr.field 105 (.agg #[.int .i64 x, .int .i64 y, .int .i64 z]) 2).run Tryd.prog w = .ok (.int .i64 z) w := by kernel_rfl

set_option maxRecDepth 100000 in
set_option maxHeartbeats 4000000 in
theorem still_any (s : SV) (t : Int × Int) (key version : Int) (w : World) (h : IsStore w s) (hwf : ∀ t ∈ s.over, TxWf t) :
    Calls Tryd.prog 67 #[s.val, .agg #[.int .i64 t.1, .int .i64 t.2], .int .i64 key, .int .i64 version] w fun e w' => e = .returned (.tuple #[.bool (stillIs s t key version), .int .i64 (refErr s t key)]) ∧ Below w.heap.size w w' := by
  have hC := fun w' h1 => refuse_any s t key w' h1 hwf
  have hIt := fun w' h1 => item_any s key w' h1
  have hBy := fun w' => by_any t key w'
  have hCn := fun fn cps w' h1 h2 => containsLock_any fn cps (byT t key) s.la s.ll s.lc s.locks w' h1 h2
  have hf := fldV
  obtain ⟨L, e4⟩ : ∃ R, R = s.locks.any (byT t key) := ⟨_, rfl⟩
  obtain ⟨I, e5⟩ : ∃ R, R = itemAt s.items key := ⟨_, rfl⟩
  obtain ⟨E, e6⟩ : ∃ R : Int, R = refErr s t key := ⟨_, rfl⟩
  obtain ⟨R, e7⟩ : ∃ R, R = stillIs s t key version := ⟨_, rfl⟩
  have eR : Hid (R = (decide (E = 0) && (L && decide (I.version = version)))) := by rw [e4, e5, e6]; exact e7
  rw [← e6, ← e7]
  rw [← e6] at hC
  rw [← e4] at hCn
  rw [← e5] at hIt
  clear e4 e5 e6 e7
  obtain ⟨ik, iv, iw⟩ := I
  simp only [ItV.val] at hIt eR
  have hh := h
  obtain ⟨ia, il, ic, la, ll, lc, da, dl, dc, oa, ol, oc, items, locks, doubts, over⟩ := s
  obtain ⟨ts, tn⟩ := t
  simp only [SV.val] at *
  obtain ⟨W, hW⟩ : ∃ W : World, W = (w.alloc (.cells #[.slice ia il ic, .slice la ll lc, .slice da dl dc, .slice oa ol oc] 41)).alloc (.cells #[.int .i64 ts, .int .i64 tn] 30) := ⟨_, rfl⟩
  have hB : Below w.heap.size w W := by rw [hW]; exact ((Below.refl _ _).alloc (Nat.le_refl _) _).alloc (by simp) _
  have zW : W.heap.size = w.heap.size + 2 := by rw [hW]; simp
  have z0 : w.heap.size < W.heap.size := by omega
  have z1 : w.heap.size + 1 < W.heap.size := by omega
  clear zW
  have c0 : W.cell? ⟨w.heap.size, 0, none⟩ = some (.slice ia il ic) := by rw [hW]; go_simp
  have c1 : W.cell? ⟨w.heap.size, 1, none⟩ = some (.slice la ll lc) := by rw [hW]; go_simp
  have c2 : W.cell? ⟨w.heap.size, 2, none⟩ = some (.slice da dl dc) := by rw [hW]; go_simp
  have c3 : W.cell? ⟨w.heap.size, 3, none⟩ = some (.slice oa ol oc) := by rw [hW]; go_simp
  have c4 : W.cell? ⟨w.heap.size + 1, 0, none⟩ = some (.int .i64 ts) := by rw [hW]; go_simp
  have c5 : W.cell? ⟨w.heap.size + 1, 1, none⟩ = some (.int .i64 tn) := by rw [hW]; go_simp
  have KA : Hid (∀ U : World, Below W.heap.size W U → U.cell? ⟨w.heap.size, 0, none⟩ = some (.slice ia il ic) ∧ U.cell? ⟨w.heap.size, 1, none⟩ = some (.slice la ll lc) ∧ U.cell? ⟨w.heap.size, 2, none⟩ = some (.slice da dl dc) ∧ U.cell? ⟨w.heap.size, 3, none⟩ = some (.slice oa ol oc) ∧ U.cell? ⟨w.heap.size + 1, 0, none⟩ = some (.int .i64 ts) ∧ U.cell? ⟨w.heap.size + 1, 1, none⟩ = some (.int .i64 tn)) := fun U hU =>
    ⟨(hU.cell (p := ⟨w.heap.size, 0, none⟩) z0).trans c0, (hU.cell (p := ⟨w.heap.size, 1, none⟩) z0).trans c1, (hU.cell (p := ⟨w.heap.size, 2, none⟩) z0).trans c2, (hU.cell (p := ⟨w.heap.size, 3, none⟩) z0).trans c3, (hU.cell (p := ⟨w.heap.size + 1, 0, none⟩) z1).trans c4, (hU.cell (p := ⟨w.heap.size + 1, 1, none⟩) z1).trans c5⟩
  have hSW := hh.below hB
  have HS : Hid (∀ U : World, Below W.heap.size W U → IsItems U ia il ic items ∧ IsLocks U la ll lc locks) := fun U hU => by
    have hs := hh.below (hB.trans (hU.mono hB.size))
    exact ⟨hs.items, hs.locks⟩
  go_enter Tryd.func67, Tryd.ntmps67
  go_upto_region 1 with (fail)
  rw [← hW]
  clear hW
  by_cases hE : E = 0
  · subst hE
    go_upto_region 4 with (go_at_call 46; refine (hC _ hSW).mono ?_; rintro e w1 ⟨rfl, hb1⟩; have hw1 := hB.trans (hb1.mono hB.size))
    have hD : Below W.heap.size W w1.drew := hb1.drew
    clear c0 c1 c2 c3 c4 c5
    cases L with
    | true =>
      go_region_held3 (fun U => U.cell? ⟨w.heap.size, 0, none⟩ = some (.slice ia il ic) ∧ U.cell? ⟨w.heap.size, 1, none⟩ = some (.slice la ll lc) ∧ U.cell? ⟨w.heap.size, 2, none⟩ = some (.slice da dl dc) ∧ U.cell? ⟨w.heap.size, 3, none⟩ = some (.slice oa ol oc) ∧ U.cell? ⟨w.heap.size + 1, 0, none⟩ = some (.int .i64 ts) ∧ U.cell? ⟨w.heap.size + 1, 1, none⟩ = some (.int .i64 tn))
        (first | exact KA.out _ hb4 | exact KA.out _ hb3 | exact KA.out _ hb2 | exact KA.out _ hD | exact KA.out _ hb1)
        (first
          | ((go_at_call 61; refine (hBy _).mono ?_; rintro e w2 ⟨bb, bc, rfl, hAs, hb2'⟩; have hb2 : Below W.heap.size W w2 := hD.trans (hb2'.mono hD.size); have hTT := (HS.out _ hb2).2))
          | ((go_at_call 43; refine (hCn _ _ _ hTT hAs).mono ?_; rintro e w3 ⟨rfl, hb3'⟩; have hb3 : Below W.heap.size W w3 := hb2.trans (hb3'.mono hb2.size); have hT3 := (HS.out _ hb3).1))
          | ((go_at_call 45; refine (hIt _ hT3).mono ?_; rintro e w4 ⟨rfl, hb4'⟩; have hb4 : Below W.heap.size W w4 := hb3.trans (hb4'.mono hb3.size))))
      all_goals
        have hwF := hB.trans (hb4.mono hB.size)
        go_wp2
        go_ret2
        exact ⟨by rw [eR.out]; simp; try rfl, hwF⟩
    | false =>
      obtain ⟨x0, x1, x2, x3, x4, x5⟩ := KA.out _ hD
      first | go_region_with (first
          | ((go_at_call 61; refine (hBy _).mono ?_; rintro e w2 ⟨bb, bc, rfl, hAs, hb2'⟩; have hb2 : Below W.heap.size W w2 := hD.trans (hb2'.mono hD.size); have hTT := (HS.out _ hb2).2; obtain ⟨y0, y1, y2, y3, y4, y5⟩ := KA.out _ hb2))
          | ((go_at_call 43; refine (hCn _ _ _ hTT hAs).mono ?_; rintro e w3 ⟨rfl, hb3'⟩; have hb3 : Below W.heap.size W w3 := hb2.trans (hb3'.mono hb2.size); obtain ⟨v0, v1, v2, v3, v4, v5⟩ := KA.out _ hb3))) | fail
      all_goals
        have hwF := hB.trans (hb3.mono hB.size)
        go_wp2
        go_ret2
        exact ⟨by rw [eR.out]; rfl, hwF⟩
  · go_wp2_with (go_at_call 46; refine (hC _ hSW).mono ?_; rintro e w1 ⟨rfl, hb1⟩; have hw1 := hB.trans (hb1.mono hB.size))
    go_ret2
    exact ⟨by rw [eR.out]; simp [hE], hw1⟩
end Go.Proofs.YtcmjcopopkafnaaDoor.St
/- The contract of store.Peek. -/
namespace Go.Proofs.YtcmjcopopkafnaaDoor.St
open Go.ChangeShapes Go.WideShapes Go.ChangeAt Go.RowKit
set_option linter.unusedVariables false

def peekErr (s : SV) (key : Int) : Int := if storeOK s then (if inR key 0 7 then (if s.locks.any (wrT key) then 11 else 0) else 2) else 9
def peekVal (s : SV) (key : Int) : Int := if peekErr s key = 0 then (itemAt s.items key).value else 0
def peekVer (s : SV) (key : Int) : Int := if peekErr s key = 0 then (itemAt s.items key).version else 0

set_option maxRecDepth 100000 in
set_option maxHeartbeats 4000000 in
theorem peek_any (s : SV) (key : Int) (w : World) (h : IsStore w s) (hwf : ∀ t ∈ s.over, TxWf t) :
    Calls Tryd.prog 16 #[s.val, .int .i64 key] w fun e w' => e = .returned (.tuple #[.int .i64 (peekVal s key), .int .i64 (peekVer s key), .int .i64 (peekErr s key)]) ∧ Below w.heap.size w w' := by
  have hC := fun w' h1 => check_any s w' h1 hwf
  have hIt := fun w' h1 => item_any s key w' h1
  have hWr := fun w' => writes_any key w'
  have hCn := fun fn cps w' h1 h2 => containsLock_any fn cps (wrT key) s.la s.ll s.lc s.locks w' h1 h2
  obtain ⟨S, e1⟩ : ∃ R, R = storeOK s := ⟨_, rfl⟩
  obtain ⟨K, e3⟩ : ∃ R, R = inR key 0 7 := ⟨_, rfl⟩
  obtain ⟨L, e4⟩ : ∃ R, R = s.locks.any (wrT key) := ⟨_, rfl⟩
  obtain ⟨I, e5⟩ : ∃ R, R = itemAt s.items key := ⟨_, rfl⟩
  obtain ⟨E, e6⟩ : ∃ R : Int, R = peekErr s key := ⟨_, rfl⟩
  obtain ⟨V1, e7⟩ : ∃ R : Int, R = peekVal s key := ⟨_, rfl⟩
  obtain ⟨V2, e8⟩ : ∃ R : Int, R = peekVer s key := ⟨_, rfl⟩
  have eE : Hid (E = if S then (if K then (if L then 11 else 0) else 2) else 9) := by rw [e1, e3, e4]; exact e6
  have eV1 : Hid (V1 = if E = 0 then I.value else 0) := by rw [e5, e6]; exact e7
  have eV2 : Hid (V2 = if E = 0 then I.version else 0) := by rw [e5, e6]; exact e8
  rw [← e6, ← e7, ← e8]
  rw [← e1] at hC
  rw [← e4] at hCn
  rw [← e5] at hIt
  replace e3 := e3.symm
  clear e1 e4 e5 e6 e7 e8
  obtain ⟨ik, iv, iw⟩ := I
  simp only [ItV.val] at hIt
  have hh := h
  obtain ⟨ia, il, ic, la, ll, lc, da, dl, dc, oa, ol, oc, items, locks, doubts, over⟩ := s
  simp only [SV.val] at *
  obtain ⟨W, hW⟩ : ∃ W : World, W = w.alloc (.cells #[.slice ia il ic, .slice la ll lc, .slice da dl dc, .slice oa ol oc] 41) := ⟨_, rfl⟩
  have hB : Below w.heap.size w W := by rw [hW]; exact (Below.refl _ _).alloc (Nat.le_refl _) _
  have z0 : w.heap.size < W.heap.size := by rw [hW]; simp
  have c0 : W.cell? ⟨w.heap.size, 0, none⟩ = some (.slice ia il ic) := by rw [hW]; go_simp
  have c1 : W.cell? ⟨w.heap.size, 1, none⟩ = some (.slice la ll lc) := by rw [hW]; go_simp
  have c2 : W.cell? ⟨w.heap.size, 2, none⟩ = some (.slice da dl dc) := by rw [hW]; go_simp
  have c3 : W.cell? ⟨w.heap.size, 3, none⟩ = some (.slice oa ol oc) := by rw [hW]; go_simp
  have KA : Hid (∀ U : World, Below W.heap.size W U → U.cell? ⟨w.heap.size, 0, none⟩ = some (.slice ia il ic) ∧ U.cell? ⟨w.heap.size, 1, none⟩ = some (.slice la ll lc) ∧ U.cell? ⟨w.heap.size, 2, none⟩ = some (.slice da dl dc) ∧ U.cell? ⟨w.heap.size, 3, none⟩ = some (.slice oa ol oc)) := fun U hU =>
    ⟨(hU.cell (p := ⟨w.heap.size, 0, none⟩) z0).trans c0, (hU.cell (p := ⟨w.heap.size, 1, none⟩) z0).trans c1, (hU.cell (p := ⟨w.heap.size, 2, none⟩) z0).trans c2, (hU.cell (p := ⟨w.heap.size, 3, none⟩) z0).trans c3⟩
  have hSW := hh.below hB
  have HS : Hid (∀ U : World, Below W.heap.size W U → IsItems U ia il ic items ∧ IsLocks U la ll lc locks) := fun U hU => by
    have hs := hh.below (hB.trans (hU.mono hB.size))
    exact ⟨hs.items, hs.locks⟩
  go_enter Tryd.func16, Tryd.ntmps16
  go_upto_region 1 with (fail)
  rw [← hW]
  clear hW
  cases S with
  | false =>
    obtain rfl : E = 9 := by rw [eE.out]; rfl
    obtain rfl : V1 = 0 := by rw [eV1.out]; rfl
    obtain rfl : V2 = 0 := by rw [eV2.out]; rfl
    simp only [Bool.false_eq_true, if_false] at hC
    go_wp2_with (go_at_call 13; refine (hC _ hSW).mono ?_; rintro e w1 ⟨rfl, hb1⟩; have hw1 := hB.trans (hb1.mono hB.size))
    go_ret3
    exact ⟨rfl, hw1⟩
  | true =>
    simp only [if_true] at hC
    cases K with
    | false =>
      obtain rfl : E = 2 := by rw [eE.out]; rfl
      obtain rfl : V1 = 0 := by rw [eV1.out]; rfl
      obtain rfl : V2 = 0 := by rw [eV2.out]; rfl
      go_wp2_with (first | (go_at_call 13; refine (hC _ hSW).mono ?_; rintro e w1 ⟨rfl, hb1⟩; have hw1 := hB.trans (hb1.mono hB.size)) | (go_at_call 42; refine (key_any _ _).mono ?_; rintro e u ⟨rfl, hu⟩; rw [hu, e3]; clear hu))
      go_ret3
      exact ⟨rfl, hw1⟩
    | true =>
      go_upto_region 6 with (first | (go_at_call 13; refine (hC _ hSW).mono ?_; rintro e w1 ⟨rfl, hb1⟩; have hw1 := hB.trans (hb1.mono hB.size)) | (go_at_call 42; refine (key_any _ _).mono ?_; rintro e u ⟨rfl, hu⟩; rw [hu, e3]; clear hu))
      have hD : Below W.heap.size W w1.drew := hb1.drew
      clear c0 c1 c2 c3
      go_cut [21] (fun s21 wc => s21 = .bool L ∧ Below W.heap.size W wc)
      case first =>
        go_region_held3 (fun U => U.cell? ⟨w.heap.size, 0, none⟩ = some (.slice ia il ic) ∧ U.cell? ⟨w.heap.size, 1, none⟩ = some (.slice la ll lc) ∧ U.cell? ⟨w.heap.size, 2, none⟩ = some (.slice da dl dc) ∧ U.cell? ⟨w.heap.size, 3, none⟩ = some (.slice oa ol oc))
          (first | exact KA.out _ hb3 | exact KA.out _ hb2 | exact KA.out _ hD | exact KA.out _ hb1)
          (first
            | ((go_at_call 44; refine (hWr _).mono ?_; rintro e w2 ⟨bb, rfl, hAs, hb2'⟩; have hb2 : Below W.heap.size W w2 := hD.trans (hb2'.mono hD.size); have hTT := (HS.out _ hb2).2))
            | ((go_at_call 43; refine (hCn _ _ _ hTT hAs).mono ?_; rintro e w3 ⟨rfl, hb3'⟩; have hb3 : Below W.heap.size W w3 := hb2.trans (hb3'.mono hb2.size))))
        all_goals
          go_wp2_with fail
          go_meet
          case rel => exact ⟨rfl, hb3⟩
      case rest =>
        obtain ⟨rfl, hbc⟩ := hcut
        obtain ⟨x0, x1, x2, x3⟩ := KA.out _ hbc
        have hwc := hB.trans (hbc.mono hB.size)
        have hIc := (HS.out _ hbc).1
        cases L with
        | true =>
          obtain rfl : E = 11 := by rw [eE.out]; rfl
          obtain rfl : V1 = 0 := by rw [eV1.out]; rfl
          obtain rfl : V2 = 0 := by rw [eV2.out]; rfl
          go_wp2
          go_ret3
          exact ⟨rfl, hwc⟩
        | false =>
          obtain rfl : E = 0 := by rw [eE.out]; rfl
          obtain rfl : V1 = iv := by rw [eV1.out]; rfl
          obtain rfl : V2 = iw := by rw [eV2.out]; rfl
          go_wp2_with (go_at_call 45; refine (hIt _ hIc).mono ?_; rintro e w5 ⟨rfl, hb5⟩; have hw5 := hwc.trans (hb5.mono hwc.size))
          have hA5 : ∀ o, Below w.heap.size w (w5.alloc o) := fun o => hw5.alloc hw5.size o
          go_quiet (fail)
          go_wp2
          go_ret3
          exact ⟨rfl, below_drewN (hA5 _) nq⟩
end Go.Proofs.YtcmjcopopkafnaaDoor.St
