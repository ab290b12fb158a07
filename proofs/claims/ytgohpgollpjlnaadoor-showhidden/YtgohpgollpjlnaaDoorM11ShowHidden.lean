/- Texts of this claim, one behind the other. -/
import Derived.Test.YtgohpgollpjlnaaDoorM10ShowHidden
import Derived.Test.YtgohpgollpjlnaaDoorM4ShowHidden
import Derived.Deep.RegionLaw
import Derived.Lib.Overlaps
import Derived.Lib.AppendZerosOnto
import Derived.Lib.SliceRun
import Derived.Laws.IdiomCopy
import Derived.Laws.Externs
/- The contract of store.Write. -/
namespace Go.Proofs.YtgohpgollpjlnaaDoor.St
open Go.ChangeShapes Go.WideShapes Go.ChangeAt Go.RowKit
set_option linter.unusedVariables false

set_option maxRecDepth 100000 in
set_option maxHeartbeats 8000000 in
theorem write_own (s : SV) (t : Int × Int) (key value ask : Int) (w : World) (h : IsStore w s) (hwf : ∀ t ∈ s.over, TxWf t) (h4 : s.ol * 16 ≤ 140737488351232) :
    Calls Tryd.prog 35 #[s.val, .agg #[.int .i64 t.1, .int .i64 t.2], .int .i64 key, .int .i64 value, .int .i64 ask] w fun e w' => ∃ r : SV, e = .returned (.tuple #[r.val, .int .i64 (writeErr s t key value ask)]) ∧ OwnStore w' w.heap.size r ∧ r.data = writeData s t key value ask ∧ Below w.heap.size w w' := by
  have hC := fun w' h1 => refuse_any s t key w' h1 hwf
  have hRW : ∀ w', IsStore w' s → Calls Tryd.prog 66 #[s.val, .agg #[.int .i64 t.1, .int .i64 t.2, .int .i64 key, .bool true, .int .i64 value, .int .i64 ask]] w' fun e w'' => e = .returned (.int .i64 (rwErr s t key ask)) ∧ Below w'.heap.size w' w'' := fun w' h1 => refuseWrite_any s ⟨t, key, true, value, ask⟩ w' h1
  have hOwn := fun w' h1 k1 k2 k3 => own_any s w' h1 k1 k2 k3 h4
  have hok : refErr s t key = 0 → s.il ≤ 8 ∧ s.ll ≤ 24 ∧ s.dl ≤ 24 := fun e => ok_sizes (by cases hs : storeOK s with | true => rfl | false => simp [refErr, hs] at e) h
  have HHO : Hid (∀ (r : SV) (C : Nat) (w' : World), OwnStore w' C r → C ≤ w'.heap.size → r.ll ≤ 100 → r.dl ≤ 100 → Calls Tryd.prog 62 #[r.val, .agg #[.int .i64 t.1, .int .i64 t.2, .int .i64 key, .bool true, .int .i64 value, .int .i64 ask]] w' fun e w'' => ∃ q : SV, e = .returned q.val ∧ q.data = ⟨r.items, holdL r.locks ⟨t, key, true, value, ask⟩, holdD r.doubts t, r.over⟩ ∧ OwnStore w'' C q ∧ Below C w' w'') := fun r C w' g1 g2 g3 g4 => hold_any r ⟨t, key, true, value, ask⟩ C w' g1 g2 g3 g4
  obtain ⟨E, e0⟩ : ∃ R : Int, R = writeErr s t key value ask := ⟨_, rfl⟩
  obtain ⟨D, e1⟩ : ∃ R, R = writeData s t key value ask := ⟨_, rfl⟩
  obtain ⟨F, e4⟩ : ∃ R : Int, R = refErr s t key := ⟨_, rfl⟩
  obtain ⟨G, e6⟩ : ∃ R : Int, R = rwErr s t key ask := ⟨_, rfl⟩
  obtain ⟨A, e7⟩ : ∃ R, R = inR value 0 1073741824 := ⟨_, rfl⟩
  obtain ⟨B, e8⟩ : ∃ R, R = inR ask 0 1048576 := ⟨_, rfl⟩
  have eE : Hid (E = if F = 0 then (if A && B then G else 2) else F) := by rw [e4, e6, e7, e8]; exact e0
  have eD : Hid (D = if E = 0 then ⟨s.items, holdL s.locks ⟨t, key, true, value, ask⟩, holdD s.doubts t, s.over⟩ else PS.nil) := by rw [e0]; exact e1
  have HBAD : Hid (E ≠ 0 → D = PS.nil) := fun hE => by rw [eD.out, if_neg hE]
  rw [← e0, ← e1]
  rw [← e4] at hC hok
  rw [← e6] at hRW
  replace e7 := e7.symm
  replace e8 := e8.symm
  clear e0 e1 e4 e6
  have hh := h
  obtain ⟨ia, il, ic, la, ll, lc, da, dl, dc, oa, ol, oc, items, locks, doubts, over⟩ := s
  obtain ⟨ts, tn⟩ := t
  simp only [SV.val] at *
  obtain ⟨W, hW⟩ : ∃ W : World, W = (((w.alloc (.cells #[.slice ia il ic, .slice la ll lc, .slice da dl dc, .slice oa ol oc] 55)).alloc (.cells #[.int .i64 ts, .int .i64 tn] 23)).alloc (.cells #[.slice none 0 0, .slice none 0 0, .slice none 0 0, .slice none 0 0] 55)) := ⟨_, rfl⟩
  have hB : Below w.heap.size w W := by rw [hW]; exact ((((Below.refl _ _).alloc (Nat.le_refl _) _).alloc (by simp) _).alloc (by simp; omega) _)
  have zW : W.heap.size = w.heap.size + 3 := by rw [hW]; simp
  have zb0 : w.heap.size < W.heap.size := by omega
  have zb1 : w.heap.size + 1 < W.heap.size := by omega
  have zb2 : w.heap.size + 1 + 1 < W.heap.size := by omega
  have HZW : Hid (W.heap.size = w.heap.size + 3) := zW
  clear zW
  have c0 : W.cell? ⟨w.heap.size, 0, none⟩ = some (.slice ia il ic) := by rw [hW]; go_simp
  have c1 : W.cell? ⟨w.heap.size, 1, none⟩ = some (.slice la ll lc) := by rw [hW]; go_simp
  have c2 : W.cell? ⟨w.heap.size, 2, none⟩ = some (.slice da dl dc) := by rw [hW]; go_simp
  have c3 : W.cell? ⟨w.heap.size, 3, none⟩ = some (.slice oa ol oc) := by rw [hW]; go_simp
  have t0 : W.cell? ⟨w.heap.size + 1, 0, none⟩ = some (.int .i64 ts) := by rw [hW]; go_simp
  have t1 : W.cell? ⟨w.heap.size + 1, 1, none⟩ = some (.int .i64 tn) := by rw [hW]; go_simp
  have r0 : W.cell? ⟨w.heap.size + 1 + 1, 0, none⟩ = some (.slice none 0 0) := by rw [hW]; go_simp
  have r1 : W.cell? ⟨w.heap.size + 1 + 1, 1, none⟩ = some (.slice none 0 0) := by rw [hW]; go_simp
  have r2 : W.cell? ⟨w.heap.size + 1 + 1, 2, none⟩ = some (.slice none 0 0) := by rw [hW]; go_simp
  have r3 : W.cell? ⟨w.heap.size + 1 + 1, 3, none⟩ = some (.slice none 0 0) := by rw [hW]; go_simp
  have rf0 : W.frozen? ⟨w.heap.size + 1 + 1, 0, none⟩ = false := by rw [hW]; go_simp
  have rf1 : W.frozen? ⟨w.heap.size + 1 + 1, 1, none⟩ = false := by rw [hW]; go_simp
  have rf2 : W.frozen? ⟨w.heap.size + 1 + 1, 2, none⟩ = false := by rw [hW]; go_simp
  have rf3 : W.frozen? ⟨w.heap.size + 1 + 1, 3, none⟩ = false := by rw [hW]; go_simp
  have rz : w.heap.size + 1 + 1 < W.heap.size := zb2
  have KA : Hid (∀ U : World, Below W.heap.size W U → U.cell? ⟨w.heap.size, 0, none⟩ = some (.slice ia il ic) ∧ U.cell? ⟨w.heap.size, 1, none⟩ = some (.slice la ll lc) ∧ U.cell? ⟨w.heap.size, 2, none⟩ = some (.slice da dl dc) ∧ U.cell? ⟨w.heap.size, 3, none⟩ = some (.slice oa ol oc) ∧ U.cell? ⟨w.heap.size + 1, 0, none⟩ = some (.int .i64 ts) ∧ U.cell? ⟨w.heap.size + 1, 1, none⟩ = some (.int .i64 tn) ∧ U.cell? ⟨w.heap.size + 1 + 1, 0, none⟩ = some (.slice none 0 0) ∧ U.cell? ⟨w.heap.size + 1 + 1, 1, none⟩ = some (.slice none 0 0) ∧ U.cell? ⟨w.heap.size + 1 + 1, 2, none⟩ = some (.slice none 0 0) ∧ U.cell? ⟨w.heap.size + 1 + 1, 3, none⟩ = some (.slice none 0 0) ∧ U.frozen? ⟨w.heap.size + 1 + 1, 0, none⟩ = false ∧ U.frozen? ⟨w.heap.size + 1 + 1, 1, none⟩ = false ∧ U.frozen? ⟨w.heap.size + 1 + 1, 2, none⟩ = false ∧ U.frozen? ⟨w.heap.size + 1 + 1, 3, none⟩ = false ∧ w.heap.size + 1 + 1 < U.heap.size) := fun U hU => ⟨(hU.cell (p := ⟨w.heap.size, 0, none⟩) zb0).trans c0, (hU.cell (p := ⟨w.heap.size, 1, none⟩) zb0).trans c1, (hU.cell (p := ⟨w.heap.size, 2, none⟩) zb0).trans c2, (hU.cell (p := ⟨w.heap.size, 3, none⟩) zb0).trans c3, (hU.cell (p := ⟨w.heap.size + 1, 0, none⟩) zb1).trans t0, (hU.cell (p := ⟨w.heap.size + 1, 1, none⟩) zb1).trans t1, (hU.cell (p := ⟨w.heap.size + 1 + 1, 0, none⟩) zb2).trans r0, (hU.cell (p := ⟨w.heap.size + 1 + 1, 1, none⟩) zb2).trans r1, (hU.cell (p := ⟨w.heap.size + 1 + 1, 2, none⟩) zb2).trans r2, (hU.cell (p := ⟨w.heap.size + 1 + 1, 3, none⟩) zb2).trans r3, (hU.frozen (p := ⟨w.heap.size + 1 + 1, 0, none⟩) zb2).trans rf0, (hU.frozen (p := ⟨w.heap.size + 1 + 1, 1, none⟩) zb2).trans rf1, (hU.frozen (p := ⟨w.heap.size + 1 + 1, 2, none⟩) zb2).trans rf2, (hU.frozen (p := ⟨w.heap.size + 1 + 1, 3, none⟩) zb2).trans rf3, Nat.lt_of_lt_of_le zb2 hU.size⟩
  have hSW := hh.below hB
  have HS : Hid (∀ U : World, Below W.heap.size W U → IsStore U ⟨ia, il, ic, la, ll, lc, da, dl, dc, oa, ol, oc, items, locks, doubts, over⟩) := fun U hU => hSW.below hU
  clear hh h
  go_enter Tryd.func35, Tryd.ntmps35
  go_upto_region 1 with (fail)
  rw [← hW]
  clear hW
  by_cases hF : F = 0
  · subst hF
    obtain ⟨q1, q2, q3⟩ := hok rfl
    clear hok
    by_cases hAB : (A && B) = true
    · obtain ⟨rfl, rfl⟩ : A = true ∧ B = true := by simpa using hAB
      go_upto_region 7 with (first
        | (go_at_call 57; refine (hC _ hSW).mono ?_; rintro e w1 ⟨rfl, hb1⟩; clear c0 c1 c2 c3 t0 t1 r0 r1 r2 r3 rf0 rf1 rf2 rf3 rz; obtain ⟨c0, c1, c2, c3, t0, t1, r0, r1, r2, r3, rf0, rf1, rf2, rf3, rz⟩ := KA.out _ hb1)
        | (go_at_call 64; refine (value_any _ _).mono ?_; rintro e u ⟨rfl, hu⟩; rw [hu, e7]; clear hu)
        | (go_at_call 65; refine (isAsk_any _ _).mono ?_; rintro e u ⟨rfl, hu⟩; rw [hu, e8]; clear hu))
      obtain ⟨X, hX⟩ : ∃ X : World, X = w1.alloc (.cells #[.int .i64 ts, .int .i64 tn, .int .i64 key, .bool true, .int .i64 value, .int .i64 ask] 111) := ⟨_, rfl⟩
      have bx : BoxN X w1.heap.size 6 [.int .i64 ts, .int .i64 tn, .int .i64 key, .bool true, .int .i64 value, .int .i64 ask] := by rw [hX]; exact boxn_new w1 #[.int .i64 ts, .int .i64 tn, .int .i64 key, .bool true, .int .i64 value, .int .i64 ask] 111 6 rfl
      have hbX : Below W.heap.size W X := by rw [hX]; exact hb1.alloc hb1.size _
      have zm : W.heap.size ≤ w1.heap.size := hb1.size
      rw [← hX]
      clear hX c0 c1 c2 c3 t0 t1 r0 r1 r2 r3 rf0 rf1 rf2 rf3 rz
      obtain ⟨m, em⟩ : ∃ m, m = w1.heap.size := ⟨_, rfl⟩
      rw [← em] at bx zm ⊢
      clear em
      obtain ⟨c0, c1, c2, c3, t0, t1, r0, r1, r2, r3, rf0, rf1, rf2, rf3, rz⟩ := KA.out _ hbX
      have hS1 := HS.out _ hbX
      have k0 := (bx.c 0 (by decide)).1
      have k1 := (bx.c 1 (by decide)).1
      have k2 := (bx.c 2 (by decide)).1
      have k3 := (bx.c 3 (by decide)).1
      have k4 := (bx.c 4 (by decide)).1
      have k5 := (bx.c 5 (by decide)).1
      simp only [List.getD_cons_zero, List.getD_cons_succ] at k0 k1 k2 k3 k4 k5
      have bxl := bx.lt
      go_upto_region 8 with (go_at_call 66; refine (hRW _ hS1).mono ?_; rintro e w5 ⟨rfl, hb5'⟩)
      have hb5 : Below W.heap.size W w5 := hbX.trans (hb5'.mono hbX.size)
      clear c0 c1 c2 c3 t0 t1 r0 r1 r2 r3 rf0 rf1 rf2 rf3 rz k0 k1 k2 k3 k4 k5
      have bx5 := bx.below hb5' bx.lt
      clear bx
      by_cases hG : G = 0
      · subst hG
        have hE : E = 0 := by rw [eE.out]; simp
        have yD : Hid (D = ⟨items, holdL locks ⟨(ts, tn), key, true, value, ask⟩, holdD doubts (ts, tn), over⟩) := by show _ = _; rw [eD.out, if_pos hE]
        go_upto_region 10 with (fail)
        have hD5 : Below w5.heap.size w5 w5.drew := (Below.refl _ _).drew
        have KY : Hid (∀ U, Below w5.heap.size w5 U → U.cell? ⟨w.heap.size, 0, none⟩ = some (.slice ia il ic) ∧ U.cell? ⟨w.heap.size, 1, none⟩ = some (.slice la ll lc) ∧ U.cell? ⟨w.heap.size, 2, none⟩ = some (.slice da dl dc) ∧ U.cell? ⟨w.heap.size, 3, none⟩ = some (.slice oa ol oc) ∧ U.cell? ⟨m, 0, none⟩ = some (.int .i64 ts) ∧ U.cell? ⟨m, 1, none⟩ = some (.int .i64 tn) ∧ U.cell? ⟨m, 2, none⟩ = some (.int .i64 key) ∧ U.cell? ⟨m, 3, none⟩ = some (.bool true) ∧ U.cell? ⟨m, 4, none⟩ = some (.int .i64 value) ∧ U.cell? ⟨m, 5, none⟩ = some (.int .i64 ask)) := fun U hU => by
          obtain ⟨c0, c1, c2, c3, t0, t1, r0, r1, r2, r3, rf0, rf1, rf2, rf3, rz⟩ := KA.out _ (hb5.trans (hU.mono hb5.size))
          have bb := bx5.below hU bx5.lt
          exact ⟨c0, c1, c2, c3, (bb.c 0 (by decide)).1, (bb.c 1 (by decide)).1, (bb.c 2 (by decide)).1, (bb.c 3 (by decide)).1, (bb.c 4 (by decide)).1, (bb.c 5 (by decide)).1⟩
        have KF : Hid (∀ (U : World) (p0 p1 p2 p3 : Value), Below w5.heap.size w5 U → ((((U.setCell ⟨w.heap.size + 1 + 1, 0, none⟩ p0).setCell ⟨w.heap.size + 1 + 1, 1, none⟩ p1).setCell ⟨w.heap.size + 1 + 1, 2, none⟩ p2).setCell ⟨w.heap.size + 1 + 1, 3, none⟩ p3).cell? ⟨w.heap.size, 0, none⟩ = some (.slice ia il ic) ∧ ((((U.setCell ⟨w.heap.size + 1 + 1, 0, none⟩ p0).setCell ⟨w.heap.size + 1 + 1, 1, none⟩ p1).setCell ⟨w.heap.size + 1 + 1, 2, none⟩ p2).setCell ⟨w.heap.size + 1 + 1, 3, none⟩ p3).cell? ⟨w.heap.size, 1, none⟩ = some (.slice la ll lc) ∧ ((((U.setCell ⟨w.heap.size + 1 + 1, 0, none⟩ p0).setCell ⟨w.heap.size + 1 + 1, 1, none⟩ p1).setCell ⟨w.heap.size + 1 + 1, 2, none⟩ p2).setCell ⟨w.heap.size + 1 + 1, 3, none⟩ p3).cell? ⟨w.heap.size, 2, none⟩ = some (.slice da dl dc) ∧ ((((U.setCell ⟨w.heap.size + 1 + 1, 0, none⟩ p0).setCell ⟨w.heap.size + 1 + 1, 1, none⟩ p1).setCell ⟨w.heap.size + 1 + 1, 2, none⟩ p2).setCell ⟨w.heap.size + 1 + 1, 3, none⟩ p3).cell? ⟨w.heap.size, 3, none⟩ = some (.slice oa ol oc) ∧ ((((U.setCell ⟨w.heap.size + 1 + 1, 0, none⟩ p0).setCell ⟨w.heap.size + 1 + 1, 1, none⟩ p1).setCell ⟨w.heap.size + 1 + 1, 2, none⟩ p2).setCell ⟨w.heap.size + 1 + 1, 3, none⟩ p3).cell? ⟨m, 0, none⟩ = some (.int .i64 ts) ∧ ((((U.setCell ⟨w.heap.size + 1 + 1, 0, none⟩ p0).setCell ⟨w.heap.size + 1 + 1, 1, none⟩ p1).setCell ⟨w.heap.size + 1 + 1, 2, none⟩ p2).setCell ⟨w.heap.size + 1 + 1, 3, none⟩ p3).cell? ⟨m, 1, none⟩ = some (.int .i64 tn) ∧ ((((U.setCell ⟨w.heap.size + 1 + 1, 0, none⟩ p0).setCell ⟨w.heap.size + 1 + 1, 1, none⟩ p1).setCell ⟨w.heap.size + 1 + 1, 2, none⟩ p2).setCell ⟨w.heap.size + 1 + 1, 3, none⟩ p3).cell? ⟨m, 2, none⟩ = some (.int .i64 key) ∧ ((((U.setCell ⟨w.heap.size + 1 + 1, 0, none⟩ p0).setCell ⟨w.heap.size + 1 + 1, 1, none⟩ p1).setCell ⟨w.heap.size + 1 + 1, 2, none⟩ p2).setCell ⟨w.heap.size + 1 + 1, 3, none⟩ p3).cell? ⟨m, 3, none⟩ = some (.bool true) ∧ ((((U.setCell ⟨w.heap.size + 1 + 1, 0, none⟩ p0).setCell ⟨w.heap.size + 1 + 1, 1, none⟩ p1).setCell ⟨w.heap.size + 1 + 1, 2, none⟩ p2).setCell ⟨w.heap.size + 1 + 1, 3, none⟩ p3).cell? ⟨m, 4, none⟩ = some (.int .i64 value) ∧ ((((U.setCell ⟨w.heap.size + 1 + 1, 0, none⟩ p0).setCell ⟨w.heap.size + 1 + 1, 1, none⟩ p1).setCell ⟨w.heap.size + 1 + 1, 2, none⟩ p2).setCell ⟨w.heap.size + 1 + 1, 3, none⟩ p3).cell? ⟨m, 5, none⟩ = some (.int .i64 ask)) := fun U p0 p1 p2 p3 hU => by
          obtain ⟨l0, l1, l2, l3, l4, l5, l6, l7, l8, l9⟩ := KY.out _ hU
          exact ⟨(cell_four (by omega) _ _ _ _).trans l0, (cell_four (by omega) _ _ _ _).trans l1, (cell_four (by omega) _ _ _ _).trans l2, (cell_four (by omega) _ _ _ _).trans l3, (cell_four (by omega) _ _ _ _).trans l4, (cell_four (by omega) _ _ _ _).trans l5, (cell_four (by omega) _ _ _ _).trans l6, (cell_four (by omega) _ _ _ _).trans l7, (cell_four (by omega) _ _ _ _).trans l8, (cell_four (by omega) _ _ _ _).trans l9⟩
        have hS5 := HS.out _ (hb5.trans (hD5.mono hb5.size))
        have z5 : W.heap.size ≤ w5.heap.size := hb5.size
        go_region_held3 (fun U => U.cell? ⟨w.heap.size, 0, none⟩ = some (.slice ia il ic) ∧ U.cell? ⟨w.heap.size, 1, none⟩ = some (.slice la ll lc) ∧ U.cell? ⟨w.heap.size, 2, none⟩ = some (.slice da dl dc) ∧ U.cell? ⟨w.heap.size, 3, none⟩ = some (.slice oa ol oc) ∧ U.cell? ⟨m, 0, none⟩ = some (.int .i64 ts) ∧ U.cell? ⟨m, 1, none⟩ = some (.int .i64 tn) ∧ U.cell? ⟨m, 2, none⟩ = some (.int .i64 key) ∧ U.cell? ⟨m, 3, none⟩ = some (.bool true) ∧ U.cell? ⟨m, 4, none⟩ = some (.int .i64 value) ∧ U.cell? ⟨m, 5, none⟩ = some (.int .i64 ask)) (with_reducible first | exact KY.out _ hb7 | exact KF.out _ _ _ _ _ hb7 | exact KY.out _ hb6 | exact KY.out _ hD5 | exact KY.out _ (Below.refl _ _)) (first | ((go_at_call 63; refine (hOwn _ hS5 (by omega) (by omega) (by omega)).mono ?_; rintro e w6 ⟨⟨a0, n0, u0, a1, n1, u1, a2, n2, u2, a3, n3, u3, items', locks', doubts', over'⟩, rfl, hsame, hown, hb6'⟩; obtain ⟨v1, v2, v3, v4, v5, v6, v7, v8⟩ := hsame; simp only [] at v1 v2 v3 v4 v5 v6 v7 v8; obtain rfl := v1.symm; obtain rfl := v2.symm; obtain rfl := v3.symm; obtain rfl := v4.symm; obtain rfl := v5.symm; obtain rfl := v6.symm; obtain rfl := v7.symm; obtain rfl := v8.symm; simp only []; have hb6 : Below w5.heap.size w5 w6 := hD5.trans (hb6'.mono hD5.size); have hHo := HHO.out _ _ w6 hown hb6.size (by show ll ≤ 100; omega) (by show dl ≤ 100; omega); simp only [] at hHo)) | ((go_at_call 62; refine hHo.mono ?_; rintro e w7 ⟨⟨p0, m0, q0', p1, m1, q1', p2, m2, q2', p3, m3, q3', items2, locks2, doubts2, over2⟩, rfl, hqd, hqo, hb7'⟩; simp only []; have hb7 : Below w5.heap.size w5 w7 := hb6.trans hb7'; obtain ⟨c0, c1, c2, c3, t0, t1, r0, r1, r2, r3, rf0, rf1, rf2, rf3, rz⟩ := KA.out _ (hb5.trans (hb7.mono hb5.size)))))
        all_goals
          go_wp2
          refine bodyPost_ret (v := .tuple #[.agg #[.slice p0 m0 q0', .slice p1 m1 q1', .slice p2 m2 q2', .slice p3 m3 q3'], .int .i64 0]) (by simp [results, Tryd.results35, go_sem, r0, r1, r2, r3]) rfl ?_
          rw [yD.out]
          try rw [hE]
          exact ⟨⟨p0, m0, q0', p1, m1, q1', p2, m2, q2', p3, m3, q3', items2, locks2, doubts2, over2⟩, rfl, (hqo.four (b := w.heap.size + 1 + 1) (by show _ < w5.heap.size; omega) (.slice p0 m0 q0') (.slice p1 m1 q1') (.slice p2 m2 q2') (.slice p3 m3 q3')).base (Nat.le_trans hB.size hb5.size), hqd, below_four (hB.trans ((hb5.trans (hb7.mono hb5.size)).mono hB.size)) (by omega) (.slice p0 m0 q0') (.slice p1 m1 q1') (.slice p2 m2 q2') (.slice p3 m3 q3')⟩
      · have hEE : E = G := by rw [eE.out]; simp
        have hE : E ≠ 0 := by rw [hEE]; exact hG
        obtain ⟨c0, c1, c2, c3, t0, t1, r0, r1, r2, r3, rf0, rf1, rf2, rf3, rz⟩ := KA.out _ hb5
        go_wp2
        refine bodyPost_ret (v := .tuple #[.agg #[.slice none 0 0, .slice none 0 0, .slice none 0 0, .slice none 0 0], .int .i64 G]) (by simp [results, Tryd.results35, go_sem, r0, r1, r2, r3]) rfl ?_
        have y3 := HBAD.out hE
        rw [y3]
        try rw [hEE]
        exact ⟨SV.nil, rfl, ownStore_nil _ _, rfl, below_four (hB.trans (hb5.mono hB.size)) (by omega) (.slice none 0 0) (.slice none 0 0) (.slice none 0 0) (.slice none 0 0)⟩
    · have hEE : E = 2 := by rw [eE.out]; simp [hAB]
      have hE : E ≠ 0 := by rw [hEE]; decide
      have hAB' : A = false ∨ (A = true ∧ B = false) := by cases A <;> cases B <;> simp_all
      rcases hAB' with rfl | ⟨rfl, rfl⟩
      all_goals
        go_wp2_with (first
          | (go_at_call 57; refine (hC _ hSW).mono ?_; rintro e w1 ⟨rfl, hb1⟩; clear c0 c1 c2 c3 t0 t1 r0 r1 r2 r3 rf0 rf1 rf2 rf3 rz; obtain ⟨c0, c1, c2, c3, t0, t1, r0, r1, r2, r3, rf0, rf1, rf2, rf3, rz⟩ := KA.out _ hb1)
          | (go_at_call 64; refine (value_any _ _).mono ?_; rintro e u ⟨rfl, hu⟩; rw [hu, e7]; clear hu)
          | (go_at_call 65; refine (isAsk_any _ _).mono ?_; rintro e u ⟨rfl, hu⟩; rw [hu, e8]; clear hu))
        refine bodyPost_ret (v := .tuple #[.agg #[.slice none 0 0, .slice none 0 0, .slice none 0 0, .slice none 0 0], .int .i64 2]) (by simp [results, Tryd.results35, go_sem, r0, r1, r2, r3]) rfl ?_
        have y3 := HBAD.out hE
        rw [y3]
        try rw [hEE]
        exact ⟨SV.nil, rfl, ownStore_nil _ _, rfl, below_four (hB.trans (hb1.mono hB.size)) (by omega) (.slice none 0 0) (.slice none 0 0) (.slice none 0 0) (.slice none 0 0)⟩
  · have hE : E ≠ 0 := by rw [eE.out, if_neg hF]; exact hF
    have hEE : E = F := by rw [eE.out, if_neg hF]
    go_wp2_with (go_at_call 57; refine (hC _ hSW).mono ?_; rintro e w1 ⟨rfl, hb1⟩; clear c0 c1 c2 c3 t0 t1 r0 r1 r2 r3 rf0 rf1 rf2 rf3 rz; obtain ⟨c0, c1, c2, c3, t0, t1, r0, r1, r2, r3, rf0, rf1, rf2, rf3, rz⟩ := KA.out _ hb1)
    refine bodyPost_ret (v := .tuple #[.agg #[.slice none 0 0, .slice none 0 0, .slice none 0 0, .slice none 0 0], .int .i64 F]) (by simp [results, Tryd.results35, go_sem, r0, r1, r2, r3]) rfl ?_
    have y3 := HBAD.out hE
    rw [y3]
    try rw [hEE]
    exact ⟨SV.nil, rfl, ownStore_nil _ _, rfl, below_four (hB.trans (hb1.mono hB.size)) (by omega) (.slice none 0 0) (.slice none 0 0) (.slice none 0 0) (.slice none 0 0)⟩
theorem write_any (s : SV) (t : Int × Int) (key value ask : Int) (w : World) (h : IsStore w s) (hwf : ∀ t ∈ s.over, TxWf t) (h4 : s.ol * 16 ≤ 140737488351232) :
    Calls Tryd.prog 35 #[s.val, .agg #[.int .i64 t.1, .int .i64 t.2], .int .i64 key, .int .i64 value, .int .i64 ask] w fun e w' => ∃ r : SV, e = .returned (.tuple #[r.val, .int .i64 (writeErr s t key value ask)]) ∧ IsStore w' r ∧ r.data = writeData s t key value ask ∧ Below w.heap.size w w' :=
  (write_own s t key value ask w h hwf h4).mono fun e w' ⟨r, q1, q2, q3⟩ => ⟨r, q1, q2.isStore, q3⟩
end Go.Proofs.YtgohpgollpjlnaaDoor.St
/- The contract of slices.Insert at items: one item into a row of the caller's own. -/
namespace Go.Proofs.YtgohpgollpjlnaaDoor.St
open Go.ChangeShapes Go.WideShapes Go.ChangeAt Go.RowKit
set_option linter.unusedVariables false

theorem run_copy_items (w : World) (ty : TypeId) (b o dLen dCap : Nat) (a : Addr) (sLen sCap : Nat) (cs : List Value) (q : Nat) (hq : Nat.min sLen dLen = q) (hn : cs.length = q * 3)
    (hsrc : ∀ j v, cs[j]? = some v → w.cell? (a.add j) = some v) (hc : ∀ j, j < cs.length → (w.cell? ⟨b, o + j, none⟩).isSome = true) (hf : ∀ j, j < cs.length → w.frozen? ⟨b, o + j, none⟩ = false) (h1 : ∀ v ∈ cs, v.oneCell' = true) :
    (Builtin.copy_ #[50, 50] ty #[.slice (some ⟨b, o, none⟩) dLen dCap, .slice (some a) sLen sCap]).run Tryd.prog w = .ok (goInt q) (w.setCells b o cs) := by
  obtain ⟨i, hi, _, hs, _⟩ := info_parts itInfo
  have hl := run_loadCells_list (P := Tryd.prog) w a cs hsrc
  have hst := run_storeCells_cells (P := Tryd.prog) b o cs 0 w (by simpa using hc) (by simpa using hf) h1
  rw [hn] at hl
  simp only [Nat.add_zero] at hst
  simp [Builtin.copy_, run_underlying Tryd.underlying50, Builtin.lenOf, Builtin.firstCells, sizeOf, typeInfo, hi, hs, hq, hl, hst]
theorem cp_wp {w : World} {ops : Array Oper} {rest : List Oper} {o : Oper} {A : Act} {Q : Exit → Act → World → Prop} (hgd : o.guard = none) (d s : Operand) (t t' : TypeId)
    (ho : o.op = .call { callee := .builtin .copy, args := #[d, s], argTypes := #[t, t'] }) (v u : Value) (hd : A.eval d = v) (hs : A.eval s = u) {v' : Value} {w' : World}
    (hr : (Builtin.copy_ #[t, t'] o.type #[v, u]).run Tryd.prog w = .ok v' w') (h : wpList Tryd.prog ops Q rest (A.put o.dst v') w') : wpList Tryd.prog ops Q (o :: rest) A w := by
  refine wpList_plain hgd fun K hK => ?_
  unfold Oper.wp execOp
  simp only [ho, resolve, invoke, builtin, Sem.run_bind, Sem.run_pure, Result.andThen_ok, List.map_toArray, List.map_cons, List.map_nil, hd, hs, hr]
  exact hK _ _ h
theorem cp_step {ops : Array Oper} {o : Oper} {A : Act} {w : World} {K : Act → World → Prop} {Q : Exit → Act → World → Prop} {F : Prop} (hgd : o.guard = none) (d s : Operand) (t t' : TypeId)
    (ho : o.op = .call { callee := .builtin .copy, args := #[d, s], argTypes := #[t, t'] }) (v u : Value) (hd : A.eval d = v) (hs : A.eval s = u) {v' : Value} {w' : World}
    (hr : (Builtin.copy_ #[t, t'] o.type #[v, u]).run Tryd.prog w = .ok v' w') (h : K (A.put o.dst v') w') : if Region.wanted o (yielded ops A.tmps) = true then Oper.wp Tryd.prog o A w K Q else F := by
  have hw : Region.wanted o (yielded ops A.tmps) = true := by simp [Region.wanted, hgd]
  rw [if_pos hw]
  unfold Oper.wp execOp
  simp only [ho, resolve, invoke, builtin, Sem.run_bind, Sem.run_pure, Result.andThen_ok, List.map_toArray, List.map_cons, List.map_nil, hd, hs, hr]
  exact h
/-- A row may take its next place. -/
theorem own_more {w : World} {B : Nat} {e : TypeId} {g n cap size : Nat} {xs : List Value} (h : w.ownsRow B e size (.slice (some ⟨g, 0, none⟩) n cap) n xs) (hn : n + 1 ≤ cap) : ∃ ys, w.ownsRow B e size (.slice (some ⟨g, 0, none⟩) (n + 1) cap) (n + 1) ys ∧ ys.length = (n + 1) * size ∧ ys.take (n * size) = xs := by
  obtain ⟨hl, h2⟩ := h
  rcases h2 with ⟨hv, h0⟩ | ⟨g', cap', cur, hv, hb, hg, h1, h3, hs, ht⟩
  · simp at hv
  · simp at hv
    obtain ⟨rfl, rfl⟩ := hv
    have hm : (n + 1) * size ≤ cap * size := Nat.mul_le_mul_right _ hn
    have hm2 : n * size ≤ (n + 1) * size := Nat.mul_le_mul_right _ (by omega)
    refine ⟨cur.toList.take ((n + 1) * size), ⟨?_, .inr ⟨g, cap, cur, rfl, hb, hg, hn, h3, hs, rfl⟩⟩, ?_, ?_⟩
    · rw [List.length_take, Array.length_toList, hs]; omega
    · rw [List.length_take, Array.length_toList, hs]; omega
    · rw [List.take_take, Nat.min_eq_left hm2, ht]
theorem put_in {xs : List ItV} {n i : Nat} (x : ItV) (ys : List Value) (hl : xs.length = n) (hi : i ≤ n) (hy : ys.length = (n + 1) * 3) (ht : ys.take (i * 3) = flat ItV.cells (xs.take i)) : setL (setL ys ((i + 1) * 3) (flat ItV.cells (xs.drop i))) (i * 3) (ItV.cells x) = flat ItV.cells (xs.take i ++ x :: xs.drop i) := by
  have hd : (flat ItV.cells (xs.drop i)).length = (n - i) * 3 := by rw [flat_len it_len]; simp [hl]
  have hx : (ItV.cells x).length = 3 := rfl
  have e1 : setL ys ((i + 1) * 3) (flat ItV.cells (xs.drop i)) = ys.take ((i + 1) * 3) ++ flat ItV.cells (xs.drop i) := by
    have hdn : ys.drop ((i + 1) * 3 + (flat ItV.cells (xs.drop i)).length) = [] := List.drop_eq_nil_of_le (by rw [hd, hy]; omega)
    rw [setL_eq _ _ _ (by rw [hd, hy]; omega), hdn, List.append_nil]
  have h3 : (ys.take ((i + 1) * 3)).length = (i + 1) * 3 := by rw [List.length_take, hy]; omega
  rw [e1, setL_eq _ _ _ (by rw [List.length_append, h3, hx]; omega)]
  have e2 : (ys.take ((i + 1) * 3) ++ flat ItV.cells (xs.drop i)).take (i * 3) = flat ItV.cells (xs.take i) := by
    rw [List.take_append_of_le_length (by rw [h3]; omega), List.take_take, Nat.min_eq_left (by omega), ht]
  have e3 : (ys.take ((i + 1) * 3) ++ flat ItV.cells (xs.drop i)).drop (i * 3 + (ItV.cells x).length) = flat ItV.cells (xs.drop i) := by
    rw [hx, show i * 3 + 3 = (i + 1) * 3 by omega, List.drop_append_of_le_length (by rw [h3]; exact Nat.le_refl _), List.drop_eq_nil_of_le (by rw [h3]; exact Nat.le_refl _), List.nil_append]
  rw [e2, e3, flat_append]
  have : flat ItV.cells (x :: xs.drop i) = ItV.cells x ++ flat ItV.cells (xs.drop i) := by simp [flat]
  rw [this, List.append_assoc]

def insAt (xs : List ItV) (i : Nat) (x : ItV) : List ItV := xs.take i ++ x :: xs.drop i

set_option maxRecDepth 100000 in
set_option maxHeartbeats 4000000 in
/-- There is room, and it goes ahead of another one. -/
theorem insert_room (B g n cap i : Nat) (xs : List ItV) (x : ItV) (w V : World) (hVw : V = w.alloc (.cells #[.int .i64 x.key, .int .i64 x.value, .int .i64 x.version] 109)) (h : w.ownsRow B 109 3 (.slice (some ⟨g, 0, none⟩) n cap) n (flat ItV.cells xs)) (hi : i < n) (hn : n + 1 ≤ cap) :
    Calls Tryd.prog 100 #[.slice (some ⟨g, 0, none⟩) n cap, .int .i64 (i : Int), .slice (some ⟨w.heap.size, 0, none⟩) 1 1] V fun e w' => e = .returned (.slice (some ⟨g, 0, none⟩) (n + 1) cap) ∧ w'.ownsRow B 109 3 (.slice (some ⟨g, 0, none⟩) (n + 1) cap) (n + 1) (flat ItV.cells (insAt xs i x)) ∧ V.grownBy w' (some g) := by
  have hl := own_len it_len (by decide) h
  obtain ⟨ik, iv, iw⟩ := x
  simp only [] at hVw
  have hg := h.lt g rfl
  have bV : Below w.heap.size w V := by rw [hVw]; exact (Below.refl _ _).alloc (Nat.le_refl _) _
  have hV := own_below h bV
  have hcm : cap ≤ maxLen := by
    obtain ⟨_, _, e0, _, h2, _⟩ := own_form h
    simp at e0
    omega
  unfold maxLen at hcm
  obtain ⟨ys, hown, hyl, hyt⟩ := own_more hV hn
  have hyi : ys.take (i * 3) = flat ItV.cells (xs.take i) := by
    have : ys.take (i * 3) = (ys.take (n * 3)).take (i * 3) := by rw [List.take_take, Nat.min_eq_left (by omega)]
    rw [this, hyt, flat_take it_len]
  have bx := boxn_new w #[.int .i64 ik, .int .i64 iv, .int .i64 iw] 109 3 rfl
  rw [← hVw] at bx
  have hne : w.heap.size ≠ g := by omega
  have hov : ∀ oo lb cb, (callFunc 118 #[.slice (some ⟨w.heap.size, 0, none⟩) 1 1, .slice (some ⟨g, oo, none⟩) lb cb]).run Tryd.prog V = .ok (.value (.bool false)) V := by
    intro oo lb cb
    have hb : V.heap[w.heap.size]? = some (.cells #[.int .i64 ik, .int .i64 iv, .int .i64 iw] 109 (0, 0)) := by rw [hVw]; exact heap_alloc_new w _
    obtain ⟨cur, hgb, hcs⟩ : ∃ cur : Array Value, V.heap[g]? = some (.cells cur 109 (0, 0)) ∧ cur.size = cap * 3 := by
      rcases hV.2 with ⟨hv, _⟩ | ⟨g', cap', cur, hv, _, hgb, _, _, hs, _⟩
      · simp at hv
      · simp at hv
        obtain ⟨rfl, rfl⟩ := hv
        exact ⟨cur, hgb, hs⟩
    obtain ⟨i0, hi0, _, hs0, _⟩ := info_parts itInfo
    rw [run_callFunc_extern Tryd.func118 (by kernel_rfl) (by kernel_rfl) (by kernel_rfl) (e := Extern.SlicesOverlaps.overlaps #[50, 50] #[4]) (by kernel_rfl),
      Go.Lib.run_overlaps_apart V 50 4 109 Tryd.underlying50 3 (fun w => by simp [sizeOf, typeInfo, hi0, hs0]) ⟨w.heap.size, 0, none⟩ ⟨g, oo, none⟩ 1 1 lb cb hne 109 109 3 (cap * 3)
        (by simp [World.shape?, hb]) (by simp [World.shape?, hgb, hcs]) (by omega) (bx.c 0 (by decide)).2 (by simp [World.frozen?, hb])]
    rfl
  have HDL : Hid ((flat ItV.cells (xs.drop i)).length = (n - i) * 3) := by show _ = _; rw [flat_len it_len]; simp [hl]
  have h1c : ∀ v ∈ flat ItV.cells (xs.drop i), v.oneCell' = true := flat_one' (k := 3) it_one _
  have hrow := (own_isRow it_len hV hl).1
  have hD : Below V.heap.size V V.drew := (Below.refl _ _).drew
  have hownD := own_below hown hD
  have hcp1 : ∀ ty, (Builtin.copy_ #[50, 50] ty #[.slice (some ⟨g, (i + 1) * 3, none⟩) (n - i) (cap - (i + 1)), .slice (some ⟨g, i * 3, none⟩) (n + 1 - i) (cap - i)]).run Tryd.prog V.drew = .ok (goInt ((n - i : Nat) : Int)) (V.drew.setCells g ((i + 1) * 3) (flat ItV.cells (xs.drop i))) := fun ty =>
    run_copy_items V.drew ty g ((i + 1) * 3) (n - i) (cap - (i + 1)) ⟨g, i * 3, none⟩ (n + 1 - i) (cap - i) (flat ItV.cells (xs.drop i)) (n - i) (by simp only [Nat.min_def]; split <;> omega) HDL.out
      (fun j v hj => by
        have hf : (flat ItV.cells xs)[i * 3 + j]? = some v := by rw [← List.getElem?_drop, flat_drop it_len]; exact hj
        have := (own_below hV hD).cells (g := g) rfl _ _ hf
        rw [adr_add] at this ⊢
        rw [Nat.zero_add] at this
        exact this)
      (fun j hj => by rw [HDL.out] at hj; exact (own_there hownD (by omega)).1) (fun j hj => by rw [HDL.out] at hj; exact (own_there hownD (by omega)).2) h1c
  obtain ⟨W1, hW1⟩ : ∃ W1, W1 = V.drew.setCells g ((i + 1) * 3) (flat ItV.cells (xs.drop i)) := ⟨_, rfl⟩
  have own1 : W1.ownsRow B 109 3 (.slice (some ⟨g, 0, none⟩) (n + 1) cap) (n + 1) (setL ys ((i + 1) * 3) (flat ItV.cells (xs.drop i))) := by
    rw [hW1]
    exact own_setCells _ _ _ _ hownD (by rw [HDL.out]; omega)
  have gr1 : V.grownBy W1 (some g) := by rw [hW1]; exact grown_trans (grown_below hD _) (grown_setCells g _ _ _)
  rw [← hW1] at hcp1
  clear hW1
  have bx1 := bx.grown gr1 (by simpa using hne)
  have hcp2 : ∀ ty, (Builtin.copy_ #[50, 50] ty #[.slice (some ⟨g, i * 3, none⟩) (n + 1 - i) (cap - i), .slice (some ⟨w.heap.size, 0, none⟩) 1 1]).run Tryd.prog W1 = .ok (goInt 1) (W1.setCells g (i * 3) [.int .i64 ik, .int .i64 iv, .int .i64 iw]) := fun ty =>
    run_copy_items W1 ty g (i * 3) (n + 1 - i) (cap - i) ⟨w.heap.size, 0, none⟩ 1 1 [.int .i64 ik, .int .i64 iv, .int .i64 iw] 1 (by simp only [Nat.min_def]; split <;> omega) rfl
      (fun j v hj => by
        rw [adr_add, Nat.zero_add]
        have hj3 : j < 3 := (List.getElem?_eq_some_iff.1 hj).1
        rw [(bx1.c j hj3).1]
        have : j = 0 ∨ j = 1 ∨ j = 2 := by omega
        rcases this with rfl | rfl | rfl <;> exact hj)
      (fun j hj => (own_there own1 (by simp at hj; omega)).1) (fun j hj => (own_there own1 (by simp at hj; omega)).2) (fun v hv => by simp at hv; rcases hv with e | e | e <;> subst e <;> rfl)
  have HFIN : Hid ((W1.setCells g (i * 3) [.int .i64 ik, .int .i64 iv, .int .i64 iw]).ownsRow B 109 3 (.slice (some ⟨g, 0, none⟩) (n + 1) cap) (n + 1) (flat ItV.cells (insAt xs i ⟨ik, iv, iw⟩)) ∧ V.grownBy (W1.setCells g (i * 3) [.int .i64 ik, .int .i64 iv, .int .i64 iw]) (some g)) := by
    refine ⟨?_, grown_trans gr1 (grown_setCells g _ _ _)⟩
    have o2 := own_setCells (ItV.cells ⟨ik, iv, iw⟩) (i * 3) W1 _ own1 (by rw [it_len]; omega)
    rw [put_in ⟨ik, iv, iw⟩ ys hl (by omega) hyl hyi] at o2
    exact o2
  have hz2 : ¬ ((i : Int) = (n : Int)) := by omega
  have hw1 : IntKind.i64.wrap ((i : Int) + 1) = (i : Int) + 1 := by rw [IntKind.wrap_i64]; omega
  have hw2 : IntKind.i64.wrap ((n : Int) + 1) = (n : Int) + 1 := by rw [IntKind.wrap_i64]; omega
  have hin : i ≤ n := by omega
  have hic : i ≤ cap := by omega
  have hi1c : i + 1 ≤ cap := by omega
  have hb1 : (i : Int) ≤ (n : Int) := by omega
  have hb2 : ¬ cap = i + 1 := by omega
  have hb4 : ¬ cap = i := by omega
  have hb5 : ¬ ((cap : Int) < (n : Int) + 1) := by omega
  have hb6 : (i : Int) + 1 ≤ (n : Int) + 1 := by omega
  have hb7 : (i : Int) ≤ (n : Int) + 1 := by omega
  have hb8 : i + 1 ≤ n + 1 := by omega
  have hnc : n ≤ cap := by omega
  have hp0 : (0 : Int) ≤ (i : Int) + 1 := by omega
  have htn : ((i : Int) + 1).toNat = i + 1 := by omega
  clear hV hown own1 gr1 bx1 bx hrow hownD hD h1c hyl hyt hyi h hVw bV hg hcm hne
  go_enter Tryd.func100, Tryd.ntmps100
  go_wp2_with (simp only [hov])
  go_region_law (refine cp_step (by rfl) (.tmp 73) (.tmp 76) 50 50 (by rfl) (.slice (some ⟨g, (i + 1) * 3, none⟩) (n - i) (cap - (i + 1))) (.slice (some ⟨g, i * 3, none⟩) (n + 1 - i) (cap - i)) (by simp [Act.eval, Act.put]) (by simp [Act.eval, Act.put]) (hcp1 _) ?_)
  all_goals
    go_wp2_with (at_builtin; refine cp_wp (by rfl) _ _ 50 50 (by rfl) _ _ (by rfl) (by rfl) (hcp2 _) ?_)
    go_ret
    exact ⟨rfl, HFIN.out.1, HFIN.out.2⟩
end Go.Proofs.YtgohpgollpjlnaaDoor.St
/- The contract of slices.Insert at items, whatever room there is. -/
namespace Go.Proofs.YtgohpgollpjlnaaDoor.St
open Go.ChangeShapes Go.WideShapes Go.ChangeAt Go.RowKit
set_option linter.unusedVariables false

theorem put_in2 {xs : List ItV} {n i : Nat} (x : ItV) (ys : List Value) (hl : xs.length = n) (hi : i ≤ n) (hy : ys.length = (n + 1) * 3) (ht : ys.take (i * 3) = flat ItV.cells (xs.take i)) : setL (setL ys (i * 3) (ItV.cells x)) ((i + 1) * 3) (flat ItV.cells (xs.drop i)) = flat ItV.cells (xs.take i ++ x :: xs.drop i) := by
  have hd : (flat ItV.cells (xs.drop i)).length = (n - i) * 3 := by rw [flat_len it_len]; simp [hl]
  have hx : (ItV.cells x).length = 3 := rfl
  have h0 : (setL ys (i * 3) (ItV.cells x)).length = (n + 1) * 3 := by rw [setL_len, hy]
  have hdn : (setL ys (i * 3) (ItV.cells x)).drop ((i + 1) * 3 + (flat ItV.cells (xs.drop i)).length) = [] := List.drop_eq_nil_of_le (by rw [hd, h0]; omega)
  have h1 : (ys.take (i * 3)).length = i * 3 := by rw [List.length_take, hy]; omega
  have e2 : (setL ys (i * 3) (ItV.cells x)).take ((i + 1) * 3) = flat ItV.cells (xs.take i) ++ ItV.cells x := by
    rw [setL_eq _ _ _ (by rw [hx, hy]; omega), ht]
    rw [ht] at h1
    rw [List.take_append_of_le_length (by rw [List.length_append, h1, hx]; omega), List.take_of_length_le (by rw [List.length_append, h1, hx]; omega)]
  rw [setL_eq _ _ _ (by rw [hd, h0]; omega), hdn, e2, List.append_nil, flat_append]
  have : flat ItV.cells (x :: xs.drop i) = ItV.cells x ++ flat ItV.cells (xs.drop i) := by simp [flat]
  rw [this, List.append_assoc]

set_option maxRecDepth 100000 in
set_option maxHeartbeats 4000000 in
/-- Behind all. -/
theorem insert_end (B : Nat) (a : Option Addr) (n cap : Nat) (xs : List ItV) (x : ItV) (w V : World) (hVw : V = w.alloc (.cells #[.int .i64 x.key, .int .i64 x.value, .int .i64 x.version] 109)) (h : w.ownsRow B 109 3 (.slice a n cap) n (flat ItV.cells xs)) (hB : B ≤ w.heap.size) (hn : n ≤ 100) :
    Calls Tryd.prog 100 #[.slice a n cap, .int .i64 (n : Int), .slice (some ⟨w.heap.size, 0, none⟩) 1 1] V fun e w' => ∃ a' c', e = .returned (.slice a' (n + 1) c') ∧ w'.ownsRow B 109 3 (.slice a' (n + 1) c') (n + 1) (flat ItV.cells (insAt xs n x)) ∧ V.grownBy w' (Value.slice a n cap).ownBlock ∧ ((Value.slice a' (n + 1) c').ownBlock = (Value.slice a n cap).ownBlock ∨ (Value.slice a' (n + 1) c').ownBlock = some V.heap.size) := by
  obtain ⟨i1, E1⟩ := itElem
  have hl := own_len it_len (by decide) h
  have HI : Hid (insAt xs n x = xs ++ [x]) := by
    show _ = _
    unfold insAt
    rw [List.take_of_length_le (by omega), List.drop_eq_nil_of_le (by omega)]
  obtain ⟨ik, iv, iw⟩ := x
  simp only [] at hVw
  have bV : Below w.heap.size w V := by rw [hVw]; exact (Below.refl _ _).alloc (Nat.le_refl _) _
  have hV := own_below h bV
  have hv1 : IsRow 3 ItV.cells V (some ⟨w.heap.size, 0, none⟩) 1 1 [(⟨ik, iv, iw⟩ : ItV)] := by rw [hVw]; exact isOne w #[.int .i64 ik, .int .i64 iv, .int .i64 iw] 109 (⟨ik, iv, iw⟩ : ItV) rfl rfl
  obtain ⟨_, _, e0, hnc, hcm, hnil⟩ := own_form h
  simp at e0
  obtain ⟨rfl, rfl⟩ := e0
  unfold maxLen at hcm
  have hBV : B ≤ V.heap.size := Nat.le_trans hB bV.size
  clear h hVw bV
  by_cases hcn : cap = n
  · subst hcn
    cases a with
    | none =>
      obtain rfl : cap = 0 := hnil rfl
      go_enter Tryd.func100, Tryd.ntmps100
      go_wp2_with (at_builtin; go_loud (refine wpList_append_row E1 (by rfl) _ _ (by rfl) B (.slice none 0 0) 0 xs (by rfl) hV _ 1 1 [⟨ik, iv, iw⟩] (by rfl) hv1 (by unfold maxLen; omega) (by omega) hBV ?_; intro a5 c5 w5 own5 gr5 at5))
      go_ret
      exact ⟨a5, c5, rfl, by rw [HI.out]; exact own5, gr5, at5⟩
    | some ad =>
      obtain ⟨ab, ao, asp⟩ := ad
      go_enter Tryd.func100, Tryd.ntmps100
      go_wp2_with (at_builtin; go_loud (refine wpList_append_row E1 (by rfl) _ _ (by rfl) B (.slice (some ⟨ab, ao, asp⟩) cap cap) cap xs (by rfl) hV _ 1 1 [⟨ik, iv, iw⟩] (by rfl) hv1 (by unfold maxLen; omega) (by omega) hBV ?_; intro a5 c5 w5 own5 gr5 at5))
      go_ret
      exact ⟨a5, c5, rfl, by rw [HI.out]; exact own5, gr5, at5⟩
  · cases a with
    | none => exact absurd (hnil rfl) (by omega)
    | some ad =>
      obtain ⟨ab, ao, asp⟩ := ad
      go_enter Tryd.func100, Tryd.ntmps100
      go_wp2_with (at_builtin; go_loud (refine wpList_append_row E1 (by rfl) _ _ (by rfl) B (.slice (some ⟨ab, ao, asp⟩) n cap) n xs (by rfl) hV _ 1 1 [⟨ik, iv, iw⟩] (by rfl) hv1 (by unfold maxLen; omega) (by omega) hBV ?_; intro a5 c5 w5 own5 gr5 at5))
      go_ret
      exact ⟨a5, c5, rfl, by rw [HI.out]; exact own5, gr5, at5⟩

set_option maxRecDepth 100000 in
set_option maxHeartbeats 4000000 in
/-- There is no room, and it goes ahead of another one. -/
theorem insert_grow (B g n i : Nat) (xs : List ItV) (x : ItV) (w V : World) (hVw : V = w.alloc (.cells #[.int .i64 x.key, .int .i64 x.value, .int .i64 x.version] 109)) (h : w.ownsRow B 109 3 (.slice (some ⟨g, 0, none⟩) n n) n (flat ItV.cells xs)) (hB : B ≤ w.heap.size) (hi : i < n) (hn : n ≤ 100) :
    Calls Tryd.prog 100 #[.slice (some ⟨g, 0, none⟩) n n, .int .i64 (i : Int), .slice (some ⟨w.heap.size, 0, none⟩) 1 1] V fun e w' => ∃ a' c', e = .returned (.slice a' (n + 1) c') ∧ w'.ownsRow B 109 3 (.slice a' (n + 1) c') (n + 1) (flat ItV.cells (insAt xs i x)) ∧ V.grownBy w' (some g) ∧ ((Value.slice a' (n + 1) c').ownBlock = some g ∨ (Value.slice a' (n + 1) c').ownBlock = some V.heap.size) := by
  have hl := own_len it_len (by decide) h
  obtain ⟨ik, iv, iw⟩ := x
  simp only [] at hVw
  have hg := h.lt g rfl
  have bV : Below w.heap.size w V := by rw [hVw]; exact (Below.refl _ _).alloc (Nat.le_refl _) _
  have zV : V.heap.size = w.heap.size + 1 := by rw [hVw]; simp
  have hV := own_below h bV
  have bx := boxn_new w #[.int .i64 ik, .int .i64 iv, .int .i64 iw] 109 3 rfl
  rw [← hVw] at bx
  obtain ⟨j0, hj0, lz, ls, lb⟩ := info_parts itInfo
  have hD : Below V.heap.size V V.drew := (Below.refl _ _).drew
  have hVd := own_below hV hD
  obtain ⟨C, eC⟩ : ∃ C, C = grownCap V (n + 1) n 109 := ⟨_, rfl⟩
  have hC1 : n + 1 ≤ C := by rw [eC]; exact grownCap_ge V (n + 1) n 109
  have hC2 : C ≤ maxLen := by rw [eC]; exact grownCap_le_maxLen V (n + 1) n 109 (by unfold maxLen; omega)
  obtain ⟨arr, earr⟩ : ∃ arr : Array Value, arr = (flat ItV.cells (xs.take i)).toArray ++ Builtin.zeroCells (Value.cells (.agg #[.int .i64 0, .int .i64 0, .int .i64 0])) (n + 1 - i) ++ Builtin.zeroCells (Value.cells (.agg #[.int .i64 0, .int .i64 0, .int .i64 0])) (C - (n + 1)) := ⟨_, rfl⟩
  have hfl : (flat ItV.cells (xs.take i)).length = i * 3 := by rw [flat_len it_len, List.length_take, hl]; omega
  have has : arr.size = C * 3 := by
    rw [earr]
    simp only [Array.size_append, List.size_toArray, size_zeroCells, hfl]
    show i * 3 + (n + 1 - i) * 3 + (C - (n + 1)) * 3 = C * 3
    omega
  have hap : ∀ ty, (Builtin.append_ #[50, 3] ty #[.slice (some ⟨g, 0, none⟩) i n, .int .i64 ((n : Int) + 1 - (i : Int))]).run Tryd.prog V = .ok (.slice (some ⟨V.heap.size, 0, none⟩) (n + 1) C) (V.drew.alloc (.cells arr 109)) := fun ty => by
    have hr := Go.Lib.run_append_grow_zeros (P := Tryd.prog) V 50 3 ty 109 j0 (.agg #[.int .i64 0, .int .i64 0, .int .i64 0]) .i64 .i64 Tryd.underlying50 Tryd.underlying3 hj0 lz (some ⟨g, 0, none⟩) i n (flat ItV.cells (xs.take i))
      (by
        rw [ls]
        refine run_firstCells_some V.drew 3 i ⟨g, 0, none⟩ i n _ hfl (fun j v hj => ?_)
        have hjl : j < i * 3 := by rw [← hfl]; exact (List.getElem?_eq_some_iff.1 hj).1
        have hf : (flat ItV.cells xs)[j]? = some v := by
          rw [← flat_take it_len, List.getElem?_take_of_lt hjl] at hj
          exact hj
        exact hVd.cells (g := g) rfl _ _ hf)
      (n + 1 - i) (by omega) (by rw [ls]; decide) (by omega) (by omega) (by rw [lb]; omega) (by rw [lb]; exact growslice_fits (by omega) (by omega))
    have e1 : i + (n + 1 - i) = n + 1 := by omega
    have e2 : ((n + 1 - i : Nat) : Int) = (n : Int) + 1 - (i : Int) := by omega
    rw [e1, e2, ← eC, ← earr] at hr
    exact hr
  obtain ⟨X, hX⟩ : ∃ X : World, X = V.drew.alloc (.cells arr 109) := ⟨_, rfl⟩
  have bX : Below V.heap.size V X := by rw [hX]; exact hD.alloc hD.size _
  have hXb : X.heap[V.heap.size]? = some (.cells arr 109 (0, 0)) := by rw [hX]; exact heap_alloc_new V.drew _
  have zX : V.heap.size < X.heap.size := by rw [hX]; simp
  have ownX : X.ownsRow B 109 3 (.slice (some ⟨V.heap.size, 0, none⟩) (n + 1) C) (n + 1) (arr.toList.take ((n + 1) * 3)) :=
    ⟨by rw [List.length_take, Array.length_toList, has]; omega, .inr ⟨V.heap.size, C, arr, rfl, by omega, hXb, hC1, hC2, has, rfl⟩⟩
  have hyl : (arr.toList.take ((n + 1) * 3)).length = (n + 1) * 3 := by rw [List.length_take, Array.length_toList, has]; omega
  have hyt : (arr.toList.take ((n + 1) * 3)).take (i * 3) = flat ItV.cells (xs.take i) := by
    rw [List.take_take, Nat.min_eq_left (by omega), earr]
    simp only [Array.toList_append, List.append_assoc]
    rw [List.take_append_of_le_length (by rw [hfl]; exact Nat.le_refl _), List.take_of_length_le (by rw [hfl]; exact Nat.le_refl _)]
  obtain ⟨ys, eys⟩ : ∃ ys, ys = arr.toList.take ((n + 1) * 3) := ⟨_, rfl⟩
  rw [← eys] at ownX hyl hyt
  rw [← hX] at hap
  clear eys hX earr has hXb
  have hne : w.heap.size ≠ V.heap.size := by omega
  have hgne : g ≠ V.heap.size := by omega
  have bxX := bx.below bX bx.lt
  have hcp1 : ∀ ty, (Builtin.copy_ #[50, 50] ty #[.slice (some ⟨V.heap.size, i * 3, none⟩) (n + 1 - i) (C - i), .slice (some ⟨w.heap.size, 0, none⟩) 1 1]).run Tryd.prog X = .ok (goInt 1) (X.setCells V.heap.size (i * 3) [.int .i64 ik, .int .i64 iv, .int .i64 iw]) := fun ty =>
    run_copy_items X ty V.heap.size (i * 3) (n + 1 - i) (C - i) ⟨w.heap.size, 0, none⟩ 1 1 [.int .i64 ik, .int .i64 iv, .int .i64 iw] 1 (by simp only [Nat.min_def]; split <;> omega) rfl
      (fun j v hj => by
        rw [adr_add, Nat.zero_add]
        have hj3 : j < 3 := (List.getElem?_eq_some_iff.1 hj).1
        rw [(bxX.c j hj3).1]
        have : j = 0 ∨ j = 1 ∨ j = 2 := by omega
        rcases this with rfl | rfl | rfl <;> exact hj)
      (fun j hj => (own_there ownX (by simp at hj; omega)).1) (fun j hj => (own_there ownX (by simp at hj; omega)).2) (fun v hv => by simp at hv; rcases hv with e | e | e <;> subst e <;> rfl)
  obtain ⟨X1, hX1⟩ : ∃ X1, X1 = X.setCells V.heap.size (i * 3) [.int .i64 ik, .int .i64 iv, .int .i64 iw] := ⟨_, rfl⟩
  have own1 : X1.ownsRow B 109 3 (.slice (some ⟨V.heap.size, 0, none⟩) (n + 1) C) (n + 1) (setL ys (i * 3) (ItV.cells ⟨ik, iv, iw⟩)) := by
    rw [hX1]
    exact own_setCells (ItV.cells ⟨ik, iv, iw⟩) (i * 3) X _ ownX (by rw [it_len]; omega)
  have gr1 : X.grownBy X1 (some V.heap.size) := by rw [hX1]; exact grown_setCells V.heap.size _ _ _
  rw [← hX1] at hcp1
  clear hX1
  have hD1 : Below X1.heap.size X1 X1.drew := (Below.refl _ _).drew
  have own1d := own_below own1 hD1
  have old1 := own_below ((own_below hV bX).kept gr1 (.inr (by simpa [Value.ownBlock] using hgne))) hD1
  have HDL : Hid ((flat ItV.cells (xs.drop i)).length = (n - i) * 3) := by show _ = _; rw [flat_len it_len]; simp [hl]
  have h1c : ∀ v ∈ flat ItV.cells (xs.drop i), v.oneCell' = true := flat_one' (k := 3) it_one _
  have hcp2 : ∀ ty, (Builtin.copy_ #[50, 50] ty #[.slice (some ⟨V.heap.size, (i + 1) * 3, none⟩) (n - i) (C - (i + 1)), .slice (some ⟨g, i * 3, none⟩) (n - i) (n - i)]).run Tryd.prog X1.drew = .ok (goInt ((n - i : Nat) : Int)) (X1.drew.setCells V.heap.size ((i + 1) * 3) (flat ItV.cells (xs.drop i))) := fun ty =>
    run_copy_items X1.drew ty V.heap.size ((i + 1) * 3) (n - i) (C - (i + 1)) ⟨g, i * 3, none⟩ (n - i) (n - i) (flat ItV.cells (xs.drop i)) (n - i) (by simp only [Nat.min_def]; split <;> omega) HDL.out
      (fun j v hj => by
        have hf : (flat ItV.cells xs)[i * 3 + j]? = some v := by rw [← List.getElem?_drop, flat_drop it_len]; exact hj
        have := old1.cells (g := g) rfl _ _ hf
        rw [adr_add] at this ⊢
        rw [Nat.zero_add] at this
        exact this)
      (fun j hj => by rw [HDL.out] at hj; exact (own_there own1d (by omega)).1) (fun j hj => by rw [HDL.out] at hj; exact (own_there own1d (by omega)).2) h1c
  have HFIN : Hid ((X1.drew.setCells V.heap.size ((i + 1) * 3) (flat ItV.cells (xs.drop i))).ownsRow B 109 3 (.slice (some ⟨V.heap.size, 0, none⟩) (n + 1) C) (n + 1) (flat ItV.cells (insAt xs i ⟨ik, iv, iw⟩)) ∧ V.grownBy (X1.drew.setCells V.heap.size ((i + 1) * 3) (flat ItV.cells (xs.drop i))) (some g)) := by
    have o2 := own_setCells (flat ItV.cells (xs.drop i)) ((i + 1) * 3) X1.drew _ own1d (by rw [HDL.out]; omega)
    rw [put_in2 ⟨ik, iv, iw⟩ ys hl (by omega) hyl hyt] at o2
    have g2 := grown_trans gr1 (grown_trans (grown_below hD1 (some V.heap.size)) (grown_setCells V.heap.size (flat ItV.cells (xs.drop i)) ((i + 1) * 3) X1.drew))
    refine ⟨o2, ⟨g2.os.trans bX.os, g2.tape.trans bX.tape, g2.output.trans bX.output, Nat.le_trans bX.size g2.size, fun k hk _ => (g2.block k (Nat.lt_of_lt_of_le hk bX.size) (by simp; omega)).trans (bX.block k hk)⟩⟩
  have hz2 : ¬ ((i : Int) = (n : Int)) := by omega
  have hw1 : IntKind.i64.wrap ((i : Int) + 1) = (i : Int) + 1 := by rw [IntKind.wrap_i64]; omega
  have hw2 : IntKind.i64.wrap ((n : Int) + 1) = (n : Int) + 1 := by rw [IntKind.wrap_i64]; omega
  have hw3 : IntKind.i64.wrap ((n : Int) + 1 - (i : Int)) = (n : Int) + 1 - (i : Int) := by rw [IntKind.wrap_i64]; omega
  have hin : i ≤ n := by omega
  have hiC : i ≤ C := by omega
  have hi1C : i + 1 ≤ C := by omega
  have hb1 : (i : Int) ≤ (n : Int) := by omega
  have hb2 : ¬ C = i + 1 := by omega
  have hb3 : ¬ C = i := by omega
  have hb4 : ¬ n = i := by omega
  have hb5 : (n : Int) < (n : Int) + 1 := by omega
  have hb6 : (i : Int) + 1 ≤ (n : Int) + 1 := by omega
  have hb7 : (i : Int) ≤ (n : Int) + 1 := by omega
  have hb8 : i + 1 ≤ n + 1 := by omega
  have hin1 : i ≤ n + 1 := by omega
  have hnC : n + 1 ≤ C := by omega
  have hp0 : (0 : Int) ≤ (i : Int) + 1 := by omega
  have htn : ((i : Int) + 1).toNat = i + 1 := by omega
  clear hV own1 gr1 bx bxX hVd own1d old1 hD1 hD h1c hyl hyt h hVw bV hg hne hgne ownX bX hfl hj0 lz ls lb zV eC hl zX
  go_enter Tryd.func100, Tryd.ntmps100
  go_upto_region 10 with (at_builtin; go_loud (refine Go.Lib.wpList_append_run _ (by rfl) _ _ _ _ (by rfl) _ _ (by rfl) (by rfl) _ _ (hap _) ?_))
  go_upto_region 11 with (at_builtin; refine cp_wp (by rfl) _ _ 50 50 (by rfl) _ _ (by rfl) (by rfl) (hcp1 _) ?_)
  go_region_law (refine cp_step (by rfl) (.tmp 50) (.tmp 53) 50 50 (by rfl) (.slice (some ⟨V.heap.size, (i + 1) * 3, none⟩) (n - i) (C - (i + 1))) (.slice (some ⟨g, i * 3, none⟩) (n - i) (n - i)) (by simp [Act.eval, Act.put]) (by simp [Act.eval, Act.put]) (hcp2 _) ?_)
  all_goals
    go_wp2
    go_ret
    exact ⟨some ⟨V.heap.size, 0, none⟩, C, rfl, HFIN.out.1, HFIN.out.2, .inr rfl⟩
/-- slices.Insert, one item, whatever room there is. -/
theorem insert_any (B : Nat) (a : Option Addr) (n cap i : Nat) (xs : List ItV) (x : ItV) (w V : World) (hVw : V = w.alloc (.cells #[.int .i64 x.key, .int .i64 x.value, .int .i64 x.version] 109)) (h : w.ownsRow B 109 3 (.slice a n cap) n (flat ItV.cells xs)) (hB : B ≤ w.heap.size) (hi : i ≤ n) (hn : n ≤ 100) :
    Calls Tryd.prog 100 #[.slice a n cap, .int .i64 (i : Int), .slice (some ⟨w.heap.size, 0, none⟩) 1 1] V fun e w' => ∃ a' c', e = .returned (.slice a' (n + 1) c') ∧ w'.ownsRow B 109 3 (.slice a' (n + 1) c') (n + 1) (flat ItV.cells (insAt xs i x)) ∧ V.grownBy w' (Value.slice a n cap).ownBlock ∧ ((Value.slice a' (n + 1) c').ownBlock = (Value.slice a n cap).ownBlock ∨ (Value.slice a' (n + 1) c').ownBlock = some V.heap.size) := by
  by_cases hin : i = n
  · subst hin
    exact insert_end B a i cap xs x w V hVw h hB hn
  · have hlt : i < n := by omega
    have hform := h.2
    rcases hform with ⟨hv, h0⟩ | ⟨g, cap', cur, hv, _, _, h1, _⟩
    · omega
    · simp at hv
      obtain ⟨rfl, rfl⟩ := hv
      by_cases hroom : n + 1 ≤ cap
      · exact (insert_room B g n cap i xs x w V hVw h hlt hroom).mono fun e w' ⟨q1, q2, q3⟩ => ⟨_, _, q1, q2, q3, .inl rfl⟩
      · obtain rfl : cap = n := by omega
        exact insert_grow B g cap i xs x w V hVw h hB hlt hn
end Go.Proofs.YtgohpgollpjlnaaDoor.St
