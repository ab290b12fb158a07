/- The contract of store.Writes. -/
import Derived.Test.YtgohpgollpjlnaaDoorA13ConsoleShows
namespace Go.Proofs.YtgohpgollpjlnaaDoor.St
open Go.ChangeShapes Go.WideShapes Go.ChangeAt Go.RowKit
set_option linter.unusedVariables false

set_option maxHeartbeats 2000000 in
theorem writes_count (s : SV) (t : Int × Int) (w : World) (h : IsStore w s) (hwf : ∀ t ∈ s.over, TxWf t) :
    Calls Tryd.prog 18 #[s.val, .agg #[.int .i64 t.1, .int .i64 t.2]] w fun e w' => e = .returned (.tuple #[.int .i64 (cntIs s t), .int .i64 (cntErr s t)]) ∧ Below w.heap.size w w' := by
  have hC := fun w' h1 => refuseTxn_any s t w' h1 hwf
  have hWo := fun w' h1 h2 => writesOf_any s t w' h1 h2
  have hl24 : cntErr s t = 0 → s.ll ≤ 24 := fun e => by
    rw [← h.locks.1]
    apply ok_24
    cases hs : storeOK s with
    | true => rfl
    | false => simp [cntErr, hs] at e
  obtain ⟨E, e6⟩ : ∃ R : Int, R = cntErr s t := ⟨_, rfl⟩
  have e6' : E = if storeOK s then (if txOK t then 0 else 2) else 9 := e6
  obtain ⟨R, e7⟩ : ∃ R, R = cntIs s t := ⟨_, rfl⟩
  have eR : Hid (R = if E = 0 then ((s.locks.filter (wOf t)).length : Int) else 0) := by rw [e6]; exact e7
  rw [← e6, ← e7]
  rw [← e6] at hl24
  rw [← e6'] at hC
  clear e6 e7 e6'
  obtain ⟨F, eF⟩ : ∃ F, F = s.locks.filter (wOf t) := ⟨_, rfl⟩
  rw [← eF] at hWo eR
  clear eF
  have hh := h
  obtain ⟨ia, il, ic, la, ll, lc, da, dl, dc, oa, ol, oc, items, locks, doubts, over⟩ := s
  obtain ⟨ts, tn⟩ := t
  simp only [SV.val] at *
  obtain ⟨W, hW⟩ : ∃ W : World, W = (w.alloc (.cells #[.slice ia il ic, .slice la ll lc, .slice da dl dc, .slice oa ol oc] 55)).alloc (.cells #[.int .i64 ts, .int .i64 tn] 23) := ⟨_, rfl⟩
  have hB : Below w.heap.size w W := by rw [hW]; exact ((Below.refl _ _).alloc (Nat.le_refl _) _).alloc (by simp) _
  have zW : W.heap.size = w.heap.size + 2 := by rw [hW]; simp
  have z0 : w.heap.size < W.heap.size := by omega
  have z1 : w.heap.size + 1 < W.heap.size := by omega
  clear zW
  have c0 : W.cell? ⟨w.heap.size, 0, none⟩ = some (.slice ia il ic) := by rw [hW]; go_simp
  have c1 : W.cell? ⟨w.heap.size, 1, none⟩ = some (.slice la ll lc) := by rw [hW]; go_simp
  have c2 : W.cell? ⟨w.heap.size, 2, none⟩ = some (.slice da dl dc) := by rw [hW]; go_simp
  have c3 : W.cell? ⟨w.heap.size, 3, none⟩ = some (.slice oa ol oc) := by rw [hW]; go_simp
  have c4 : W.cell? ⟨w.heap.size + 1, 0, none⟩ = some (.int .i64 ts) := by rw [hW]; go_simp
  have c5 : W.cell? ⟨w.heap.size + 1, 1, none⟩ = some (.int .i64 tn) := by rw [hW]; go_simp
  have KA : Hid (∀ U : World, Below W.heap.size W U → U.cell? ⟨w.heap.size, 0, none⟩ = some (.slice ia il ic) ∧ U.cell? ⟨w.heap.size, 1, none⟩ = some (.slice la ll lc) ∧ U.cell? ⟨w.heap.size, 2, none⟩ = some (.slice da dl dc) ∧ U.cell? ⟨w.heap.size, 3, none⟩ = some (.slice oa ol oc) ∧ U.cell? ⟨w.heap.size + 1, 0, none⟩ = some (.int .i64 ts) ∧ U.cell? ⟨w.heap.size + 1, 1, none⟩ = some (.int .i64 tn)) := fun U hU =>
    ⟨(hU.cell (p := ⟨w.heap.size, 0, none⟩) z0).trans c0, (hU.cell (p := ⟨w.heap.size, 1, none⟩) z0).trans c1, (hU.cell (p := ⟨w.heap.size, 2, none⟩) z0).trans c2, (hU.cell (p := ⟨w.heap.size, 3, none⟩) z0).trans c3, (hU.cell (p := ⟨w.heap.size + 1, 0, none⟩) z1).trans c4, (hU.cell (p := ⟨w.heap.size + 1, 1, none⟩) z1).trans c5⟩
  have hSW := hh.below hB
  go_enter Tryd.func18, Tryd.ntmps18
  go_upto_region 1 with (fail)
  rw [← hW]
  clear hW
  by_cases hE : E = 0
  · subst hE
    have hl := hl24 rfl
    go_wp2_with (first
      | (go_at_call 37; refine (hC _ hSW).mono ?_; rintro e w1 ⟨rfl, hb1⟩; clear c0 c1 c2 c3 c4 c5; obtain ⟨c0, c1, c2, c3, c4, c5⟩ := KA.out _ hb1; have hL1 := (hSW.below hb1).locks)
      | (go_at_call 38; refine (hWo _ hL1 hl).mono ?_; rintro e w2 ⟨ao, cp, rfl, _, _, hb2⟩))
    go_ret2
    exact ⟨by rw [eR.out]; rfl, hB.trans ((hb1.trans (hb2.mono hb1.size)).mono hB.size)⟩
  · go_wp2_with (go_at_call 37; refine (hC _ hSW).mono ?_; rintro e w1 ⟨rfl, hb1⟩)
    go_ret2
    exact ⟨by rw [eR.out, if_neg hE]; rfl, hB.trans (hb1.mono hB.size)⟩
end Go.Proofs.YtgohpgollpjlnaaDoor.St
