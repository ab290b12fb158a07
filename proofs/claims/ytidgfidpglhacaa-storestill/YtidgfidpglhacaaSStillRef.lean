/- The contract of the document's StillOf. -/
import Derived.Test.YtidgfidpglhacaaSStill
import Derived.Test.YtidgfidpglhacaaSRefFind
namespace Go.Proofs.Ytidgfidpglhacaa.St
open Go.ChangeShapes Go.WideShapes Go.ChangeAt Go.RowKit
set_option linter.unusedVariables false

theorem ask_ref (s : SV) (t : Int × Int) (key : Int) : askErr s t key = refErr s t key := rfl

set_option maxRecDepth 100000 in
set_option maxHeartbeats 4000000 in
theorem stillOf_any (s : SV) (t : Int × Int) (key version : Int) (w : World) (h : IsStore w s) :
    Calls Try.prog 12 #[s.val, .agg #[.int .i64 t.1, .int .i64 t.2], .int .i64 key, .int .i64 version] w fun e w' => e = .returned (.tuple #[.bool (stillIs s t key version), .int .i64 (refErr s t key)]) ∧ Below w.heap.size w w' := by
  have hC := fun w' h1 => askFault_any s t key w' h1
  simp only [ask_ref] at hC
  have hIt := fun w' h1 => itemOf_any s key w' h1
  have hLk := fun w' h1 => lockOf_any s t key w' h1
  have hf := fldV
  have hany := idxI_any (byT t key) s.locks
  obtain ⟨J, e4⟩ : ∃ R, R = idxI (byT t key) s.locks := ⟨_, rfl⟩
  obtain ⟨I, e5⟩ : ∃ R, R = itemAt s.items key := ⟨_, rfl⟩
  obtain ⟨E, e6⟩ : ∃ R : Int, R = refErr s t key := ⟨_, rfl⟩
  obtain ⟨R, e7⟩ : ∃ R, R = stillIs s t key version := ⟨_, rfl⟩
  have eR : Hid (R = (decide (E = 0) && (decide (0 ≤ J) && decide (I.version = version)))) := by rw [e4, hany, e5, e6]; exact e7
  rw [← e6, ← e7]
  rw [← e6] at hC
  rw [← e4] at hLk
  rw [← e5] at hIt
  clear e4 e5 e6 e7 hany
  obtain ⟨ik, iv, iw⟩ := I
  simp only [ItV.val] at hIt eR
  have hh := h
  obtain ⟨ia, il, ic, la, ll, lc, da, dl, dc, oa, ol, oc, items, locks, doubts, over⟩ := s
  obtain ⟨ts, tn⟩ := t
  simp only [SV.val] at *
  obtain ⟨W, hW⟩ : ∃ W : World, W = (w.alloc (.cells #[.slice ia il ic, .slice la ll lc, .slice da dl dc, .slice oa ol oc] 27)).alloc (.cells #[.int .i64 ts, .int .i64 tn] 35) := ⟨_, rfl⟩
  have hB : Below w.heap.size w W := by rw [hW]; exact ((Below.refl _ _).alloc (Nat.le_refl _) _).alloc (by simp) _
  have zW : W.heap.size = w.heap.size + 2 := by rw [hW]; simp
  have z0 : w.heap.size < W.heap.size := by omega
  have z1 : w.heap.size + 1 < W.heap.size := by omega
  clear zW
  have c0 : W.cell? ⟨w.heap.size, 0, none⟩ = some (.slice ia il ic) := by rw [hW]; go_simp
  have c1 : W.cell? ⟨w.heap.size, 1, none⟩ = some (.slice la ll lc) := by rw [hW]; go_simp
  have c2 : W.cell? ⟨w.heap.size, 2, none⟩ = some (.slice da dl dc) := by rw [hW]; go_simp
  have c3 : W.cell? ⟨w.heap.size, 3, none⟩ = some (.slice oa ol oc) := by rw [hW]; go_simp
  have c4 : W.cell? ⟨w.heap.size + 1, 0, none⟩ = some (.int .i64 ts) := by rw [hW]; go_simp
  have c5 : W.cell? ⟨w.heap.size + 1, 1, none⟩ = some (.int .i64 tn) := by rw [hW]; go_simp
  have KA : Hid (∀ U : World, Below W.heap.size W U → U.cell? ⟨w.heap.size, 0, none⟩ = some (.slice ia il ic) ∧ U.cell? ⟨w.heap.size, 1, none⟩ = some (.slice la ll lc) ∧ U.cell? ⟨w.heap.size, 2, none⟩ = some (.slice da dl dc) ∧ U.cell? ⟨w.heap.size, 3, none⟩ = some (.slice oa ol oc) ∧ U.cell? ⟨w.heap.size + 1, 0, none⟩ = some (.int .i64 ts) ∧ U.cell? ⟨w.heap.size + 1, 1, none⟩ = some (.int .i64 tn)) := fun U hU =>
    ⟨(hU.cell (p := ⟨w.heap.size, 0, none⟩) z0).trans c0, (hU.cell (p := ⟨w.heap.size, 1, none⟩) z0).trans c1, (hU.cell (p := ⟨w.heap.size, 2, none⟩) z0).trans c2, (hU.cell (p := ⟨w.heap.size, 3, none⟩) z0).trans c3, (hU.cell (p := ⟨w.heap.size + 1, 0, none⟩) z1).trans c4, (hU.cell (p := ⟨w.heap.size + 1, 1, none⟩) z1).trans c5⟩
  have hSW := hh.below hB
  have HS : Hid (∀ U : World, Below W.heap.size W U → IsItems U ia il ic items ∧ IsLocks U la ll lc locks) := fun U hU => by
    have hs := hh.below (hB.trans (hU.mono hB.size))
    exact ⟨hs.items, hs.locks⟩
  go_enter Try.func12, Try.ntmps12
  go_upto_region 1 with (fail)
  rw [← hW]
  clear hW
  by_cases hE : E = 0
  · subst hE
    by_cases hJ : 0 ≤ J
    · go_wp2_with (first
        | (go_at_call 27; refine (hC _ hSW).mono ?_; rintro e w1 ⟨rfl, hb1⟩; clear c0 c1 c2 c3 c4 c5; obtain ⟨c0, c1, c2, c3, c4, c5⟩ := KA.out _ hb1; have hL1 := (HS.out _ hb1).2)
        | (go_at_call 32; refine (hLk _ hL1).mono ?_; rintro e w2 ⟨rfl, hb2'⟩; have hb2 := hb1.trans (hb2'.mono hb1.size); clear c0 c1 c2 c3 c4 c5; obtain ⟨c0, c1, c2, c3, c4, c5⟩ := KA.out _ hb2; have hI2 := (HS.out _ hb2).1)
        | (go_at_call 29; refine (hIt _ hI2).mono ?_; rintro e w3 ⟨rfl, hb3'⟩; have hb3 := hb2.trans (hb3'.mono hb2.size)))
      go_ret2
      exact ⟨by rw [eR.out]; simp [hJ]; try rfl, hB.trans (hb3.mono hB.size)⟩
    · go_wp2_with (first
        | (go_at_call 27; refine (hC _ hSW).mono ?_; rintro e w1 ⟨rfl, hb1⟩; clear c0 c1 c2 c3 c4 c5; obtain ⟨c0, c1, c2, c3, c4, c5⟩ := KA.out _ hb1; have hL1 := (HS.out _ hb1).2)
        | (go_at_call 32; refine (hLk _ hL1).mono ?_; rintro e w2 ⟨rfl, hb2'⟩; have hb2 := hb1.trans (hb2'.mono hb1.size)))
      have hd : decide (0 ≤ J) = false := by simp; omega
      go_ret2
      exact ⟨by rw [eR.out, hd]; rfl, hB.trans (hb2.mono hB.size)⟩
  · go_wp2_with (go_at_call 27; refine (hC _ hSW).mono ?_; rintro e w1 ⟨rfl, hb1⟩)
    go_ret2
    exact ⟨by rw [eR.out]; simp [hE], hB.trans (hb1.mono hB.size)⟩
end Go.Proofs.Ytidgfidpglhacaa.St
