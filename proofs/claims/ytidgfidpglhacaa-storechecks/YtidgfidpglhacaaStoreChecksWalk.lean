/- The walk of the law StoreChecks: at any store it returns true and leaves what was in memory. -/
import Derived.Test.YtidgfidpglhacaaSCheck
import Derived.Test.YtidgfidpglhacaaSMay
namespace Go.Proofs.Ytidgfidpglhacaa
open Go.ChangeShapes Go.WideShapes Go.ChangeAt Go.RowKit St
set_option linter.unusedVariables false

set_option maxHeartbeats 1000000 in
theorem storeChecks_walk (s : SV) (w : World) (h : IsStore w s) (hwf : ∀ t ∈ s.over, TxWf t) :
    Calls Try.prog 3 #[s.val] w fun e w' => e = .returned (.bool true) ∧ Below w.heap.size w w' := by
  have hc := fun w' h' => St.check_any s w' h' hwf
  have hm := fun w' h' => St.storeMay_any s w' h'
  obtain ⟨S, eS⟩ : ∃ S, S = storeOK s := ⟨_, rfl⟩
  rw [← eS] at hc hm
  clear eS
  have hh := h
  obtain ⟨ia, il, ic, la, ll, lc, da, dl, dc, oa, ol, oc, items, locks, doubts, over⟩ := s
  simp only [SV.val] at *
  obtain ⟨W, hW⟩ : ∃ W : World, W = w.alloc (.cells #[.slice ia il ic, .slice la ll lc, .slice da dl dc, .slice oa ol oc] 27) := ⟨_, rfl⟩
  have hB : Below w.heap.size w W := by rw [hW]; exact (Below.refl _ _).alloc (Nat.le_refl _) _
  have zW : w.heap.size < W.heap.size := by rw [hW]; simp
  have c0 : W.cell? ⟨w.heap.size, 0, none⟩ = some (.slice ia il ic) := by rw [hW]; go_simp
  have c1 : W.cell? ⟨w.heap.size, 1, none⟩ = some (.slice la ll lc) := by rw [hW]; go_simp
  have c2 : W.cell? ⟨w.heap.size, 2, none⟩ = some (.slice da dl dc) := by rw [hW]; go_simp
  have c3 : W.cell? ⟨w.heap.size, 3, none⟩ = some (.slice oa ol oc) := by rw [hW]; go_simp
  have hSW := hh.below hB
  go_enter Try.func3, Try.ntmps3
  go_upto_region 1 with (fail)
  rw [← hW]
  clear hW
  cases S
  all_goals
    simp only [if_true, Bool.false_eq_true, if_false] at hc
    go_wp2_with (first
      | (go_at_call 7; refine (hc _ hSW).mono ?_; rintro e w1 ⟨rfl, hb1⟩; have d0 := (hb1.cell (p := ⟨w.heap.size, 0, none⟩) zW).trans c0; have d1 := (hb1.cell (p := ⟨w.heap.size, 1, none⟩) zW).trans c1; have d2 := (hb1.cell (p := ⟨w.heap.size, 2, none⟩) zW).trans c2; have d3 := (hb1.cell (p := ⟨w.heap.size, 3, none⟩) zW).trans c3; have hS1 := hSW.below hb1)
      | (go_at_call 8; refine (hm _ hS1).mono ?_; rintro e w2 ⟨rfl, hb2⟩))
    go_ret
    exact ⟨rfl, hB.trans ((hb1.trans (hb2.mono hb1.size)).mono hB.size)⟩
end Go.Proofs.Ytidgfidpglhacaa
