/- The contract of store.Check. -/
import Derived.Test.YtbmbahifkegehaaSDoubts
namespace Go.Proofs.Ytbmbahifkegehaa.St
open Go.ChangeShapes Go.WideShapes Go.ChangeAt Go.RowKit
set_option linter.unusedVariables false

set_option maxHeartbeats 2000000 in
theorem check_any (s : SV) (w : World) (h : IsStore w s) (hwf : ∀ t ∈ s.over, TxWf t) :
    Calls Try.prog 15 #[s.val] w fun e w' => e = .returned (.int .i64 (if storeOK s then 0 else 9)) ∧ Below w.heap.size w w' := by
  have hh := h
  have h1 := fun w' k => itemsMayBe_any s.ia s.il s.ic s.items w' k
  have h2 := fun w' k => locksMayBe_any s.la s.ll s.lc s.locks w' k
  have h3 := fun w' k => overMayBe_any s.oa s.ol s.oc s.over w' k hwf
  have h4 := fun w' k => doubtsMayBe_any s w' k
  obtain ⟨S, eS⟩ : ∃ S : Int, S = (if storeOK s then 0 else 9) := ⟨_, rfl⟩
  have e0 : Hid (S = if (itemsOK 0 s.items && locksOK s.locks && overGo [] s.over && doubtsOK s.doubts s.locks s.over) = true then 0 else 9) := eS
  obtain ⟨A, eA⟩ : ∃ A, A = itemsOK 0 s.items := ⟨_, rfl⟩
  obtain ⟨B, eB⟩ : ∃ B, B = locksOK s.locks := ⟨_, rfl⟩
  obtain ⟨C, eC⟩ : ∃ C, C = overGo [] s.over := ⟨_, rfl⟩
  obtain ⟨E, eE⟩ : ∃ E, E = doubtsOK s.doubts s.locks s.over := ⟨_, rfl⟩
  rw [← eA] at h1 e0
  rw [← eB] at h2 e0
  rw [← eC] at h3 e0
  rw [← eE] at h4 e0
  rw [← eS]
  clear eA eB eC eE eS
  obtain ⟨ia, il, ic, la, ll, lc, da, dl, dc, oa, ol, oc, items, locks, doubts, over⟩ := s
  simp only [SV.val] at *
  obtain ⟨W, hW⟩ : ∃ W : World, W = w.alloc (.cells #[.slice ia il ic, .slice la ll lc, .slice da dl dc, .slice oa ol oc] 27) := ⟨_, rfl⟩
  have hB : Below w.heap.size w W := by rw [hW]; exact (Below.refl _ _).alloc (Nat.le_refl _) _
  have zW : w.heap.size < W.heap.size := by rw [hW]; simp
  have c0 : W.cell? ⟨w.heap.size, 0, none⟩ = some (.slice ia il ic) := by rw [hW]; go_simp
  have c1 : W.cell? ⟨w.heap.size, 1, none⟩ = some (.slice la ll lc) := by rw [hW]; go_simp
  have c2 : W.cell? ⟨w.heap.size, 2, none⟩ = some (.slice da dl dc) := by rw [hW]; go_simp
  have c3 : W.cell? ⟨w.heap.size, 3, none⟩ = some (.slice oa ol oc) := by rw [hW]; go_simp
  have KA : Hid (∀ U : World, Below W.heap.size W U → U.cell? ⟨w.heap.size, 0, none⟩ = some (.slice ia il ic) ∧ U.cell? ⟨w.heap.size, 1, none⟩ = some (.slice la ll lc) ∧ U.cell? ⟨w.heap.size, 2, none⟩ = some (.slice da dl dc) ∧ U.cell? ⟨w.heap.size, 3, none⟩ = some (.slice oa ol oc)) := fun U hU =>
    ⟨(hU.cell (p := ⟨w.heap.size, 0, none⟩) zW).trans c0, (hU.cell (p := ⟨w.heap.size, 1, none⟩) zW).trans c1, (hU.cell (p := ⟨w.heap.size, 2, none⟩) zW).trans c2, (hU.cell (p := ⟨w.heap.size, 3, none⟩) zW).trans c3⟩
  have HS : Hid (∀ U : World, Below W.heap.size W U → IsItems U ia il ic items ∧ IsLocks U la ll lc locks ∧ IsTxns U oa ol oc over ∧ IsStore U ⟨ia, il, ic, la, ll, lc, da, dl, dc, oa, ol, oc, items, locks, doubts, over⟩) := fun U hU => by
    have hs := hh.below (hB.trans (hU.mono hB.size))
    exact ⟨hs.items, hs.locks, hs.over, hs⟩
  have hbv : Below W.heap.size W W := Below.refl _ _
  go_enter Try.func15, Try.ntmps15
  go_upto_region 1 with (fail)
  rw [← hW]
  clear hW
  cases A <;> cases B <;> cases C <;> cases E
  all_goals
    go_wp2_with (first
      | (go_at_call 41; refine (h1 _ (HS.out _ hbv).1).mono ?_; rintro e u ⟨rfl, hu⟩; replace hbv := hbv.trans (hu.mono hbv.size); clear hu c0 c1 c2 c3; obtain ⟨c0, c1, c2, c3⟩ := KA.out _ hbv)
      | (go_at_call 42; refine (h2 _ (HS.out _ hbv).2.1).mono ?_; rintro e u ⟨rfl, hu⟩; replace hbv := hbv.trans (hu.mono hbv.size); clear hu c0 c1 c2 c3; obtain ⟨c0, c1, c2, c3⟩ := KA.out _ hbv)
      | (go_at_call 43; refine (h3 _ (HS.out _ hbv).2.2.1).mono ?_; rintro e u ⟨rfl, hu⟩; replace hbv := hbv.trans (hu.mono hbv.size); clear hu c0 c1 c2 c3; obtain ⟨c0, c1, c2, c3⟩ := KA.out _ hbv)
      | (go_at_call 44; refine (h4 _ (HS.out _ hbv).2.2.2).mono ?_; rintro e u ⟨rfl, hu⟩; replace hbv := hbv.trans (hu.mono hbv.size); clear hu c0 c1 c2 c3; obtain ⟨c0, c1, c2, c3⟩ := KA.out _ hbv))
    go_ret
    exact ⟨by rw [e0.out]; rfl, hB.trans (hbv.mono hB.size)⟩
end Go.Proofs.Ytbmbahifkegehaa.St
