/- Texts of this claim, one behind the other. -/
import Derived.Test.YtgohpgollpjlnaaDoorM9ShowList
/- The contract of store.Check. -/
namespace Go.Proofs.YtgohpgollpjlnaaDoor.St
open Go.ChangeShapes Go.WideShapes Go.ChangeAt Go.RowKit
set_option linter.unusedVariables false

set_option maxHeartbeats 2000000 in
theorem check_any (s : SV) (w : World) (h : IsStore w s) (hwf : ∀ t ∈ s.over, TxWf t) :
    Calls Tryd.prog 44 #[s.val] w fun e w' => e = .returned (.int .i64 (if storeOK s then 0 else 9)) ∧ Below w.heap.size w w' := by
  have hh := h
  have h1 := fun w' k => itemsMayBe_any s.ia s.il s.ic s.items w' k
  have h2 := fun w' k => locksMayBe_any s.la s.ll s.lc s.locks w' k
  have h3 := fun w' k => overMayBe_any s.oa s.ol s.oc s.over w' k hwf
  have h4 := fun w' k => doubtsMayBe_any s w' k
  obtain ⟨S, eS⟩ : ∃ S : Int, S = (if storeOK s then 0 else 9) := ⟨_, rfl⟩
  have e0 : Hid (S = if (itemsOK 0 s.items && locksOK s.locks && overGo [] s.over && doubtsOK s.doubts s.locks s.over) = true then 0 else 9) := eS
  obtain ⟨A, eA⟩ : ∃ A, A = itemsOK 0 s.items := ⟨_, rfl⟩
  obtain ⟨B, eB⟩ : ∃ B, B = locksOK s.locks := ⟨_, rfl⟩
  obtain ⟨C, eC⟩ : ∃ C, C = overGo [] s.over := ⟨_, rfl⟩
  obtain ⟨E, eE⟩ : ∃ E, E = doubtsOK s.doubts s.locks s.over := ⟨_, rfl⟩
  rw [← eA] at h1 e0
  rw [← eB] at h2 e0
  rw [← eC] at h3 e0
  rw [← eE] at h4 e0
  rw [← eS]
  clear eA eB eC eE eS
  obtain ⟨ia, il, ic, la, ll, lc, da, dl, dc, oa, ol, oc, items, locks, doubts, over⟩ := s
  simp only [SV.val] at *
  obtain ⟨W, hW⟩ : ∃ W : World, W = w.alloc (.cells #[.slice ia il ic, .slice la ll lc, .slice da dl dc, .slice oa ol oc] 55) := ⟨_, rfl⟩
  have hB : Below w.heap.size w W := by rw [hW]; exact (Below.refl _ _).alloc (Nat.le_refl _) _
  have zW : w.heap.size < W.heap.size := by rw [hW]; simp
  have c0 : W.cell? ⟨w.heap.size, 0, none⟩ = some (.slice ia il ic) := by rw [hW]; go_simp
  have c1 : W.cell? ⟨w.heap.size, 1, none⟩ = some (.slice la ll lc) := by rw [hW]; go_simp
  have c2 : W.cell? ⟨w.heap.size, 2, none⟩ = some (.slice da dl dc) := by rw [hW]; go_simp
  have c3 : W.cell? ⟨w.heap.size, 3, none⟩ = some (.slice oa ol oc) := by rw [hW]; go_simp
  have KA : Hid (∀ U : World, Below W.heap.size W U → U.cell? ⟨w.heap.size, 0, none⟩ = some (.slice ia il ic) ∧ U.cell? ⟨w.heap.size, 1, none⟩ = some (.slice la ll lc) ∧ U.cell? ⟨w.heap.size, 2, none⟩ = some (.slice da dl dc) ∧ U.cell? ⟨w.heap.size, 3, none⟩ = some (.slice oa ol oc)) := fun U hU =>
    ⟨(hU.cell (p := ⟨w.heap.size, 0, none⟩) zW).trans c0, (hU.cell (p := ⟨w.heap.size, 1, none⟩) zW).trans c1, (hU.cell (p := ⟨w.heap.size, 2, none⟩) zW).trans c2, (hU.cell (p := ⟨w.heap.size, 3, none⟩) zW).trans c3⟩
  have HS : Hid (∀ U : World, Below W.heap.size W U → IsItems U ia il ic items ∧ IsLocks U la ll lc locks ∧ IsTxns U oa ol oc over ∧ IsStore U ⟨ia, il, ic, la, ll, lc, da, dl, dc, oa, ol, oc, items, locks, doubts, over⟩) := fun U hU => by
    have hs := hh.below (hB.trans (hU.mono hB.size))
    exact ⟨hs.items, hs.locks, hs.over, hs⟩
  have hbv : Below W.heap.size W W := Below.refl _ _
  go_enter Tryd.func44, Tryd.ntmps44
  go_upto_region 1 with (fail)
  rw [← hW]
  clear hW
  cases A <;> cases B <;> cases C <;> cases E
  all_goals
    go_wp2_with (first
      | (go_at_call 81; refine (h1 _ (HS.out _ hbv).1).mono ?_; rintro e u ⟨rfl, hu⟩; replace hbv := hbv.trans (hu.mono hbv.size); clear hu c0 c1 c2 c3; obtain ⟨c0, c1, c2, c3⟩ := KA.out _ hbv)
      | (go_at_call 82; refine (h2 _ (HS.out _ hbv).2.1).mono ?_; rintro e u ⟨rfl, hu⟩; replace hbv := hbv.trans (hu.mono hbv.size); clear hu c0 c1 c2 c3; obtain ⟨c0, c1, c2, c3⟩ := KA.out _ hbv)
      | (go_at_call 83; refine (h3 _ (HS.out _ hbv).2.2.1).mono ?_; rintro e u ⟨rfl, hu⟩; replace hbv := hbv.trans (hu.mono hbv.size); clear hu c0 c1 c2 c3; obtain ⟨c0, c1, c2, c3⟩ := KA.out _ hbv)
      | (go_at_call 84; refine (h4 _ (HS.out _ hbv).2.2.2).mono ?_; rintro e u ⟨rfl, hu⟩; replace hbv := hbv.trans (hu.mono hbv.size); clear hu c0 c1 c2 c3; obtain ⟨c0, c1, c2, c3⟩ := KA.out _ hbv))
    go_ret
    exact ⟨by rw [e0.out]; rfl, hB.trans (hbv.mono hB.size)⟩
end Go.Proofs.YtgohpgollpjlnaaDoor.St
/- Contracts of store.refuseTxn and refuse. -/
namespace Go.Proofs.YtgohpgollpjlnaaDoor.St
open Go.ChangeShapes Go.WideShapes Go.ChangeAt Go.RowKit
set_option linter.unusedVariables false

def refErr (s : SV) (t : Int × Int) (key : Int) : Int := if storeOK s then (if txOK t && inR key 0 7 then 0 else 2) else 9

set_option maxHeartbeats 1000000 in
theorem refuseTxn_any (s : SV) (t : Int × Int) (w : World) (h : IsStore w s) (hwf : ∀ t ∈ s.over, TxWf t) :
    Calls Tryd.prog 37 #[s.val, .agg #[.int .i64 t.1, .int .i64 t.2]] w fun e w' => e = .returned (.int .i64 (if storeOK s then (if txOK t then 0 else 2) else 9)) ∧ Below w.heap.size w w' := by
  have hC := fun w' h1 => check_any s w' h1 hwf
  have hT := fun w' => isTxn_any t w'
  obtain ⟨R, e0⟩ : ∃ R : Int, R = (if storeOK s then (if txOK t then 0 else 2) else 9) := ⟨_, rfl⟩
  obtain ⟨S, e1⟩ : ∃ R, R = storeOK s := ⟨_, rfl⟩
  obtain ⟨T, e2⟩ : ∃ R, R = txOK t := ⟨_, rfl⟩
  have eR : Hid (R = if S then (if T then 0 else 2) else 9) := by rw [e1, e2]; exact e0
  rw [← e1] at hC
  rw [← e2] at hT
  rw [← e0]
  clear e0 e1 e2
  have hh := h
  obtain ⟨ia, il, ic, la, ll, lc, da, dl, dc, oa, ol, oc, items, locks, doubts, over⟩ := s
  obtain ⟨ts, tn⟩ := t
  simp only [SV.val] at *
  obtain ⟨W, hW⟩ : ∃ W : World, W = (w.alloc (.cells #[.slice ia il ic, .slice la ll lc, .slice da dl dc, .slice oa ol oc] 55)).alloc (.cells #[.int .i64 ts, .int .i64 tn] 23) := ⟨_, rfl⟩
  have hB : Below w.heap.size w W := by rw [hW]; exact ((Below.refl _ _).alloc (Nat.le_refl _) _).alloc (by simp) _
  have zW : W.heap.size = w.heap.size + 2 := by rw [hW]; simp
  have z0 : w.heap.size < W.heap.size := by omega
  have z1 : w.heap.size + 1 < W.heap.size := by omega
  clear zW
  have c0 : W.cell? ⟨w.heap.size, 0, none⟩ = some (.slice ia il ic) := by rw [hW]; go_simp
  have c1 : W.cell? ⟨w.heap.size, 1, none⟩ = some (.slice la ll lc) := by rw [hW]; go_simp
  have c2 : W.cell? ⟨w.heap.size, 2, none⟩ = some (.slice da dl dc) := by rw [hW]; go_simp
  have c3 : W.cell? ⟨w.heap.size, 3, none⟩ = some (.slice oa ol oc) := by rw [hW]; go_simp
  have c4 : W.cell? ⟨w.heap.size + 1, 0, none⟩ = some (.int .i64 ts) := by rw [hW]; go_simp
  have c5 : W.cell? ⟨w.heap.size + 1, 1, none⟩ = some (.int .i64 tn) := by rw [hW]; go_simp
  have KA : Hid (∀ U : World, Below W.heap.size W U → U.cell? ⟨w.heap.size, 0, none⟩ = some (.slice ia il ic) ∧ U.cell? ⟨w.heap.size, 1, none⟩ = some (.slice la ll lc) ∧ U.cell? ⟨w.heap.size, 2, none⟩ = some (.slice da dl dc) ∧ U.cell? ⟨w.heap.size, 3, none⟩ = some (.slice oa ol oc) ∧ U.cell? ⟨w.heap.size + 1, 0, none⟩ = some (.int .i64 ts) ∧ U.cell? ⟨w.heap.size + 1, 1, none⟩ = some (.int .i64 tn)) := fun U hU =>
    ⟨(hU.cell (p := ⟨w.heap.size, 0, none⟩) z0).trans c0, (hU.cell (p := ⟨w.heap.size, 1, none⟩) z0).trans c1, (hU.cell (p := ⟨w.heap.size, 2, none⟩) z0).trans c2, (hU.cell (p := ⟨w.heap.size, 3, none⟩) z0).trans c3, (hU.cell (p := ⟨w.heap.size + 1, 0, none⟩) z1).trans c4, (hU.cell (p := ⟨w.heap.size + 1, 1, none⟩) z1).trans c5⟩
  have hSW := hh.below hB
  go_enter Tryd.func37, Tryd.ntmps37
  go_upto_region 1 with (fail)
  rw [← hW]
  clear hW
  cases S <;> cases T
  all_goals
    simp only [if_true, Bool.false_eq_true, if_false] at hC
    go_wp2_with (first
      | (go_at_call 44; refine (hC _ hSW).mono ?_; rintro e w1 ⟨rfl, hb1⟩; have hw1 := hB.trans (hb1.mono hB.size); obtain ⟨x0, x1, x2, x3, x4, x5⟩ := KA.out _ hb1)
      | (go_at_call 73; refine (hT _).mono ?_; rintro e w2 ⟨rfl, hb2⟩; have hw2 := hw1.trans (hb2.mono hw1.size)))
    go_ret
    exact ⟨by rw [eR.out]; rfl, by first | exact hw2 | exact hw1⟩

set_option maxHeartbeats 1000000 in
theorem refuse_any (s : SV) (t : Int × Int) (key : Int) (w : World) (h : IsStore w s) (hwf : ∀ t ∈ s.over, TxWf t) :
    Calls Tryd.prog 57 #[s.val, .agg #[.int .i64 t.1, .int .i64 t.2], .int .i64 key] w fun e w' => e = .returned (.int .i64 (refErr s t key)) ∧ Below w.heap.size w w' := by
  have hC := fun w' h1 => refuseTxn_any s t w' h1 hwf
  obtain ⟨R, e0⟩ : ∃ R : Int, R = refErr s t key := ⟨_, rfl⟩
  obtain ⟨S, e1⟩ : ∃ R, R = storeOK s := ⟨_, rfl⟩
  obtain ⟨T, e2⟩ : ∃ R, R = txOK t := ⟨_, rfl⟩
  obtain ⟨K, e3⟩ : ∃ R, R = inR key 0 7 := ⟨_, rfl⟩
  have eR : Hid (R = if S then (if T && K then 0 else 2) else 9) := by rw [e1, e2, e3]; exact e0
  rw [← e1, ← e2] at hC
  rw [← e0]
  replace e3 := e3.symm
  clear e0 e1 e2
  have hh := h
  obtain ⟨ia, il, ic, la, ll, lc, da, dl, dc, oa, ol, oc, items, locks, doubts, over⟩ := s
  obtain ⟨ts, tn⟩ := t
  simp only [SV.val] at *
  obtain ⟨W, hW⟩ : ∃ W : World, W = (w.alloc (.cells #[.slice ia il ic, .slice la ll lc, .slice da dl dc, .slice oa ol oc] 55)).alloc (.cells #[.int .i64 ts, .int .i64 tn] 23) := ⟨_, rfl⟩
  have hB : Below w.heap.size w W := by rw [hW]; exact ((Below.refl _ _).alloc (Nat.le_refl _) _).alloc (by simp) _
  have zW : W.heap.size = w.heap.size + 2 := by rw [hW]; simp
  have z0 : w.heap.size < W.heap.size := by omega
  have z1 : w.heap.size + 1 < W.heap.size := by omega
  clear zW
  have c0 : W.cell? ⟨w.heap.size, 0, none⟩ = some (.slice ia il ic) := by rw [hW]; go_simp
  have c1 : W.cell? ⟨w.heap.size, 1, none⟩ = some (.slice la ll lc) := by rw [hW]; go_simp
  have c2 : W.cell? ⟨w.heap.size, 2, none⟩ = some (.slice da dl dc) := by rw [hW]; go_simp
  have c3 : W.cell? ⟨w.heap.size, 3, none⟩ = some (.slice oa ol oc) := by rw [hW]; go_simp
  have c4 : W.cell? ⟨w.heap.size + 1, 0, none⟩ = some (.int .i64 ts) := by rw [hW]; go_simp
  have c5 : W.cell? ⟨w.heap.size + 1, 1, none⟩ = some (.int .i64 tn) := by rw [hW]; go_simp
  have KA : Hid (∀ U : World, Below W.heap.size W U → U.cell? ⟨w.heap.size, 0, none⟩ = some (.slice ia il ic) ∧ U.cell? ⟨w.heap.size, 1, none⟩ = some (.slice la ll lc) ∧ U.cell? ⟨w.heap.size, 2, none⟩ = some (.slice da dl dc) ∧ U.cell? ⟨w.heap.size, 3, none⟩ = some (.slice oa ol oc) ∧ U.cell? ⟨w.heap.size + 1, 0, none⟩ = some (.int .i64 ts) ∧ U.cell? ⟨w.heap.size + 1, 1, none⟩ = some (.int .i64 tn)) := fun U hU =>
    ⟨(hU.cell (p := ⟨w.heap.size, 0, none⟩) z0).trans c0, (hU.cell (p := ⟨w.heap.size, 1, none⟩) z0).trans c1, (hU.cell (p := ⟨w.heap.size, 2, none⟩) z0).trans c2, (hU.cell (p := ⟨w.heap.size, 3, none⟩) z0).trans c3, (hU.cell (p := ⟨w.heap.size + 1, 0, none⟩) z1).trans c4, (hU.cell (p := ⟨w.heap.size + 1, 1, none⟩) z1).trans c5⟩
  have hSW := hh.below hB
  go_enter Tryd.func57, Tryd.ntmps57
  go_upto_region 1 with (fail)
  rw [← hW]
  clear hW
  cases S <;> cases T <;> cases K
  all_goals
    simp only [if_true, Bool.false_eq_true, if_false] at hC
    go_wp2_with (first
      | (go_at_call 37; refine (hC _ hSW).mono ?_; rintro e w1 ⟨rfl, hb1⟩; have hw1 := hB.trans (hb1.mono hB.size))
      | (go_at_call 91; refine (key_any _ _).mono ?_; rintro e u ⟨rfl, hu⟩; rw [hu, e3]; clear hu))
    go_ret
    exact ⟨by rw [eR.out]; rfl, hw1⟩
end Go.Proofs.YtgohpgollpjlnaaDoor.St
