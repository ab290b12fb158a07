/- The contract of the document's PeekOf, and that it is what Peek answers. -/
import Derived.Test.YtidgfidpglhacaaSPeek
import Derived.Test.YtidgfidpglhacaaSOthers
namespace Go.Proofs.Ytidgfidpglhacaa.St
open Go.ChangeShapes Go.WideShapes Go.ChangeAt Go.RowKit
set_option linter.unusedVariables false

theorem ok_txns {s : SV} (h : storeOK s = true) : ∀ k ∈ s.locks, txOK k.t = true := by
  unfold storeOK locksOK at h
  rw [locksGo_parts] at h
  simp only [Bool.and_eq_true, List.all_eq_true] at h
  exact h.1.1.2.2.1.1
theorem tx_not_zero {t : Int × Int} (h : txOK t = true) : t ≠ (0, 0) := by
  intro e
  subst e
  simp [txOK, inR] at h
theorem peek_writes {s : SV} {key : Int} (h : storeOK s = true) : decide ((0 : Int) < ((s.locks.countP (othW (0, 0) key) : Nat) : Int)) = s.locks.any (wrT key) := by
  have ht := ok_txns h
  rw [Bool.eq_iff_iff]
  simp only [decide_eq_true_eq, List.any_eq_true]
  constructor
  · intro hp
    obtain ⟨k, hk, e⟩ := List.countP_pos_iff.1 (show 0 < s.locks.countP (othW (0, 0) key) by omega)
    refine ⟨k, hk, ?_⟩
    simp only [othW, othR, Bool.and_eq_true, decide_eq_true_eq] at e
    simp [wrT, e.1.1, e.2]
  · rintro ⟨k, hk, e⟩
    have hz := tx_not_zero (ht k hk)
    simp only [wrT, Bool.and_eq_true, decide_eq_true_eq] at e
    have : 0 < s.locks.countP (othW (0, 0) key) := List.countP_pos_iff.2 ⟨k, hk, by simp [othW, othR, e.1, e.2, hz]⟩
    omega

theorem fld1 (x y z : Int) (w : World) : (Instr.field 46 (.agg #[.int .i64 x, .int .i64 y, .int .i64 z]) 1).run Try.prog w = .ok (.int .i64 y) w := by kernel_rfl
theorem fld2 (x y z : Int) (w : World) : (Instr.field 46 (.agg #[.int .i64 x, .int .i64 y, .int .i64 z]) 2).run Try.prog w = .ok (.int .i64 z) w := by kernel_rfl

set_option maxRecDepth 100000 in
set_option maxHeartbeats 4000000 in
theorem peekOf_any (s : SV) (key : Int) (w : World) (h : IsStore w s) :
    Calls Try.prog 10 #[s.val, .int .i64 key] w fun e w' => e = .returned (.tuple #[.int .i64 (peekVal s key), .int .i64 (peekVer s key), .int .i64 (peekErr s key)]) ∧ Below w.heap.size w w' := by
  have hC := fun w' h1 => askFault_any s (0, 1) key w' h1
  have hIt := fun w' h1 => itemOf_any s key w' h1
  have hOt := fun w' h1 => others_any s (0, 0) key w' h1
  have hpw := @peek_writes s key
  obtain ⟨I, e5⟩ : ∃ R, R = itemAt s.items key := ⟨_, rfl⟩
  obtain ⟨E, e6⟩ : ∃ R : Int, R = peekErr s key := ⟨_, rfl⟩
  obtain ⟨V1, e7⟩ : ∃ R : Int, R = peekVal s key := ⟨_, rfl⟩
  obtain ⟨V2, e8⟩ : ∃ R : Int, R = peekVer s key := ⟨_, rfl⟩
  obtain ⟨A, e9⟩ : ∃ R : Int, R = askErr s (0, 1) key := ⟨_, rfl⟩
  obtain ⟨C1, e10⟩ : ∃ R : Nat, R = s.locks.countP (othR (0, 0) key) := ⟨_, rfl⟩
  obtain ⟨C2, e11⟩ : ∃ R : Nat, R = s.locks.countP (othW (0, 0) key) := ⟨_, rfl⟩
  have eV1 : Hid (V1 = if E = 0 then I.value else 0) := by rw [e5, e6]; exact e7
  have eV2 : Hid (V2 = if E = 0 then I.version else 0) := by rw [e5, e6]; exact e8
  rw [← e11] at hpw
  have eE : Hid (E = if A = 0 then (if 0 < C2 then 11 else 0) else A) := by
    show E = _
    rw [e6, e9]
    unfold peekErr askErr
    have ht : txOK (0, 1) = true := by decide
    cases hs : storeOK s with
    | false => simp
    | true =>
      rw [← hpw hs]
      cases hk : inR key 0 7 with
      | false => simp [ht]
      | true => simp [ht]
  rw [← e6, ← e7, ← e8]
  rw [← e9] at hC
  rw [← e10, ← e11] at hOt
  rw [← e5] at hIt
  clear e5 e6 e7 e8 e9 e10 e11 hpw
  obtain ⟨ik, iv, iw⟩ := I
  simp only [ItV.val] at hIt
  have hh := h
  obtain ⟨ia, il, ic, la, ll, lc, da, dl, dc, oa, ol, oc, items, locks, doubts, over⟩ := s
  simp only [SV.val] at *
  obtain ⟨W, hW⟩ : ∃ W : World, W = w.alloc (.cells #[.slice ia il ic, .slice la ll lc, .slice da dl dc, .slice oa ol oc] 27) := ⟨_, rfl⟩
  have hB : Below w.heap.size w W := by rw [hW]; exact (Below.refl _ _).alloc (Nat.le_refl _) _
  have z0 : w.heap.size < W.heap.size := by rw [hW]; simp
  have c0 : W.cell? ⟨w.heap.size, 0, none⟩ = some (.slice ia il ic) := by rw [hW]; go_simp
  have c1 : W.cell? ⟨w.heap.size, 1, none⟩ = some (.slice la ll lc) := by rw [hW]; go_simp
  have c2 : W.cell? ⟨w.heap.size, 2, none⟩ = some (.slice da dl dc) := by rw [hW]; go_simp
  have c3 : W.cell? ⟨w.heap.size, 3, none⟩ = some (.slice oa ol oc) := by rw [hW]; go_simp
  have KA : Hid (∀ U : World, Below W.heap.size W U → U.cell? ⟨w.heap.size, 0, none⟩ = some (.slice ia il ic) ∧ U.cell? ⟨w.heap.size, 1, none⟩ = some (.slice la ll lc) ∧ U.cell? ⟨w.heap.size, 2, none⟩ = some (.slice da dl dc) ∧ U.cell? ⟨w.heap.size, 3, none⟩ = some (.slice oa ol oc)) := fun U hU =>
    ⟨(hU.cell (p := ⟨w.heap.size, 0, none⟩) z0).trans c0, (hU.cell (p := ⟨w.heap.size, 1, none⟩) z0).trans c1, (hU.cell (p := ⟨w.heap.size, 2, none⟩) z0).trans c2, (hU.cell (p := ⟨w.heap.size, 3, none⟩) z0).trans c3⟩
  have hSW := hh.below hB
  have HS : Hid (∀ U : World, Below W.heap.size W U → IsItems U ia il ic items ∧ IsLocks U la ll lc locks) := fun U hU => by
    have hs := hh.below (hB.trans (hU.mono hB.size))
    exact ⟨hs.items, hs.locks⟩
  go_enter Try.func10, Try.ntmps10
  go_upto_region 1 with (fail)
  rw [← hW]
  clear hW
  by_cases hA : A = 0
  · subst hA
    by_cases hC2 : 0 < C2
    · obtain rfl : E = 11 := by rw [eE.out]; simp [hC2]
      obtain rfl : V1 = 0 := by rw [eV1.out]; rfl
      obtain rfl : V2 = 0 := by rw [eV2.out]; rfl
      have hC2' : (0 : Int) < (C2 : Int) := by omega
      go_wp2_with (first | (go_at_call 27; refine (hC _ hSW).mono ?_; rintro e w1 ⟨rfl, hb1⟩; have hw1 := hB.trans (hb1.mono hB.size); clear c0 c1 c2 c3; obtain ⟨c0, c1, c2, c3⟩ := KA.out _ hb1; have hL1 := (HS.out _ hb1).2) | (go_at_call 28; refine (hOt _ hL1).mono ?_; rintro e w2 ⟨rfl, hb2⟩; have hw2 := hw1.trans (hb2.mono hw1.size)))
      go_ret3
      exact ⟨rfl, hw2⟩
    · obtain rfl : E = 0 := by rw [eE.out]; simp [hC2]
      obtain rfl : V1 = iv := by rw [eV1.out]; rfl
      obtain rfl : V2 = iw := by rw [eV2.out]; rfl
      have hC2' : ¬ (0 : Int) < (C2 : Int) := by omega
      go_upto_region 7 with (first | (go_at_call 27; refine (hC _ hSW).mono ?_; rintro e w1 ⟨rfl, hb1⟩; have hw1 := hB.trans (hb1.mono hB.size); clear c0 c1 c2 c3; obtain ⟨c0, c1, c2, c3⟩ := KA.out _ hb1; have hL1 := (HS.out _ hb1).2) | (go_at_call 28; refine (hOt _ hL1).mono ?_; rintro e w2 ⟨rfl, hb2⟩; have hw2 := hw1.trans (hb2.mono hw1.size)))
      have hb2W := hb1.trans (hb2.mono hb1.size)
      clear c0 c1 c2 c3
      obtain ⟨c0, c1, c2, c3⟩ := KA.out _ hb2W
      have hI2 := (HS.out _ hb2W).1
      have r0 := fun d os => cell_regrown c0 d os
      have r1 := fun d os => cell_regrown c1 d os
      have r2 := fun d os => cell_regrown c2 d os
      have r3 := fun d os => cell_regrown c3 d os
      have hf1 := fld1
      have hf2 := fld2
      refine wp_region_quiet_below (by kernel_rfl) (by kernel_rfl) ?_
      repeat (go_big_quiet_step ((exact Calls.regrown_of (hIt _ (hI2.below (below_regrown _ _ _))))))
      refine wpQuiet_nil ?_
      intro _ hw'
      obtain ⟨⟨dq, osq⟩, hw''⟩ := hw'
      subst hw''
      go_wp2
      go_ret3
      exact ⟨rfl, hw2.trans ((below_regrown w2 dq osq).mono hw2.size)⟩
  · obtain rfl : E = A := by rw [eE.out, if_neg hA]
    obtain rfl : V1 = 0 := by rw [eV1.out, if_neg hA]
    obtain rfl : V2 = 0 := by rw [eV2.out, if_neg hA]
    go_wp2_with (go_at_call 27; refine (hC _ hSW).mono ?_; rintro e w1 ⟨rfl, hb1⟩; have hw1 := hB.trans (hb1.mono hB.size))
    go_ret3
    exact ⟨rfl, hw1⟩
end Go.Proofs.Ytidgfidpglhacaa.St
