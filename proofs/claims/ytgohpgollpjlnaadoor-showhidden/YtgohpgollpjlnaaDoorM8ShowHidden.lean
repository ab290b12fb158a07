/- Texts of this claim, one behind the other. -/
import Derived.Test.YtgohpgollpjlnaaDoorM7ShowHidden
import Derived.Test.YtgohpgollpjlnaaDoorM5ShowHidden
import Derived.Deep.Cut
/- The contract of store.Check. -/
namespace Go.Proofs.YtgohpgollpjlnaaDoor.St
open Go.ChangeShapes Go.WideShapes Go.ChangeAt Go.RowKit
set_option linter.unusedVariables false

set_option maxHeartbeats 2000000 in
theorem check_any (s : SV) (w : World) (h : IsStore w s) (hwf : ∀ t ∈ s.over, TxWf t) :
    Calls Tryd.prog 44 #[s.val] w fun e w' => e = .returned (.int .i64 (if storeOK s then 0 else 9)) ∧ Below w.heap.size w w' := by
  have hh := h
  have h1 := fun w' k => itemsMayBe_any s.ia s.il s.ic s.items w' k
  have h2 := fun w' k => locksMayBe_any s.la s.ll s.lc s.locks w' k
  have h3 := fun w' k => overMayBe_any s.oa s.ol s.oc s.over w' k hwf
  have h4 := fun w' k => doubtsMayBe_any s w' k
  obtain ⟨S, eS⟩ : ∃ S : Int, S = (if storeOK s then 0 else 9) := ⟨_, rfl⟩
  have e0 : Hid (S = if (itemsOK 0 s.items && locksOK s.locks && overGo [] s.over && doubtsOK s.doubts s.locks s.over) = true then 0 else 9) := eS
  obtain ⟨A, eA⟩ : ∃ A, A = itemsOK 0 s.items := ⟨_, rfl⟩
  obtain ⟨B, eB⟩ : ∃ B, B = locksOK s.locks := ⟨_, rfl⟩
  obtain ⟨C, eC⟩ : ∃ C, C = overGo [] s.over := ⟨_, rfl⟩
  obtain ⟨E, eE⟩ : ∃ E, E = doubtsOK s.doubts s.locks s.over := ⟨_, rfl⟩
  rw [← eA] at h1 e0
  rw [← eB] at h2 e0
  rw [← eC] at h3 e0
  rw [← eE] at h4 e0
  rw [← eS]
  clear eA eB eC eE eS
  obtain ⟨ia, il, ic, la, ll, lc, da, dl, dc, oa, ol, oc, items, locks, doubts, over⟩ := s
  simp only [SV.val] at *
  obtain ⟨W, hW⟩ : ∃ W : World, W = w.alloc (.cells #[.slice ia il ic, .slice la ll lc, .slice da dl dc, .slice oa ol oc] 55) := ⟨_, rfl⟩
  have hB : Below w.heap.size w W := by rw [hW]; exact (Below.refl _ _).alloc (Nat.le_refl _) _
  have zW : w.heap.size < W.heap.size := by rw [hW]; simp
  have c0 : W.cell? ⟨w.heap.size, 0, none⟩ = some (.slice ia il ic) := by rw [hW]; go_simp
  have c1 : W.cell? ⟨w.heap.size, 1, none⟩ = some (.slice la ll lc) := by rw [hW]; go_simp
  have c2 : W.cell? ⟨w.heap.size, 2, none⟩ = some (.slice da dl dc) := by rw [hW]; go_simp
  have c3 : W.cell? ⟨w.heap.size, 3, none⟩ = some (.slice oa ol oc) := by rw [hW]; go_simp
  have KA : Hid (∀ U : World, Below W.heap.size W U → U.cell? ⟨w.heap.size, 0, none⟩ = some (.slice ia il ic) ∧ U.cell? ⟨w.heap.size, 1, none⟩ = some (.slice la ll lc) ∧ U.cell? ⟨w.heap.size, 2, none⟩ = some (.slice da dl dc) ∧ U.cell? ⟨w.heap.size, 3, none⟩ = some (.slice oa ol oc)) := fun U hU =>
    ⟨(hU.cell (p := ⟨w.heap.size, 0, none⟩) zW).trans c0, (hU.cell (p := ⟨w.heap.size, 1, none⟩) zW).trans c1, (hU.cell (p := ⟨w.heap.size, 2, none⟩) zW).trans c2, (hU.cell (p := ⟨w.heap.size, 3, none⟩) zW).trans c3⟩
  have HS : Hid (∀ U : World, Below W.heap.size W U → IsItems U ia il ic items ∧ IsLocks U la ll lc locks ∧ IsTxns U oa ol oc over ∧ IsStore U ⟨ia, il, ic, la, ll, lc, da, dl, dc, oa, ol, oc, items, locks, doubts, over⟩) := fun U hU => by
    have hs := hh.below (hB.trans (hU.mono hB.size))
    exact ⟨hs.items, hs.locks, hs.over, hs⟩
  have hbv : Below W.heap.size W W := Below.refl _ _
  go_enter Tryd.func44, Tryd.ntmps44
  go_upto_region 1 with (fail)
  rw [← hW]
  clear hW
  cases A <;> cases B <;> cases C <;> cases E
  all_goals
    go_wp2_with (first
      | (go_at_call 81; refine (h1 _ (HS.out _ hbv).1).mono ?_; rintro e u ⟨rfl, hu⟩; replace hbv := hbv.trans (hu.mono hbv.size); clear hu c0 c1 c2 c3; obtain ⟨c0, c1, c2, c3⟩ := KA.out _ hbv)
      | (go_at_call 82; refine (h2 _ (HS.out _ hbv).2.1).mono ?_; rintro e u ⟨rfl, hu⟩; replace hbv := hbv.trans (hu.mono hbv.size); clear hu c0 c1 c2 c3; obtain ⟨c0, c1, c2, c3⟩ := KA.out _ hbv)
      | (go_at_call 83; refine (h3 _ (HS.out _ hbv).2.2.1).mono ?_; rintro e u ⟨rfl, hu⟩; replace hbv := hbv.trans (hu.mono hbv.size); clear hu c0 c1 c2 c3; obtain ⟨c0, c1, c2, c3⟩ := KA.out _ hbv)
      | (go_at_call 84; refine (h4 _ (HS.out _ hbv).2.2.2).mono ?_; rintro e u ⟨rfl, hu⟩; replace hbv := hbv.trans (hu.mono hbv.size); clear hu c0 c1 c2 c3; obtain ⟨c0, c1, c2, c3⟩ := KA.out _ hbv))
    go_ret
    exact ⟨by rw [e0.out]; rfl, hB.trans (hbv.mono hB.size)⟩
end Go.Proofs.YtgohpgollpjlnaaDoor.St
/- Contracts of store.refuseTxn and refuse. -/
namespace Go.Proofs.YtgohpgollpjlnaaDoor.St
open Go.ChangeShapes Go.WideShapes Go.ChangeAt Go.RowKit
set_option linter.unusedVariables false

def refErr (s : SV) (t : Int × Int) (key : Int) : Int := if storeOK s then (if txOK t && inR key 0 7 then 0 else 2) else 9

set_option maxHeartbeats 1000000 in
theorem refuseTxn_any (s : SV) (t : Int × Int) (w : World) (h : IsStore w s) (hwf : ∀ t ∈ s.over, TxWf t) :
    Calls Tryd.prog 37 #[s.val, .agg #[.int .i64 t.1, .int .i64 t.2]] w fun e w' => e = .returned (.int .i64 (if storeOK s then (if txOK t then 0 else 2) else 9)) ∧ Below w.heap.size w w' := by
  have hC := fun w' h1 => check_any s w' h1 hwf
  have hT := fun w' => isTxn_any t w'
  obtain ⟨R, e0⟩ : ∃ R : Int, R = (if storeOK s then (if txOK t then 0 else 2) else 9) := ⟨_, rfl⟩
  obtain ⟨S, e1⟩ : ∃ R, R = storeOK s := ⟨_, rfl⟩
  obtain ⟨T, e2⟩ : ∃ R, R = txOK t := ⟨_, rfl⟩
  have eR : Hid (R = if S then (if T then 0 else 2) else 9) := by rw [e1, e2]; exact e0
  rw [← e1] at hC
  rw [← e2] at hT
  rw [← e0]
  clear e0 e1 e2
  have hh := h
  obtain ⟨ia, il, ic, la, ll, lc, da, dl, dc, oa, ol, oc, items, locks, doubts, over⟩ := s
  obtain ⟨ts, tn⟩ := t
  simp only [SV.val] at *
  obtain ⟨W, hW⟩ : ∃ W : World, W = (w.alloc (.cells #[.slice ia il ic, .slice la ll lc, .slice da dl dc, .slice oa ol oc] 55)).alloc (.cells #[.int .i64 ts, .int .i64 tn] 23) := ⟨_, rfl⟩
  have hB : Below w.heap.size w W := by rw [hW]; exact ((Below.refl _ _).alloc (Nat.le_refl _) _).alloc (by simp) _
  have zW : W.heap.size = w.heap.size + 2 := by rw [hW]; simp
  have z0 : w.heap.size < W.heap.size := by omega
  have z1 : w.heap.size + 1 < W.heap.size := by omega
  clear zW
  have c0 : W.cell? ⟨w.heap.size, 0, none⟩ = some (.slice ia il ic) := by rw [hW]; go_simp
  have c1 : W.cell? ⟨w.heap.size, 1, none⟩ = some (.slice la ll lc) := by rw [hW]; go_simp
  have c2 : W.cell? ⟨w.heap.size, 2, none⟩ = some (.slice da dl dc) := by rw [hW]; go_simp
  have c3 : W.cell? ⟨w.heap.size, 3, none⟩ = some (.slice oa ol oc) := by rw [hW]; go_simp
  have c4 : W.cell? ⟨w.heap.size + 1, 0, none⟩ = some (.int .i64 ts) := by rw [hW]; go_simp
  have c5 : W.cell? ⟨w.heap.size + 1, 1, none⟩ = some (.int .i64 tn) := by rw [hW]; go_simp
  have KA : Hid (∀ U : World, Below W.heap.size W U → U.cell? ⟨w.heap.size, 0, none⟩ = some (.slice ia il ic) ∧ U.cell? ⟨w.heap.size, 1, none⟩ = some (.slice la ll lc) ∧ U.cell? ⟨w.heap.size, 2, none⟩ = some (.slice da dl dc) ∧ U.cell? ⟨w.heap.size, 3, none⟩ = some (.slice oa ol oc) ∧ U.cell? ⟨w.heap.size + 1, 0, none⟩ = some (.int .i64 ts) ∧ U.cell? ⟨w.heap.size + 1, 1, none⟩ = some (.int .i64 tn)) := fun U hU =>
    ⟨(hU.cell (p := ⟨w.heap.size, 0, none⟩) z0).trans c0, (hU.cell (p := ⟨w.heap.size, 1, none⟩) z0).trans c1, (hU.cell (p := ⟨w.heap.size, 2, none⟩) z0).trans c2, (hU.cell (p := ⟨w.heap.size, 3, none⟩) z0).trans c3, (hU.cell (p := ⟨w.heap.size + 1, 0, none⟩) z1).trans c4, (hU.cell (p := ⟨w.heap.size + 1, 1, none⟩) z1).trans c5⟩
  have hSW := hh.below hB
  go_enter Tryd.func37, Tryd.ntmps37
  go_upto_region 1 with (fail)
  rw [← hW]
  clear hW
  cases S <;> cases T
  all_goals
    simp only [if_true, Bool.false_eq_true, if_false] at hC
    go_wp2_with (first
      | (go_at_call 44; refine (hC _ hSW).mono ?_; rintro e w1 ⟨rfl, hb1⟩; have hw1 := hB.trans (hb1.mono hB.size); obtain ⟨x0, x1, x2, x3, x4, x5⟩ := KA.out _ hb1)
      | (go_at_call 73; refine (hT _).mono ?_; rintro e w2 ⟨rfl, hb2⟩; have hw2 := hw1.trans (hb2.mono hw1.size)))
    go_ret
    exact ⟨by rw [eR.out]; rfl, by first | exact hw2 | exact hw1⟩

set_option maxHeartbeats 1000000 in
theorem refuse_any (s : SV) (t : Int × Int) (key : Int) (w : World) (h : IsStore w s) (hwf : ∀ t ∈ s.over, TxWf t) :
    Calls Tryd.prog 57 #[s.val, .agg #[.int .i64 t.1, .int .i64 t.2], .int .i64 key] w fun e w' => e = .returned (.int .i64 (refErr s t key)) ∧ Below w.heap.size w w' := by
  have hC := fun w' h1 => refuseTxn_any s t w' h1 hwf
  obtain ⟨R, e0⟩ : ∃ R : Int, R = refErr s t key := ⟨_, rfl⟩
  obtain ⟨S, e1⟩ : ∃ R, R = storeOK s := ⟨_, rfl⟩
  obtain ⟨T, e2⟩ : ∃ R, R = txOK t := ⟨_, rfl⟩
  obtain ⟨K, e3⟩ : ∃ R, R = inR key 0 7 := ⟨_, rfl⟩
  have eR : Hid (R = if S then (if T && K then 0 else 2) else 9) := by rw [e1, e2, e3]; exact e0
  rw [← e1, ← e2] at hC
  rw [← e0]
  replace e3 := e3.symm
  clear e0 e1 e2
  have hh := h
  obtain ⟨ia, il, ic, la, ll, lc, da, dl, dc, oa, ol, oc, items, locks, doubts, over⟩ := s
  obtain ⟨ts, tn⟩ := t
  simp only [SV.val] at *
  obtain ⟨W, hW⟩ : ∃ W : World, W = (w.alloc (.cells #[.slice ia il ic, .slice la ll lc, .slice da dl dc, .slice oa ol oc] 55)).alloc (.cells #[.int .i64 ts, .int .i64 tn] 23) := ⟨_, rfl⟩
  have hB : Below w.heap.size w W := by rw [hW]; exact ((Below.refl _ _).alloc (Nat.le_refl _) _).alloc (by simp) _
  have zW : W.heap.size = w.heap.size + 2 := by rw [hW]; simp
  have z0 : w.heap.size < W.heap.size := by omega
  have z1 : w.heap.size + 1 < W.heap.size := by omega
  clear zW
  have c0 : W.cell? ⟨w.heap.size, 0, none⟩ = some (.slice ia il ic) := by rw [hW]; go_simp
  have c1 : W.cell? ⟨w.heap.size, 1, none⟩ = some (.slice la ll lc) := by rw [hW]; go_simp
  have c2 : W.cell? ⟨w.heap.size, 2, none⟩ = some (.slice da dl dc) := by rw [hW]; go_simp
  have c3 : W.cell? ⟨w.heap.size, 3, none⟩ = some (.slice oa ol oc) := by rw [hW]; go_simp
  have c4 : W.cell? ⟨w.heap.size + 1, 0, none⟩ = some (.int .i64 ts) := by rw [hW]; go_simp
  have c5 : W.cell? ⟨w.heap.size + 1, 1, none⟩ = some (.int .i64 tn) := by rw [hW]; go_simp
  have KA : Hid (∀ U : World, Below W.heap.size W U → U.cell? ⟨w.heap.size, 0, none⟩ = some (.slice ia il ic) ∧ U.cell? ⟨w.heap.size, 1, none⟩ = some (.slice la ll lc) ∧ U.cell? ⟨w.heap.size, 2, none⟩ = some (.slice da dl dc) ∧ U.cell? ⟨w.heap.size, 3, none⟩ = some (.slice oa ol oc) ∧ U.cell? ⟨w.heap.size + 1, 0, none⟩ = some (.int .i64 ts) ∧ U.cell? ⟨w.heap.size + 1, 1, none⟩ = some (.int .i64 tn)) := fun U hU =>
    ⟨(hU.cell (p := ⟨w.heap.size, 0, none⟩) z0).trans c0, (hU.cell (p := ⟨w.heap.size, 1, none⟩) z0).trans c1, (hU.cell (p := ⟨w.heap.size, 2, none⟩) z0).trans c2, (hU.cell (p := ⟨w.heap.size, 3, none⟩) z0).trans c3, (hU.cell (p := ⟨w.heap.size + 1, 0, none⟩) z1).trans c4, (hU.cell (p := ⟨w.heap.size + 1, 1, none⟩) z1).trans c5⟩
  have hSW := hh.below hB
  go_enter Tryd.func57, Tryd.ntmps57
  go_upto_region 1 with (fail)
  rw [← hW]
  clear hW
  cases S <;> cases T <;> cases K
  all_goals
    simp only [if_true, Bool.false_eq_true, if_false] at hC
    go_wp2_with (first
      | (go_at_call 37; refine (hC _ hSW).mono ?_; rintro e w1 ⟨rfl, hb1⟩; have hw1 := hB.trans (hb1.mono hB.size))
      | (go_at_call 91; refine (key_any _ _).mono ?_; rintro e u ⟨rfl, hu⟩; rw [hu, e3]; clear hu))
    go_ret
    exact ⟨by rw [eR.out]; rfl, hw1⟩
end Go.Proofs.YtgohpgollpjlnaaDoor.St
/- The contract of store.item: the first item of a key; one that was never written has the value 0, and the version 0. -/
namespace Go.Proofs.YtgohpgollpjlnaaDoor.St
open Go.ChangeShapes Go.WideShapes Go.ChangeAt Go.RowKit
set_option linter.unusedVariables false

def kyT (ky : Int) (x : ItV) : Bool := decide (x.key = ky)
def itemAt (l : List ItV) (ky : Int) : ItV := if idxI (kyT ky) l < 0 then ⟨ky, 0, 0⟩ else l.getD (idxI (kyT ky) l).toNat default

theorem item1_asks (b : Nat) (ky : Int) (w : World) (c0 : w.cell? ⟨b, 0, none⟩ = some (.int .i64 ky)) (z : b < w.heap.size) : Asks 93 #[.pointer (some ⟨b, 0, none⟩)] ItV.val (kyT ky) w := by
  refine ⟨enters_of Tryd.func93 (by kernel_rfl) rfl, fun x w' hb => ?_⟩
  rw [← hb.cell (p := ⟨b, 0, none⟩) z] at c0
  have y := Nat.lt_of_lt_of_le z hb.size
  obtain ⟨key, value, version⟩ := x
  simp only [ItV.val] at *
  have hA : ∀ o, Below w'.heap.size w' (w'.alloc o) := fun o => (Below.refl _ _).alloc (Nat.le_refl _) _
  show Calls Tryd.prog 93 #[_, .pointer (some ⟨b, 0, none⟩)] w' _
  go_enter Tryd.func93, Tryd.ntmps93
  go_wp2
  all_goals go_ret
  all_goals exact ⟨ret_bool (by first | (simp_all [kyT]; done) | (simp_all [kyT]; rfl)), hA _⟩

set_option maxHeartbeats 1000000 in
theorem item_any (s : SV) (ky : Int) (w : World) (h : IsItems w s.ia s.il s.ic s.items) :
    Calls Tryd.prog 58 #[s.val, .int .i64 ky] w fun e w' => e = .returned (itemAt s.items ky).val ∧ Below w.heap.size w w' := by
  obtain ⟨ia, il, ic, la, ll, lc, da, dl, dc, oa, ol, oc, items, locks, doubts, over⟩ := s
  simp only [SV.val] at *
  have hI := fun fn cps w' h1 h2 => indexItem_any fn cps (kyT ky) ia il ic items w' h1 h2
  have hlt := idxI_lt (p := kyT ky) (l := items)
  have eR : Hid (itemAt items ky = if idxI (kyT ky) items < 0 then ⟨ky, 0, 0⟩ else items.getD (idxI (kyT ky) items).toNat default) := rfl
  obtain ⟨R, e0⟩ : ∃ R, R = itemAt items ky := ⟨_, rfl⟩
  obtain ⟨J, e1⟩ : ∃ J, J = idxI (kyT ky) items := ⟨_, rfl⟩
  rw [← e0, ← e1] at eR
  rw [← e1] at hI hlt
  rw [← e0]
  clear e0 e1
  obtain ⟨rk, rv, rn⟩ := R
  simp only [ItV.val]
  obtain ⟨W, hW⟩ : ∃ W : World, W = ((w.alloc (.cells #[.slice ia il ic, .slice la ll lc, .slice da dl dc, .slice oa ol oc] 55)).alloc (.cells #[.int .i64 ky] 3)).alloc (.cells #[.int .i64 0, .int .i64 0, .int .i64 0] 109) := ⟨_, rfl⟩
  have hB : Below w.heap.size w W := by rw [hW]; exact (((Below.refl _ _).alloc (Nat.le_refl _) _).alloc (by simp) _).alloc (by simp; omega) _
  have zW : W.heap.size = w.heap.size + 3 := by rw [hW]; simp
  have c0 : W.cell? ⟨w.heap.size, 0, none⟩ = some (.slice ia il ic) := by rw [hW]; go_simp
  have ck : W.cell? ⟨w.heap.size + 1, 0, none⟩ = some (.int .i64 ky) := by rw [hW]; go_simp
  have r0 : W.cell? ⟨w.heap.size + 2, 0, none⟩ = some (.int .i64 0) := by rw [hW]; go_simp
  have r1 : W.cell? ⟨w.heap.size + 2, 1, none⟩ = some (.int .i64 0) := by rw [hW]; go_simp
  have r2 : W.cell? ⟨w.heap.size + 2, 2, none⟩ = some (.int .i64 0) := by rw [hW]; go_simp
  have f0 : W.frozen? ⟨w.heap.size + 2, 0, none⟩ = false := by rw [hW]; go_simp
  have f1 : W.frozen? ⟨w.heap.size + 2, 1, none⟩ = false := by rw [hW]; go_simp
  have f2 : W.frozen? ⟨w.heap.size + 2, 2, none⟩ = false := by rw [hW]; go_simp
  have z0 : w.heap.size < W.heap.size := by omega
  have z1 : w.heap.size + 1 < W.heap.size := by omega
  have z2 : w.heap.size + 2 < W.heap.size := by omega
  have hX := h.below hB
  have hAs := item1_asks (w.heap.size + 1) ky W ck z1
  clear zW
  go_enter Tryd.func58, Tryd.ntmps58
  go_upto_region 1 with (fail)
  rw [← hW]
  clear hW
  go_upto_region 2 with (go_at_call 92; refine (hI _ _ _ hX hAs).mono ?_; rintro e w1 ⟨rfl, hb1⟩)
  have d0 := (hb1.cell (p := ⟨w.heap.size, 0, none⟩) z0).trans c0
  have dk := (hb1.cell (p := ⟨w.heap.size + 1, 0, none⟩) z1).trans ck
  have s0 := (hb1.cell (p := ⟨w.heap.size + 2, 0, none⟩) z2).trans r0
  have s1 := (hb1.cell (p := ⟨w.heap.size + 2, 1, none⟩) z2).trans r1
  have s2 := (hb1.cell (p := ⟨w.heap.size + 2, 2, none⟩) z2).trans r2
  have g0 := (hb1.frozen (p := ⟨w.heap.size + 2, 0, none⟩) z2).trans f0
  have g1 := (hb1.frozen (p := ⟨w.heap.size + 2, 1, none⟩) z2).trans f1
  have g2 := (hb1.frozen (p := ⟨w.heap.size + 2, 2, none⟩) z2).trans f2
  have hw1 := hB.trans (hb1.mono hB.size)
  have hfin : ∀ x y z, Below w.heap.size w (((w1.setCell ⟨w.heap.size + 2, 0, none⟩ x).setCell ⟨w.heap.size + 2, 1, none⟩ y).setCell ⟨w.heap.size + 2, 2, none⟩ z) := fun x y z =>
    ((hw1.setCell (by simp) _).setCell (by simp) _).setCell (by simp) _
  by_cases hJ : J < 0
  · have hR := eR.out
    rw [if_pos hJ] at hR
    clear eR
    obtain ⟨rfl, rfl, rfl⟩ := ItV.mk.inj hR
    go_wp2
    refine bodyPost_ret (v := .agg #[.int .i64 _, .int .i64 0, .int .i64 0]) (by simp [results, Tryd.results58, go_sem, s0, s1, s2]) rfl ⟨rfl, hfin _ _ _⟩
  · have hR := eR.out
    rw [if_neg hJ] at hR
    obtain ⟨j, rfl⟩ : ∃ j : Nat, J = j := ⟨J.toNat, by omega⟩
    have hjl : j < items.length := by omega
    obtain ⟨xl, _, hmax, _, xm⟩ := h
    unfold maxLen at hmax
    obtain ⟨b, off, rfl, zb, hc⟩ := xm (by omega)
    have hcells := hc j (by omega)
    have hji : (j : Int) < (il : Int) := by omega
    simp only [Int.toNat_natCast] at hR
    rw [← hR] at hcells
    clear hR eR xl hc
    have a0 := hcells 0 (by decide)
    have a1 := hcells 1 (by decide)
    have a2 := hcells 2 (by decide)
    simp [ItV.cells] at a0 a1 a2
    rw [← hw1.cell (p := ⟨b, off + j * 3, none⟩) zb] at a0
    rw [← hw1.cell (p := ⟨b, off + j * 3 + 1, none⟩) zb] at a1
    rw [← hw1.cell (p := ⟨b, off + j * 3 + 2, none⟩) zb] at a2
    have hJ' : ¬ (j : Int) < 0 := by omega
    go_wp2
    refine bodyPost_ret (v := .agg #[.int .i64 rk, .int .i64 rv, .int .i64 rn]) (by simp [results, Tryd.results58, go_sem, s0, s1, s2]) rfl ⟨rfl, hfin _ _ _⟩
end Go.Proofs.YtgohpgollpjlnaaDoor.St
