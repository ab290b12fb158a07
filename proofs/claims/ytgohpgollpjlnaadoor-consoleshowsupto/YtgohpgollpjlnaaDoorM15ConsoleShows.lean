/- Texts of this claim, one behind the other. -/
import Derived.Test.YtgohpgollpjlnaaDoorA14ConsoleShows
import Derived.Test.YtgohpgollpjlnaaDoorM10ConsoleShows
import Derived.Test.YtgohpgollpjlnaaDoorM7ConsoleShows
import Derived.Deep.Cut
/- The contract of store.Writes. -/
namespace Go.Proofs.YtgohpgollpjlnaaDoor.St
open Go.ChangeShapes Go.WideShapes Go.ChangeAt Go.RowKit
set_option linter.unusedVariables false

set_option maxHeartbeats 2000000 in
theorem writes_count (s : SV) (t : Int × Int) (w : World) (h : IsStore w s) (hwf : ∀ t ∈ s.over, TxWf t) :
    Calls Tryd.prog 18 #[s.val, .agg #[.int .i64 t.1, .int .i64 t.2]] w fun e w' => e = .returned (.tuple #[.int .i64 (cntIs s t), .int .i64 (cntErr s t)]) ∧ Below w.heap.size w w' := by
  have hC := fun w' h1 => refuseTxn_any s t w' h1 hwf
  have hWo := fun w' h1 h2 => writesOf_any s t w' h1 h2
  have hl24 : cntErr s t = 0 → s.ll ≤ 24 := fun e => by
    rw [← h.locks.1]
    apply ok_24
    cases hs : storeOK s with
    | true => rfl
    | false => simp [cntErr, hs] at e
  obtain ⟨E, e6⟩ : ∃ R : Int, R = cntErr s t := ⟨_, rfl⟩
  have e6' : E = if storeOK s then (if txOK t then 0 else 2) else 9 := e6
  obtain ⟨R, e7⟩ : ∃ R, R = cntIs s t := ⟨_, rfl⟩
  have eR : Hid (R = if E = 0 then ((s.locks.filter (wOf t)).length : Int) else 0) := by rw [e6]; exact e7
  rw [← e6, ← e7]
  rw [← e6] at hl24
  rw [← e6'] at hC
  clear e6 e7 e6'
  obtain ⟨F, eF⟩ : ∃ F, F = s.locks.filter (wOf t) := ⟨_, rfl⟩
  rw [← eF] at hWo eR
  clear eF
  have hh := h
  obtain ⟨ia, il, ic, la, ll, lc, da, dl, dc, oa, ol, oc, items, locks, doubts, over⟩ := s
  obtain ⟨ts, tn⟩ := t
  simp only [SV.val] at *
  obtain ⟨W, hW⟩ : ∃ W : World, W = (w.alloc (.cells #[.slice ia il ic, .slice la ll lc, .slice da dl dc, .slice oa ol oc] 55)).alloc (.cells #[.int .i64 ts, .int .i64 tn] 23) := ⟨_, rfl⟩
  have hB : Below w.heap.size w W := by rw [hW]; exact ((Below.refl _ _).alloc (Nat.le_refl _) _).alloc (by simp) _
  have zW : W.heap.size = w.heap.size + 2 := by rw [hW]; simp
  have z0 : w.heap.size < W.heap.size := by omega
  have z1 : w.heap.size + 1 < W.heap.size := by omega
  clear zW
  have c0 : W.cell? ⟨w.heap.size, 0, none⟩ = some (.slice ia il ic) := by rw [hW]; go_simp
  have c1 : W.cell? ⟨w.heap.size, 1, none⟩ = some (.slice la ll lc) := by rw [hW]; go_simp
  have c2 : W.cell? ⟨w.heap.size, 2, none⟩ = some (.slice da dl dc) := by rw [hW]; go_simp
  have c3 : W.cell? ⟨w.heap.size, 3, none⟩ = some (.slice oa ol oc) := by rw [hW]; go_simp
  have c4 : W.cell? ⟨w.heap.size + 1, 0, none⟩ = some (.int .i64 ts) := by rw [hW]; go_simp
  have c5 : W.cell? ⟨w.heap.size + 1, 1, none⟩ = some (.int .i64 tn) := by rw [hW]; go_simp
  have KA : Hid (∀ U : World, Below W.heap.size W U → U.cell? ⟨w.heap.size, 0, none⟩ = some (.slice ia il ic) ∧ U.cell? ⟨w.heap.size, 1, none⟩ = some (.slice la ll lc) ∧ U.cell? ⟨w.heap.size, 2, none⟩ = some (.slice da dl dc) ∧ U.cell? ⟨w.heap.size, 3, none⟩ = some (.slice oa ol oc) ∧ U.cell? ⟨w.heap.size + 1, 0, none⟩ = some (.int .i64 ts) ∧ U.cell? ⟨w.heap.size + 1, 1, none⟩ = some (.int .i64 tn)) := fun U hU =>
    ⟨(hU.cell (p := ⟨w.heap.size, 0, none⟩) z0).trans c0, (hU.cell (p := ⟨w.heap.size, 1, none⟩) z0).trans c1, (hU.cell (p := ⟨w.heap.size, 2, none⟩) z0).trans c2, (hU.cell (p := ⟨w.heap.size, 3, none⟩) z0).trans c3, (hU.cell (p := ⟨w.heap.size + 1, 0, none⟩) z1).trans c4, (hU.cell (p := ⟨w.heap.size + 1, 1, none⟩) z1).trans c5⟩
  have hSW := hh.below hB
  go_enter Tryd.func18, Tryd.ntmps18
  go_upto_region 1 with (fail)
  rw [← hW]
  clear hW
  by_cases hE : E = 0
  · subst hE
    have hl := hl24 rfl
    go_wp2_with (first
      | (go_at_call 37; refine (hC _ hSW).mono ?_; rintro e w1 ⟨rfl, hb1⟩; clear c0 c1 c2 c3 c4 c5; obtain ⟨c0, c1, c2, c3, c4, c5⟩ := KA.out _ hb1; have hL1 := (hSW.below hb1).locks)
      | (go_at_call 38; refine (hWo _ hL1 hl).mono ?_; rintro e w2 ⟨ao, cp, rfl, _, _, hb2⟩))
    go_ret2
    exact ⟨by rw [eR.out]; rfl, hB.trans ((hb1.trans (hb2.mono hb1.size)).mono hB.size)⟩
  · go_wp2_with (go_at_call 37; refine (hC _ hSW).mono ?_; rintro e w1 ⟨rfl, hb1⟩)
    go_ret2
    exact ⟨by rw [eR.out, if_neg hE]; rfl, hB.trans (hb1.mono hB.size)⟩
end Go.Proofs.YtgohpgollpjlnaaDoor.St
/- The contract of the document's askFault. -/
namespace Go.Proofs.YtgohpgollpjlnaaDoor.St
open Go.ChangeShapes Go.WideShapes Go.ChangeAt Go.RowKit
set_option linter.unusedVariables false

def askErr (s : SV) (t : Int × Int) (key : Int) : Int := if storeOK s then (if txOK t && inR key 0 7 then 0 else 2) else 9

set_option maxHeartbeats 1000000 in
theorem askFault_any (s : SV) (t : Int × Int) (key : Int) (w : World) (h : IsStore w s) :
    Calls Tryd.prog 90 #[s.val, .agg #[.int .i64 t.1, .int .i64 t.2], .int .i64 key] w fun e w' => e = .returned (.int .i64 (askErr s t key)) ∧ Below w.heap.size w w' := by
  have hM := fun w' h1 => storeMay_any s w' h1
  have hT := fun w' => plainTxn_any t w'
  have eR : Hid (askErr s t key = if storeOK s then (if txOK t && inR key 0 7 then 0 else 2) else 9) := rfl
  obtain ⟨R, e0⟩ : ∃ R, R = askErr s t key := ⟨_, rfl⟩
  obtain ⟨S, e1⟩ : ∃ R, R = storeOK s := ⟨_, rfl⟩
  obtain ⟨T, e2⟩ : ∃ R, R = txOK t := ⟨_, rfl⟩
  obtain ⟨K, e3⟩ : ∃ R, R = inR key 0 7 := ⟨_, rfl⟩
  rw [← e0, ← e1, ← e2, ← e3] at eR
  rw [← e1] at hM
  rw [← e2] at hT
  rw [← e0]
  replace e3 := e3.symm
  clear e0 e1 e2
  have hh := h
  obtain ⟨ia, il, ic, la, ll, lc, da, dl, dc, oa, ol, oc, items, locks, doubts, over⟩ := s
  obtain ⟨ts, tn⟩ := t
  simp only [SV.val] at *
  obtain ⟨W, hW⟩ : ∃ W : World, W = (w.alloc (.cells #[.slice ia il ic, .slice la ll lc, .slice da dl dc, .slice oa ol oc] 55)).alloc (.cells #[.int .i64 ts, .int .i64 tn] 23) := ⟨_, rfl⟩
  have hB : Below w.heap.size w W := by rw [hW]; exact ((Below.refl _ _).alloc (Nat.le_refl _) _).alloc (by simp) _
  have zW : W.heap.size = w.heap.size + 2 := by rw [hW]; simp
  have z1 : w.heap.size + 1 < W.heap.size := by omega
  clear zW
  have c0 : W.cell? ⟨w.heap.size, 0, none⟩ = some (.slice ia il ic) := by rw [hW]; go_simp
  have c1 : W.cell? ⟨w.heap.size, 1, none⟩ = some (.slice la ll lc) := by rw [hW]; go_simp
  have c2 : W.cell? ⟨w.heap.size, 2, none⟩ = some (.slice da dl dc) := by rw [hW]; go_simp
  have c3 : W.cell? ⟨w.heap.size, 3, none⟩ = some (.slice oa ol oc) := by rw [hW]; go_simp
  have d0 : W.cell? ⟨w.heap.size + 1, 0, none⟩ = some (.int .i64 ts) := by rw [hW]; go_simp
  have d1 : W.cell? ⟨w.heap.size + 1, 1, none⟩ = some (.int .i64 tn) := by rw [hW]; go_simp
  have hSW := hh.below hB
  go_enter Tryd.func90, Tryd.ntmps90
  go_upto_region 1 with (fail)
  rw [← hW]
  clear hW
  cases S <;> cases T <;> cases K
  all_goals
    go_wp2_with (first
      | (go_at_call 29; refine (hM _ hSW).mono ?_; rintro e w1 ⟨rfl, hb1⟩; have hw1 := hB.trans (hb1.mono hB.size); have x0 := (hb1.cell (p := ⟨w.heap.size + 1, 0, none⟩) z1).trans d0; have x1 := (hb1.cell (p := ⟨w.heap.size + 1, 1, none⟩) z1).trans d1)
      | (go_at_call 30; refine (hT _).mono ?_; rintro e w2 ⟨rfl, hb2⟩; have hw2 := hw1.trans (hb2.mono hw1.size))
      | (go_at_call 53; refine (in_any _ _ _ _).mono ?_; rintro e u ⟨rfl, hu⟩; rw [hu, e3]; clear hu))
    go_ret
    exact ⟨by rw [eR.out]; rfl, by first | exact hw2 | exact hw1⟩

end Go.Proofs.YtgohpgollpjlnaaDoor.St
/- The contract of store.item: the first item of a key; one that was never written has the value 0, and the version 0. -/
namespace Go.Proofs.YtgohpgollpjlnaaDoor.St
open Go.ChangeShapes Go.WideShapes Go.ChangeAt Go.RowKit
set_option linter.unusedVariables false

def kyT (ky : Int) (x : ItV) : Bool := decide (x.key = ky)
def itemAt (l : List ItV) (ky : Int) : ItV := if idxI (kyT ky) l < 0 then ⟨ky, 0, 0⟩ else l.getD (idxI (kyT ky) l).toNat default

theorem item1_asks (b : Nat) (ky : Int) (w : World) (c0 : w.cell? ⟨b, 0, none⟩ = some (.int .i64 ky)) (z : b < w.heap.size) : Asks 93 #[.pointer (some ⟨b, 0, none⟩)] ItV.val (kyT ky) w := by
  refine ⟨enters_of Tryd.func93 (by kernel_rfl) rfl, fun x w' hb => ?_⟩
  rw [← hb.cell (p := ⟨b, 0, none⟩) z] at c0
  have y := Nat.lt_of_lt_of_le z hb.size
  obtain ⟨key, value, version⟩ := x
  simp only [ItV.val] at *
  have hA : ∀ o, Below w'.heap.size w' (w'.alloc o) := fun o => (Below.refl _ _).alloc (Nat.le_refl _) _
  show Calls Tryd.prog 93 #[_, .pointer (some ⟨b, 0, none⟩)] w' _
  go_enter Tryd.func93, Tryd.ntmps93
  go_wp2
  all_goals go_ret
  all_goals exact ⟨ret_bool (by first | (simp_all [kyT]; done) | (simp_all [kyT]; rfl)), hA _⟩

set_option maxHeartbeats 1000000 in
theorem item_any (s : SV) (ky : Int) (w : World) (h : IsItems w s.ia s.il s.ic s.items) :
    Calls Tryd.prog 58 #[s.val, .int .i64 ky] w fun e w' => e = .returned (itemAt s.items ky).val ∧ Below w.heap.size w w' := by
  obtain ⟨ia, il, ic, la, ll, lc, da, dl, dc, oa, ol, oc, items, locks, doubts, over⟩ := s
  simp only [SV.val] at *
  have hI := fun fn cps w' h1 h2 => indexItem_any fn cps (kyT ky) ia il ic items w' h1 h2
  have hlt := idxI_lt (p := kyT ky) (l := items)
  have eR : Hid (itemAt items ky = if idxI (kyT ky) items < 0 then ⟨ky, 0, 0⟩ else items.getD (idxI (kyT ky) items).toNat default) := rfl
  obtain ⟨R, e0⟩ : ∃ R, R = itemAt items ky := ⟨_, rfl⟩
  obtain ⟨J, e1⟩ : ∃ J, J = idxI (kyT ky) items := ⟨_, rfl⟩
  rw [← e0, ← e1] at eR
  rw [← e1] at hI hlt
  rw [← e0]
  clear e0 e1
  obtain ⟨rk, rv, rn⟩ := R
  simp only [ItV.val]
  obtain ⟨W, hW⟩ : ∃ W : World, W = ((w.alloc (.cells #[.slice ia il ic, .slice la ll lc, .slice da dl dc, .slice oa ol oc] 55)).alloc (.cells #[.int .i64 ky] 3)).alloc (.cells #[.int .i64 0, .int .i64 0, .int .i64 0] 109) := ⟨_, rfl⟩
  have hB : Below w.heap.size w W := by rw [hW]; exact (((Below.refl _ _).alloc (Nat.le_refl _) _).alloc (by simp) _).alloc (by simp; omega) _
  have zW : W.heap.size = w.heap.size + 3 := by rw [hW]; simp
  have c0 : W.cell? ⟨w.heap.size, 0, none⟩ = some (.slice ia il ic) := by rw [hW]; go_simp
  have ck : W.cell? ⟨w.heap.size + 1, 0, none⟩ = some (.int .i64 ky) := by rw [hW]; go_simp
  have r0 : W.cell? ⟨w.heap.size + 2, 0, none⟩ = some (.int .i64 0) := by rw [hW]; go_simp
  have r1 : W.cell? ⟨w.heap.size + 2, 1, none⟩ = some (.int .i64 0) := by rw [hW]; go_simp
  have r2 : W.cell? ⟨w.heap.size + 2, 2, none⟩ = some (.int .i64 0) := by rw [hW]; go_simp
  have f0 : W.frozen? ⟨w.heap.size + 2, 0, none⟩ = false := by rw [hW]; go_simp
  have f1 : W.frozen? ⟨w.heap.size + 2, 1, none⟩ = false := by rw [hW]; go_simp
  have f2 : W.frozen? ⟨w.heap.size + 2, 2, none⟩ = false := by rw [hW]; go_simp
  have z0 : w.heap.size < W.heap.size := by omega
  have z1 : w.heap.size + 1 < W.heap.size := by omega
  have z2 : w.heap.size + 2 < W.heap.size := by omega
  have hX := h.below hB
  have hAs := item1_asks (w.heap.size + 1) ky W ck z1
  clear zW
  go_enter Tryd.func58, Tryd.ntmps58
  go_upto_region 1 with (fail)
  rw [← hW]
  clear hW
  go_upto_region 2 with (go_at_call 92; refine (hI _ _ _ hX hAs).mono ?_; rintro e w1 ⟨rfl, hb1⟩)
  have d0 := (hb1.cell (p := ⟨w.heap.size, 0, none⟩) z0).trans c0
  have dk := (hb1.cell (p := ⟨w.heap.size + 1, 0, none⟩) z1).trans ck
  have s0 := (hb1.cell (p := ⟨w.heap.size + 2, 0, none⟩) z2).trans r0
  have s1 := (hb1.cell (p := ⟨w.heap.size + 2, 1, none⟩) z2).trans r1
  have s2 := (hb1.cell (p := ⟨w.heap.size + 2, 2, none⟩) z2).trans r2
  have g0 := (hb1.frozen (p := ⟨w.heap.size + 2, 0, none⟩) z2).trans f0
  have g1 := (hb1.frozen (p := ⟨w.heap.size + 2, 1, none⟩) z2).trans f1
  have g2 := (hb1.frozen (p := ⟨w.heap.size + 2, 2, none⟩) z2).trans f2
  have hw1 := hB.trans (hb1.mono hB.size)
  have hfin : ∀ x y z, Below w.heap.size w (((w1.setCell ⟨w.heap.size + 2, 0, none⟩ x).setCell ⟨w.heap.size + 2, 1, none⟩ y).setCell ⟨w.heap.size + 2, 2, none⟩ z) := fun x y z =>
    ((hw1.setCell (by simp) _).setCell (by simp) _).setCell (by simp) _
  by_cases hJ : J < 0
  · have hR := eR.out
    rw [if_pos hJ] at hR
    clear eR
    obtain ⟨rfl, rfl, rfl⟩ := ItV.mk.inj hR
    go_wp2
    refine bodyPost_ret (v := .agg #[.int .i64 _, .int .i64 0, .int .i64 0]) (by simp [results, Tryd.results58, go_sem, s0, s1, s2]) rfl ⟨rfl, hfin _ _ _⟩
  · have hR := eR.out
    rw [if_neg hJ] at hR
    obtain ⟨j, rfl⟩ : ∃ j : Nat, J = j := ⟨J.toNat, by omega⟩
    have hjl : j < items.length := by omega
    obtain ⟨xl, _, hmax, _, xm⟩ := h
    unfold maxLen at hmax
    obtain ⟨b, off, rfl, zb, hc⟩ := xm (by omega)
    have hcells := hc j (by omega)
    have hji : (j : Int) < (il : Int) := by omega
    simp only [Int.toNat_natCast] at hR
    rw [← hR] at hcells
    clear hR eR xl hc
    have a0 := hcells 0 (by decide)
    have a1 := hcells 1 (by decide)
    have a2 := hcells 2 (by decide)
    simp [ItV.cells] at a0 a1 a2
    rw [← hw1.cell (p := ⟨b, off + j * 3, none⟩) zb] at a0
    rw [← hw1.cell (p := ⟨b, off + j * 3 + 1, none⟩) zb] at a1
    rw [← hw1.cell (p := ⟨b, off + j * 3 + 2, none⟩) zb] at a2
    have hJ' : ¬ (j : Int) < 0 := by omega
    go_wp2
    refine bodyPost_ret (v := .agg #[.int .i64 rk, .int .i64 rv, .int .i64 rn]) (by simp [results, Tryd.results58, go_sem, s0, s1, s2]) rfl ⟨rfl, hfin _ _ _⟩
end Go.Proofs.YtgohpgollpjlnaaDoor.St
