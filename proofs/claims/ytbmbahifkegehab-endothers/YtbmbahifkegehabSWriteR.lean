/- The contracts of store.refuseWrite and Write. -/
import Derived.Test.YtbmbahifkegehabSHold
import Derived.Test.YtbmbahifkegehabSRefuse
import Derived.Test.YtbmbahifkegehabSItem
import Derived.Test.YtbmbahifkegehabSByOthers
import Derived.Test.YtbmbahifkegehabSAgePlain
import Derived.Deep.Cut
import Derived.Lib.QuietBelow
namespace Go.Proofs.Ytbmbahifkegehab.St
open Go.ChangeShapes Go.WideShapes Go.ChangeAt Go.RowKit
set_option linter.unusedVariables false

theorem fldW (x y z : Int) (w : World) : (Instr.field 69 (.agg #[.int .i64 x, .int .i64 y, .int .i64 z]) 2).run Try.prog w = .ok (.int .i64 z) w := by kernel_rfl
def lateT (s : SV) (t : Int × Int) (key ask : Int) : Bool := decide (t ∈ s.over) || (decide (0 ≤ idxI (byT t key) s.locks) && decide (ask < (s.locks.getD (idxI (byT t key) s.locks).toNat default).ask))
def rwErr (s : SV) (t : Int × Int) (key ask : Int) : Int := if lateT s t key ask then 13 else if s.locks.any (othT t key) then 11 else if idxI (byT t key) s.locks < 0 ∧ 24 ≤ s.locks.length then 8 else if 1048576 ≤ (itemAt s.items key).version then 8 else 0
def writeErr (s : SV) (t : Int × Int) (key value ask : Int) : Int := if refErr s t key = 0 then (if inR value 0 1073741824 && inR ask 0 1048576 then rwErr s t key ask else 2) else refErr s t key
def writeData (s : SV) (t : Int × Int) (key value ask : Int) : PS := if writeErr s t key value ask = 0 then ⟨s.items, holdL s.locks ⟨t, key, true, value, ask⟩, holdD s.doubts t, s.over⟩ else PS.nil

set_option maxRecDepth 100000 in
set_option maxHeartbeats 8000000 in
theorem refuseWrite_any (s : SV) (k : LkV) (w : World) (h : IsStore w s) :
    Calls Try.prog 35 #[s.val, k.val] w fun e w' => e = .returned (.int .i64 (rwErr s k.t k.key k.ask)) ∧ Below w.heap.size w w' := by
  have hOv := fun w' h1 => isOver_any s k.t w' h1
  have hBy := fun w' => by_any k.t k.key w'
  have hBo := fun w' => byOthers_any k.t k.key w'
  have hIt := fun w' h1 => item_any s k.key w' h1
  have hIx := fun fn cps w' h1 h2 => indexLock_any fn cps (byT k.t k.key) s.la s.ll s.lc s.locks w' h1 h2
  have hCn := fun fn cps w' h1 h2 => containsLock_any fn cps (othT k.t k.key) s.la s.ll s.lc s.locks w' h1 h2
  have hf := fldW
  obtain ⟨R, e0⟩ : ∃ R : Int, R = rwErr s k.t k.key k.ask := ⟨_, rfl⟩
  obtain ⟨O, e1⟩ : ∃ R, R = decide (k.t ∈ s.over) := ⟨_, rfl⟩
  obtain ⟨L, e2⟩ : ∃ R, R = s.locks.any (othT k.t k.key) := ⟨_, rfl⟩
  obtain ⟨i, e3⟩ : ∃ R : Int, R = idxI (byT k.t k.key) s.locks := ⟨_, rfl⟩
  obtain ⟨I, e4⟩ : ∃ R, R = itemAt s.items k.key := ⟨_, rfl⟩
  obtain ⟨T, e5⟩ : ∃ R, R = lateT s k.t k.key k.ask := ⟨_, rfl⟩
  have hi := idxI_lt (p := byT k.t k.key) (l := s.locks)
  rw [h.locks.1] at hi
  have eT : Hid (T = (O || (decide (0 ≤ i) && decide (k.ask < (s.locks.getD i.toNat default).ask)))) := by rw [e1, e3]; exact e5
  have eR : Hid (R = if T then 13 else if L then 11 else if i < 0 ∧ 24 ≤ s.ll then 8 else if 1048576 ≤ I.version then 8 else 0) := by rw [e2, e3, e4, e5, ← h.locks.1]; exact e0
  rw [← e1] at hOv
  rw [← e2] at hCn
  rw [← e3] at hIx hi
  rw [← e4] at hIt
  rw [← e0]
  clear e0 e1 e2 e3 e4 e5
  obtain ⟨ik, iv, iw⟩ := I
  simp only [ItV.val] at hIt eR
  have hh := h
  obtain ⟨ia, il, ic, la, ll, lc, da, dl, dc, oa, ol, oc, items, locks, doubts, over⟩ := s
  obtain ⟨⟨ts, tn⟩, key, write, value, ask⟩ := k
  simp only [SV.val, LkV.val] at *
  obtain ⟨W, hW⟩ : ∃ W : World, W = ((w.alloc (.cells #[.slice ia il ic, .slice la ll lc, .slice da dl dc, .slice oa ol oc] 28)).alloc (.cells #[.int .i64 ts, .int .i64 tn, .int .i64 key, .bool write, .int .i64 value, .int .i64 ask] 42)) := ⟨_, rfl⟩
  have hB : Below w.heap.size w W := by rw [hW]; exact (((Below.refl _ _).alloc (Nat.le_refl _) _).alloc (by simp) _)
  have zW : W.heap.size = w.heap.size + 2 := by rw [hW]; simp
  have zb0 : w.heap.size < W.heap.size := by omega
  have zb1 : w.heap.size + 1 < W.heap.size := by omega
  have HZW : Hid (W.heap.size = w.heap.size + 2) := zW
  clear zW
  have c0 : W.cell? ⟨w.heap.size, 0, none⟩ = some (.slice ia il ic) := by rw [hW]; go_simp
  have c1 : W.cell? ⟨w.heap.size, 1, none⟩ = some (.slice la ll lc) := by rw [hW]; go_simp
  have c2 : W.cell? ⟨w.heap.size, 2, none⟩ = some (.slice da dl dc) := by rw [hW]; go_simp
  have c3 : W.cell? ⟨w.heap.size, 3, none⟩ = some (.slice oa ol oc) := by rw [hW]; go_simp
  have k0 : W.cell? ⟨w.heap.size + 1, 0, none⟩ = some (.int .i64 ts) := by rw [hW]; go_simp
  have k1 : W.cell? ⟨w.heap.size + 1, 1, none⟩ = some (.int .i64 tn) := by rw [hW]; go_simp
  have k2 : W.cell? ⟨w.heap.size + 1, 2, none⟩ = some (.int .i64 key) := by rw [hW]; go_simp
  have k3 : W.cell? ⟨w.heap.size + 1, 3, none⟩ = some (.bool write) := by rw [hW]; go_simp
  have k4 : W.cell? ⟨w.heap.size + 1, 4, none⟩ = some (.int .i64 value) := by rw [hW]; go_simp
  have k5 : W.cell? ⟨w.heap.size + 1, 5, none⟩ = some (.int .i64 ask) := by rw [hW]; go_simp
  have KA : Hid (∀ U : World, Below W.heap.size W U → U.cell? ⟨w.heap.size, 0, none⟩ = some (.slice ia il ic) ∧ U.cell? ⟨w.heap.size, 1, none⟩ = some (.slice la ll lc) ∧ U.cell? ⟨w.heap.size, 2, none⟩ = some (.slice da dl dc) ∧ U.cell? ⟨w.heap.size, 3, none⟩ = some (.slice oa ol oc) ∧ U.cell? ⟨w.heap.size + 1, 0, none⟩ = some (.int .i64 ts) ∧ U.cell? ⟨w.heap.size + 1, 1, none⟩ = some (.int .i64 tn) ∧ U.cell? ⟨w.heap.size + 1, 2, none⟩ = some (.int .i64 key) ∧ U.cell? ⟨w.heap.size + 1, 3, none⟩ = some (.bool write) ∧ U.cell? ⟨w.heap.size + 1, 4, none⟩ = some (.int .i64 value) ∧ U.cell? ⟨w.heap.size + 1, 5, none⟩ = some (.int .i64 ask)) := fun U hU => ⟨(hU.cell (p := ⟨w.heap.size, 0, none⟩) zb0).trans c0, (hU.cell (p := ⟨w.heap.size, 1, none⟩) zb0).trans c1, (hU.cell (p := ⟨w.heap.size, 2, none⟩) zb0).trans c2, (hU.cell (p := ⟨w.heap.size, 3, none⟩) zb0).trans c3, (hU.cell (p := ⟨w.heap.size + 1, 0, none⟩) zb1).trans k0, (hU.cell (p := ⟨w.heap.size + 1, 1, none⟩) zb1).trans k1, (hU.cell (p := ⟨w.heap.size + 1, 2, none⟩) zb1).trans k2, (hU.cell (p := ⟨w.heap.size + 1, 3, none⟩) zb1).trans k3, (hU.cell (p := ⟨w.heap.size + 1, 4, none⟩) zb1).trans k4, (hU.cell (p := ⟨w.heap.size + 1, 5, none⟩) zb1).trans k5⟩
  have hSW := hh.below hB
  have HS : Hid (∀ U : World, Below W.heap.size W U → IsStore U ⟨ia, il, ic, la, ll, lc, da, dl, dc, oa, ol, oc, items, locks, doubts, over⟩) := fun U hU => hSW.below hU
  clear hh h
  go_enter Try.func35, Try.ntmps35
  go_upto_region 1 with (fail)
  rw [← hW]
  clear hW c0 c1 c2 c3 k0 k1 k2 k3 k4 k5
  have hD : Below W.heap.size W W.drew := (Below.refl _ _).drew
  go_region_held3 (fun U => U.cell? ⟨w.heap.size, 0, none⟩ = some (.slice ia il ic) ∧ U.cell? ⟨w.heap.size, 1, none⟩ = some (.slice la ll lc) ∧ U.cell? ⟨w.heap.size, 2, none⟩ = some (.slice da dl dc) ∧ U.cell? ⟨w.heap.size, 3, none⟩ = some (.slice oa ol oc) ∧ U.cell? ⟨w.heap.size + 1, 0, none⟩ = some (.int .i64 ts) ∧ U.cell? ⟨w.heap.size + 1, 1, none⟩ = some (.int .i64 tn) ∧ U.cell? ⟨w.heap.size + 1, 2, none⟩ = some (.int .i64 key) ∧ U.cell? ⟨w.heap.size + 1, 3, none⟩ = some (.bool write) ∧ U.cell? ⟨w.heap.size + 1, 4, none⟩ = some (.int .i64 value) ∧ U.cell? ⟨w.heap.size + 1, 5, none⟩ = some (.int .i64 ask))
    (with_reducible first | exact KA.out _ hb3 | exact KA.out _ hb2 | exact KA.out _ hD | exact KA.out _ (Below.refl _ _))
    (first
      | ((go_at_call 30; refine (hBy _).mono ?_; rintro e w2 ⟨bb, bc, rfl, hAs, hb2'⟩; have hb2 : Below W.heap.size W w2 := hD.trans (hb2'.mono hD.size); have hTT := (HS.out _ hb2).locks; simp only [] at hTT))
      | ((go_at_call 29; refine (hIx _ _ _ hTT hAs).mono ?_; rintro e w3 ⟨rfl, hb3'⟩; have hb3 : Below W.heap.size W w3 := hb2.trans (hb3'.mono hb2.size))))
  clear hTT hAs hb3' hb2' hb2 hBy hIx
  go_upto_region 2 with (fail)
  go_cut [14] (fun s14 wc => s14 = .bool T ∧ Below W.heap.size W wc)
  case first =>
    obtain ⟨c0, c1, c2, c3, k0, k1, k2, k3, k4, k5⟩ := KA.out _ hb3
    have hO3 := (HS.out _ hb3).over
    simp only [] at hO3
    have qc0 := fun d os => cell_regrown c0 d os
    have qc1 := fun d os => cell_regrown c1 d os
    have qc2 := fun d os => cell_regrown c2 d os
    have qc3 := fun d os => cell_regrown c3 d os
    have qk0 := fun d os => cell_regrown k0 d os
    have qk1 := fun d os => cell_regrown k1 d os
    have qk5 := fun d os => cell_regrown k5 d os
    clear c0 c1 c2 c3 k0 k1 k2 k3 k4 k5
    cases O with
    | true =>
      have hOq := hOv
      refine wp_region_quiet_below (by kernel_rfl) (by kernel_rfl) ?_
      repeat (go_big_quiet_step ((exact Calls.regrown_of (hOq _ (hO3.below (below_regrown _ _ _))))))
      refine wpQuiet_nil ?_
      intro _ hw'
      obtain ⟨⟨dq, osq⟩, hw''⟩ := hw'
      subst hw''
      have hb4 := hb3.trans ((below_regrown w3 dq osq).mono hb3.size)
      go_wp2
      go_meet
      all_goals exact ⟨by rw [eT.out]; rfl, hb4⟩
    | false =>
      have hOq := hOv
      by_cases h0 : 0 ≤ i
      · obtain ⟨j, rfl⟩ : ∃ j : Nat, i = (j : Int) := ⟨i.toNat, by omega⟩
        have hj : j < ll := by omega
        have hj' : (j : Int) < (ll : Int) := by omega
        obtain ⟨b, off, rfl, zb, hc⟩ := (HS.out _ hb3).locks.2.2.2.2 (by show 0 < ll; omega)
        have e5 := hc j hj 5 (by decide)
        simp only [] at e5
        obtain ⟨x, ex⟩ : ∃ x, x = locks.getD j default := ⟨_, rfl⟩
        have eT' : Hid (T = decide (ask < x.ask)) := by show _ = _; rw [eT.out, ex]; simp
        rw [← ex] at e5
        clear ex hc
        obtain ⟨⟨ks, kn⟩, kk, kw, kv, ka⟩ := x
        simp only [LkV.cells, List.getElem?_cons_zero, List.getElem?_cons_succ] at e5
        simp only [] at eT'
        have qe5 := fun d os => cell_regrown e5 d os
        clear e5
        have hge : decide (0 ≤ (j : Int)) = true := by simp
        refine wp_region_quiet_below (by kernel_rfl) (by kernel_rfl) ?_
        repeat (go_big_quiet_step ((exact Calls.regrown_of (hOq _ (hO3.below (below_regrown _ _ _))))))
        refine wpQuiet_nil ?_
        intro _ hw'
        obtain ⟨⟨dq, osq⟩, hw''⟩ := hw'
        subst hw''
        have hb4 := hb3.trans ((below_regrown w3 dq osq).mono hb3.size)
        go_wp2
        go_meet
        all_goals exact ⟨by rw [eT'.out], hb4⟩
      · have h0' : decide (0 ≤ i) = false := by simp; omega
        refine wp_region_quiet_below (by kernel_rfl) (by kernel_rfl) ?_
        repeat (go_big_quiet_step ((exact Calls.regrown_of (hOq _ (hO3.below (below_regrown _ _ _))))))
        refine wpQuiet_nil ?_
        intro _ hw'
        obtain ⟨⟨dq, osq⟩, hw''⟩ := hw'
        subst hw''
        have hb4 := hb3.trans ((below_regrown w3 dq osq).mono hb3.size)
        go_wp2
        go_meet
        all_goals exact ⟨by rw [eT.out]; simp; intro hx; omega, hb4⟩
  case rest =>
    obtain ⟨rfl, hb4⟩ := hcut
    clear hOv
    cases T with
    | true =>
      go_wp2
      go_ret
      exact ⟨by rw [eR.out]; rfl, hB.trans (hb4.mono hB.size)⟩
    | false =>
      obtain ⟨c0, c1, c2, c3, k0, k1, k2, k3, k4, k5⟩ := KA.out _ hb4
      go_upto_region 4 with (fail)
      clear c0 c1 c2 c3 k0 k1 k2 k3 k4 k5
      have hD4 : Below W.heap.size W wc.drew := hb4.drew
      go_region_held3 (fun U => U.cell? ⟨w.heap.size, 0, none⟩ = some (.slice ia il ic) ∧ U.cell? ⟨w.heap.size, 1, none⟩ = some (.slice la ll lc) ∧ U.cell? ⟨w.heap.size, 2, none⟩ = some (.slice da dl dc) ∧ U.cell? ⟨w.heap.size, 3, none⟩ = some (.slice oa ol oc) ∧ U.cell? ⟨w.heap.size + 1, 0, none⟩ = some (.int .i64 ts) ∧ U.cell? ⟨w.heap.size + 1, 1, none⟩ = some (.int .i64 tn) ∧ U.cell? ⟨w.heap.size + 1, 2, none⟩ = some (.int .i64 key) ∧ U.cell? ⟨w.heap.size + 1, 3, none⟩ = some (.bool write) ∧ U.cell? ⟨w.heap.size + 1, 4, none⟩ = some (.int .i64 value) ∧ U.cell? ⟨w.heap.size + 1, 5, none⟩ = some (.int .i64 ask))
        (with_reducible first | exact KA.out _ hb6 | exact KA.out _ hb5 | exact KA.out _ hD4 | exact KA.out _ hb4)
        (first
          | ((go_at_call 57; refine (hBo _).mono ?_; rintro e w5 ⟨bb, bc, rfl, hAs, hb5'⟩; have hb5 : Below W.heap.size W w5 := hD4.trans (hb5'.mono hD4.size); have hTT := (HS.out _ hb5).locks; simp only [] at hTT))
          | ((go_at_call 41; refine (hCn _ _ _ hTT hAs).mono ?_; rintro e w6 ⟨rfl, hb6'⟩; have hb6 : Below W.heap.size W w6 := hb5.trans (hb6'.mono hb5.size))))
      obtain ⟨c0, c1, c2, c3, k0, k1, k2, k3, k4, k5⟩ := KA.out _ hb6
      cases L with
      | true =>
        go_wp2
        go_ret
        exact ⟨by rw [eR.out]; rfl, hB.trans (hb6.mono hB.size)⟩
      | false =>
        have hI6 := (HS.out _ hb6).items
        simp only [] at hI6
        by_cases hfull : i < 0 ∧ 24 ≤ ll
        · have q1 : i < 0 := hfull.1
          have q2 : (24 : Int) ≤ (ll : Int) := by omega
          go_wp2
          go_ret
          exact ⟨by rw [eR.out]; simp [hfull], hB.trans (hb6.mono hB.size)⟩
        · by_cases hv : 1048576 ≤ iw
          · by_cases h0 : i < 0
            · have q2 : ¬ (24 : Int) ≤ (ll : Int) := by omega
              go_wp2_with (go_at_call 28; refine (hIt _ hI6).mono ?_; rintro e w7 ⟨rfl, hb7⟩)
              go_ret
              exact ⟨by rw [eR.out]; simp [hfull, hv], hB.trans ((hb6.trans (hb7.mono hb6.size)).mono hB.size)⟩
            · go_wp2_with (go_at_call 28; refine (hIt _ hI6).mono ?_; rintro e w7 ⟨rfl, hb7⟩)
              go_ret
              exact ⟨by rw [eR.out]; simp [hfull, hv], hB.trans ((hb6.trans (hb7.mono hb6.size)).mono hB.size)⟩
          · by_cases h0 : i < 0
            · have q2 : ¬ (24 : Int) ≤ (ll : Int) := by omega
              go_wp2_with (go_at_call 28; refine (hIt _ hI6).mono ?_; rintro e w7 ⟨rfl, hb7⟩)
              go_ret
              exact ⟨by rw [eR.out]; simp [hfull, hv], hB.trans ((hb6.trans (hb7.mono hb6.size)).mono hB.size)⟩
            · go_wp2_with (go_at_call 28; refine (hIt _ hI6).mono ?_; rintro e w7 ⟨rfl, hb7⟩)
              go_ret
              exact ⟨by rw [eR.out]; simp [hfull, hv], hB.trans ((hb6.trans (hb7.mono hb6.size)).mono hB.size)⟩

end Go.Proofs.Ytbmbahifkegehab.St
