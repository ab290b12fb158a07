/- Texts of this claim, one behind the other. -/
import Derived.Test.YtekglahigjblkaaGreatDoorM20RecoverRebuilds
import Derived.Test.YtekglahigjblkaaGreatDoorM17RecoverRebuilds
import Derived.Test.YtekglahigjblkaaGreatDoorM14RecoverRebuilds
import Derived.Deep.Cut
import Derived.Lib.QuietBelow
import Derived.Test.YtekglahigjblkaaGreatDoorM13RecoverRebuilds
/- The contracts of store.refuseWrite and Write. -/
namespace Go.Proofs.YtekglahigjblkaaGreatDoor.St
open Go.ChangeShapes Go.WideShapes Go.ChangeAt Go.RowKit
set_option linter.unusedVariables false

theorem fldW (x y z : Int) (w : World) : (Instr.field 68 (.agg #[.int .i64 x, .int .i64 y, .int .i64 z]) 2).run Tryz.prog w = .ok (.int .i64 z) w := by kernel_rfl
def lateT (s : SV) (t : Int × Int) (key ask : Int) : Bool := decide (t ∈ s.over) || (decide (0 ≤ idxI (byT t key) s.locks) && decide (ask < (s.locks.getD (idxI (byT t key) s.locks).toNat default).ask))
def rwErr (s : SV) (t : Int × Int) (key ask : Int) : Int := if lateT s t key ask then 13 else if s.locks.any (othT t key) then 11 else if idxI (byT t key) s.locks < 0 ∧ 24 ≤ s.locks.length then 8 else if 1048576 ≤ (itemAt s.items key).version then 8 else 0
def writeErr (s : SV) (t : Int × Int) (key value ask : Int) : Int := if refErr s t key = 0 then (if inR value 0 1073741824 && inR ask 0 1048576 then rwErr s t key ask else 2) else refErr s t key
def writeData (s : SV) (t : Int × Int) (key value ask : Int) : PS := if writeErr s t key value ask = 0 then ⟨s.items, holdL s.locks ⟨t, key, true, value, ask⟩, holdD s.doubts t, s.over⟩ else PS.nil

set_option maxRecDepth 100000 in
set_option maxHeartbeats 8000000 in
theorem refuseWrite_any (s : SV) (k : LkV) (w : World) (h : IsStore w s) :
    Calls Tryz.prog 65 #[s.val, k.val] w fun e w' => e = .returned (.int .i64 (rwErr s k.t k.key k.ask)) ∧ Below w.heap.size w w' := by
  have hOv := fun w' h1 => isOver_any s k.t w' h1
  have hBy := fun w' => by_any k.t k.key w'
  have hBo := fun w' => byOthers_any k.t k.key w'
  have hIt := fun w' h1 => item_any s k.key w' h1
  have hIx := fun fn cps w' h1 h2 => indexLock_any fn cps (byT k.t k.key) s.la s.ll s.lc s.locks w' h1 h2
  have hCn := fun fn cps w' h1 h2 => containsLock_any fn cps (othT k.t k.key) s.la s.ll s.lc s.locks w' h1 h2
  have hf := fldW
  obtain ⟨R, e0⟩ : ∃ R : Int, R = rwErr s k.t k.key k.ask := ⟨_, rfl⟩
  obtain ⟨O, e1⟩ : ∃ R, R = decide (k.t ∈ s.over) := ⟨_, rfl⟩
  obtain ⟨L, e2⟩ : ∃ R, R = s.locks.any (othT k.t k.key) := ⟨_, rfl⟩
  obtain ⟨i, e3⟩ : ∃ R : Int, R = idxI (byT k.t k.key) s.locks := ⟨_, rfl⟩
  obtain ⟨I, e4⟩ : ∃ R, R = itemAt s.items k.key := ⟨_, rfl⟩
  obtain ⟨T, e5⟩ : ∃ R, R = lateT s k.t k.key k.ask := ⟨_, rfl⟩
  have hi := idxI_lt (p := byT k.t k.key) (l := s.locks)
  rw [h.locks.1] at hi
  have eT : Hid (T = (O || (decide (0 ≤ i) && decide (k.ask < (s.locks.getD i.toNat default).ask)))) := by rw [e1, e3]; exact e5
  have eR : Hid (R = if T then 13 else if L then 11 else if i < 0 ∧ 24 ≤ s.ll then 8 else if 1048576 ≤ I.version then 8 else 0) := by rw [e2, e3, e4, e5, ← h.locks.1]; exact e0
  rw [← e1] at hOv
  rw [← e2] at hCn
  rw [← e3] at hIx hi
  rw [← e4] at hIt
  rw [← e0]
  clear e0 e1 e2 e3 e4 e5
  obtain ⟨ik, iv, iw⟩ := I
  simp only [ItV.val] at hIt eR
  have hh := h
  obtain ⟨ia, il, ic, la, ll, lc, da, dl, dc, oa, ol, oc, items, locks, doubts, over⟩ := s
  obtain ⟨⟨ts, tn⟩, key, write, value, ask⟩ := k
  simp only [SV.val, LkV.val] at *
  obtain ⟨W, hW⟩ : ∃ W : World, W = ((w.alloc (.cells #[.slice ia il ic, .slice la ll lc, .slice da dl dc, .slice oa ol oc] 31)).alloc (.cells #[.int .i64 ts, .int .i64 tn, .int .i64 key, .bool write, .int .i64 value, .int .i64 ask] 70)) := ⟨_, rfl⟩
  have hB : Below w.heap.size w W := by rw [hW]; exact (((Below.refl _ _).alloc (Nat.le_refl _) _).alloc (by simp) _)
  have zW : W.heap.size = w.heap.size + 2 := by rw [hW]; simp
  have zb0 : w.heap.size < W.heap.size := by omega
  have zb1 : w.heap.size + 1 < W.heap.size := by omega
  have HZW : Hid (W.heap.size = w.heap.size + 2) := zW
  clear zW
  have c0 : W.cell? ⟨w.heap.size, 0, none⟩ = some (.slice ia il ic) := by rw [hW]; go_simp
  have c1 : W.cell? ⟨w.heap.size, 1, none⟩ = some (.slice la ll lc) := by rw [hW]; go_simp
  have c2 : W.cell? ⟨w.heap.size, 2, none⟩ = some (.slice da dl dc) := by rw [hW]; go_simp
  have c3 : W.cell? ⟨w.heap.size, 3, none⟩ = some (.slice oa ol oc) := by rw [hW]; go_simp
  have k0 : W.cell? ⟨w.heap.size + 1, 0, none⟩ = some (.int .i64 ts) := by rw [hW]; go_simp
  have k1 : W.cell? ⟨w.heap.size + 1, 1, none⟩ = some (.int .i64 tn) := by rw [hW]; go_simp
  have k2 : W.cell? ⟨w.heap.size + 1, 2, none⟩ = some (.int .i64 key) := by rw [hW]; go_simp
  have k3 : W.cell? ⟨w.heap.size + 1, 3, none⟩ = some (.bool write) := by rw [hW]; go_simp
  have k4 : W.cell? ⟨w.heap.size + 1, 4, none⟩ = some (.int .i64 value) := by rw [hW]; go_simp
  have k5 : W.cell? ⟨w.heap.size + 1, 5, none⟩ = some (.int .i64 ask) := by rw [hW]; go_simp
  have KA : Hid (∀ U : World, Below W.heap.size W U → U.cell? ⟨w.heap.size, 0, none⟩ = some (.slice ia il ic) ∧ U.cell? ⟨w.heap.size, 1, none⟩ = some (.slice la ll lc) ∧ U.cell? ⟨w.heap.size, 2, none⟩ = some (.slice da dl dc) ∧ U.cell? ⟨w.heap.size, 3, none⟩ = some (.slice oa ol oc) ∧ U.cell? ⟨w.heap.size + 1, 0, none⟩ = some (.int .i64 ts) ∧ U.cell? ⟨w.heap.size + 1, 1, none⟩ = some (.int .i64 tn) ∧ U.cell? ⟨w.heap.size + 1, 2, none⟩ = some (.int .i64 key) ∧ U.cell? ⟨w.heap.size + 1, 3, none⟩ = some (.bool write) ∧ U.cell? ⟨w.heap.size + 1, 4, none⟩ = some (.int .i64 value) ∧ U.cell? ⟨w.heap.size + 1, 5, none⟩ = some (.int .i64 ask)) := fun U hU => ⟨(hU.cell (p := ⟨w.heap.size, 0, none⟩) zb0).trans c0, (hU.cell (p := ⟨w.heap.size, 1, none⟩) zb0).trans c1, (hU.cell (p := ⟨w.heap.size, 2, none⟩) zb0).trans c2, (hU.cell (p := ⟨w.heap.size, 3, none⟩) zb0).trans c3, (hU.cell (p := ⟨w.heap.size + 1, 0, none⟩) zb1).trans k0, (hU.cell (p := ⟨w.heap.size + 1, 1, none⟩) zb1).trans k1, (hU.cell (p := ⟨w.heap.size + 1, 2, none⟩) zb1).trans k2, (hU.cell (p := ⟨w.heap.size + 1, 3, none⟩) zb1).trans k3, (hU.cell (p := ⟨w.heap.size + 1, 4, none⟩) zb1).trans k4, (hU.cell (p := ⟨w.heap.size + 1, 5, none⟩) zb1).trans k5⟩
  have hSW := hh.below hB
  have HS : Hid (∀ U : World, Below W.heap.size W U → IsStore U ⟨ia, il, ic, la, ll, lc, da, dl, dc, oa, ol, oc, items, locks, doubts, over⟩) := fun U hU => hSW.below hU
  clear hh h
  go_enter Tryz.func65, Tryz.ntmps65
  go_upto_region 1 with (fail)
  rw [← hW]
  clear hW c0 c1 c2 c3 k0 k1 k2 k3 k4 k5
  have hD : Below W.heap.size W W.drew := (Below.refl _ _).drew
  go_region_held3 (fun U => U.cell? ⟨w.heap.size, 0, none⟩ = some (.slice ia il ic) ∧ U.cell? ⟨w.heap.size, 1, none⟩ = some (.slice la ll lc) ∧ U.cell? ⟨w.heap.size, 2, none⟩ = some (.slice da dl dc) ∧ U.cell? ⟨w.heap.size, 3, none⟩ = some (.slice oa ol oc) ∧ U.cell? ⟨w.heap.size + 1, 0, none⟩ = some (.int .i64 ts) ∧ U.cell? ⟨w.heap.size + 1, 1, none⟩ = some (.int .i64 tn) ∧ U.cell? ⟨w.heap.size + 1, 2, none⟩ = some (.int .i64 key) ∧ U.cell? ⟨w.heap.size + 1, 3, none⟩ = some (.bool write) ∧ U.cell? ⟨w.heap.size + 1, 4, none⟩ = some (.int .i64 value) ∧ U.cell? ⟨w.heap.size + 1, 5, none⟩ = some (.int .i64 ask))
    (with_reducible first | exact KA.out _ hb3 | exact KA.out _ hb2 | exact KA.out _ hD | exact KA.out _ (Below.refl _ _))
    (first
      | ((go_at_call 80; refine (hBy _).mono ?_; rintro e w2 ⟨bb, bc, rfl, hAs, hb2'⟩; have hb2 : Below W.heap.size W w2 := hD.trans (hb2'.mono hD.size); have hTT := (HS.out _ hb2).locks; simp only [] at hTT))
      | ((go_at_call 79; refine (hIx _ _ _ hTT hAs).mono ?_; rintro e w3 ⟨rfl, hb3'⟩; have hb3 : Below W.heap.size W w3 := hb2.trans (hb3'.mono hb2.size))))
  clear hTT hAs hb3' hb2' hb2 hBy hIx
  go_upto_region 2 with (fail)
  go_cut [14] (fun s14 wc => s14 = .bool T ∧ Below W.heap.size W wc)
  case first =>
    obtain ⟨c0, c1, c2, c3, k0, k1, k2, k3, k4, k5⟩ := KA.out _ hb3
    have hO3 := (HS.out _ hb3).over
    simp only [] at hO3
    have qc0 := fun d os => cell_regrown c0 d os
    have qc1 := fun d os => cell_regrown c1 d os
    have qc2 := fun d os => cell_regrown c2 d os
    have qc3 := fun d os => cell_regrown c3 d os
    have qk0 := fun d os => cell_regrown k0 d os
    have qk1 := fun d os => cell_regrown k1 d os
    have qk5 := fun d os => cell_regrown k5 d os
    clear c0 c1 c2 c3 k0 k1 k2 k3 k4 k5
    cases O with
    | true =>
      have hOq := hOv
      refine wp_region_quiet_below (by kernel_rfl) (by kernel_rfl) ?_
      repeat (go_big_quiet_step ((exact Calls.regrown_of (hOq _ (hO3.below (below_regrown _ _ _))))))
      refine wpQuiet_nil ?_
      intro _ hw'
      obtain ⟨⟨dq, osq⟩, hw''⟩ := hw'
      subst hw''
      have hb4 := hb3.trans ((below_regrown w3 dq osq).mono hb3.size)
      go_wp2
      go_meet
      all_goals exact ⟨by rw [eT.out]; rfl, hb4⟩
    | false =>
      have hOq := hOv
      by_cases h0 : 0 ≤ i
      · obtain ⟨j, rfl⟩ : ∃ j : Nat, i = (j : Int) := ⟨i.toNat, by omega⟩
        have hj : j < ll := by omega
        have hj' : (j : Int) < (ll : Int) := by omega
        obtain ⟨b, off, rfl, zb, hc⟩ := (HS.out _ hb3).locks.2.2.2.2 (by show 0 < ll; omega)
        have e5 := hc j hj 5 (by decide)
        simp only [] at e5
        obtain ⟨x, ex⟩ : ∃ x, x = locks.getD j default := ⟨_, rfl⟩
        have eT' : Hid (T = decide (ask < x.ask)) := by show _ = _; rw [eT.out, ex]; simp
        rw [← ex] at e5
        clear ex hc
        obtain ⟨⟨ks, kn⟩, kk, kw, kv, ka⟩ := x
        simp only [LkV.cells, List.getElem?_cons_zero, List.getElem?_cons_succ] at e5
        simp only [] at eT'
        have qe5 := fun d os => cell_regrown e5 d os
        clear e5
        have hge : decide (0 ≤ (j : Int)) = true := by simp
        refine wp_region_quiet_below (by kernel_rfl) (by kernel_rfl) ?_
        repeat (go_big_quiet_step ((exact Calls.regrown_of (hOq _ (hO3.below (below_regrown _ _ _))))))
        refine wpQuiet_nil ?_
        intro _ hw'
        obtain ⟨⟨dq, osq⟩, hw''⟩ := hw'
        subst hw''
        have hb4 := hb3.trans ((below_regrown w3 dq osq).mono hb3.size)
        go_wp2
        go_meet
        all_goals exact ⟨by rw [eT'.out], hb4⟩
      · have h0' : decide (0 ≤ i) = false := by simp; omega
        refine wp_region_quiet_below (by kernel_rfl) (by kernel_rfl) ?_
        repeat (go_big_quiet_step ((exact Calls.regrown_of (hOq _ (hO3.below (below_regrown _ _ _))))))
        refine wpQuiet_nil ?_
        intro _ hw'
        obtain ⟨⟨dq, osq⟩, hw''⟩ := hw'
        subst hw''
        have hb4 := hb3.trans ((below_regrown w3 dq osq).mono hb3.size)
        go_wp2
        go_meet
        all_goals exact ⟨by rw [eT.out]; simp; intro hx; omega, hb4⟩
  case rest =>
    obtain ⟨rfl, hb4⟩ := hcut
    clear hOv
    cases T with
    | true =>
      go_wp2
      go_ret
      exact ⟨by rw [eR.out]; rfl, hB.trans (hb4.mono hB.size)⟩
    | false =>
      obtain ⟨c0, c1, c2, c3, k0, k1, k2, k3, k4, k5⟩ := KA.out _ hb4
      go_upto_region 4 with (fail)
      clear c0 c1 c2 c3 k0 k1 k2 k3 k4 k5
      have hD4 : Below W.heap.size W wc.drew := hb4.drew
      go_region_held3 (fun U => U.cell? ⟨w.heap.size, 0, none⟩ = some (.slice ia il ic) ∧ U.cell? ⟨w.heap.size, 1, none⟩ = some (.slice la ll lc) ∧ U.cell? ⟨w.heap.size, 2, none⟩ = some (.slice da dl dc) ∧ U.cell? ⟨w.heap.size, 3, none⟩ = some (.slice oa ol oc) ∧ U.cell? ⟨w.heap.size + 1, 0, none⟩ = some (.int .i64 ts) ∧ U.cell? ⟨w.heap.size + 1, 1, none⟩ = some (.int .i64 tn) ∧ U.cell? ⟨w.heap.size + 1, 2, none⟩ = some (.int .i64 key) ∧ U.cell? ⟨w.heap.size + 1, 3, none⟩ = some (.bool write) ∧ U.cell? ⟨w.heap.size + 1, 4, none⟩ = some (.int .i64 value) ∧ U.cell? ⟨w.heap.size + 1, 5, none⟩ = some (.int .i64 ask))
        (with_reducible first | exact KA.out _ hb6 | exact KA.out _ hb5 | exact KA.out _ hD4 | exact KA.out _ hb4)
        (first
          | ((go_at_call 82; refine (hBo _).mono ?_; rintro e w5 ⟨bb, bc, rfl, hAs, hb5'⟩; have hb5 : Below W.heap.size W w5 := hD4.trans (hb5'.mono hD4.size); have hTT := (HS.out _ hb5).locks; simp only [] at hTT))
          | ((go_at_call 81; refine (hCn _ _ _ hTT hAs).mono ?_; rintro e w6 ⟨rfl, hb6'⟩; have hb6 : Below W.heap.size W w6 := hb5.trans (hb6'.mono hb5.size))))
      obtain ⟨c0, c1, c2, c3, k0, k1, k2, k3, k4, k5⟩ := KA.out _ hb6
      cases L with
      | true =>
        go_wp2
        go_ret
        exact ⟨by rw [eR.out]; rfl, hB.trans (hb6.mono hB.size)⟩
      | false =>
        have hI6 := (HS.out _ hb6).items
        simp only [] at hI6
        by_cases hfull : i < 0 ∧ 24 ≤ ll
        · have q1 : i < 0 := hfull.1
          have q2 : (24 : Int) ≤ (ll : Int) := by omega
          go_wp2
          go_ret
          exact ⟨by rw [eR.out]; simp [hfull], hB.trans (hb6.mono hB.size)⟩
        · by_cases hv : 1048576 ≤ iw
          · by_cases h0 : i < 0
            · have q2 : ¬ (24 : Int) ≤ (ll : Int) := by omega
              go_wp2_with (go_at_call 83; refine (hIt _ hI6).mono ?_; rintro e w7 ⟨rfl, hb7⟩)
              go_ret
              exact ⟨by rw [eR.out]; simp [hfull, hv], hB.trans ((hb6.trans (hb7.mono hb6.size)).mono hB.size)⟩
            · go_wp2_with (go_at_call 83; refine (hIt _ hI6).mono ?_; rintro e w7 ⟨rfl, hb7⟩)
              go_ret
              exact ⟨by rw [eR.out]; simp [hfull, hv], hB.trans ((hb6.trans (hb7.mono hb6.size)).mono hB.size)⟩
          · by_cases h0 : i < 0
            · have q2 : ¬ (24 : Int) ≤ (ll : Int) := by omega
              go_wp2_with (go_at_call 83; refine (hIt _ hI6).mono ?_; rintro e w7 ⟨rfl, hb7⟩)
              go_ret
              exact ⟨by rw [eR.out]; simp [hfull, hv], hB.trans ((hb6.trans (hb7.mono hb6.size)).mono hB.size)⟩
            · go_wp2_with (go_at_call 83; refine (hIt _ hI6).mono ?_; rintro e w7 ⟨rfl, hb7⟩)
              go_ret
              exact ⟨by rw [eR.out]; simp [hfull, hv], hB.trans ((hb6.trans (hb7.mono hb6.size)).mono hB.size)⟩

end Go.Proofs.YtekglahigjblkaaGreatDoor.St
/- The contract of store.Write. -/
namespace Go.Proofs.YtekglahigjblkaaGreatDoor.St
open Go.ChangeShapes Go.WideShapes Go.ChangeAt Go.RowKit
set_option linter.unusedVariables false

set_option maxRecDepth 100000 in
set_option maxHeartbeats 8000000 in
theorem write_own (s : SV) (t : Int × Int) (key value ask : Int) (w : World) (h : IsStore w s) (hwf : ∀ t ∈ s.over, TxWf t) (h4 : s.ol * 16 ≤ 140737488351232) :
    Calls Tryz.prog 49 #[s.val, .agg #[.int .i64 t.1, .int .i64 t.2], .int .i64 key, .int .i64 value, .int .i64 ask] w fun e w' => ∃ r : SV, e = .returned (.tuple #[r.val, .int .i64 (writeErr s t key value ask)]) ∧ OwnStore w' w.heap.size r ∧ r.data = writeData s t key value ask ∧ Below w.heap.size w w' := by
  have hC := fun w' h1 => refuse_any s t key w' h1 hwf
  have hRW : ∀ w', IsStore w' s → Calls Tryz.prog 65 #[s.val, .agg #[.int .i64 t.1, .int .i64 t.2, .int .i64 key, .bool true, .int .i64 value, .int .i64 ask]] w' fun e w'' => e = .returned (.int .i64 (rwErr s t key ask)) ∧ Below w'.heap.size w' w'' := fun w' h1 => refuseWrite_any s ⟨t, key, true, value, ask⟩ w' h1
  have hOwn := fun w' h1 k1 k2 k3 => own_any s w' h1 k1 k2 k3 h4
  have hok : refErr s t key = 0 → s.il ≤ 8 ∧ s.ll ≤ 24 ∧ s.dl ≤ 24 := fun e => ok_sizes (by cases hs : storeOK s with | true => rfl | false => simp [refErr, hs] at e) h
  have HHO : Hid (∀ (r : SV) (C : Nat) (w' : World), OwnStore w' C r → C ≤ w'.heap.size → r.ll ≤ 100 → r.dl ≤ 100 → Calls Tryz.prog 66 #[r.val, .agg #[.int .i64 t.1, .int .i64 t.2, .int .i64 key, .bool true, .int .i64 value, .int .i64 ask]] w' fun e w'' => ∃ q : SV, e = .returned q.val ∧ q.data = ⟨r.items, holdL r.locks ⟨t, key, true, value, ask⟩, holdD r.doubts t, r.over⟩ ∧ OwnStore w'' C q ∧ Below C w' w'') := fun r C w' g1 g2 g3 g4 => hold_any r ⟨t, key, true, value, ask⟩ C w' g1 g2 g3 g4
  obtain ⟨E, e0⟩ : ∃ R : Int, R = writeErr s t key value ask := ⟨_, rfl⟩
  obtain ⟨D, e1⟩ : ∃ R, R = writeData s t key value ask := ⟨_, rfl⟩
  obtain ⟨F, e4⟩ : ∃ R : Int, R = refErr s t key := ⟨_, rfl⟩
  obtain ⟨G, e6⟩ : ∃ R : Int, R = rwErr s t key ask := ⟨_, rfl⟩
  obtain ⟨A, e7⟩ : ∃ R, R = inR value 0 1073741824 := ⟨_, rfl⟩
  obtain ⟨B, e8⟩ : ∃ R, R = inR ask 0 1048576 := ⟨_, rfl⟩
  have eE : Hid (E = if F = 0 then (if A && B then G else 2) else F) := by rw [e4, e6, e7, e8]; exact e0
  have eD : Hid (D = if E = 0 then ⟨s.items, holdL s.locks ⟨t, key, true, value, ask⟩, holdD s.doubts t, s.over⟩ else PS.nil) := by rw [e0]; exact e1
  have HBAD : Hid (E ≠ 0 → D = PS.nil) := fun hE => by rw [eD.out, if_neg hE]
  rw [← e0, ← e1]
  rw [← e4] at hC hok
  rw [← e6] at hRW
  replace e7 := e7.symm
  replace e8 := e8.symm
  clear e0 e1 e4 e6
  have hh := h
  obtain ⟨ia, il, ic, la, ll, lc, da, dl, dc, oa, ol, oc, items, locks, doubts, over⟩ := s
  obtain ⟨ts, tn⟩ := t
  simp only [SV.val] at *
  obtain ⟨W, hW⟩ : ∃ W : World, W = (((w.alloc (.cells #[.slice ia il ic, .slice la ll lc, .slice da dl dc, .slice oa ol oc] 31)).alloc (.cells #[.int .i64 ts, .int .i64 tn] 51)).alloc (.cells #[.slice none 0 0, .slice none 0 0, .slice none 0 0, .slice none 0 0] 31)) := ⟨_, rfl⟩
  have hB : Below w.heap.size w W := by rw [hW]; exact ((((Below.refl _ _).alloc (Nat.le_refl _) _).alloc (by simp) _).alloc (by simp; omega) _)
  have zW : W.heap.size = w.heap.size + 3 := by rw [hW]; simp
  have zb0 : w.heap.size < W.heap.size := by omega
  have zb1 : w.heap.size + 1 < W.heap.size := by omega
  have zb2 : w.heap.size + 1 + 1 < W.heap.size := by omega
  have HZW : Hid (W.heap.size = w.heap.size + 3) := zW
  clear zW
  have c0 : W.cell? ⟨w.heap.size, 0, none⟩ = some (.slice ia il ic) := by rw [hW]; go_simp
  have c1 : W.cell? ⟨w.heap.size, 1, none⟩ = some (.slice la ll lc) := by rw [hW]; go_simp
  have c2 : W.cell? ⟨w.heap.size, 2, none⟩ = some (.slice da dl dc) := by rw [hW]; go_simp
  have c3 : W.cell? ⟨w.heap.size, 3, none⟩ = some (.slice oa ol oc) := by rw [hW]; go_simp
  have t0 : W.cell? ⟨w.heap.size + 1, 0, none⟩ = some (.int .i64 ts) := by rw [hW]; go_simp
  have t1 : W.cell? ⟨w.heap.size + 1, 1, none⟩ = some (.int .i64 tn) := by rw [hW]; go_simp
  have r0 : W.cell? ⟨w.heap.size + 1 + 1, 0, none⟩ = some (.slice none 0 0) := by rw [hW]; go_simp
  have r1 : W.cell? ⟨w.heap.size + 1 + 1, 1, none⟩ = some (.slice none 0 0) := by rw [hW]; go_simp
  have r2 : W.cell? ⟨w.heap.size + 1 + 1, 2, none⟩ = some (.slice none 0 0) := by rw [hW]; go_simp
  have r3 : W.cell? ⟨w.heap.size + 1 + 1, 3, none⟩ = some (.slice none 0 0) := by rw [hW]; go_simp
  have rf0 : W.frozen? ⟨w.heap.size + 1 + 1, 0, none⟩ = false := by rw [hW]; go_simp
  have rf1 : W.frozen? ⟨w.heap.size + 1 + 1, 1, none⟩ = false := by rw [hW]; go_simp
  have rf2 : W.frozen? ⟨w.heap.size + 1 + 1, 2, none⟩ = false := by rw [hW]; go_simp
  have rf3 : W.frozen? ⟨w.heap.size + 1 + 1, 3, none⟩ = false := by rw [hW]; go_simp
  have rz : w.heap.size + 1 + 1 < W.heap.size := zb2
  have KA : Hid (∀ U : World, Below W.heap.size W U → U.cell? ⟨w.heap.size, 0, none⟩ = some (.slice ia il ic) ∧ U.cell? ⟨w.heap.size, 1, none⟩ = some (.slice la ll lc) ∧ U.cell? ⟨w.heap.size, 2, none⟩ = some (.slice da dl dc) ∧ U.cell? ⟨w.heap.size, 3, none⟩ = some (.slice oa ol oc) ∧ U.cell? ⟨w.heap.size + 1, 0, none⟩ = some (.int .i64 ts) ∧ U.cell? ⟨w.heap.size + 1, 1, none⟩ = some (.int .i64 tn) ∧ U.cell? ⟨w.heap.size + 1 + 1, 0, none⟩ = some (.slice none 0 0) ∧ U.cell? ⟨w.heap.size + 1 + 1, 1, none⟩ = some (.slice none 0 0) ∧ U.cell? ⟨w.heap.size + 1 + 1, 2, none⟩ = some (.slice none 0 0) ∧ U.cell? ⟨w.heap.size + 1 + 1, 3, none⟩ = some (.slice none 0 0) ∧ U.frozen? ⟨w.heap.size + 1 + 1, 0, none⟩ = false ∧ U.frozen? ⟨w.heap.size + 1 + 1, 1, none⟩ = false ∧ U.frozen? ⟨w.heap.size + 1 + 1, 2, none⟩ = false ∧ U.frozen? ⟨w.heap.size + 1 + 1, 3, none⟩ = false ∧ w.heap.size + 1 + 1 < U.heap.size) := fun U hU => ⟨(hU.cell (p := ⟨w.heap.size, 0, none⟩) zb0).trans c0, (hU.cell (p := ⟨w.heap.size, 1, none⟩) zb0).trans c1, (hU.cell (p := ⟨w.heap.size, 2, none⟩) zb0).trans c2, (hU.cell (p := ⟨w.heap.size, 3, none⟩) zb0).trans c3, (hU.cell (p := ⟨w.heap.size + 1, 0, none⟩) zb1).trans t0, (hU.cell (p := ⟨w.heap.size + 1, 1, none⟩) zb1).trans t1, (hU.cell (p := ⟨w.heap.size + 1 + 1, 0, none⟩) zb2).trans r0, (hU.cell (p := ⟨w.heap.size + 1 + 1, 1, none⟩) zb2).trans r1, (hU.cell (p := ⟨w.heap.size + 1 + 1, 2, none⟩) zb2).trans r2, (hU.cell (p := ⟨w.heap.size + 1 + 1, 3, none⟩) zb2).trans r3, (hU.frozen (p := ⟨w.heap.size + 1 + 1, 0, none⟩) zb2).trans rf0, (hU.frozen (p := ⟨w.heap.size + 1 + 1, 1, none⟩) zb2).trans rf1, (hU.frozen (p := ⟨w.heap.size + 1 + 1, 2, none⟩) zb2).trans rf2, (hU.frozen (p := ⟨w.heap.size + 1 + 1, 3, none⟩) zb2).trans rf3, Nat.lt_of_lt_of_le zb2 hU.size⟩
  have hSW := hh.below hB
  have HS : Hid (∀ U : World, Below W.heap.size W U → IsStore U ⟨ia, il, ic, la, ll, lc, da, dl, dc, oa, ol, oc, items, locks, doubts, over⟩) := fun U hU => hSW.below hU
  clear hh h
  go_enter Tryz.func49, Tryz.ntmps49
  go_upto_region 1 with (fail)
  rw [← hW]
  clear hW
  by_cases hF : F = 0
  · subst hF
    obtain ⟨q1, q2, q3⟩ := hok rfl
    clear hok
    by_cases hAB : (A && B) = true
    · obtain ⟨rfl, rfl⟩ : A = true ∧ B = true := by simpa using hAB
      go_upto_region 7 with (first
        | (go_at_call 62; refine (hC _ hSW).mono ?_; rintro e w1 ⟨rfl, hb1⟩; clear c0 c1 c2 c3 t0 t1 r0 r1 r2 r3 rf0 rf1 rf2 rf3 rz; obtain ⟨c0, c1, c2, c3, t0, t1, r0, r1, r2, r3, rf0, rf1, rf2, rf3, rz⟩ := KA.out _ hb1)
        | (go_at_call 63; refine (value_any _ _).mono ?_; rintro e u ⟨rfl, hu⟩; rw [hu, e7]; clear hu)
        | (go_at_call 64; refine (isAsk_any _ _).mono ?_; rintro e u ⟨rfl, hu⟩; rw [hu, e8]; clear hu))
      obtain ⟨X, hX⟩ : ∃ X : World, X = w1.alloc (.cells #[.int .i64 ts, .int .i64 tn, .int .i64 key, .bool true, .int .i64 value, .int .i64 ask] 70) := ⟨_, rfl⟩
      have bx : BoxN X w1.heap.size 6 [.int .i64 ts, .int .i64 tn, .int .i64 key, .bool true, .int .i64 value, .int .i64 ask] := by rw [hX]; exact boxn_new w1 #[.int .i64 ts, .int .i64 tn, .int .i64 key, .bool true, .int .i64 value, .int .i64 ask] 70 6 rfl
      have hbX : Below W.heap.size W X := by rw [hX]; exact hb1.alloc hb1.size _
      have zm : W.heap.size ≤ w1.heap.size := hb1.size
      rw [← hX]
      clear hX c0 c1 c2 c3 t0 t1 r0 r1 r2 r3 rf0 rf1 rf2 rf3 rz
      obtain ⟨m, em⟩ : ∃ m, m = w1.heap.size := ⟨_, rfl⟩
      rw [← em] at bx zm ⊢
      clear em
      obtain ⟨c0, c1, c2, c3, t0, t1, r0, r1, r2, r3, rf0, rf1, rf2, rf3, rz⟩ := KA.out _ hbX
      have hS1 := HS.out _ hbX
      have k0 := (bx.c 0 (by decide)).1
      have k1 := (bx.c 1 (by decide)).1
      have k2 := (bx.c 2 (by decide)).1
      have k3 := (bx.c 3 (by decide)).1
      have k4 := (bx.c 4 (by decide)).1
      have k5 := (bx.c 5 (by decide)).1
      simp only [List.getD_cons_zero, List.getD_cons_succ] at k0 k1 k2 k3 k4 k5
      have bxl := bx.lt
      go_upto_region 8 with (go_at_call 65; refine (hRW _ hS1).mono ?_; rintro e w5 ⟨rfl, hb5'⟩)
      have hb5 : Below W.heap.size W w5 := hbX.trans (hb5'.mono hbX.size)
      clear c0 c1 c2 c3 t0 t1 r0 r1 r2 r3 rf0 rf1 rf2 rf3 rz k0 k1 k2 k3 k4 k5
      have bx5 := bx.below hb5' bx.lt
      clear bx
      by_cases hG : G = 0
      · subst hG
        have hE : E = 0 := by rw [eE.out]; simp
        have yD : Hid (D = ⟨items, holdL locks ⟨(ts, tn), key, true, value, ask⟩, holdD doubts (ts, tn), over⟩) := by show _ = _; rw [eD.out, if_pos hE]
        go_upto_region 10 with (fail)
        have hD5 : Below w5.heap.size w5 w5.drew := (Below.refl _ _).drew
        have KY : Hid (∀ U, Below w5.heap.size w5 U → U.cell? ⟨w.heap.size, 0, none⟩ = some (.slice ia il ic) ∧ U.cell? ⟨w.heap.size, 1, none⟩ = some (.slice la ll lc) ∧ U.cell? ⟨w.heap.size, 2, none⟩ = some (.slice da dl dc) ∧ U.cell? ⟨w.heap.size, 3, none⟩ = some (.slice oa ol oc) ∧ U.cell? ⟨m, 0, none⟩ = some (.int .i64 ts) ∧ U.cell? ⟨m, 1, none⟩ = some (.int .i64 tn) ∧ U.cell? ⟨m, 2, none⟩ = some (.int .i64 key) ∧ U.cell? ⟨m, 3, none⟩ = some (.bool true) ∧ U.cell? ⟨m, 4, none⟩ = some (.int .i64 value) ∧ U.cell? ⟨m, 5, none⟩ = some (.int .i64 ask)) := fun U hU => by
          obtain ⟨c0, c1, c2, c3, t0, t1, r0, r1, r2, r3, rf0, rf1, rf2, rf3, rz⟩ := KA.out _ (hb5.trans (hU.mono hb5.size))
          have bb := bx5.below hU bx5.lt
          exact ⟨c0, c1, c2, c3, (bb.c 0 (by decide)).1, (bb.c 1 (by decide)).1, (bb.c 2 (by decide)).1, (bb.c 3 (by decide)).1, (bb.c 4 (by decide)).1, (bb.c 5 (by decide)).1⟩
        have KF : Hid (∀ (U : World) (p0 p1 p2 p3 : Value), Below w5.heap.size w5 U → ((((U.setCell ⟨w.heap.size + 1 + 1, 0, none⟩ p0).setCell ⟨w.heap.size + 1 + 1, 1, none⟩ p1).setCell ⟨w.heap.size + 1 + 1, 2, none⟩ p2).setCell ⟨w.heap.size + 1 + 1, 3, none⟩ p3).cell? ⟨w.heap.size, 0, none⟩ = some (.slice ia il ic) ∧ ((((U.setCell ⟨w.heap.size + 1 + 1, 0, none⟩ p0).setCell ⟨w.heap.size + 1 + 1, 1, none⟩ p1).setCell ⟨w.heap.size + 1 + 1, 2, none⟩ p2).setCell ⟨w.heap.size + 1 + 1, 3, none⟩ p3).cell? ⟨w.heap.size, 1, none⟩ = some (.slice la ll lc) ∧ ((((U.setCell ⟨w.heap.size + 1 + 1, 0, none⟩ p0).setCell ⟨w.heap.size + 1 + 1, 1, none⟩ p1).setCell ⟨w.heap.size + 1 + 1, 2, none⟩ p2).setCell ⟨w.heap.size + 1 + 1, 3, none⟩ p3).cell? ⟨w.heap.size, 2, none⟩ = some (.slice da dl dc) ∧ ((((U.setCell ⟨w.heap.size + 1 + 1, 0, none⟩ p0).setCell ⟨w.heap.size + 1 + 1, 1, none⟩ p1).setCell ⟨w.heap.size + 1 + 1, 2, none⟩ p2).setCell ⟨w.heap.size + 1 + 1, 3, none⟩ p3).cell? ⟨w.heap.size, 3, none⟩ = some (.slice oa ol oc) ∧ ((((U.setCell ⟨w.heap.size + 1 + 1, 0, none⟩ p0).setCell ⟨w.heap.size + 1 + 1, 1, none⟩ p1).setCell ⟨w.heap.size + 1 + 1, 2, none⟩ p2).setCell ⟨w.heap.size + 1 + 1, 3, none⟩ p3).cell? ⟨m, 0, none⟩ = some (.int .i64 ts) ∧ ((((U.setCell ⟨w.heap.size + 1 + 1, 0, none⟩ p0).setCell ⟨w.heap.size + 1 + 1, 1, none⟩ p1).setCell ⟨w.heap.size + 1 + 1, 2, none⟩ p2).setCell ⟨w.heap.size + 1 + 1, 3, none⟩ p3).cell? ⟨m, 1, none⟩ = some (.int .i64 tn) ∧ ((((U.setCell ⟨w.heap.size + 1 + 1, 0, none⟩ p0).setCell ⟨w.heap.size + 1 + 1, 1, none⟩ p1).setCell ⟨w.heap.size + 1 + 1, 2, none⟩ p2).setCell ⟨w.heap.size + 1 + 1, 3, none⟩ p3).cell? ⟨m, 2, none⟩ = some (.int .i64 key) ∧ ((((U.setCell ⟨w.heap.size + 1 + 1, 0, none⟩ p0).setCell ⟨w.heap.size + 1 + 1, 1, none⟩ p1).setCell ⟨w.heap.size + 1 + 1, 2, none⟩ p2).setCell ⟨w.heap.size + 1 + 1, 3, none⟩ p3).cell? ⟨m, 3, none⟩ = some (.bool true) ∧ ((((U.setCell ⟨w.heap.size + 1 + 1, 0, none⟩ p0).setCell ⟨w.heap.size + 1 + 1, 1, none⟩ p1).setCell ⟨w.heap.size + 1 + 1, 2, none⟩ p2).setCell ⟨w.heap.size + 1 + 1, 3, none⟩ p3).cell? ⟨m, 4, none⟩ = some (.int .i64 value) ∧ ((((U.setCell ⟨w.heap.size + 1 + 1, 0, none⟩ p0).setCell ⟨w.heap.size + 1 + 1, 1, none⟩ p1).setCell ⟨w.heap.size + 1 + 1, 2, none⟩ p2).setCell ⟨w.heap.size + 1 + 1, 3, none⟩ p3).cell? ⟨m, 5, none⟩ = some (.int .i64 ask)) := fun U p0 p1 p2 p3 hU => by
          obtain ⟨l0, l1, l2, l3, l4, l5, l6, l7, l8, l9⟩ := KY.out _ hU
          exact ⟨(cell_four (by omega) _ _ _ _).trans l0, (cell_four (by omega) _ _ _ _).trans l1, (cell_four (by omega) _ _ _ _).trans l2, (cell_four (by omega) _ _ _ _).trans l3, (cell_four (by omega) _ _ _ _).trans l4, (cell_four (by omega) _ _ _ _).trans l5, (cell_four (by omega) _ _ _ _).trans l6, (cell_four (by omega) _ _ _ _).trans l7, (cell_four (by omega) _ _ _ _).trans l8, (cell_four (by omega) _ _ _ _).trans l9⟩
        have hS5 := HS.out _ (hb5.trans (hD5.mono hb5.size))
        have z5 : W.heap.size ≤ w5.heap.size := hb5.size
        go_region_held3 (fun U => U.cell? ⟨w.heap.size, 0, none⟩ = some (.slice ia il ic) ∧ U.cell? ⟨w.heap.size, 1, none⟩ = some (.slice la ll lc) ∧ U.cell? ⟨w.heap.size, 2, none⟩ = some (.slice da dl dc) ∧ U.cell? ⟨w.heap.size, 3, none⟩ = some (.slice oa ol oc) ∧ U.cell? ⟨m, 0, none⟩ = some (.int .i64 ts) ∧ U.cell? ⟨m, 1, none⟩ = some (.int .i64 tn) ∧ U.cell? ⟨m, 2, none⟩ = some (.int .i64 key) ∧ U.cell? ⟨m, 3, none⟩ = some (.bool true) ∧ U.cell? ⟨m, 4, none⟩ = some (.int .i64 value) ∧ U.cell? ⟨m, 5, none⟩ = some (.int .i64 ask)) (with_reducible first | exact KY.out _ hb7 | exact KF.out _ _ _ _ _ hb7 | exact KY.out _ hb6 | exact KY.out _ hD5 | exact KY.out _ (Below.refl _ _)) (first | ((go_at_call 67; refine (hOwn _ hS5 (by omega) (by omega) (by omega)).mono ?_; rintro e w6 ⟨⟨a0, n0, u0, a1, n1, u1, a2, n2, u2, a3, n3, u3, items', locks', doubts', over'⟩, rfl, hsame, hown, hb6'⟩; obtain ⟨v1, v2, v3, v4, v5, v6, v7, v8⟩ := hsame; simp only [] at v1 v2 v3 v4 v5 v6 v7 v8; obtain rfl := v1.symm; obtain rfl := v2.symm; obtain rfl := v3.symm; obtain rfl := v4.symm; obtain rfl := v5.symm; obtain rfl := v6.symm; obtain rfl := v7.symm; obtain rfl := v8.symm; simp only []; have hb6 : Below w5.heap.size w5 w6 := hD5.trans (hb6'.mono hD5.size); have hHo := HHO.out _ _ w6 hown hb6.size (by show ll ≤ 100; omega) (by show dl ≤ 100; omega); simp only [] at hHo)) | ((go_at_call 66; refine hHo.mono ?_; rintro e w7 ⟨⟨p0, m0, q0', p1, m1, q1', p2, m2, q2', p3, m3, q3', items2, locks2, doubts2, over2⟩, rfl, hqd, hqo, hb7'⟩; simp only []; have hb7 : Below w5.heap.size w5 w7 := hb6.trans hb7'; obtain ⟨c0, c1, c2, c3, t0, t1, r0, r1, r2, r3, rf0, rf1, rf2, rf3, rz⟩ := KA.out _ (hb5.trans (hb7.mono hb5.size)))))
        all_goals
          go_wp2
          refine bodyPost_ret (v := .tuple #[.agg #[.slice p0 m0 q0', .slice p1 m1 q1', .slice p2 m2 q2', .slice p3 m3 q3'], .int .i64 0]) (by simp [results, Tryz.results49, go_sem, r0, r1, r2, r3]) rfl ?_
          rw [yD.out]
          try rw [hE]
          exact ⟨⟨p0, m0, q0', p1, m1, q1', p2, m2, q2', p3, m3, q3', items2, locks2, doubts2, over2⟩, rfl, (hqo.four (b := w.heap.size + 1 + 1) (by show _ < w5.heap.size; omega) (.slice p0 m0 q0') (.slice p1 m1 q1') (.slice p2 m2 q2') (.slice p3 m3 q3')).base (Nat.le_trans hB.size hb5.size), hqd, below_four (hB.trans ((hb5.trans (hb7.mono hb5.size)).mono hB.size)) (by omega) (.slice p0 m0 q0') (.slice p1 m1 q1') (.slice p2 m2 q2') (.slice p3 m3 q3')⟩
      · have hEE : E = G := by rw [eE.out]; simp
        have hE : E ≠ 0 := by rw [hEE]; exact hG
        obtain ⟨c0, c1, c2, c3, t0, t1, r0, r1, r2, r3, rf0, rf1, rf2, rf3, rz⟩ := KA.out _ hb5
        go_wp2
        refine bodyPost_ret (v := .tuple #[.agg #[.slice none 0 0, .slice none 0 0, .slice none 0 0, .slice none 0 0], .int .i64 G]) (by simp [results, Tryz.results49, go_sem, r0, r1, r2, r3]) rfl ?_
        have y3 := HBAD.out hE
        rw [y3]
        try rw [hEE]
        exact ⟨SV.nil, rfl, ownStore_nil _ _, rfl, below_four (hB.trans (hb5.mono hB.size)) (by omega) (.slice none 0 0) (.slice none 0 0) (.slice none 0 0) (.slice none 0 0)⟩
    · have hEE : E = 2 := by rw [eE.out]; simp [hAB]
      have hE : E ≠ 0 := by rw [hEE]; decide
      have hAB' : A = false ∨ (A = true ∧ B = false) := by cases A <;> cases B <;> simp_all
      rcases hAB' with rfl | ⟨rfl, rfl⟩
      all_goals
        go_wp2_with (first
          | (go_at_call 62; refine (hC _ hSW).mono ?_; rintro e w1 ⟨rfl, hb1⟩; clear c0 c1 c2 c3 t0 t1 r0 r1 r2 r3 rf0 rf1 rf2 rf3 rz; obtain ⟨c0, c1, c2, c3, t0, t1, r0, r1, r2, r3, rf0, rf1, rf2, rf3, rz⟩ := KA.out _ hb1)
          | (go_at_call 63; refine (value_any _ _).mono ?_; rintro e u ⟨rfl, hu⟩; rw [hu, e7]; clear hu)
          | (go_at_call 64; refine (isAsk_any _ _).mono ?_; rintro e u ⟨rfl, hu⟩; rw [hu, e8]; clear hu))
        refine bodyPost_ret (v := .tuple #[.agg #[.slice none 0 0, .slice none 0 0, .slice none 0 0, .slice none 0 0], .int .i64 2]) (by simp [results, Tryz.results49, go_sem, r0, r1, r2, r3]) rfl ?_
        have y3 := HBAD.out hE
        rw [y3]
        try rw [hEE]
        exact ⟨SV.nil, rfl, ownStore_nil _ _, rfl, below_four (hB.trans (hb1.mono hB.size)) (by omega) (.slice none 0 0) (.slice none 0 0) (.slice none 0 0) (.slice none 0 0)⟩
  · have hE : E ≠ 0 := by rw [eE.out, if_neg hF]; exact hF
    have hEE : E = F := by rw [eE.out, if_neg hF]
    go_wp2_with (go_at_call 62; refine (hC _ hSW).mono ?_; rintro e w1 ⟨rfl, hb1⟩; clear c0 c1 c2 c3 t0 t1 r0 r1 r2 r3 rf0 rf1 rf2 rf3 rz; obtain ⟨c0, c1, c2, c3, t0, t1, r0, r1, r2, r3, rf0, rf1, rf2, rf3, rz⟩ := KA.out _ hb1)
    refine bodyPost_ret (v := .tuple #[.agg #[.slice none 0 0, .slice none 0 0, .slice none 0 0, .slice none 0 0], .int .i64 F]) (by simp [results, Tryz.results49, go_sem, r0, r1, r2, r3]) rfl ?_
    have y3 := HBAD.out hE
    rw [y3]
    try rw [hEE]
    exact ⟨SV.nil, rfl, ownStore_nil _ _, rfl, below_four (hB.trans (hb1.mono hB.size)) (by omega) (.slice none 0 0) (.slice none 0 0) (.slice none 0 0) (.slice none 0 0)⟩
theorem write_any (s : SV) (t : Int × Int) (key value ask : Int) (w : World) (h : IsStore w s) (hwf : ∀ t ∈ s.over, TxWf t) (h4 : s.ol * 16 ≤ 140737488351232) :
    Calls Tryz.prog 49 #[s.val, .agg #[.int .i64 t.1, .int .i64 t.2], .int .i64 key, .int .i64 value, .int .i64 ask] w fun e w' => ∃ r : SV, e = .returned (.tuple #[r.val, .int .i64 (writeErr s t key value ask)]) ∧ IsStore w' r ∧ r.data = writeData s t key value ask ∧ Below w.heap.size w w' :=
  (write_own s t key value ask w h hwf h4).mono fun e w' ⟨r, q1, q2, q3⟩ => ⟨r, q1, q2.isStore, q3⟩
end Go.Proofs.YtekglahigjblkaaGreatDoor.St
/- Contracts of store.writes, and of the function that it hands back. -/
namespace Go.Proofs.YtekglahigjblkaaGreatDoor.St
open Go.ChangeShapes Go.WideShapes Go.ChangeAt Go.RowKit
set_option linter.unusedVariables false

def wrT (ky : Int) (k : LkV) : Bool := k.write && decide (k.key = ky)
end Go.Proofs.YtekglahigjblkaaGreatDoor.St
