/- Texts of this claim, one behind the other. -/
import Derived.Test.YtekglahigjblkaaGreatDoorM13RecoverRebuilds
import Derived.Test.YtekglahigjblkaaGreatDoorM15RecoverRebuilds
import Derived.Test.YtekglahigjblkaaGreatDoorM4RecoverRebuilds
import Derived.Deep.DeepCutAuto
import Derived.Deep.CutBlock
/- Contracts of store.doubtOf, and of the function that it hands back. -/
namespace Go.Proofs.YtekglahigjblkaaGreatDoor.St
open Go.ChangeShapes Go.WideShapes Go.ChangeAt Go.RowKit
set_option linter.unusedVariables false

set_option maxHeartbeats 1000000 in
theorem doubtOf_asks (b0 : Nat) (t : Int × Int) (w : World) (c00 : w.cell? ⟨b0, 0, none⟩ = some (.int .i64 t.1)) (c01 : w.cell? ⟨b0, 1, none⟩ = some (.int .i64 t.2)) (z0 : b0 < w.heap.size) : Asks 92 #[.pointer (some ⟨b0, 0, none⟩)] DbV.val (dbT t) w := by
  refine ⟨enters_of Tryz.func92 (by kernel_rfl) rfl, fun x w' hb => ?_⟩
  rw [← hb.cell (p := ⟨b0, 0, none⟩) z0] at c00
  rw [← hb.cell (p := ⟨b0, 1, none⟩) z0] at c01
  have y0 := Nat.lt_of_lt_of_le z0 hb.size
  obtain ⟨ts, tn⟩ := t
  obtain ⟨⟨site, num⟩, age⟩ := x
  simp only [DbV.val] at *
  have hA : ∀ o, Below w'.heap.size w' (w'.alloc o) := fun o => (Below.refl _ _).alloc (Nat.le_refl _) _
  show Calls Tryz.prog 92 #[_, .pointer (some ⟨b0, 0, none⟩)] w' _
  go_enter Tryz.func92, Tryz.ntmps92
  go_wp2
  all_goals go_ret
  all_goals exact ⟨ret_bool (by first | (simp_all [dbT]; done) | (simp_all [dbT]; rfl)), hA _⟩
theorem doubtOf_any (t : Int × Int) (w : World) :
    Calls Tryz.prog 74 #[.agg #[.int .i64 t.1, .int .i64 t.2]] w fun e w' => ∃ b0 : Nat, e = .returned (.func (.func 92) #[] #[.pointer (some ⟨b0, 0, none⟩)]) ∧ Asks 92 #[.pointer (some ⟨b0, 0, none⟩)] DbV.val (dbT t) w' ∧ Below w.heap.size w w' := by
  obtain ⟨ts, tn⟩ := t
  simp only
  obtain ⟨W, hW⟩ : ∃ W : World, W = (w.alloc (.cells #[.int .i64 ts, .int .i64 tn] 51)) := ⟨_, rfl⟩
  have hB : Below w.heap.size w W := by rw [hW]; exact ((Below.refl _ _).alloc (Nat.le_refl _) _)
  have zW : W.heap.size = w.heap.size + 1 := by rw [hW]; simp
  have c00 : W.cell? ⟨w.heap.size, 0, none⟩ = some (.int .i64 ts) := by rw [hW]; go_simp
  have c01 : W.cell? ⟨w.heap.size, 1, none⟩ = some (.int .i64 tn) := by rw [hW]; go_simp
  have hq := doubtOf_asks w.heap.size (ts, tn) W c00 c01 (by omega)
  go_enter Tryz.func74, Tryz.ntmps74
  go_wp2
  rw [← hW]
  go_ret
  exact ⟨_, rfl, hq, hB⟩
end Go.Proofs.YtekglahigjblkaaGreatDoor.St
/- Contracts of store.isOver, doubtsMayBe and Check: what a store that may be is. -/
namespace Go.Proofs.YtekglahigjblkaaGreatDoor.St
open Go.ChangeShapes Go.WideShapes Go.ChangeAt Go.RowKit
set_option linter.unusedVariables false

theorem isOver_any (s : SV) (t : Int × Int) (w : World) (h : IsTxns w s.oa s.ol s.oc s.over) :
    Calls Tryz.prog 75 #[s.val, .agg #[.int .i64 t.1, .int .i64 t.2]] w fun e w' => e = .returned (.bool (decide (t ∈ s.over))) ∧ Below w.heap.size w w' := by
  have hC := fun w' h1 => containsTxn_any t s.oa s.ol s.oc s.over w' h1
  obtain ⟨ia, il, ic, la, ll, lc, da, dl, dc, oa, ol, oc, items, locks, doubts, over⟩ := s
  obtain ⟨ts, tn⟩ := t
  simp only [SV.val] at *
  have hB : Below w.heap.size w ((w.alloc (.cells #[.slice ia il ic, .slice la ll lc, .slice da dl dc, .slice oa ol oc] 31)).alloc (.cells #[.int .i64 ts, .int .i64 tn] 51)) := ((Below.refl _ _).alloc (Nat.le_refl _) _).alloc (by simp) _
  have hX := h.below hB
  go_enter Tryz.func75, Tryz.ntmps75
  go_wp2_with (go_at_call 93; refine (hC _ hX).mono ?_; rintro e w1 ⟨rfl, hb1⟩)
  go_ret
  exact ⟨rfl, hB.trans (hb1.mono hB.size)⟩

theorem doubtsGo_at {ls : List LkV} {ov : List (Int × Int)} {xs : List DbV} {k : Nat} (hk : k < xs.length) (h : doubtsGo ls ov [] xs = doubtsGo ls ov (xs.take k) (xs.drop k)) :
    doubtsGo ls ov [] xs = (inR (xs.getD k default).age 0 1048576 && ls.any (ofT (xs.getD k default).t) && !((xs.take k).any (dbT (xs.getD k default).t)) && !(decide ((xs.getD k default).t ∈ ov)) && doubtsGo ls ov (xs.take (k + 1)) (xs.drop (k + 1))) := by
  rw [h, drop_at hk, take_at hk]
  rfl
theorem all_at {p : LkV → Bool} {xs : List LkV} {k : Nat} (hk : k < xs.length) (h : xs.all p = (xs.drop k).all p) : xs.all p = (p (xs.getD k default) && (xs.drop (k + 1)).all p) := by
  rw [h, drop_at hk]
  rfl

set_option maxRecDepth 100000 in
set_option maxHeartbeats 8000000 in
theorem doubtsMayBe_any (s : SV) (w : World) (h : IsStore w s) :
    Calls Tryz.prog 101 #[s.val] w fun e w' => e = .returned (.bool (doubtsOK s.doubts s.locks s.over)) ∧ Below w.heap.size w w' := by
  have hOv := fun t w' h1 => isOver_any s t w' h1
  have hh := h
  obtain ⟨ia, il, ic, la, ll, lc, da, dl, dc, oa, ol, oc, items, locks, doubts, over⟩ := s
  obtain ⟨hI, hL, hD, hO⟩ := h
  simp only [SV.val] at *
  have e0 : Hid (doubtsOK doubts locks over = (doubtsGo locks over [] doubts && locks.all (fun k => doubts.any (dbT k.t)))) := rfl
  obtain ⟨hlen, hcap, hmax, _, hmem⟩ := hD
  obtain ⟨llen, lcap, lmax, _, lmem⟩ := hL
  have HL : Hid (doubts.length = dl) := hlen
  have HLL : Hid (locks.length = ll) := llen
  clear hlen llen
  unfold maxLen at hmax lmax
  obtain ⟨W, hW⟩ : ∃ W : World, W = w.alloc (.cells #[.slice ia il ic, .slice la ll lc, .slice da dl dc, .slice oa ol oc] 31) := ⟨_, rfl⟩
  have hB : Below w.heap.size w W := by rw [hW]; exact (Below.refl _ _).alloc (Nat.le_refl _) _
  have zW : w.heap.size < W.heap.size := by rw [hW]; simp
  have c0 : W.cell? ⟨w.heap.size, 0, none⟩ = some (.slice ia il ic) := by rw [hW]; go_simp
  have c1 : W.cell? ⟨w.heap.size, 1, none⟩ = some (.slice la ll lc) := by rw [hW]; go_simp
  have c2 : W.cell? ⟨w.heap.size, 2, none⟩ = some (.slice da dl dc) := by rw [hW]; go_simp
  have c3 : W.cell? ⟨w.heap.size, 3, none⟩ = some (.slice oa ol oc) := by rw [hW]; go_simp
  have KA : Hid (∀ U : World, Below W.heap.size W U → U.cell? ⟨w.heap.size, 0, none⟩ = some (.slice ia il ic) ∧ U.cell? ⟨w.heap.size, 1, none⟩ = some (.slice la ll lc) ∧ U.cell? ⟨w.heap.size, 2, none⟩ = some (.slice da dl dc) ∧ U.cell? ⟨w.heap.size, 3, none⟩ = some (.slice oa ol oc)) := fun U hU =>
    ⟨(hU.cell (p := ⟨w.heap.size, 0, none⟩) zW).trans c0, (hU.cell (p := ⟨w.heap.size, 1, none⟩) zW).trans c1, (hU.cell (p := ⟨w.heap.size, 2, none⟩) zW).trans c2, (hU.cell (p := ⟨w.heap.size, 3, none⟩) zW).trans c3⟩
  go_enter Tryz.func101, Tryz.ntmps101
  go_wp2
  rw [← hW]
  clear hW
  go_loopw [10] (fun s10 wr => ∃ (k : Nat), k ≤ dl ∧ s10 = .int .i64 k ∧ Hid (doubtsGo locks over [] doubts = doubtsGo locks over (doubts.take k) (doubts.drop k)) ∧ Below W.heap.size W wr) (fun s10 _ => dl - (intOf s10).toNat)
  case atStart => exact ⟨0, Nat.zero_le _, rfl, by show _ = _; simp, Below.refl _ _⟩
  case round =>
    obtain ⟨k, hk, rfl, hat, hb⟩ := hrel
    by_cases hlt : k < dl
    · have hlt' : (k : Int) < (dl : Int) := by omega
      obtain ⟨b, off, rfl, zb, hc⟩ := hmem (by omega)
      have hkl : k < doubts.length := by have := HL.out; omega
      have hcells := hc k hlt
      have hn : Hid (doubtsGo locks over [] doubts = (inR (doubts.getD k default).age 0 1048576 && locks.any (ofT (doubts.getD k default).t) && !((doubts.take k).any (dbT (doubts.getD k default).t)) && !(decide ((doubts.getD k default).t ∈ over)) && doubtsGo locks over (doubts.take (k + 1)) (doubts.drop (k + 1)))) := doubtsGo_at hkl hat.out
      clear hat hc hmem lmem
      obtain ⟨x, ex⟩ : ∃ x, x = doubts.getD k default := ⟨_, rfl⟩
      rw [← ex] at hcells hn
      clear ex
      have hOf := fun w' => of_any x.t w'
      have hDb := fun w' => doubtOf_any x.t w'
      have hOx := fun w' h1 => hOv x.t w' h1
      have hCl := fun fn cps w' h1 h2 => containsLock_any fn cps (ofT x.t) la ll lc locks w' h1 h2
      have hCd := fun fn cps w' h1 h2 => containsDoubt_any fn cps (dbT x.t) (some ⟨b, off, none⟩) k dc (doubts.take k) w' h1 h2
      obtain ⟨⟨site, num⟩, age⟩ := x
      simp only at hn hOf hDb hOx hCl hCd
      clear hOv
      have a0 := hcells 0 (by decide)
      have a1 := hcells 1 (by decide)
      have a2 := hcells 2 (by decide)
      simp [DbV.cells] at a0 a1 a2
      have hwr := hB.trans (hb.mono hB.size)
      rw [← hwr.cell (p := ⟨b, off + k * 3, none⟩) zb] at a0
      rw [← hwr.cell (p := ⟨b, off + k * 3 + 1, none⟩) zb] at a1
      rw [← hwr.cell (p := ⟨b, off + k * 3 + 2, none⟩) zb] at a2
      clear hcells
      obtain ⟨V, hV⟩ : ∃ V : World, V = wr.alloc (.cells #[.int .i64 site, .int .i64 num, .int .i64 age] 72) := ⟨_, rfl⟩
      have bV : Below W.heap.size W V := by rw [hV]; exact hb.alloc hb.size _
      have zV : wr.heap.size < V.heap.size := by rw [hV]; simp
      have b0 : V.cell? ⟨wr.heap.size, 0, none⟩ = some (.int .i64 site) := by rw [hV]; go_simp
      have b1 : V.cell? ⟨wr.heap.size, 1, none⟩ = some (.int .i64 num) := by rw [hV]; go_simp
      have b2 : V.cell? ⟨wr.heap.size, 2, none⟩ = some (.int .i64 age) := by rw [hV]; go_simp
      have KB : Hid (∀ U : World, Below V.heap.size V U → (U.cell? ⟨w.heap.size, 0, none⟩ = some (.slice ia il ic) ∧ U.cell? ⟨w.heap.size, 1, none⟩ = some (.slice la ll lc) ∧ U.cell? ⟨w.heap.size, 2, none⟩ = some (.slice (some ⟨b, off, none⟩) dl dc) ∧ U.cell? ⟨w.heap.size, 3, none⟩ = some (.slice oa ol oc)) ∧ U.cell? ⟨wr.heap.size, 0, none⟩ = some (.int .i64 site) ∧ U.cell? ⟨wr.heap.size, 1, none⟩ = some (.int .i64 num) ∧ U.cell? ⟨wr.heap.size, 2, none⟩ = some (.int .i64 age)) := fun U hU =>
        ⟨KA.out U (bV.trans (hU.mono bV.size)), (hU.cell (p := ⟨wr.heap.size, 0, none⟩) zV).trans b0, (hU.cell (p := ⟨wr.heap.size, 1, none⟩) zV).trans b1, (hU.cell (p := ⟨wr.heap.size, 2, none⟩) zV).trans b2⟩
      have HS : Hid (∀ U : World, Below V.heap.size V U → IsLocks U la ll lc locks ∧ IsDoubts U (some ⟨b, off, none⟩) k dc (doubts.take k) ∧ IsTxns U oa ol oc over) := fun U hU => by
        have hs := hh.below (hB.trans ((bV.trans (hU.mono bV.size)).mono hB.size))
        exact ⟨hs.locks, hs.doubts.take k (by omega), hs.over⟩
      obtain ⟨A, eA⟩ : ∃ A, A = inR age 0 1048576 := ⟨_, rfl⟩
      obtain ⟨C1, eC1⟩ : ∃ C, C = locks.any (ofT (site, num)) := ⟨_, rfl⟩
      obtain ⟨C2, eC2⟩ : ∃ C, C = (doubts.take k).any (dbT (site, num)) := ⟨_, rfl⟩
      obtain ⟨C3, eC3⟩ : ∃ C, C = decide ((site, num) ∈ over) := ⟨_, rfl⟩
      have hIn := fun w' => within_any age 0 1048576 w'
      rw [← eA] at hn hIn
      rw [← eC1] at hn hCl
      rw [← eC2] at hn hCd
      rw [← eC3] at hn hOx
      clear eA eC1 eC2 eC3
      have hwV := hB.trans (bV.mono hB.size)
      have hkc : (k : Int) ≤ (dc : Int) := by omega
      go_upto_region 4 with (fail)
      rw [← hV]
      clear hV a0 a1 a2
      have hDr : Below V.heap.size V V.drew := (Below.refl _ _).drew
      have q0 := KB.out V (Below.refl _ _)
      obtain ⟨⟨p0, p1, p2, p3⟩, p4, p5, p6⟩ := q0
      clear c0 c1 c2 c3 b0 b1 b2
      cases A with
      | false =>
        have r1 := fun d os => cell_regrown p1 d os
        have r4 := fun d os => cell_regrown p4 d os
        have r5 := fun d os => cell_regrown p5 d os
        have r6 := fun d os => cell_regrown p6 d os
        refine wp_region_quiet_below (by kernel_rfl) (by kernel_rfl) ?_
        repeat (go_big_quiet_step ((exact Calls.regrown_of ((hIn _).mono fun e u hu => ⟨hu.1, by rw [hu.2]; exact Below.refl _ _⟩))))
        refine wpQuiet_nil ?_
        intro _ hw'
        obtain ⟨⟨dq, osq⟩, hw''⟩ := hw'
        subst hw''
        go_wp2
        go_ret
        exact ⟨by rw [e0.out, hn.out]; simp, hwV.trans ((below_regrown V dq osq).mono hwV.size)⟩
      | true =>
        go_cut [27] (fun s27 wc => s27 = .bool (!C1) ∧ Below V.heap.size V wc)
        case first =>
          go_region_held3 (fun U => (U.cell? ⟨w.heap.size, 0, none⟩ = some (.slice ia il ic) ∧ U.cell? ⟨w.heap.size, 1, none⟩ = some (.slice la ll lc) ∧ U.cell? ⟨w.heap.size, 2, none⟩ = some (.slice (some ⟨b, off, none⟩) dl dc) ∧ U.cell? ⟨w.heap.size, 3, none⟩ = some (.slice oa ol oc)) ∧ U.cell? ⟨wr.heap.size, 0, none⟩ = some (.int .i64 site) ∧ U.cell? ⟨wr.heap.size, 1, none⟩ = some (.int .i64 num) ∧ U.cell? ⟨wr.heap.size, 2, none⟩ = some (.int .i64 age))
            (first | exact KB.out _ hb3 | exact KB.out _ hb2 | exact KB.out _ hb1 | exact KB.out _ hDr | exact KB.out _ (Below.refl _ _))
            (first
              | ((go_at_call 41; refine (hIn _).mono ?_; rintro e w1 ⟨rfl, hu1⟩; have hb1 : Below V.heap.size V w1 := (by rw [hu1]; exact hDr); clear hu1))
              | ((go_at_call 72; refine (hOf _).mono ?_; rintro e w2 ⟨bb, rfl, hAs, hb2'⟩; have hb2 : Below V.heap.size V w2 := hb1.trans (hb2'.mono hb1.size); have hTT := (HS.out _ hb2).1))
              | ((go_at_call 81; refine (hCl _ _ _ hTT hAs).mono ?_; rintro e w3 ⟨rfl, hb3'⟩; have hb3 : Below V.heap.size V w3 := hb2.trans (hb3'.mono hb2.size))))
          all_goals
            go_wp2_with fail
            go_meet
            case rel => exact ⟨rfl, hb3⟩
        case rest =>
          obtain ⟨rfl, hbc⟩ := hcut
          clear p0 p1 p2 p3 p4 p5 p6
          obtain ⟨⟨p0, p1, p2, p3⟩, p4, p5, p6⟩ := KB.out _ hbc
          have hwc := hwV.trans (hbc.mono hwV.size)
          cases C1 with
          | false =>
            go_wp2
            go_ret
            exact ⟨by rw [e0.out, hn.out]; simp, hwc⟩
          | true =>
            have hDc : Below V.heap.size V wc.drew := hbc.drew
            go_upto_region 6 with (fail)
            go_cut [41] (fun s41 wd => s41 = .bool (C2 || C3) ∧ Below V.heap.size V wd)
            case first =>
              cases C2 with
              | true =>
                have hcd := fun (V' : World) (hV' : Below V.heap.size V V') => KB.out V' hV'
                have z0 : Below V.heap.size V wc.drew := hDc
                obtain ⟨⟨x0, x1, x2, x3⟩, x4, x5, x6⟩ := KB.out _ hDc
                first | go_region_with (first
                  | ((go_at_call 74; refine (hDb _).mono ?_; rintro e w2 ⟨bb, rfl, hAs, hb2'⟩; have hb2 : Below V.heap.size V w2 := hDc.trans (hb2'.mono hDc.size); have hTT := (HS.out _ hb2).2.1; obtain ⟨⟨y0, y1, y2, y3⟩, y4, y5, y6⟩ := KB.out _ hb2))
                  | ((go_at_call 84; refine (hCd _ _ _ hTT hAs).mono ?_; rintro e w3 ⟨rfl, hb3'⟩; have hb3 : Below V.heap.size V w3 := hb2.trans (hb3'.mono hb2.size); obtain ⟨⟨v0, v1, v2, v3⟩, v4, v5, v6⟩ := KB.out _ hb3))) | fail
                all_goals
                  go_wp2_with fail
                  go_meet
                  case rel => exact ⟨by simp, hb3⟩
              | false =>
                go_region_held3 (fun U => (U.cell? ⟨w.heap.size, 0, none⟩ = some (.slice ia il ic) ∧ U.cell? ⟨w.heap.size, 1, none⟩ = some (.slice la ll lc) ∧ U.cell? ⟨w.heap.size, 2, none⟩ = some (.slice (some ⟨b, off, none⟩) dl dc) ∧ U.cell? ⟨w.heap.size, 3, none⟩ = some (.slice oa ol oc)) ∧ U.cell? ⟨wr.heap.size, 0, none⟩ = some (.int .i64 site) ∧ U.cell? ⟨wr.heap.size, 1, none⟩ = some (.int .i64 num) ∧ U.cell? ⟨wr.heap.size, 2, none⟩ = some (.int .i64 age))
                  (first | exact KB.out _ hb4 | exact KB.out _ hb3 | exact KB.out _ hb2 | exact KB.out _ hDc | exact KB.out _ hbc)
                  (first
                    | ((go_at_call 74; refine (hDb _).mono ?_; rintro e w2 ⟨bb, rfl, hAs, hb2'⟩; have hb2 : Below V.heap.size V w2 := hDc.trans (hb2'.mono hDc.size); have hTT := (HS.out _ hb2).2.1))
                    | ((go_at_call 84; refine (hCd _ _ _ hTT hAs).mono ?_; rintro e w3 ⟨rfl, hb3'⟩; have hb3 : Below V.heap.size V w3 := hb2.trans (hb3'.mono hb2.size); have hT3 := (HS.out _ hb3).2.2))
                    | ((go_at_call 75; refine (hOx _ hT3).mono ?_; rintro e w4 ⟨rfl, hb4'⟩; have hb4 : Below V.heap.size V w4 := hb3.trans (hb4'.mono hb3.size))))
                all_goals
                  go_wp2_with fail
                  go_meet
                  case rel => exact ⟨by simp, hb4⟩
            case rest =>
              obtain ⟨rfl, hbd⟩ := hcut
              have hwd := hwV.trans (hbd.mono hwV.size)
              have hWd := bV.trans (hbd.mono bV.size)
              cases hX : (C2 || C3) with
              | true =>
                have hf : (!C2 && !C3) = false := by cases C2 <;> cases C3 <;> simp_all
                go_wp2
                go_ret
                exact ⟨by rw [e0.out, hn.out]; simp [hf], hwd⟩
              | false =>
                have hf2 : C2 = false := by cases C2 <;> simp_all
                have hf3 : C3 = false := by cases C3 <;> simp_all
                go_wp2
                go_roundw
                case rel => exact ⟨k + 1, by omega, by go_num, by show _ = _; rw [hn.out, hf2, hf3]; simp, hWd⟩
                case measure => simp [intOf]; omega
    · have hfin : Hid (doubtsGo locks over [] doubts = true) := by
        show _ = _
        rw [hat.out, List.drop_eq_nil_of_le (by have := HL.out; omega)]
        rfl
      clear hat
      clear c0 c1 c2 c3
      obtain ⟨c0, c1, c2, c3⟩ := KA.out _ hb
      go_wp2
      go_loopw [46] (fun s46 wr2 => ∃ (j : Nat), j ≤ ll ∧ s46 = .int .i64 j ∧ Hid (locks.all (fun k => doubts.any (dbT k.t)) = (locks.drop j).all (fun k => doubts.any (dbT k.t))) ∧ Below W.heap.size W wr2) (fun s46 _ => ll - (intOf s46).toNat)
      case atStart => exact ⟨0, Nat.zero_le _, rfl, by show _ = _; simp, hb⟩
      case round =>
        obtain ⟨j, hj, rfl, hall, hb2⟩ := hrel
        clear c0 c1 c2 c3
        have hwr2 := hB.trans (hb2.mono hB.size)
        by_cases hjl : j < ll
        · have hjl' : (j : Int) < (ll : Int) := by omega
          obtain ⟨b, off, rfl, zb, hc⟩ := lmem (by omega)
          have hkl : j < locks.length := by have := HLL.out; omega
          have hcells := hc j hjl
          have hn : Hid (locks.all (fun k => doubts.any (dbT k.t)) = (doubts.any (dbT (locks.getD j default).t) && (locks.drop (j + 1)).all (fun k => doubts.any (dbT k.t)))) := all_at hkl hall.out
          clear hall hc lmem hmem
          obtain ⟨x, ex⟩ : ∃ x, x = locks.getD j default := ⟨_, rfl⟩
          rw [← ex] at hcells hn
          clear ex
          have hDb := fun w' => doubtOf_any x.t w'
          have hCd := fun fn cps w' h1 h2 => containsDoubt_any fn cps (dbT x.t) da dl dc doubts w' h1 h2
          obtain ⟨⟨site, num⟩, key, write, value, ask⟩ := x
          simp only at hn hDb hCd
          clear hOv
          have a0 := hcells 0 (by decide)
          have a1 := hcells 1 (by decide)
          have a2 := hcells 2 (by decide)
          have a3 := hcells 3 (by decide)
          have a4 := hcells 4 (by decide)
          have a5 := hcells 5 (by decide)
          simp [LkV.cells] at a0 a1 a2 a3 a4 a5
          rw [← hwr2.cell (p := ⟨b, off + j * 6, none⟩) zb] at a0
          rw [← hwr2.cell (p := ⟨b, off + j * 6 + 1, none⟩) zb] at a1
          rw [← hwr2.cell (p := ⟨b, off + j * 6 + 2, none⟩) zb] at a2
          rw [← hwr2.cell (p := ⟨b, off + j * 6 + 3, none⟩) zb] at a3
          rw [← hwr2.cell (p := ⟨b, off + j * 6 + 4, none⟩) zb] at a4
          rw [← hwr2.cell (p := ⟨b, off + j * 6 + 5, none⟩) zb] at a5
          clear hcells
          obtain ⟨R, eR⟩ : ∃ R, R = wr := ⟨_, rfl⟩
          rw [← eR] at a0 a1 a2 a3 a4 a5 hb2 hwr2 ⊢
          clear eR
          obtain ⟨V, hV⟩ : ∃ V : World, V = R.alloc (.cells #[.int .i64 site, .int .i64 num, .int .i64 key, .bool write, .int .i64 value, .int .i64 ask] 70) := ⟨_, rfl⟩
          have bV : Below W.heap.size W V := by rw [hV]; exact hb2.alloc hb2.size _
          have zV : R.heap.size < V.heap.size := by rw [hV]; simp
          have b0 : V.cell? ⟨R.heap.size, 0, none⟩ = some (.int .i64 site) := by rw [hV]; go_simp
          have b1 : V.cell? ⟨R.heap.size, 1, none⟩ = some (.int .i64 num) := by rw [hV]; go_simp
          have KB : Hid (∀ U : World, Below V.heap.size V U → (U.cell? ⟨w.heap.size, 0, none⟩ = some (.slice ia il ic) ∧ U.cell? ⟨w.heap.size, 1, none⟩ = some (.slice (some ⟨b, off, none⟩) ll lc) ∧ U.cell? ⟨w.heap.size, 2, none⟩ = some (.slice da dl dc) ∧ U.cell? ⟨w.heap.size, 3, none⟩ = some (.slice oa ol oc)) ∧ U.cell? ⟨R.heap.size, 0, none⟩ = some (.int .i64 site) ∧ U.cell? ⟨R.heap.size, 1, none⟩ = some (.int .i64 num)) := fun U hU =>
            ⟨KA.out U (bV.trans (hU.mono bV.size)), (hU.cell (p := ⟨R.heap.size, 0, none⟩) zV).trans b0, (hU.cell (p := ⟨R.heap.size, 1, none⟩) zV).trans b1⟩
          have HS : Hid (∀ U : World, Below V.heap.size V U → IsDoubts U da dl dc doubts) := fun U hU => (hh.below (hB.trans ((bV.trans (hU.mono bV.size)).mono hB.size))).doubts
          obtain ⟨C1, eC1⟩ : ∃ C, C = doubts.any (dbT (site, num)) := ⟨_, rfl⟩
          rw [← eC1] at hn hCd
          clear eC1
          have hwV := hB.trans (bV.mono hB.size)
          go_upto_region 12 with (fail)
          rw [← hV]
          clear hV a0 a1 a2 a3 a4 a5
          have hDr : Below V.heap.size V V.drew := (Below.refl _ _).drew
          go_cut [56] (fun s56 wc => s56 = .bool (!C1) ∧ Below V.heap.size V wc)
          case first =>
            go_region_held3 (fun U => (U.cell? ⟨w.heap.size, 0, none⟩ = some (.slice ia il ic) ∧ U.cell? ⟨w.heap.size, 1, none⟩ = some (.slice (some ⟨b, off, none⟩) ll lc) ∧ U.cell? ⟨w.heap.size, 2, none⟩ = some (.slice da dl dc) ∧ U.cell? ⟨w.heap.size, 3, none⟩ = some (.slice oa ol oc)) ∧ U.cell? ⟨R.heap.size, 0, none⟩ = some (.int .i64 site) ∧ U.cell? ⟨R.heap.size, 1, none⟩ = some (.int .i64 num))
              (first | exact KB.out _ hb6 | exact KB.out _ hb5 | exact KB.out _ hDr | exact KB.out _ (Below.refl _ _))
              (first
                | ((go_at_call 74; refine (hDb _).mono ?_; rintro e w5 ⟨bb, rfl, hAs, hb5'⟩; have hb5 : Below V.heap.size V w5 := hDr.trans (hb5'.mono hDr.size); have hTT := HS.out _ hb5))
                | ((go_at_call 84; refine (hCd _ _ _ hTT hAs).mono ?_; rintro e w6 ⟨rfl, hb6'⟩; have hb6 : Below V.heap.size V w6 := hb5.trans (hb6'.mono hb5.size))))
            all_goals
              go_wp2_with fail
              go_meet
              case rel => exact ⟨rfl, hb6⟩
          case rest =>
            obtain ⟨rfl, hbc⟩ := hcut
            have hwc := hwV.trans (hbc.mono hwV.size)
            have hWc := bV.trans (hbc.mono bV.size)
            cases C1 with
            | false =>
              go_wp2
              go_ret
              exact ⟨by rw [e0.out, hn.out]; simp, hwc⟩
            | true =>
              go_wp2
              go_roundw
              case rel => exact ⟨j + 1, by omega, by go_num, by show _ = _; rw [hn.out]; simp, hWc⟩
              case measure => simp [intOf]; omega
        · have hfin2 : locks.all (fun k => doubts.any (dbT k.t)) = true := by
            rw [hall.out, List.drop_eq_nil_of_le (by have := HLL.out; omega)]
            rfl
          go_wp2
          go_ret
          exact ⟨by rw [e0.out, hfin.out, hfin2]; rfl, hwr2⟩

end Go.Proofs.YtekglahigjblkaaGreatDoor.St
/- The contract of store.Check. -/
namespace Go.Proofs.YtekglahigjblkaaGreatDoor.St
open Go.ChangeShapes Go.WideShapes Go.ChangeAt Go.RowKit
set_option linter.unusedVariables false

set_option maxHeartbeats 2000000 in
theorem check_any (s : SV) (w : World) (h : IsStore w s) (hwf : ∀ t ∈ s.over, TxWf t) :
    Calls Tryz.prog 85 #[s.val] w fun e w' => e = .returned (.int .i64 (if storeOK s then 0 else 9)) ∧ Below w.heap.size w w' := by
  have hh := h
  have h1 := fun w' k => itemsMayBe_any s.ia s.il s.ic s.items w' k
  have h2 := fun w' k => locksMayBe_any s.la s.ll s.lc s.locks w' k
  have h3 := fun w' k => overMayBe_any s.oa s.ol s.oc s.over w' k hwf
  have h4 := fun w' k => doubtsMayBe_any s w' k
  obtain ⟨S, eS⟩ : ∃ S : Int, S = (if storeOK s then 0 else 9) := ⟨_, rfl⟩
  have e0 : Hid (S = if (itemsOK 0 s.items && locksOK s.locks && overGo [] s.over && doubtsOK s.doubts s.locks s.over) = true then 0 else 9) := eS
  obtain ⟨A, eA⟩ : ∃ A, A = itemsOK 0 s.items := ⟨_, rfl⟩
  obtain ⟨B, eB⟩ : ∃ B, B = locksOK s.locks := ⟨_, rfl⟩
  obtain ⟨C, eC⟩ : ∃ C, C = overGo [] s.over := ⟨_, rfl⟩
  obtain ⟨E, eE⟩ : ∃ E, E = doubtsOK s.doubts s.locks s.over := ⟨_, rfl⟩
  rw [← eA] at h1 e0
  rw [← eB] at h2 e0
  rw [← eC] at h3 e0
  rw [← eE] at h4 e0
  rw [← eS]
  clear eA eB eC eE eS
  obtain ⟨ia, il, ic, la, ll, lc, da, dl, dc, oa, ol, oc, items, locks, doubts, over⟩ := s
  simp only [SV.val] at *
  obtain ⟨W, hW⟩ : ∃ W : World, W = w.alloc (.cells #[.slice ia il ic, .slice la ll lc, .slice da dl dc, .slice oa ol oc] 31) := ⟨_, rfl⟩
  have hB : Below w.heap.size w W := by rw [hW]; exact (Below.refl _ _).alloc (Nat.le_refl _) _
  have zW : w.heap.size < W.heap.size := by rw [hW]; simp
  have c0 : W.cell? ⟨w.heap.size, 0, none⟩ = some (.slice ia il ic) := by rw [hW]; go_simp
  have c1 : W.cell? ⟨w.heap.size, 1, none⟩ = some (.slice la ll lc) := by rw [hW]; go_simp
  have c2 : W.cell? ⟨w.heap.size, 2, none⟩ = some (.slice da dl dc) := by rw [hW]; go_simp
  have c3 : W.cell? ⟨w.heap.size, 3, none⟩ = some (.slice oa ol oc) := by rw [hW]; go_simp
  have KA : Hid (∀ U : World, Below W.heap.size W U → U.cell? ⟨w.heap.size, 0, none⟩ = some (.slice ia il ic) ∧ U.cell? ⟨w.heap.size, 1, none⟩ = some (.slice la ll lc) ∧ U.cell? ⟨w.heap.size, 2, none⟩ = some (.slice da dl dc) ∧ U.cell? ⟨w.heap.size, 3, none⟩ = some (.slice oa ol oc)) := fun U hU =>
    ⟨(hU.cell (p := ⟨w.heap.size, 0, none⟩) zW).trans c0, (hU.cell (p := ⟨w.heap.size, 1, none⟩) zW).trans c1, (hU.cell (p := ⟨w.heap.size, 2, none⟩) zW).trans c2, (hU.cell (p := ⟨w.heap.size, 3, none⟩) zW).trans c3⟩
  have HS : Hid (∀ U : World, Below W.heap.size W U → IsItems U ia il ic items ∧ IsLocks U la ll lc locks ∧ IsTxns U oa ol oc over ∧ IsStore U ⟨ia, il, ic, la, ll, lc, da, dl, dc, oa, ol, oc, items, locks, doubts, over⟩) := fun U hU => by
    have hs := hh.below (hB.trans (hU.mono hB.size))
    exact ⟨hs.items, hs.locks, hs.over, hs⟩
  have hbv : Below W.heap.size W W := Below.refl _ _
  go_enter Tryz.func85, Tryz.ntmps85
  go_upto_region 1 with (fail)
  rw [← hW]
  clear hW
  cases A <;> cases B <;> cases C <;> cases E
  all_goals
    go_wp2_with (first
      | (go_at_call 98; refine (h1 _ (HS.out _ hbv).1).mono ?_; rintro e u ⟨rfl, hu⟩; replace hbv := hbv.trans (hu.mono hbv.size); clear hu c0 c1 c2 c3; obtain ⟨c0, c1, c2, c3⟩ := KA.out _ hbv)
      | (go_at_call 99; refine (h2 _ (HS.out _ hbv).2.1).mono ?_; rintro e u ⟨rfl, hu⟩; replace hbv := hbv.trans (hu.mono hbv.size); clear hu c0 c1 c2 c3; obtain ⟨c0, c1, c2, c3⟩ := KA.out _ hbv)
      | (go_at_call 100; refine (h3 _ (HS.out _ hbv).2.2.1).mono ?_; rintro e u ⟨rfl, hu⟩; replace hbv := hbv.trans (hu.mono hbv.size); clear hu c0 c1 c2 c3; obtain ⟨c0, c1, c2, c3⟩ := KA.out _ hbv)
      | (go_at_call 101; refine (h4 _ (HS.out _ hbv).2.2.2).mono ?_; rintro e u ⟨rfl, hu⟩; replace hbv := hbv.trans (hu.mono hbv.size); clear hu c0 c1 c2 c3; obtain ⟨c0, c1, c2, c3⟩ := KA.out _ hbv))
    go_ret
    exact ⟨by rw [e0.out]; rfl, hB.trans (hbv.mono hB.size)⟩
end Go.Proofs.YtekglahigjblkaaGreatDoor.St
