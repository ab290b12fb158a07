/- Texts of this claim, one behind the other. -/
import Derived.Test.YtcfhhjnbkpgpeaaDoorM15RebuildStore
import Derived.Test.YtcfhhjnbkpgpeaaDoorM18RebuildStore
import Derived.Test.YtcfhhjnbkpgpeaaDoorM19RebuildStore
import Derived.Test.YtcfhhjnbkpgpeaaDoorM44RebuildStore
import Derived.Test.YtcfhhjnbkpgpeaaDoorM16RebuildStore
/- The contract of store.Peek. -/
namespace Go.Proofs.YtcfhhjnbkpgpeaaDoor.St
open Go.ChangeShapes Go.WideShapes Go.ChangeAt Go.RowKit
set_option linter.unusedVariables false

def peekErr (s : SV) (key : Int) : Int := if storeOK s then (if inR key 0 7 then (if s.locks.any (wrT key) then 11 else 0) else 2) else 9
def peekVal (s : SV) (key : Int) : Int := if peekErr s key = 0 then (itemAt s.items key).value else 0
def peekVer (s : SV) (key : Int) : Int := if peekErr s key = 0 then (itemAt s.items key).version else 0

set_option maxRecDepth 100000 in
set_option maxHeartbeats 4000000 in
theorem peek_any (s : SV) (key : Int) (w : World) (h : IsStore w s) (hwf : ∀ t ∈ s.over, TxWf t) :
    Calls Tryd.prog 11 #[s.val, .int .i64 key] w fun e w' => e = .returned (.tuple #[.int .i64 (peekVal s key), .int .i64 (peekVer s key), .int .i64 (peekErr s key)]) ∧ Below w.heap.size w w' := by
  have hC := fun w' h1 => check_any s w' h1 hwf
  have hIt := fun w' h1 => item_any s key w' h1
  have hWr := fun w' => writes_any key w'
  have hCn := fun fn cps w' h1 h2 => containsLock_any fn cps (wrT key) s.la s.ll s.lc s.locks w' h1 h2
  obtain ⟨S, e1⟩ : ∃ R, R = storeOK s := ⟨_, rfl⟩
  obtain ⟨K, e3⟩ : ∃ R, R = inR key 0 7 := ⟨_, rfl⟩
  obtain ⟨L, e4⟩ : ∃ R, R = s.locks.any (wrT key) := ⟨_, rfl⟩
  obtain ⟨I, e5⟩ : ∃ R, R = itemAt s.items key := ⟨_, rfl⟩
  obtain ⟨E, e6⟩ : ∃ R : Int, R = peekErr s key := ⟨_, rfl⟩
  obtain ⟨V1, e7⟩ : ∃ R : Int, R = peekVal s key := ⟨_, rfl⟩
  obtain ⟨V2, e8⟩ : ∃ R : Int, R = peekVer s key := ⟨_, rfl⟩
  have eE : Hid (E = if S then (if K then (if L then 11 else 0) else 2) else 9) := by rw [e1, e3, e4]; exact e6
  have eV1 : Hid (V1 = if E = 0 then I.value else 0) := by rw [e5, e6]; exact e7
  have eV2 : Hid (V2 = if E = 0 then I.version else 0) := by rw [e5, e6]; exact e8
  rw [← e6, ← e7, ← e8]
  rw [← e1] at hC
  rw [← e4] at hCn
  rw [← e5] at hIt
  replace e3 := e3.symm
  clear e1 e4 e5 e6 e7 e8
  obtain ⟨ik, iv, iw⟩ := I
  simp only [ItV.val] at hIt
  have hh := h
  obtain ⟨ia, il, ic, la, ll, lc, da, dl, dc, oa, ol, oc, items, locks, doubts, over⟩ := s
  simp only [SV.val] at *
  obtain ⟨W, hW⟩ : ∃ W : World, W = w.alloc (.cells #[.slice ia il ic, .slice la ll lc, .slice da dl dc, .slice oa ol oc] 38) := ⟨_, rfl⟩
  have hB : Below w.heap.size w W := by rw [hW]; exact (Below.refl _ _).alloc (Nat.le_refl _) _
  have z0 : w.heap.size < W.heap.size := by rw [hW]; simp
  have c0 : W.cell? ⟨w.heap.size, 0, none⟩ = some (.slice ia il ic) := by rw [hW]; go_simp
  have c1 : W.cell? ⟨w.heap.size, 1, none⟩ = some (.slice la ll lc) := by rw [hW]; go_simp
  have c2 : W.cell? ⟨w.heap.size, 2, none⟩ = some (.slice da dl dc) := by rw [hW]; go_simp
  have c3 : W.cell? ⟨w.heap.size, 3, none⟩ = some (.slice oa ol oc) := by rw [hW]; go_simp
  have KA : Hid (∀ U : World, Below W.heap.size W U → U.cell? ⟨w.heap.size, 0, none⟩ = some (.slice ia il ic) ∧ U.cell? ⟨w.heap.size, 1, none⟩ = some (.slice la ll lc) ∧ U.cell? ⟨w.heap.size, 2, none⟩ = some (.slice da dl dc) ∧ U.cell? ⟨w.heap.size, 3, none⟩ = some (.slice oa ol oc)) := fun U hU =>
    ⟨(hU.cell (p := ⟨w.heap.size, 0, none⟩) z0).trans c0, (hU.cell (p := ⟨w.heap.size, 1, none⟩) z0).trans c1, (hU.cell (p := ⟨w.heap.size, 2, none⟩) z0).trans c2, (hU.cell (p := ⟨w.heap.size, 3, none⟩) z0).trans c3⟩
  have hSW := hh.below hB
  have HS : Hid (∀ U : World, Below W.heap.size W U → IsItems U ia il ic items ∧ IsLocks U la ll lc locks) := fun U hU => by
    have hs := hh.below (hB.trans (hU.mono hB.size))
    exact ⟨hs.items, hs.locks⟩
  go_enter Tryd.func11, Tryd.ntmps11
  go_upto_region 1 with (fail)
  rw [← hW]
  clear hW
  cases S with
  | false =>
    obtain rfl : E = 9 := by rw [eE.out]; rfl
    obtain rfl : V1 = 0 := by rw [eV1.out]; rfl
    obtain rfl : V2 = 0 := by rw [eV2.out]; rfl
    simp only [Bool.false_eq_true, if_false] at hC
    go_wp2_with (go_at_call 17; refine (hC _ hSW).mono ?_; rintro e w1 ⟨rfl, hb1⟩; have hw1 := hB.trans (hb1.mono hB.size))
    go_ret3
    exact ⟨rfl, hw1⟩
  | true =>
    simp only [if_true] at hC
    cases K with
    | false =>
      obtain rfl : E = 2 := by rw [eE.out]; rfl
      obtain rfl : V1 = 0 := by rw [eV1.out]; rfl
      obtain rfl : V2 = 0 := by rw [eV2.out]; rfl
      go_wp2_with (first | (go_at_call 17; refine (hC _ hSW).mono ?_; rintro e w1 ⟨rfl, hb1⟩; have hw1 := hB.trans (hb1.mono hB.size)) | (go_at_call 32; refine (key_any _ _).mono ?_; rintro e u ⟨rfl, hu⟩; rw [hu, e3]; clear hu))
      go_ret3
      exact ⟨rfl, hw1⟩
    | true =>
      go_upto_region 6 with (first | (go_at_call 17; refine (hC _ hSW).mono ?_; rintro e w1 ⟨rfl, hb1⟩; have hw1 := hB.trans (hb1.mono hB.size)) | (go_at_call 32; refine (key_any _ _).mono ?_; rintro e u ⟨rfl, hu⟩; rw [hu, e3]; clear hu))
      have hD : Below W.heap.size W w1.drew := hb1.drew
      clear c0 c1 c2 c3
      go_cut [21] (fun s21 wc => s21 = .bool L ∧ Below W.heap.size W wc)
      case first =>
        go_region_held3 (fun U => U.cell? ⟨w.heap.size, 0, none⟩ = some (.slice ia il ic) ∧ U.cell? ⟨w.heap.size, 1, none⟩ = some (.slice la ll lc) ∧ U.cell? ⟨w.heap.size, 2, none⟩ = some (.slice da dl dc) ∧ U.cell? ⟨w.heap.size, 3, none⟩ = some (.slice oa ol oc))
          (first | exact KA.out _ hb3 | exact KA.out _ hb2 | exact KA.out _ hD | exact KA.out _ hb1)
          (first
            | ((go_at_call 34; refine (hWr _).mono ?_; rintro e w2 ⟨bb, rfl, hAs, hb2'⟩; have hb2 : Below W.heap.size W w2 := hD.trans (hb2'.mono hD.size); have hTT := (HS.out _ hb2).2))
            | ((go_at_call 33; refine (hCn _ _ _ hTT hAs).mono ?_; rintro e w3 ⟨rfl, hb3'⟩; have hb3 : Below W.heap.size W w3 := hb2.trans (hb3'.mono hb2.size))))
        all_goals
          go_wp2_with fail
          go_meet
          case rel => exact ⟨rfl, hb3⟩
      case rest =>
        obtain ⟨rfl, hbc⟩ := hcut
        obtain ⟨x0, x1, x2, x3⟩ := KA.out _ hbc
        have hwc := hB.trans (hbc.mono hB.size)
        have hIc := (HS.out _ hbc).1
        cases L with
        | true =>
          obtain rfl : E = 11 := by rw [eE.out]; rfl
          obtain rfl : V1 = 0 := by rw [eV1.out]; rfl
          obtain rfl : V2 = 0 := by rw [eV2.out]; rfl
          go_wp2
          go_ret3
          exact ⟨rfl, hwc⟩
        | false =>
          obtain rfl : E = 0 := by rw [eE.out]; rfl
          obtain rfl : V1 = iv := by rw [eV1.out]; rfl
          obtain rfl : V2 = iw := by rw [eV2.out]; rfl
          go_wp2_with (go_at_call 35; refine (hIt _ hIc).mono ?_; rintro e w5 ⟨rfl, hb5⟩; have hw5 := hwc.trans (hb5.mono hwc.size))
          have hA5 : ∀ o, Below w.heap.size w (w5.alloc o) := fun o => hw5.alloc hw5.size o
          go_quiet (fail)
          go_wp2
          go_ret3
          exact ⟨rfl, below_drewN (hA5 _) nq⟩
end Go.Proofs.YtcfhhjnbkpgpeaaDoor.St
/- What Peek tells of a store that may be. -/
namespace Go.Proofs.YtcfhhjnbkpgpeaaDoor.St
open Go.ChangeShapes Go.WideShapes Go.ChangeAt Go.RowKit
set_option linter.unusedVariables false

theorem peek_is {s : SV} {k : Int} (ho : OKP s.data) (hk : inR k 0 7 = true) :
    (s.locks.any (wrT k) = true → peekErr s k = 11 ∧ peekVal s k = 0 ∧ peekVer s k = 0) ∧ (s.locks.any (wrT k) = false → peekErr s k = 0 ∧ peekVal s k = (itemAt s.items k).value ∧ peekVer s k = (itemAt s.items k).version) := by
  have hE : peekErr s k = if s.locks.any (wrT k) then 11 else 0 := by
    unfold peekErr
    rw [if_pos ho.ok, if_pos hk]
  constructor
  · intro h
    rw [h] at hE
    have hE' : peekErr s k = 11 := hE
    exact ⟨hE', by unfold peekVal; rw [hE']; rfl, by unfold peekVer; rw [hE']; rfl⟩
  · intro h
    rw [h] at hE
    have hE' : peekErr s k = 0 := hE
    exact ⟨hE', by unfold peekVal; rw [if_pos hE'], by unfold peekVer; rw [if_pos hE']⟩
end Go.Proofs.YtcfhhjnbkpgpeaaDoor.St
/- The contract of store.Writes. -/
namespace Go.Proofs.YtcfhhjnbkpgpeaaDoor.St
open Go.ChangeShapes Go.WideShapes Go.ChangeAt Go.RowKit
set_option linter.unusedVariables false

set_option maxHeartbeats 2000000 in
theorem writes_count (s : SV) (t : Int × Int) (w : World) (h : IsStore w s) (hwf : ∀ t ∈ s.over, TxWf t) :
    Calls Tryd.prog 12 #[s.val, .agg #[.int .i64 t.1, .int .i64 t.2]] w fun e w' => e = .returned (.tuple #[.int .i64 (cntIs s t), .int .i64 (cntErr s t)]) ∧ Below w.heap.size w w' := by
  have hC := fun w' h1 => refuseTxn_any s t w' h1 hwf
  have hWo := fun w' h1 h2 => writesOf_any s t w' h1 h2
  have hl24 : cntErr s t = 0 → s.ll ≤ 24 := fun e => by
    rw [← h.locks.1]
    apply ok_24
    cases hs : storeOK s with
    | true => rfl
    | false => simp [cntErr, hs] at e
  obtain ⟨E, e6⟩ : ∃ R : Int, R = cntErr s t := ⟨_, rfl⟩
  have e6' : E = if storeOK s then (if txOK t then 0 else 2) else 9 := e6
  obtain ⟨R, e7⟩ : ∃ R, R = cntIs s t := ⟨_, rfl⟩
  have eR : Hid (R = if E = 0 then ((s.locks.filter (wOf t)).length : Int) else 0) := by rw [e6]; exact e7
  rw [← e6, ← e7]
  rw [← e6] at hl24
  rw [← e6'] at hC
  clear e6 e7 e6'
  obtain ⟨F, eF⟩ : ∃ F, F = s.locks.filter (wOf t) := ⟨_, rfl⟩
  rw [← eF] at hWo eR
  clear eF
  have hh := h
  obtain ⟨ia, il, ic, la, ll, lc, da, dl, dc, oa, ol, oc, items, locks, doubts, over⟩ := s
  obtain ⟨ts, tn⟩ := t
  simp only [SV.val] at *
  obtain ⟨W, hW⟩ : ∃ W : World, W = (w.alloc (.cells #[.slice ia il ic, .slice la ll lc, .slice da dl dc, .slice oa ol oc] 38)).alloc (.cells #[.int .i64 ts, .int .i64 tn] 28) := ⟨_, rfl⟩
  have hB : Below w.heap.size w W := by rw [hW]; exact ((Below.refl _ _).alloc (Nat.le_refl _) _).alloc (by simp) _
  have zW : W.heap.size = w.heap.size + 2 := by rw [hW]; simp
  have z0 : w.heap.size < W.heap.size := by omega
  have z1 : w.heap.size + 1 < W.heap.size := by omega
  clear zW
  have c0 : W.cell? ⟨w.heap.size, 0, none⟩ = some (.slice ia il ic) := by rw [hW]; go_simp
  have c1 : W.cell? ⟨w.heap.size, 1, none⟩ = some (.slice la ll lc) := by rw [hW]; go_simp
  have c2 : W.cell? ⟨w.heap.size, 2, none⟩ = some (.slice da dl dc) := by rw [hW]; go_simp
  have c3 : W.cell? ⟨w.heap.size, 3, none⟩ = some (.slice oa ol oc) := by rw [hW]; go_simp
  have c4 : W.cell? ⟨w.heap.size + 1, 0, none⟩ = some (.int .i64 ts) := by rw [hW]; go_simp
  have c5 : W.cell? ⟨w.heap.size + 1, 1, none⟩ = some (.int .i64 tn) := by rw [hW]; go_simp
  have KA : Hid (∀ U : World, Below W.heap.size W U → U.cell? ⟨w.heap.size, 0, none⟩ = some (.slice ia il ic) ∧ U.cell? ⟨w.heap.size, 1, none⟩ = some (.slice la ll lc) ∧ U.cell? ⟨w.heap.size, 2, none⟩ = some (.slice da dl dc) ∧ U.cell? ⟨w.heap.size, 3, none⟩ = some (.slice oa ol oc) ∧ U.cell? ⟨w.heap.size + 1, 0, none⟩ = some (.int .i64 ts) ∧ U.cell? ⟨w.heap.size + 1, 1, none⟩ = some (.int .i64 tn)) := fun U hU =>
    ⟨(hU.cell (p := ⟨w.heap.size, 0, none⟩) z0).trans c0, (hU.cell (p := ⟨w.heap.size, 1, none⟩) z0).trans c1, (hU.cell (p := ⟨w.heap.size, 2, none⟩) z0).trans c2, (hU.cell (p := ⟨w.heap.size, 3, none⟩) z0).trans c3, (hU.cell (p := ⟨w.heap.size + 1, 0, none⟩) z1).trans c4, (hU.cell (p := ⟨w.heap.size + 1, 1, none⟩) z1).trans c5⟩
  have hSW := hh.below hB
  go_enter Tryd.func12, Tryd.ntmps12
  go_upto_region 1 with (fail)
  rw [← hW]
  clear hW
  by_cases hE : E = 0
  · subst hE
    have hl := hl24 rfl
    go_wp2_with (first
      | (go_at_call 23; refine (hC _ hSW).mono ?_; rintro e w1 ⟨rfl, hb1⟩; clear c0 c1 c2 c3 c4 c5; obtain ⟨c0, c1, c2, c3, c4, c5⟩ := KA.out _ hb1; have hL1 := (hSW.below hb1).locks)
      | (go_at_call 25; refine (hWo _ hL1 hl).mono ?_; rintro e w2 ⟨ao, cp, rfl, _, _, hb2⟩))
    go_ret2
    exact ⟨by rw [eR.out]; rfl, hB.trans ((hb1.trans (hb2.mono hb1.size)).mono hB.size)⟩
  · go_wp2_with (go_at_call 23; refine (hC _ hSW).mono ?_; rintro e w1 ⟨rfl, hb1⟩)
    go_ret2
    exact ⟨by rw [eR.out, if_neg hE]; rfl, hB.trans (hb1.mono hB.size)⟩
end Go.Proofs.YtcfhhjnbkpgpeaaDoor.St
