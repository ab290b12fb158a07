/- The contract of store.Still. -/
import Derived.Test.YtbmbahifkegehaaSRefuse
import Derived.Test.YtbmbahifkegehaaSItem
import Derived.Test.YtbmbahifkegehaaSBy
import Derived.Deep.RegionWith
namespace Go.Proofs.Ytbmbahifkegehaa.St
open Go.ChangeShapes Go.WideShapes Go.ChangeAt Go.RowKit
set_option linter.unusedVariables false

def stillIs (s : SV) (t : Int × Int) (key version : Int) : Bool := decide (refErr s t key = 0) && (s.locks.any (byT t key) && decide ((itemAt s.items key).version = version))
theorem fldV (x y z : Int) (w : World) : (Instr.field 59 (.agg #[.int .i64 x, .int .i64 y, .int .i64 z]) 2).run Try.prog w = .ok (.int .i64 z) w := by kernel_rfl

set_option maxRecDepth 100000 in
set_option maxHeartbeats 4000000 in
theorem still_any (s : SV) (t : Int × Int) (key version : Int) (w : World) (h : IsStore w s) (hwf : ∀ t ∈ s.over, TxWf t) :
    Calls Try.prog 18 #[s.val, .agg #[.int .i64 t.1, .int .i64 t.2], .int .i64 key, .int .i64 version] w fun e w' => e = .returned (.tuple #[.bool (stillIs s t key version), .int .i64 (refErr s t key)]) ∧ Below w.heap.size w w' := by
  have hC := fun w' h1 => refuse_any s t key w' h1 hwf
  have hIt := fun w' h1 => item_any s key w' h1
  have hBy := fun w' => by_any t key w'
  have hCn := fun fn cps w' h1 h2 => containsLock_any fn cps (byT t key) s.la s.ll s.lc s.locks w' h1 h2
  have hf := fldV
  obtain ⟨L, e4⟩ : ∃ R, R = s.locks.any (byT t key) := ⟨_, rfl⟩
  obtain ⟨I, e5⟩ : ∃ R, R = itemAt s.items key := ⟨_, rfl⟩
  obtain ⟨E, e6⟩ : ∃ R : Int, R = refErr s t key := ⟨_, rfl⟩
  obtain ⟨R, e7⟩ : ∃ R, R = stillIs s t key version := ⟨_, rfl⟩
  have eR : Hid (R = (decide (E = 0) && (L && decide (I.version = version)))) := by rw [e4, e5, e6]; exact e7
  rw [← e6, ← e7]
  rw [← e6] at hC
  rw [← e4] at hCn
  rw [← e5] at hIt
  clear e4 e5 e6 e7
  obtain ⟨ik, iv, iw⟩ := I
  simp only [ItV.val] at hIt eR
  have hh := h
  obtain ⟨ia, il, ic, la, ll, lc, da, dl, dc, oa, ol, oc, items, locks, doubts, over⟩ := s
  obtain ⟨ts, tn⟩ := t
  simp only [SV.val] at *
  obtain ⟨W, hW⟩ : ∃ W : World, W = (w.alloc (.cells #[.slice ia il ic, .slice la ll lc, .slice da dl dc, .slice oa ol oc] 27)).alloc (.cells #[.int .i64 ts, .int .i64 tn] 29) := ⟨_, rfl⟩
  have hB : Below w.heap.size w W := by rw [hW]; exact ((Below.refl _ _).alloc (Nat.le_refl _) _).alloc (by simp) _
  have zW : W.heap.size = w.heap.size + 2 := by rw [hW]; simp
  have z0 : w.heap.size < W.heap.size := by omega
  have z1 : w.heap.size + 1 < W.heap.size := by omega
  clear zW
  have c0 : W.cell? ⟨w.heap.size, 0, none⟩ = some (.slice ia il ic) := by rw [hW]; go_simp
  have c1 : W.cell? ⟨w.heap.size, 1, none⟩ = some (.slice la ll lc) := by rw [hW]; go_simp
  have c2 : W.cell? ⟨w.heap.size, 2, none⟩ = some (.slice da dl dc) := by rw [hW]; go_simp
  have c3 : W.cell? ⟨w.heap.size, 3, none⟩ = some (.slice oa ol oc) := by rw [hW]; go_simp
  have c4 : W.cell? ⟨w.heap.size + 1, 0, none⟩ = some (.int .i64 ts) := by rw [hW]; go_simp
  have c5 : W.cell? ⟨w.heap.size + 1, 1, none⟩ = some (.int .i64 tn) := by rw [hW]; go_simp
  have KA : Hid (∀ U : World, Below W.heap.size W U → U.cell? ⟨w.heap.size, 0, none⟩ = some (.slice ia il ic) ∧ U.cell? ⟨w.heap.size, 1, none⟩ = some (.slice la ll lc) ∧ U.cell? ⟨w.heap.size, 2, none⟩ = some (.slice da dl dc) ∧ U.cell? ⟨w.heap.size, 3, none⟩ = some (.slice oa ol oc) ∧ U.cell? ⟨w.heap.size + 1, 0, none⟩ = some (.int .i64 ts) ∧ U.cell? ⟨w.heap.size + 1, 1, none⟩ = some (.int .i64 tn)) := fun U hU =>
    ⟨(hU.cell (p := ⟨w.heap.size, 0, none⟩) z0).trans c0, (hU.cell (p := ⟨w.heap.size, 1, none⟩) z0).trans c1, (hU.cell (p := ⟨w.heap.size, 2, none⟩) z0).trans c2, (hU.cell (p := ⟨w.heap.size, 3, none⟩) z0).trans c3, (hU.cell (p := ⟨w.heap.size + 1, 0, none⟩) z1).trans c4, (hU.cell (p := ⟨w.heap.size + 1, 1, none⟩) z1).trans c5⟩
  have hSW := hh.below hB
  have HS : Hid (∀ U : World, Below W.heap.size W U → IsItems U ia il ic items ∧ IsLocks U la ll lc locks) := fun U hU => by
    have hs := hh.below (hB.trans (hU.mono hB.size))
    exact ⟨hs.items, hs.locks⟩
  go_enter Try.func18, Try.ntmps18
  go_upto_region 1 with (fail)
  rw [← hW]
  clear hW
  by_cases hE : E = 0
  · subst hE
    go_upto_region 4 with (go_at_call 35; refine (hC _ hSW).mono ?_; rintro e w1 ⟨rfl, hb1⟩; have hw1 := hB.trans (hb1.mono hB.size))
    have hD : Below W.heap.size W w1.drew := hb1.drew
    clear c0 c1 c2 c3 c4 c5
    cases L with
    | true =>
      go_region_held3 (fun U => U.cell? ⟨w.heap.size, 0, none⟩ = some (.slice ia il ic) ∧ U.cell? ⟨w.heap.size, 1, none⟩ = some (.slice la ll lc) ∧ U.cell? ⟨w.heap.size, 2, none⟩ = some (.slice da dl dc) ∧ U.cell? ⟨w.heap.size, 3, none⟩ = some (.slice oa ol oc) ∧ U.cell? ⟨w.heap.size + 1, 0, none⟩ = some (.int .i64 ts) ∧ U.cell? ⟨w.heap.size + 1, 1, none⟩ = some (.int .i64 tn))
        (first | exact KA.out _ hb4 | exact KA.out _ hb3 | exact KA.out _ hb2 | exact KA.out _ hD | exact KA.out _ hb1)
        (first
          | ((go_at_call 38; refine (hBy _).mono ?_; rintro e w2 ⟨bb, bc, rfl, hAs, hb2'⟩; have hb2 : Below W.heap.size W w2 := hD.trans (hb2'.mono hD.size); have hTT := (HS.out _ hb2).2))
          | ((go_at_call 46; refine (hCn _ _ _ hTT hAs).mono ?_; rintro e w3 ⟨rfl, hb3'⟩; have hb3 : Below W.heap.size W w3 := hb2.trans (hb3'.mono hb2.size); have hT3 := (HS.out _ hb3).1))
          | ((go_at_call 36; refine (hIt _ hT3).mono ?_; rintro e w4 ⟨rfl, hb4'⟩; have hb4 : Below W.heap.size W w4 := hb3.trans (hb4'.mono hb3.size))))
      all_goals
        have hwF := hB.trans (hb4.mono hB.size)
        go_wp2
        go_ret2
        exact ⟨by rw [eR.out]; simp; try rfl, hwF⟩
    | false =>
      obtain ⟨x0, x1, x2, x3, x4, x5⟩ := KA.out _ hD
      first | go_region_with (first
          | ((go_at_call 38; refine (hBy _).mono ?_; rintro e w2 ⟨bb, bc, rfl, hAs, hb2'⟩; have hb2 : Below W.heap.size W w2 := hD.trans (hb2'.mono hD.size); have hTT := (HS.out _ hb2).2; obtain ⟨y0, y1, y2, y3, y4, y5⟩ := KA.out _ hb2))
          | ((go_at_call 46; refine (hCn _ _ _ hTT hAs).mono ?_; rintro e w3 ⟨rfl, hb3'⟩; have hb3 : Below W.heap.size W w3 := hb2.trans (hb3'.mono hb2.size); obtain ⟨v0, v1, v2, v3, v4, v5⟩ := KA.out _ hb3))) | fail
      all_goals
        have hwF := hB.trans (hb3.mono hB.size)
        go_wp2
        go_ret2
        exact ⟨by rw [eR.out]; rfl, hwF⟩
  · go_wp2_with (go_at_call 35; refine (hC _ hSW).mono ?_; rintro e w1 ⟨rfl, hb1⟩; have hw1 := hB.trans (hb1.mono hB.size))
    go_ret2
    exact ⟨by rw [eR.out]; simp [hE], hw1⟩
end Go.Proofs.Ytbmbahifkegehaa.St
