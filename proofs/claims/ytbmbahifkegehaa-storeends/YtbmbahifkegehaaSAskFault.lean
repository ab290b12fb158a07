/- The contract of the document's askFault. -/
import Derived.Test.YtbmbahifkegehaaSMay
namespace Go.Proofs.Ytbmbahifkegehaa.St
open Go.ChangeShapes Go.WideShapes Go.ChangeAt Go.RowKit
set_option linter.unusedVariables false

def askErr (s : SV) (t : Int × Int) (key : Int) : Int := if storeOK s then (if txOK t && inR key 0 7 then 0 else 2) else 9

set_option maxHeartbeats 1000000 in
theorem askFault_any (s : SV) (t : Int × Int) (key : Int) (w : World) (h : IsStore w s) :
    Calls Try.prog 31 #[s.val, .agg #[.int .i64 t.1, .int .i64 t.2], .int .i64 key] w fun e w' => e = .returned (.int .i64 (askErr s t key)) ∧ Below w.heap.size w w' := by
  have hM := fun w' h1 => storeMay_any s w' h1
  have hT := fun w' => plainTxn_any t w'
  have eR : Hid (askErr s t key = if storeOK s then (if txOK t && inR key 0 7 then 0 else 2) else 9) := rfl
  obtain ⟨R, e0⟩ : ∃ R, R = askErr s t key := ⟨_, rfl⟩
  obtain ⟨S, e1⟩ : ∃ R, R = storeOK s := ⟨_, rfl⟩
  obtain ⟨T, e2⟩ : ∃ R, R = txOK t := ⟨_, rfl⟩
  obtain ⟨K, e3⟩ : ∃ R, R = inR key 0 7 := ⟨_, rfl⟩
  rw [← e0, ← e1, ← e2, ← e3] at eR
  rw [← e1] at hM
  rw [← e2] at hT
  rw [← e0]
  replace e3 := e3.symm
  clear e0 e1 e2
  have hh := h
  obtain ⟨ia, il, ic, la, ll, lc, da, dl, dc, oa, ol, oc, items, locks, doubts, over⟩ := s
  obtain ⟨ts, tn⟩ := t
  simp only [SV.val] at *
  obtain ⟨W, hW⟩ : ∃ W : World, W = (w.alloc (.cells #[.slice ia il ic, .slice la ll lc, .slice da dl dc, .slice oa ol oc] 27)).alloc (.cells #[.int .i64 ts, .int .i64 tn] 29) := ⟨_, rfl⟩
  have hB : Below w.heap.size w W := by rw [hW]; exact ((Below.refl _ _).alloc (Nat.le_refl _) _).alloc (by simp) _
  have zW : W.heap.size = w.heap.size + 2 := by rw [hW]; simp
  have z1 : w.heap.size + 1 < W.heap.size := by omega
  clear zW
  have c0 : W.cell? ⟨w.heap.size, 0, none⟩ = some (.slice ia il ic) := by rw [hW]; go_simp
  have c1 : W.cell? ⟨w.heap.size, 1, none⟩ = some (.slice la ll lc) := by rw [hW]; go_simp
  have c2 : W.cell? ⟨w.heap.size, 2, none⟩ = some (.slice da dl dc) := by rw [hW]; go_simp
  have c3 : W.cell? ⟨w.heap.size, 3, none⟩ = some (.slice oa ol oc) := by rw [hW]; go_simp
  have d0 : W.cell? ⟨w.heap.size + 1, 0, none⟩ = some (.int .i64 ts) := by rw [hW]; go_simp
  have d1 : W.cell? ⟨w.heap.size + 1, 1, none⟩ = some (.int .i64 tn) := by rw [hW]; go_simp
  have hSW := hh.below hB
  go_enter Try.func31, Try.ntmps31
  go_upto_region 1 with (fail)
  rw [← hW]
  clear hW
  cases S <;> cases T <;> cases K
  all_goals
    go_wp2_with (first
      | (go_at_call 59; refine (hM _ hSW).mono ?_; rintro e w1 ⟨rfl, hb1⟩; have hw1 := hB.trans (hb1.mono hB.size); have x0 := (hb1.cell (p := ⟨w.heap.size + 1, 0, none⟩) z1).trans d0; have x1 := (hb1.cell (p := ⟨w.heap.size + 1, 1, none⟩) z1).trans d1)
      | (go_at_call 60; refine (hT _).mono ?_; rintro e w2 ⟨rfl, hb2⟩; have hw2 := hw1.trans (hb2.mono hw1.size))
      | (go_at_call 61; refine (in_any _ _ _ _).mono ?_; rintro e u ⟨rfl, hu⟩; rw [hu, e3]; clear hu))
    go_ret
    exact ⟨by rw [eR.out]; rfl, by first | exact hw2 | exact hw1⟩

end Go.Proofs.Ytbmbahifkegehaa.St
