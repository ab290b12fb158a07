/- The contracts of the document's callMay and labelMay. -/
import Derived.Test.YtoonldnbpnlalaaDoorLnOnly
import Derived.Test.YtoonldnbpnlalaaDoorFault
import Derived.Deep.CutBlock
namespace Go.Proofs.YtoonldnbpnlalaaDoor.Ln
open Go.ChangeShapes Go.WideShapes Go.ChangeAt Go.RowKit
set_option linter.unusedVariables false

theorem plc_inR (l : Int) (len : Nat) : plc l len = inR l 0 ((len : Int) - 1) := by unfold plc inR; rw [Bool.eq_iff_iff]; simp; omega
theorem labelMay_any (s p : Int) (a : Option Addr) (len cap : Nat) (l : Int) (w : World) (hl : len ≤ 6) :
    Calls Tryd.prog 18 #[.agg #[.int .i64 s, .slice a len cap, .int .i64 p], .int .i64 l] w fun e w' => e = .returned (.bool (plc l len)) ∧ Below w.heap.size w w' := by
  have hA : Below w.heap.size w (w.alloc (.cells #[.int .i64 s, .slice a len cap, .int .i64 p] 24)) := (Below.refl _ _).alloc (Nat.le_refl _) _
  have h2 : (len : Int) ≤ 6 := by omega
  rw [plc_inR]
  go_enter Tryd.func18, Tryd.ntmps18
  go_wp2_with (go_at_call 17; refine (in_any _ _ _ _).mono ?_; rintro e u1 ⟨rfl, hu1⟩; rw [hu1]; clear hu1)
  go_ret
  exact ⟨rfl, hA⟩

set_option maxRecDepth 100000 in
set_option maxHeartbeats 4000000 in
theorem callMay_any (c0 c1 c2 c3 c4 : Int) (w : World) :
    Calls Tryd.prog 19 #[.agg #[.int .i64 c0, .int .i64 c1, .int .i64 c2, .int .i64 c3, .int .i64 c4]] w fun e w' => e = .returned (.int .i64 (callFault c0 c1 c2 c3 c4)) ∧ Below w.heap.size w w' := by
  have hB : Below w.heap.size w (w.alloc (.cells #[.int .i64 c0, .int .i64 c1, .int .i64 c2, .int .i64 c3, .int .i64 c4] 27)) := (Below.refl _ _).alloc (Nat.le_refl _) _
  obtain ⟨F, eF⟩ : ∃ F, F = callFault c0 c1 c2 c3 c4 := ⟨_, rfl⟩
  have HF : Hid (F = callFault c0 c1 c2 c3 c4) := eF
  rw [← eF]
  clear eF
  cases hK : inR c0 1 5 with
  | false =>
    have hf : Hid (F = 3) := by show _ = _; rw [HF.out, callFault, if_pos hK]
    go_enter Tryd.func19, Tryd.ntmps19
    go_wp2_with (go_at_call 17; refine (in_any _ _ _ _).mono ?_; rintro e u1 ⟨rfl, hu1⟩; rw [hu1]; clear hu1)
    go_ret
    exact ⟨ret_int hf.out.symm, hB⟩
  | true =>
    have kb := inR_of hK
    have HF1 : Hid (F = if inTops cTops [c1, c2, c3, c4] = false then 2 else if only (cHas.getD c0.toNat []) [c1, c2, c3, c4] = false then 4 else 0) := by
      show _ = _
      rw [HF.out, callFault, if_neg (by rw [hK]; simp)]
    clear HF
    cases h1 : inR c1 0 1048576 with
    | false =>
      have hf : Hid (F = 2) := by show _ = _; rw [HF1.out, if_pos (by simp [inTops, cTops, h1])]
      clear HF1
      go_enter Tryd.func19, Tryd.ntmps19
      go_wp2_with (go_at_call 17; refine (in_any _ _ _ _).mono ?_; rintro e u1 ⟨rfl, hu1⟩; rw [hu1]; clear hu1)
      go_ret
      exact ⟨ret_int hf.out.symm, hB⟩
    | true =>
      cases h2 : inR c2 0 5 with
      | false =>
        have hf : Hid (F = 2) := by show _ = _; rw [HF1.out, if_pos (by simp [inTops, cTops, h1, h2])]
        clear HF1
        go_enter Tryd.func19, Tryd.ntmps19
        go_wp2_with (go_at_call 17; refine (in_any _ _ _ _).mono ?_; rintro e u1 ⟨rfl, hu1⟩; rw [hu1]; clear hu1)
        go_ret
        exact ⟨ret_int hf.out.symm, hB⟩
      | true =>
        cases h3 : inR c3 0 8 with
        | false =>
          have hf : Hid (F = 2) := by show _ = _; rw [HF1.out, if_pos (by simp [inTops, cTops, h1, h2, h3])]
          clear HF1
          go_enter Tryd.func19, Tryd.ntmps19
          go_wp2_with (go_at_call 17; refine (in_any _ _ _ _).mono ?_; rintro e u1 ⟨rfl, hu1⟩; rw [hu1]; clear hu1)
          go_ret
          exact ⟨ret_int hf.out.symm, hB⟩
        | true =>
          cases h4 : inR c4 0 1073741824 with
          | false =>
            have hf : Hid (F = 2) := by show _ = _; rw [HF1.out, if_pos (by simp [inTops, cTops, h1, h2, h3, h4])]
            clear HF1
            go_enter Tryd.func19, Tryd.ntmps19
            go_wp2_with (go_at_call 17; refine (in_any _ _ _ _).mono ?_; rintro e u1 ⟨rfl, hu1⟩; rw [hu1]; clear hu1)
            go_ret
            exact ⟨ret_int hf.out.symm, hB⟩
          | true =>
            have HF2 : Hid (F = if only (cHas.getD c0.toNat []) [c1, c2, c3, c4] = false then 4 else 0) := by show _ = _; rw [HF1.out, if_neg (by simp [inTops, cTops, h1, h2, h3, h4])]
            clear HF1
            rcases (by omega : c0 = 1 ∨ c0 = 2 ∨ c0 = 3 ∨ c0 = 4 ∨ c0 = 5) with rfl | rfl | rfl | rfl | rfl
            all_goals
              go_enter Tryd.func19, Tryd.ntmps19
              go_wp2_with (go_at_call 17; refine (in_any _ _ _ _).mono ?_; rintro e u1 ⟨rfl, hu1⟩; rw [hu1]; clear hu1)
            all_goals
              go_ret
              exact ⟨ret_int (by rw [HF2.out]; clear HF2 hB; simp_all [only, cHas]), (Below.refl _ _).alloc (Nat.le_refl _) _⟩
end Go.Proofs.YtoonldnbpnlalaaDoor.Ln
