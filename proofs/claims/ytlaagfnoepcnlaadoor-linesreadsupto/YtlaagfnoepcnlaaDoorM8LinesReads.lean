/- Texts of this claim, one behind the other. -/
import Derived.Test.YtlaagfnoepcnlaaDoorM7LinesReads
import Derived.Deep.CutBlock
import Derived.Orders
/- The contracts of the document's callMay and labelMay. -/
namespace Go.Proofs.YtlaagfnoepcnlaaDoor.Ln
open Go.ChangeShapes Go.WideShapes Go.ChangeAt Go.RowKit
set_option linter.unusedVariables false

theorem plc_inR (l : Int) (len : Nat) : plc l len = inR l 0 ((len : Int) - 1) := by unfold plc inR; rw [Bool.eq_iff_iff]; simp; omega
theorem labelMay_any (s p : Int) (a : Option Addr) (len cap : Nat) (l : Int) (w : World) (hl : len ≤ 6) :
    Calls Tryd.prog 50 #[.agg #[.int .i64 s, .slice a len cap, .int .i64 p], .int .i64 l] w fun e w' => e = .returned (.bool (plc l len)) ∧ Below w.heap.size w w' := by
  have hA : Below w.heap.size w (w.alloc (.cells #[.int .i64 s, .slice a len cap, .int .i64 p] 24)) := (Below.refl _ _).alloc (Nat.le_refl _) _
  have h2 : (len : Int) ≤ 6 := by omega
  rw [plc_inR]
  go_enter Tryd.func50, Tryd.ntmps50
  go_wp2_with (go_at_call 49; refine (in_any _ _ _ _).mono ?_; rintro e u1 ⟨rfl, hu1⟩; rw [hu1]; clear hu1)
  go_ret
  exact ⟨rfl, hA⟩

set_option maxRecDepth 100000 in
set_option maxHeartbeats 4000000 in
theorem callMay_any (c0 c1 c2 c3 c4 : Int) (w : World) :
    Calls Tryd.prog 51 #[.agg #[.int .i64 c0, .int .i64 c1, .int .i64 c2, .int .i64 c3, .int .i64 c4]] w fun e w' => e = .returned (.int .i64 (callFault c0 c1 c2 c3 c4)) ∧ Below w.heap.size w w' := by
  have hB : Below w.heap.size w (w.alloc (.cells #[.int .i64 c0, .int .i64 c1, .int .i64 c2, .int .i64 c3, .int .i64 c4] 39)) := (Below.refl _ _).alloc (Nat.le_refl _) _
  obtain ⟨F, eF⟩ : ∃ F, F = callFault c0 c1 c2 c3 c4 := ⟨_, rfl⟩
  have HF : Hid (F = callFault c0 c1 c2 c3 c4) := eF
  rw [← eF]
  clear eF
  cases hK : inR c0 1 5 with
  | false =>
    have hf : Hid (F = 3) := by show _ = _; rw [HF.out, callFault, if_pos hK]
    go_enter Tryd.func51, Tryd.ntmps51
    go_wp2_with (go_at_call 49; refine (in_any _ _ _ _).mono ?_; rintro e u1 ⟨rfl, hu1⟩; rw [hu1]; clear hu1)
    go_ret
    exact ⟨ret_int hf.out.symm, hB⟩
  | true =>
    have kb := inR_of hK
    have HF1 : Hid (F = if inTops cTops [c1, c2, c3, c4] = false then 2 else if only (cHas.getD c0.toNat []) [c1, c2, c3, c4] = false then 4 else 0) := by
      show _ = _
      rw [HF.out, callFault, if_neg (by rw [hK]; simp)]
    clear HF
    cases h1 : inR c1 0 1048576 with
    | false =>
      have hf : Hid (F = 2) := by show _ = _; rw [HF1.out, if_pos (by simp [inTops, cTops, h1])]
      clear HF1
      go_enter Tryd.func51, Tryd.ntmps51
      go_wp2_with (go_at_call 49; refine (in_any _ _ _ _).mono ?_; rintro e u1 ⟨rfl, hu1⟩; rw [hu1]; clear hu1)
      go_ret
      exact ⟨ret_int hf.out.symm, hB⟩
    | true =>
      cases h2 : inR c2 0 5 with
      | false =>
        have hf : Hid (F = 2) := by show _ = _; rw [HF1.out, if_pos (by simp [inTops, cTops, h1, h2])]
        clear HF1
        go_enter Tryd.func51, Tryd.ntmps51
        go_wp2_with (go_at_call 49; refine (in_any _ _ _ _).mono ?_; rintro e u1 ⟨rfl, hu1⟩; rw [hu1]; clear hu1)
        go_ret
        exact ⟨ret_int hf.out.symm, hB⟩
      | true =>
        cases h3 : inR c3 0 8 with
        | false =>
          have hf : Hid (F = 2) := by show _ = _; rw [HF1.out, if_pos (by simp [inTops, cTops, h1, h2, h3])]
          clear HF1
          go_enter Tryd.func51, Tryd.ntmps51
          go_wp2_with (go_at_call 49; refine (in_any _ _ _ _).mono ?_; rintro e u1 ⟨rfl, hu1⟩; rw [hu1]; clear hu1)
          go_ret
          exact ⟨ret_int hf.out.symm, hB⟩
        | true =>
          cases h4 : inR c4 0 1073741824 with
          | false =>
            have hf : Hid (F = 2) := by show _ = _; rw [HF1.out, if_pos (by simp [inTops, cTops, h1, h2, h3, h4])]
            clear HF1
            go_enter Tryd.func51, Tryd.ntmps51
            go_wp2_with (go_at_call 49; refine (in_any _ _ _ _).mono ?_; rintro e u1 ⟨rfl, hu1⟩; rw [hu1]; clear hu1)
            go_ret
            exact ⟨ret_int hf.out.symm, hB⟩
          | true =>
            have HF2 : Hid (F = if only (cHas.getD c0.toNat []) [c1, c2, c3, c4] = false then 4 else 0) := by show _ = _; rw [HF1.out, if_neg (by simp [inTops, cTops, h1, h2, h3, h4])]
            clear HF1
            rcases (by omega : c0 = 1 ∨ c0 = 2 ∨ c0 = 3 ∨ c0 = 4 ∨ c0 = 5) with rfl | rfl | rfl | rfl | rfl
            all_goals
              go_enter Tryd.func51, Tryd.ntmps51
              go_wp2_with (go_at_call 49; refine (in_any _ _ _ _).mono ?_; rintro e u1 ⟨rfl, hu1⟩; rw [hu1]; clear hu1)
            all_goals
              go_ret
              exact ⟨ret_int (by rw [HF2.out]; clear HF2 hB; simp_all [only, cHas]), (Below.refl _ _).alloc (Nat.le_refl _) _⟩
end Go.Proofs.YtlaagfnoepcnlaaDoor.Ln
/- The contract of the document's ActFault. -/
namespace Go.Proofs.YtlaagfnoepcnlaaDoor.Ln
open Go.ChangeShapes Go.WideShapes Go.ChangeAt Go.RowKit
set_option linter.unusedVariables false

theorem keep_cons {zs : List Int} {k : Nat} (hk : k < zs.length) : keepIn (zs.drop k) = (inR (zs.getD k 0) 0 6000 && keepIn (zs.drop (k + 1))) := by
  unfold keepIn
  rw [List.drop_eq_getElem_cons hk, List.all_cons]
  simp [List.getD, hk]

theorem line_nil {b : ByteArray} (h : b.size = 0) : b = { data := #[] } := by
  obtain ⟨d⟩ := b
  have : d.size = 0 := h
  rw [Array.eq_empty_of_size_eq_zero this]
theorem tl_ne {b : ByteArray} (h : b.size ≠ 0) : b.toList.isEmpty = false := by
  rw [ByteArray.toList_eq b]
  cases hb : b.data.toList with
  | nil => exact absurd (by have : b.data.size = 0 := by (have := congrArg List.length hb; simpa using this)
                            exact this) h
  | cons x xs => rfl
theorem one_nz {c0 c1 c2 c3 c4 : Int} (h : ¬ (c0 = 0 ∧ c1 = 0 ∧ c2 = 0 ∧ c3 = 0 ∧ c4 = 0)) : one (nz c0 c1 c2 c3 c4) = 1 := by
  have : nz c0 c1 c2 c3 c4 = true := by
    unfold nz
    simp
    omega
  rw [this]
  rfl
set_option maxRecDepth 100000 in
set_option maxHeartbeats 16000000 in
theorem actFault_any (s p : Int) (a : Option Addr) (len cap : Nat) (ls : List (Int × Int)) (v : AV) (w : World) (h : IsLabs w a len cap ls) (hk : IsInts w v.ka v.kl v.kc v.keep) :
    Calls Tryd.prog 26 #[.agg #[.int .i64 s, .slice a len cap, .int .i64 p], .agg v.cells.toArray] w fun e w' => e = .returned (.int .i64 (actFault s ls p v)) ∧ Below w.heap.size w w' := by
  obtain ⟨F, eF⟩ : ∃ F, F = actFault s ls p v := ⟨_, rfl⟩
  have hlen0 := h.1
  rw [← eF]
  have HF : Hid (F = if cfgFault s ls p ≠ 0 then cfgFault s ls p else if inR v.kind 1 8 = false then 3 else if actIn s len v = false then 2 else if only (aHas.getD v.kind.toNat []) (aParts v) = false then 4 else if v.kind = 1 then callFault v.c0 v.c1 v.c2 v.c3 v.c4 else 0) := by
    show _ = _
    rw [eF, actFault, hlen0]
  clear eF
  obtain ⟨kind, site, to1, label, pick, ka, kl, kc, c0, c1, c2, c3, c4, line, keep⟩ := v
  simp only [AV.cells, aParts, actIn] at *
  have HKL : Hid (keep.length = kl) := hk.1
  have hkm : kl ≤ maxLen := Nat.le_trans hk.2.1 hk.2.2.1
  unfold maxLen at hkm
  obtain ⟨W, hW⟩ : ∃ W : World, W = (w.alloc (.cells #[.int .i64 s, .slice a len cap, .int .i64 p] 24)).alloc (.cells #[.int .i64 kind, .int .i64 site, .int .i64 to1, .int .i64 label, .int .i64 pick, .slice ka kl kc, .int .i64 c0, .int .i64 c1, .int .i64 c2, .int .i64 c3, .int .i64 c4, .string line] 41) := ⟨_, rfl⟩
  have hB : Below w.heap.size w W := by rw [hW]; exact ((Below.refl _ _).alloc (Nat.le_refl _) _).alloc (by simp) _
  have zW : w.heap.size + 1 < W.heap.size := by rw [hW]; simp
  have hLW := h.below hB
  have HK : Hid (∀ U, Below W.heap.size W U → IsInts U ka kl kc keep) := fun U hU => (hk.below hB).below hU
  clear hk
  have d0 : W.cell? ⟨w.heap.size, 0, none⟩ = some (.int .i64 s) := by rw [hW]; go_simp
  have d1 : W.cell? ⟨w.heap.size, 1, none⟩ = some (.slice a len cap) := by rw [hW]; go_simp
  have d2 : W.cell? ⟨w.heap.size, 2, none⟩ = some (.int .i64 p) := by rw [hW]; go_simp
  have e0 : W.cell? ⟨w.heap.size + 1, 0, none⟩ = some (.int .i64 kind) := by rw [hW]; go_simp
  have e1 : W.cell? ⟨w.heap.size + 1, 1, none⟩ = some (.int .i64 site) := by rw [hW]; go_simp
  have e2 : W.cell? ⟨w.heap.size + 1, 2, none⟩ = some (.int .i64 to1) := by rw [hW]; go_simp
  have e3 : W.cell? ⟨w.heap.size + 1, 3, none⟩ = some (.int .i64 label) := by rw [hW]; go_simp
  have e4 : W.cell? ⟨w.heap.size + 1, 4, none⟩ = some (.int .i64 pick) := by rw [hW]; go_simp
  have e5 : W.cell? ⟨w.heap.size + 1, 5, none⟩ = some (.slice ka kl kc) := by rw [hW]; go_simp
  have e6 : W.cell? ⟨w.heap.size + 1, 6, none⟩ = some (.int .i64 c0) := by rw [hW]; go_simp
  have e7 : W.cell? ⟨w.heap.size + 1, 7, none⟩ = some (.int .i64 c1) := by rw [hW]; go_simp
  have e8 : W.cell? ⟨w.heap.size + 1, 8, none⟩ = some (.int .i64 c2) := by rw [hW]; go_simp
  have e9 : W.cell? ⟨w.heap.size + 1, 9, none⟩ = some (.int .i64 c3) := by rw [hW]; go_simp
  have e10 : W.cell? ⟨w.heap.size + 1, 10, none⟩ = some (.int .i64 c4) := by rw [hW]; go_simp
  have e11 : W.cell? ⟨w.heap.size + 1, 11, none⟩ = some (.string line) := by rw [hW]; go_simp
  have KC : Hid (∀ U : World, Below W.heap.size W U → U.cell? ⟨w.heap.size, 0, none⟩ = some (.int .i64 s) ∧ U.cell? ⟨w.heap.size, 1, none⟩ = some (.slice a len cap) ∧ U.cell? ⟨w.heap.size, 2, none⟩ = some (.int .i64 p) ∧ U.cell? ⟨w.heap.size + 1, 0, none⟩ = some (.int .i64 kind) ∧ U.cell? ⟨w.heap.size + 1, 1, none⟩ = some (.int .i64 site) ∧ U.cell? ⟨w.heap.size + 1, 2, none⟩ = some (.int .i64 to1) ∧ U.cell? ⟨w.heap.size + 1, 3, none⟩ = some (.int .i64 label) ∧ U.cell? ⟨w.heap.size + 1, 4, none⟩ = some (.int .i64 pick) ∧ U.cell? ⟨w.heap.size + 1, 5, none⟩ = some (.slice ka kl kc) ∧ U.cell? ⟨w.heap.size + 1, 6, none⟩ = some (.int .i64 c0) ∧ U.cell? ⟨w.heap.size + 1, 7, none⟩ = some (.int .i64 c1) ∧ U.cell? ⟨w.heap.size + 1, 8, none⟩ = some (.int .i64 c2) ∧ U.cell? ⟨w.heap.size + 1, 9, none⟩ = some (.int .i64 c3) ∧ U.cell? ⟨w.heap.size + 1, 10, none⟩ = some (.int .i64 c4) ∧ U.cell? ⟨w.heap.size + 1, 11, none⟩ = some (.string line)) := fun U hU => ⟨(hU.cell (p := ⟨w.heap.size, 0, none⟩) (by show w.heap.size < _; omega)).trans d0, (hU.cell (p := ⟨w.heap.size, 1, none⟩) (by show w.heap.size < _; omega)).trans d1, (hU.cell (p := ⟨w.heap.size, 2, none⟩) (by show w.heap.size < _; omega)).trans d2, (hU.cell (p := ⟨w.heap.size + 1, 0, none⟩) zW).trans e0, (hU.cell (p := ⟨w.heap.size + 1, 1, none⟩) zW).trans e1, (hU.cell (p := ⟨w.heap.size + 1, 2, none⟩) zW).trans e2, (hU.cell (p := ⟨w.heap.size + 1, 3, none⟩) zW).trans e3, (hU.cell (p := ⟨w.heap.size + 1, 4, none⟩) zW).trans e4, (hU.cell (p := ⟨w.heap.size + 1, 5, none⟩) zW).trans e5, (hU.cell (p := ⟨w.heap.size + 1, 6, none⟩) zW).trans e6, (hU.cell (p := ⟨w.heap.size + 1, 7, none⟩) zW).trans e7, (hU.cell (p := ⟨w.heap.size + 1, 8, none⟩) zW).trans e8, (hU.cell (p := ⟨w.heap.size + 1, 9, none⟩) zW).trans e9, (hU.cell (p := ⟨w.heap.size + 1, 10, none⟩) zW).trans e10, (hU.cell (p := ⟨w.heap.size + 1, 11, none⟩) zW).trans e11⟩
  go_enter Tryd.func26, Tryd.ntmps26
  go_upto_region 1 with (fail)
  rw [← hW]
  clear hW
  by_cases hF : cfgFault s ls p = 0
  case neg =>
    have hf : Hid (F = cfgFault s ls p) := by show _ = _; rw [HF.out, if_pos hF]
    clear HF
    go_wp2_with (go_at_call 25; refine (fault_any s p a len cap ls _ hLW).mono ?_; rintro e w1 ⟨rfl, hb1⟩)
    go_ret
    exact ⟨ret_int hf.out.symm, hB.trans (hb1.mono hB.size)⟩
  obtain ⟨s1, s4, n1, n6, _, _, _⟩ := cfg_zero hF
  have l6 : len ≤ 6 := by omega
  have hLM := fun n w' => labelMay_any s p a len cap n w' l6
  have HF1 : Hid (F = if inR kind 1 8 = false then 3 else if (decide (kl ≤ len) && keepIn keep && decide (line.size ≤ 60) && inR pick 0 1048576 && (inR site 0 (s - 1) && inR to1 0 (s - 1) && plc label len)) = false then 2 else if only (aHas.getD kind.toNat []) [site, to1, label, pick, (kl : Int), one (nz c0 c1 c2 c3 c4), (line.size : Int)] = false then 4 else if kind = 1 then callFault c0 c1 c2 c3 c4 else 0) := by show _ = _; rw [HF.out, if_neg (by simpa using hF)]
  clear HF
  have HLn : Hid (ls.length = len) := hlen0
  clear hlen0 n1 n6 h
  go_upto_region 4 with (go_at_call 25; refine (fault_any s p a len cap ls _ hLW).mono ?_; rintro e w1 ⟨rfl, hb1⟩)
  clear d0 d1 d2 e0 e1 e2 e3 e4 e5 e6 e7 e8 e9 e10 e11
  obtain ⟨d0, d1, d2, e0, e1, e2, e3, e4, e5, e6, e7, e8, e9, e10, e11⟩ := KC.out _ hb1
  cases hKd : inR kind 1 8 with
  | false =>
    have hf : Hid (F = 3) := by show _ = _; rw [HF1.out, if_pos hKd]
    clear HF1
    go_wp2_with (go_at_call 49; refine (in_any _ _ _ _).mono ?_; rintro e u1 ⟨rfl, hu1⟩; rw [hu1]; clear hu1)
    go_ret
    exact ⟨ret_int hf.out.symm, hB.trans (hb1.mono hB.size)⟩
  | true =>
    have kb := inR_of hKd
    have HF2 : Hid (F = if (decide (kl ≤ len) && keepIn keep && decide (line.size ≤ 60) && inR pick 0 1048576 && (inR site 0 (s - 1) && inR to1 0 (s - 1) && plc label len)) = false then 2 else if only (aHas.getD kind.toNat []) [site, to1, label, pick, (kl : Int), one (nz c0 c1 c2 c3 c4), (line.size : Int)] = false then 4 else if kind = 1 then callFault c0 c1 c2 c3 c4 else 0) := by show _ = _; rw [HF1.out, if_neg (by rw [hKd]; simp)]
    clear HF1
    go_upto_region 6 with (go_at_call 49; refine (in_any _ _ _ _).mono ?_; rintro e u1 ⟨rfl, hu1⟩; rw [hu1]; clear hu1)
    have hbv : Below W.heap.size W w1 := hb1
    cases t0 : inR site 0 (s - 1) with
    | false =>
      have hf : Hid (F = 2) := by show _ = _; rw [HF2.out, if_pos (by rw [t0]; simp)]
      clear HF2
      go_wp2_with (first | (go_at_call 49; refine (in_any _ _ _ _).mono ?_; rintro e u1 ⟨rfl, hu1⟩; rw [hu1]; clear hu1) | (go_at_call 50; refine (hLM _ _).mono ?_; rintro e u2 ⟨rfl, hb2⟩; replace hbv := hbv.trans (hb2.mono hbv.size); clear d0 d1 d2 e0 e1 e2 e3 e4 e5 e6 e7 e8 e9 e10 e11; obtain ⟨d0, d1, d2, e0, e1, e2, e3, e4, e5, e6, e7, e8, e9, e10, e11⟩ := KC.out _ hbv))
      go_ret
      exact ⟨ret_int hf.out.symm, hB.trans (hbv.mono hB.size)⟩
    | true =>
      cases t1 : inR to1 0 (s - 1) with
      | false =>
        have hf : Hid (F = 2) := by show _ = _; rw [HF2.out, if_pos (by rw [t1]; simp)]
        clear HF2
        go_wp2_with (first | (go_at_call 49; refine (in_any _ _ _ _).mono ?_; rintro e u1 ⟨rfl, hu1⟩; rw [hu1]; clear hu1) | (go_at_call 50; refine (hLM _ _).mono ?_; rintro e u2 ⟨rfl, hb2⟩; replace hbv := hbv.trans (hb2.mono hbv.size); clear d0 d1 d2 e0 e1 e2 e3 e4 e5 e6 e7 e8 e9 e10 e11; obtain ⟨d0, d1, d2, e0, e1, e2, e3, e4, e5, e6, e7, e8, e9, e10, e11⟩ := KC.out _ hbv))
        go_ret
        exact ⟨ret_int hf.out.symm, hB.trans (hbv.mono hB.size)⟩
      | true =>
        cases t2 : plc label len with
        | false =>
          have hf : Hid (F = 2) := by show _ = _; rw [HF2.out, if_pos (by rw [t2]; simp)]
          clear HF2
          go_wp2_with (first | (go_at_call 49; refine (in_any _ _ _ _).mono ?_; rintro e u1 ⟨rfl, hu1⟩; rw [hu1]; clear hu1) | (go_at_call 50; refine (hLM _ _).mono ?_; rintro e u2 ⟨rfl, hb2⟩; replace hbv := hbv.trans (hb2.mono hbv.size); clear d0 d1 d2 e0 e1 e2 e3 e4 e5 e6 e7 e8 e9 e10 e11; obtain ⟨d0, d1, d2, e0, e1, e2, e3, e4, e5, e6, e7, e8, e9, e10, e11⟩ := KC.out _ hbv))
          go_ret
          exact ⟨ret_int hf.out.symm, hB.trans (hbv.mono hB.size)⟩
        | true =>
          cases t3 : inR pick 0 1048576 with
          | false =>
            have hf : Hid (F = 2) := by show _ = _; rw [HF2.out, if_pos (by rw [t3]; simp)]
            clear HF2
            go_wp2_with (first | (go_at_call 49; refine (in_any _ _ _ _).mono ?_; rintro e u1 ⟨rfl, hu1⟩; rw [hu1]; clear hu1) | (go_at_call 50; refine (hLM _ _).mono ?_; rintro e u2 ⟨rfl, hb2⟩; replace hbv := hbv.trans (hb2.mono hbv.size); clear d0 d1 d2 e0 e1 e2 e3 e4 e5 e6 e7 e8 e9 e10 e11; obtain ⟨d0, d1, d2, e0, e1, e2, e3, e4, e5, e6, e7, e8, e9, e10, e11⟩ := KC.out _ hbv))
            go_ret
            exact ⟨ret_int hf.out.symm, hB.trans (hbv.mono hB.size)⟩
          | true =>
            by_cases r0 : kl ≤ len
            case neg =>
              have g0 : (len : Int) < (kl : Int) := by omega
              have hf : Hid (F = 2) := by show _ = _; rw [HF2.out, if_pos (by simp [r0])]
              clear HF2
              go_wp2_with (first | (go_at_call 49; refine (in_any _ _ _ _).mono ?_; rintro e u1 ⟨rfl, hu1⟩; rw [hu1]; clear hu1) | (go_at_call 50; refine (hLM _ _).mono ?_; rintro e u2 ⟨rfl, hb2⟩; replace hbv := hbv.trans (hb2.mono hbv.size); clear d0 d1 d2 e0 e1 e2 e3 e4 e5 e6 e7 e8 e9 e10 e11; obtain ⟨d0, d1, d2, e0, e1, e2, e3, e4, e5, e6, e7, e8, e9, e10, e11⟩ := KC.out _ hbv))
              go_ret
              exact ⟨ret_int hf.out.symm, hB.trans (hbv.mono hB.size)⟩
            have g0 : ¬ (len : Int) < (kl : Int) := by omega
            by_cases r1 : line.size ≤ 60
            case neg =>
              have g1 : (60 : Int) < (line.size : Int) := by omega
              have hf : Hid (F = 2) := by show _ = _; rw [HF2.out, if_pos (by simp [r1])]
              clear HF2
              go_wp2_with (first | (go_at_call 49; refine (in_any _ _ _ _).mono ?_; rintro e u1 ⟨rfl, hu1⟩; rw [hu1]; clear hu1) | (go_at_call 50; refine (hLM _ _).mono ?_; rintro e u2 ⟨rfl, hb2⟩; replace hbv := hbv.trans (hb2.mono hbv.size); clear d0 d1 d2 e0 e1 e2 e3 e4 e5 e6 e7 e8 e9 e10 e11; obtain ⟨d0, d1, d2, e0, e1, e2, e3, e4, e5, e6, e7, e8, e9, e10, e11⟩ := KC.out _ hbv))
              go_ret
              exact ⟨ret_int hf.out.symm, hB.trans (hbv.mono hB.size)⟩
            have g1 : ¬ (60 : Int) < (line.size : Int) := by omega
            have HF3 : Hid (F = if keepIn keep = false then 2 else if only (aHas.getD kind.toNat []) [site, to1, label, pick, (kl : Int), one (nz c0 c1 c2 c3 c4), (line.size : Int)] = false then 4 else if kind = 1 then callFault c0 c1 c2 c3 c4 else 0) := by show _ = _; rw [HF2.out, t0, t1, t2, t3, decide_eq_true r0, decide_eq_true r1]; simp
            clear HF2
            have gb0 : decide (len < kl) = false := by simp; omega
            have gb1 : decide ((60 : Int) < (line.size : Int)) = false := by simp; omega
            have gb2 : decide (60 < line.size) = false := by simp; omega
            go_upto_region 8 with (first | (go_at_call 49; refine (in_any _ _ _ _).mono ?_; rintro e u1 ⟨rfl, hu1⟩; rw [hu1]; clear hu1) | (go_at_call 50; refine (hLM _ _).mono ?_; rintro e u2 ⟨rfl, hb2⟩; replace hbv := hbv.trans (hb2.mono hbv.size); clear d0 d1 d2 e0 e1 e2 e3 e4 e5 e6 e7 e8 e9 e10 e11; obtain ⟨d0, d1, d2, e0, e1, e2, e3, e4, e5, e6, e7, e8, e9, e10, e11⟩ := KC.out _ hbv))
            obtain ⟨V, eV⟩ : ∃ V, V = u2 := ⟨_, rfl⟩
            rw [← eV] at hbv ⊢
            clear eV d0 d1 d2 e0 e1 e2 e3 e4 e5 e6 e7 e8 e9 e10 e11
            obtain ⟨d0, d1, d2, e0, e1, e2, e3, e4, e5, e6, e7, e8, e9, e10, e11⟩ := KC.out _ hbv
            have hwV := hB.trans (hbv.mono hB.size)
            have hmem := (HK.out V hbv).2.2.2.2
            have HR0 : Hid (keepIn keep = keepIn (keep.drop 0)) := rfl
            have zV : w.heap.size + 1 < V.heap.size := by have := hbv.size; omega
            clear hb1 hb2 KC HK hLM hF r0 r1 t3
            go_upto_region 9 with (fail)
            go_loop [6] (fun s6 => ∃ k : Nat, k ≤ kl ∧ s6 = .int .i64 (k : Int) ∧ Hid (keepIn keep = keepIn (keep.drop k))) (fun s6 => kl - (intOf s6).toNat)
            case atStart => exact ⟨0, Nat.zero_le _, rfl, HR0.out⟩
            case round =>
              obtain ⟨k, hk, rfl, hat⟩ := hrel
              by_cases hlt : k < kl
              · have hlt' : (k : Int) < (kl : Int) := by omega
                obtain ⟨b, off, rfl, zb, hc⟩ := hmem (by omega)
                have cz := hc k hlt
                have hst : Hid (keepIn keep = (inR (keep.getD k 0) 0 6000 && keepIn (keep.drop (k + 1)))) := by show _ = _; rw [hat.out]; exact keep_cons (by rw [HKL.out]; exact hlt)
                clear hat hc hmem
                obtain ⟨X, eX⟩ : ∃ X, X = keep.getD k 0 := ⟨_, rfl⟩
                rw [← eX] at cz hst
                clear eX
                cases hr : inR X 0 6000 with
                | true =>
                  have hn : Hid (keepIn keep = keepIn (keep.drop (k + 1))) := by show _ = _; rw [hst.out, hr]; rfl
                  clear hst
                  go_wp2_with (go_at_call 49; refine (in_any _ _ _ _).mono ?_; rintro e u1 ⟨rfl, hu1⟩; rw [hu1]; clear hu1)
                  go_round
                  case rel => exact ⟨k + 1, by omega, by go_num, hn.out⟩
                  case measure => simp [intOf]; omega
                | false =>
                  have hf : Hid (F = 2) := by show _ = _; rw [HF3.out, if_pos (by rw [hst.out, hr]; rfl)]
                  clear hst
                  go_wp2_with (go_at_call 49; refine (in_any _ _ _ _).mono ?_; rintro e u1 ⟨rfl, hu1⟩; rw [hu1]; clear hu1)
                  go_ret
                  exact ⟨ret_int hf.out.symm, hwV⟩
              · have HF4 : Hid (F = if only (aHas.getD kind.toNat []) [site, to1, label, pick, (kl : Int), one (nz c0 c1 c2 c3 c4), (line.size : Int)] = false then 4 else if kind = 1 then callFault c0 c1 c2 c3 c4 else 0) := by
                  show _ = _
                  rw [HF3.out, if_neg (by rw [hat.out, List.drop_eq_nil_of_le (by rw [HKL.out]; omega)]; simp [keepIn])]
                clear HF3 hat HR0 hmem

                rcases (by omega : kind = 1 ∨ kind = 2 ∨ kind = 3 ∨ kind = 4 ∨ kind = 5 ∨ kind = 6 ∨ kind = 7 ∨ kind = 8) with rfl | rfl | rfl | rfl | rfl | rfl | rfl | rfl
                · have hpath : inR 1 2 4 = false := by decide
                  clear hKd kb
                  go_upto_region 14 with (go_at_call 49; refine (in_any _ _ _ _).mono ?_; rintro e u1 ⟨rfl, hu1⟩; rw [hu1, hpath]; clear hu1)
                  simp only [List.append]
                  by_cases x_to : to1 = 0
                  case neg =>
                    have y1 : (to1 != 0) = true := by simpa using x_to
                    have hf : Hid (F = 4) := by show _ = _; rw [HF4.out, if_pos (by simp [only, aHas, x_to])]
                    clear HF4
                    go_wp2
                    go_ret
                    exact ⟨ret_int hf.out.symm, hwV⟩
                  subst x_to
                  by_cases x_pick : pick = 0
                  case neg =>
                    have y1 : (pick != 0) = true := by simpa using x_pick
                    have hf : Hid (F = 4) := by show _ = _; rw [HF4.out, if_pos (by simp [only, aHas, x_pick])]
                    clear HF4
                    go_wp2
                    go_ret
                    exact ⟨ret_int hf.out.symm, hwV⟩
                  subst x_pick
                  by_cases x_keep : kl = 0
                  case neg =>
                    have y1 : (0 : Int) < (kl : Int) := by omega
                    have y2 : decide (0 < kl) = true := by simp; omega
                    have hf : Hid (F = 4) := by show _ = _; rw [HF4.out, if_pos (by simp [only, aHas, x_keep])]
                    clear HF4
                    go_wp2
                    go_ret
                    exact ⟨ret_int hf.out.symm, hwV⟩
                  subst x_keep
                  by_cases x_line : line = { data := #[] }
                  case neg =>
                    have y2 : Hid (line.size ≠ 0) := fun h0 => x_line (line_nil h0)
                    have y1 : line.toList.isEmpty = false := tl_ne y2.out
                    clear x_line
                    have hf : Hid (F = 4) := by show _ = _; rw [HF4.out, if_pos (by have := y2.out; simp [only, aHas, this])]
                    clear HF4
                    go_wp2
                    go_ret
                    exact ⟨ret_int hf.out.symm, hwV⟩
                  subst x_line
                  have hf : Hid (F = callFault c0 c1 c2 c3 c4) := by show _ = _; rw [HF4.out, if_neg (by have hz0 : (({ data := #[] } : ByteArray).size : Int) = 0 := rfl; simp [only, aHas, hz0])]; simp
                  clear HF4
                  go_wp2_with (go_at_call 51; refine (callMay_any _ _ _ _ _ _).mono ?_; rintro e u3 ⟨rfl, hb3⟩)
                  go_ret
                  exact ⟨ret_int hf.out.symm, hwV.trans (hb3.mono hwV.size)⟩
                · have hpath : inR 2 2 4 = true := by decide
                  clear hKd kb
                  go_upto_region 14 with (go_at_call 49; refine (in_any _ _ _ _).mono ?_; rintro e u1 ⟨rfl, hu1⟩; rw [hu1, hpath]; clear hu1)
                  simp only [List.append]
                  by_cases x_keep : kl = 0
                  case neg =>
                    have y1 : (0 : Int) < (kl : Int) := by omega
                    have y2 : decide (0 < kl) = true := by simp; omega
                    have hf : Hid (F = 4) := by show _ = _; rw [HF4.out, if_pos (by simp [only, aHas, x_keep])]
                    clear HF4
                    go_wp2
                    go_ret
                    exact ⟨ret_int hf.out.symm, hwV⟩
                  subst x_keep
                  by_cases x_call : c0 = 0 ∧ c1 = 0 ∧ c2 = 0 ∧ c3 = 0 ∧ c4 = 0
                  case neg =>
                    have y1 : Hid (one (nz c0 c1 c2 c3 c4) = 1) := one_nz x_call
                    have y2 : Hid (¬ (c0 = 0 ∧ c1 = 0 ∧ c2 = 0 ∧ c3 = 0 ∧ c4 = 0)) := x_call
                    clear x_call
                    have hf : Hid (F = 4) := by show _ = _; rw [HF4.out, if_pos (by rw [y1.out]; simp [only, aHas])]
                    clear HF4
                    go_wp2
                    all_goals
                      first
                        | exact absurd ⟨by assumption, by assumption, by assumption, by assumption, by assumption⟩ y2.out
                        | (go_ret; exact ⟨ret_int hf.out.symm, hwV⟩)
                  obtain ⟨rfl, rfl, rfl, rfl, rfl⟩ := x_call
                  by_cases x_line : line = { data := #[] }
                  case neg =>
                    have y2 : Hid (line.size ≠ 0) := fun h0 => x_line (line_nil h0)
                    have y1 : line.toList.isEmpty = false := tl_ne y2.out
                    clear x_line
                    have hf : Hid (F = 4) := by show _ = _; rw [HF4.out, if_pos (by have := y2.out; simp [only, aHas, this])]
                    clear HF4
                    go_wp2
                    go_ret
                    exact ⟨ret_int hf.out.symm, hwV⟩
                  subst x_line
                  have hf : Hid (F = 0) := by show _ = _; rw [HF4.out, if_neg (by have hz0 : (({ data := #[] } : ByteArray).size : Int) = 0 := rfl; simp [only, aHas, one, nz, hz0])]; simp
                  clear HF4
                  go_wp2
                  go_ret
                  exact ⟨ret_int hf.out.symm, hwV⟩
                · have hpath : inR 3 2 4 = true := by decide
                  clear hKd kb
                  go_upto_region 14 with (go_at_call 49; refine (in_any _ _ _ _).mono ?_; rintro e u1 ⟨rfl, hu1⟩; rw [hu1, hpath]; clear hu1)
                  simp only [List.append]
                  by_cases x_keep : kl = 0
                  case neg =>
                    have y1 : (0 : Int) < (kl : Int) := by omega
                    have y2 : decide (0 < kl) = true := by simp; omega
                    have hf : Hid (F = 4) := by show _ = _; rw [HF4.out, if_pos (by simp [only, aHas, x_keep])]
                    clear HF4
                    go_wp2
                    go_ret
                    exact ⟨ret_int hf.out.symm, hwV⟩
                  subst x_keep
                  by_cases x_call : c0 = 0 ∧ c1 = 0 ∧ c2 = 0 ∧ c3 = 0 ∧ c4 = 0
                  case neg =>
                    have y1 : Hid (one (nz c0 c1 c2 c3 c4) = 1) := one_nz x_call
                    have y2 : Hid (¬ (c0 = 0 ∧ c1 = 0 ∧ c2 = 0 ∧ c3 = 0 ∧ c4 = 0)) := x_call
                    clear x_call
                    have hf : Hid (F = 4) := by show _ = _; rw [HF4.out, if_pos (by rw [y1.out]; simp [only, aHas])]
                    clear HF4
                    go_wp2
                    all_goals
                      first
                        | exact absurd ⟨by assumption, by assumption, by assumption, by assumption, by assumption⟩ y2.out
                        | (go_ret; exact ⟨ret_int hf.out.symm, hwV⟩)
                  obtain ⟨rfl, rfl, rfl, rfl, rfl⟩ := x_call
                  by_cases x_line : line = { data := #[] }
                  case neg =>
                    have y2 : Hid (line.size ≠ 0) := fun h0 => x_line (line_nil h0)
                    have y1 : line.toList.isEmpty = false := tl_ne y2.out
                    clear x_line
                    have hf : Hid (F = 4) := by show _ = _; rw [HF4.out, if_pos (by have := y2.out; simp [only, aHas, this])]
                    clear HF4
                    go_wp2
                    go_ret
                    exact ⟨ret_int hf.out.symm, hwV⟩
                  subst x_line
                  have hf : Hid (F = 0) := by show _ = _; rw [HF4.out, if_neg (by have hz0 : (({ data := #[] } : ByteArray).size : Int) = 0 := rfl; simp [only, aHas, one, nz, hz0])]; simp
                  clear HF4
                  go_wp2
                  go_ret
                  exact ⟨ret_int hf.out.symm, hwV⟩
                · have hpath : inR 4 2 4 = true := by decide
                  clear hKd kb
                  go_upto_region 14 with (go_at_call 49; refine (in_any _ _ _ _).mono ?_; rintro e u1 ⟨rfl, hu1⟩; rw [hu1, hpath]; clear hu1)
                  simp only [List.append]
                  by_cases x_keep : kl = 0
                  case neg =>
                    have y1 : (0 : Int) < (kl : Int) := by omega
                    have y2 : decide (0 < kl) = true := by simp; omega
                    have hf : Hid (F = 4) := by show _ = _; rw [HF4.out, if_pos (by simp [only, aHas, x_keep])]
                    clear HF4
                    go_wp2
                    go_ret
                    exact ⟨ret_int hf.out.symm, hwV⟩
                  subst x_keep
                  by_cases x_call : c0 = 0 ∧ c1 = 0 ∧ c2 = 0 ∧ c3 = 0 ∧ c4 = 0
                  case neg =>
                    have y1 : Hid (one (nz c0 c1 c2 c3 c4) = 1) := one_nz x_call
                    have y2 : Hid (¬ (c0 = 0 ∧ c1 = 0 ∧ c2 = 0 ∧ c3 = 0 ∧ c4 = 0)) := x_call
                    clear x_call
                    have hf : Hid (F = 4) := by show _ = _; rw [HF4.out, if_pos (by rw [y1.out]; simp [only, aHas])]
                    clear HF4
                    go_wp2
                    all_goals
                      first
                        | exact absurd ⟨by assumption, by assumption, by assumption, by assumption, by assumption⟩ y2.out
                        | (go_ret; exact ⟨ret_int hf.out.symm, hwV⟩)
                  obtain ⟨rfl, rfl, rfl, rfl, rfl⟩ := x_call
                  by_cases x_line : line = { data := #[] }
                  case neg =>
                    have y2 : Hid (line.size ≠ 0) := fun h0 => x_line (line_nil h0)
                    have y1 : line.toList.isEmpty = false := tl_ne y2.out
                    clear x_line
                    have hf : Hid (F = 4) := by show _ = _; rw [HF4.out, if_pos (by have := y2.out; simp [only, aHas, this])]
                    clear HF4
                    go_wp2
                    go_ret
                    exact ⟨ret_int hf.out.symm, hwV⟩
                  subst x_line
                  have hf : Hid (F = 0) := by show _ = _; rw [HF4.out, if_neg (by have hz0 : (({ data := #[] } : ByteArray).size : Int) = 0 := rfl; simp [only, aHas, one, nz, hz0])]; simp
                  clear HF4
                  go_wp2
                  go_ret
                  exact ⟨ret_int hf.out.symm, hwV⟩
                · have hpath : inR 5 2 4 = false := by decide
                  clear hKd kb
                  go_upto_region 14 with (go_at_call 49; refine (in_any _ _ _ _).mono ?_; rintro e u1 ⟨rfl, hu1⟩; rw [hu1, hpath]; clear hu1)
                  simp only [List.append]
                  by_cases x_site : site = 0
                  case neg =>
                    have y1 : (site != 0) = true := by simpa using x_site
                    have hf : Hid (F = 4) := by show _ = _; rw [HF4.out, if_pos (by simp [only, aHas, x_site])]
                    clear HF4
                    go_wp2
                    go_ret
                    exact ⟨ret_int hf.out.symm, hwV⟩
                  subst x_site
                  by_cases x_to : to1 = 0
                  case neg =>
                    have y1 : (to1 != 0) = true := by simpa using x_to
                    have hf : Hid (F = 4) := by show _ = _; rw [HF4.out, if_pos (by simp [only, aHas, x_to])]
                    clear HF4
                    go_wp2
                    go_ret
                    exact ⟨ret_int hf.out.symm, hwV⟩
                  subst x_to
                  by_cases x_pick : pick = 0
                  case neg =>
                    have y1 : (pick != 0) = true := by simpa using x_pick
                    have hf : Hid (F = 4) := by show _ = _; rw [HF4.out, if_pos (by simp [only, aHas, x_pick])]
                    clear HF4
                    go_wp2
                    go_ret
                    exact ⟨ret_int hf.out.symm, hwV⟩
                  subst x_pick
                  by_cases x_label : label = 0
                  case neg =>
                    have y1 : (label != 0) = true := by simpa using x_label
                    have hf : Hid (F = 4) := by show _ = _; rw [HF4.out, if_pos (by simp [only, aHas, x_label])]
                    clear HF4
                    go_wp2
                    go_ret
                    exact ⟨ret_int hf.out.symm, hwV⟩
                  subst x_label
                  by_cases x_keep : kl = 0
                  case neg =>
                    have y1 : (0 : Int) < (kl : Int) := by omega
                    have y2 : decide (0 < kl) = true := by simp; omega
                    have hf : Hid (F = 4) := by show _ = _; rw [HF4.out, if_pos (by simp [only, aHas, x_keep])]
                    clear HF4
                    go_wp2
                    go_ret
                    exact ⟨ret_int hf.out.symm, hwV⟩
                  subst x_keep
                  by_cases x_call : c0 = 0 ∧ c1 = 0 ∧ c2 = 0 ∧ c3 = 0 ∧ c4 = 0
                  case neg =>
                    have y1 : Hid (one (nz c0 c1 c2 c3 c4) = 1) := one_nz x_call
                    have y2 : Hid (¬ (c0 = 0 ∧ c1 = 0 ∧ c2 = 0 ∧ c3 = 0 ∧ c4 = 0)) := x_call
                    clear x_call
                    have hf : Hid (F = 4) := by show _ = _; rw [HF4.out, if_pos (by rw [y1.out]; simp [only, aHas])]
                    clear HF4
                    go_wp2
                    all_goals
                      first
                        | exact absurd ⟨by assumption, by assumption, by assumption, by assumption, by assumption⟩ y2.out
                        | (go_ret; exact ⟨ret_int hf.out.symm, hwV⟩)
                  obtain ⟨rfl, rfl, rfl, rfl, rfl⟩ := x_call
                  by_cases x_line : line = { data := #[] }
                  case neg =>
                    have y2 : Hid (line.size ≠ 0) := fun h0 => x_line (line_nil h0)
                    have y1 : line.toList.isEmpty = false := tl_ne y2.out
                    clear x_line
                    have hf : Hid (F = 4) := by show _ = _; rw [HF4.out, if_pos (by have := y2.out; simp [only, aHas, this])]
                    clear HF4
                    go_wp2
                    go_ret
                    exact ⟨ret_int hf.out.symm, hwV⟩
                  subst x_line
                  have hf : Hid (F = 0) := by show _ = _; rw [HF4.out, if_neg (by have hz0 : (({ data := #[] } : ByteArray).size : Int) = 0 := rfl; simp [only, aHas, one, nz, hz0])]; simp
                  clear HF4
                  go_wp2
                  go_ret
                  exact ⟨ret_int hf.out.symm, hwV⟩
                · have hpath : inR 6 2 4 = false := by decide
                  clear hKd kb
                  go_upto_region 14 with (go_at_call 49; refine (in_any _ _ _ _).mono ?_; rintro e u1 ⟨rfl, hu1⟩; rw [hu1, hpath]; clear hu1)
                  simp only [List.append]
                  by_cases x_to : to1 = 0
                  case neg =>
                    have y1 : (to1 != 0) = true := by simpa using x_to
                    have hf : Hid (F = 4) := by show _ = _; rw [HF4.out, if_pos (by simp [only, aHas, x_to])]
                    clear HF4
                    go_wp2
                    go_ret
                    exact ⟨ret_int hf.out.symm, hwV⟩
                  subst x_to
                  by_cases x_pick : pick = 0
                  case neg =>
                    have y1 : (pick != 0) = true := by simpa using x_pick
                    have hf : Hid (F = 4) := by show _ = _; rw [HF4.out, if_pos (by simp [only, aHas, x_pick])]
                    clear HF4
                    go_wp2
                    go_ret
                    exact ⟨ret_int hf.out.symm, hwV⟩
                  subst x_pick
                  by_cases x_label : label = 0
                  case neg =>
                    have y1 : (label != 0) = true := by simpa using x_label
                    have hf : Hid (F = 4) := by show _ = _; rw [HF4.out, if_pos (by simp [only, aHas, x_label])]
                    clear HF4
                    go_wp2
                    go_ret
                    exact ⟨ret_int hf.out.symm, hwV⟩
                  subst x_label
                  by_cases x_call : c0 = 0 ∧ c1 = 0 ∧ c2 = 0 ∧ c3 = 0 ∧ c4 = 0
                  case neg =>
                    have y1 : Hid (one (nz c0 c1 c2 c3 c4) = 1) := one_nz x_call
                    have y2 : Hid (¬ (c0 = 0 ∧ c1 = 0 ∧ c2 = 0 ∧ c3 = 0 ∧ c4 = 0)) := x_call
                    clear x_call
                    have hf : Hid (F = 4) := by show _ = _; rw [HF4.out, if_pos (by rw [y1.out]; simp [only, aHas])]
                    clear HF4
                    go_wp2
                    all_goals
                      first
                        | exact absurd ⟨by assumption, by assumption, by assumption, by assumption, by assumption⟩ y2.out
                        | (go_ret; exact ⟨ret_int hf.out.symm, hwV⟩)
                  obtain ⟨rfl, rfl, rfl, rfl, rfl⟩ := x_call
                  by_cases x_line : line = { data := #[] }
                  case neg =>
                    have y2 : Hid (line.size ≠ 0) := fun h0 => x_line (line_nil h0)
                    have y1 : line.toList.isEmpty = false := tl_ne y2.out
                    clear x_line
                    have hf : Hid (F = 4) := by show _ = _; rw [HF4.out, if_pos (by have := y2.out; simp [only, aHas, this])]
                    clear HF4
                    go_wp2
                    go_ret
                    exact ⟨ret_int hf.out.symm, hwV⟩
                  subst x_line
                  have hf : Hid (F = 0) := by show _ = _; rw [HF4.out, if_neg (by have hz0 : (({ data := #[] } : ByteArray).size : Int) = 0 := rfl; simp [only, aHas, one, nz, hz0])]; simp
                  clear HF4
                  go_wp2
                  go_ret
                  exact ⟨ret_int hf.out.symm, hwV⟩
                · have hpath : inR 7 2 4 = false := by decide
                  clear hKd kb
                  go_upto_region 14 with (go_at_call 49; refine (in_any _ _ _ _).mono ?_; rintro e u1 ⟨rfl, hu1⟩; rw [hu1, hpath]; clear hu1)
                  simp only [List.append]
                  by_cases x_to : to1 = 0
                  case neg =>
                    have y1 : (to1 != 0) = true := by simpa using x_to
                    have hf : Hid (F = 4) := by show _ = _; rw [HF4.out, if_pos (by simp [only, aHas, x_to])]
                    clear HF4
                    go_wp2
                    go_ret
                    exact ⟨ret_int hf.out.symm, hwV⟩
                  subst x_to
                  by_cases x_pick : pick = 0
                  case neg =>
                    have y1 : (pick != 0) = true := by simpa using x_pick
                    have hf : Hid (F = 4) := by show _ = _; rw [HF4.out, if_pos (by simp [only, aHas, x_pick])]
                    clear HF4
                    go_wp2
                    go_ret
                    exact ⟨ret_int hf.out.symm, hwV⟩
                  subst x_pick
                  by_cases x_label : label = 0
                  case neg =>
                    have y1 : (label != 0) = true := by simpa using x_label
                    have hf : Hid (F = 4) := by show _ = _; rw [HF4.out, if_pos (by simp [only, aHas, x_label])]
                    clear HF4
                    go_wp2
                    go_ret
                    exact ⟨ret_int hf.out.symm, hwV⟩
                  subst x_label
                  by_cases x_keep : kl = 0
                  case neg =>
                    have y1 : (0 : Int) < (kl : Int) := by omega
                    have y2 : decide (0 < kl) = true := by simp; omega
                    have hf : Hid (F = 4) := by show _ = _; rw [HF4.out, if_pos (by simp [only, aHas, x_keep])]
                    clear HF4
                    go_wp2
                    go_ret
                    exact ⟨ret_int hf.out.symm, hwV⟩
                  subst x_keep
                  by_cases x_call : c0 = 0 ∧ c1 = 0 ∧ c2 = 0 ∧ c3 = 0 ∧ c4 = 0
                  case neg =>
                    have y1 : Hid (one (nz c0 c1 c2 c3 c4) = 1) := one_nz x_call
                    have y2 : Hid (¬ (c0 = 0 ∧ c1 = 0 ∧ c2 = 0 ∧ c3 = 0 ∧ c4 = 0)) := x_call
                    clear x_call
                    have hf : Hid (F = 4) := by show _ = _; rw [HF4.out, if_pos (by rw [y1.out]; simp [only, aHas])]
                    clear HF4
                    go_wp2
                    all_goals
                      first
                        | exact absurd ⟨by assumption, by assumption, by assumption, by assumption, by assumption⟩ y2.out
                        | (go_ret; exact ⟨ret_int hf.out.symm, hwV⟩)
                  obtain ⟨rfl, rfl, rfl, rfl, rfl⟩ := x_call
                  by_cases x_line : line = { data := #[] }
                  case neg =>
                    have y2 : Hid (line.size ≠ 0) := fun h0 => x_line (line_nil h0)
                    have y1 : line.toList.isEmpty = false := tl_ne y2.out
                    clear x_line
                    have hf : Hid (F = 4) := by show _ = _; rw [HF4.out, if_pos (by have := y2.out; simp [only, aHas, this])]
                    clear HF4
                    go_wp2
                    go_ret
                    exact ⟨ret_int hf.out.symm, hwV⟩
                  subst x_line
                  have hf : Hid (F = 0) := by show _ = _; rw [HF4.out, if_neg (by have hz0 : (({ data := #[] } : ByteArray).size : Int) = 0 := rfl; simp [only, aHas, one, nz, hz0])]; simp
                  clear HF4
                  go_wp2
                  go_ret
                  exact ⟨ret_int hf.out.symm, hwV⟩
                · have hpath : inR 8 2 4 = false := by decide
                  clear hKd kb
                  go_upto_region 14 with (go_at_call 49; refine (in_any _ _ _ _).mono ?_; rintro e u1 ⟨rfl, hu1⟩; rw [hu1, hpath]; clear hu1)
                  simp only [List.append]
                  by_cases x_to : to1 = 0
                  case neg =>
                    have y1 : (to1 != 0) = true := by simpa using x_to
                    have hf : Hid (F = 4) := by show _ = _; rw [HF4.out, if_pos (by simp [only, aHas, x_to])]
                    clear HF4
                    go_wp2
                    go_ret
                    exact ⟨ret_int hf.out.symm, hwV⟩
                  subst x_to
                  by_cases x_pick : pick = 0
                  case neg =>
                    have y1 : (pick != 0) = true := by simpa using x_pick
                    have hf : Hid (F = 4) := by show _ = _; rw [HF4.out, if_pos (by simp [only, aHas, x_pick])]
                    clear HF4
                    go_wp2
                    go_ret
                    exact ⟨ret_int hf.out.symm, hwV⟩
                  subst x_pick
                  by_cases x_keep : kl = 0
                  case neg =>
                    have y1 : (0 : Int) < (kl : Int) := by omega
                    have y2 : decide (0 < kl) = true := by simp; omega
                    have hf : Hid (F = 4) := by show _ = _; rw [HF4.out, if_pos (by simp [only, aHas, x_keep])]
                    clear HF4
                    go_wp2
                    go_ret
                    exact ⟨ret_int hf.out.symm, hwV⟩
                  subst x_keep
                  by_cases x_call : c0 = 0 ∧ c1 = 0 ∧ c2 = 0 ∧ c3 = 0 ∧ c4 = 0
                  case neg =>
                    have y1 : Hid (one (nz c0 c1 c2 c3 c4) = 1) := one_nz x_call
                    have y2 : Hid (¬ (c0 = 0 ∧ c1 = 0 ∧ c2 = 0 ∧ c3 = 0 ∧ c4 = 0)) := x_call
                    clear x_call
                    have hf : Hid (F = 4) := by show _ = _; rw [HF4.out, if_pos (by rw [y1.out]; simp [only, aHas])]
                    clear HF4
                    go_wp2
                    all_goals
                      first
                        | exact absurd ⟨by assumption, by assumption, by assumption, by assumption, by assumption⟩ y2.out
                        | (go_ret; exact ⟨ret_int hf.out.symm, hwV⟩)
                  obtain ⟨rfl, rfl, rfl, rfl, rfl⟩ := x_call
                  have hf : Hid (F = 0) := by show _ = _; rw [HF4.out, if_neg (by simp [only, aHas, one, nz])]; simp
                  clear HF4
                  go_wp2
                  go_ret
                  exact ⟨ret_int hf.out.symm, hwV⟩
end Go.Proofs.YtlaagfnoepcnlaaDoor.Ln
/- A region that draws its order, by what each operation keeps: a small case for each operation in the place of one for each order. -/
namespace Go.Proofs.YtlaagfnoepcnlaaDoor

/-- A frame with other values in some slots. -/
def fr (a : Act) : List Nat → (Nat → Value) → Act
  | [], _ => a
  | d :: ds, T => fr (a.put (some d) (T d)) ds T
def upd (T : Nat → Value) (d : Nat) (v : Value) : Nat → Value := fun s => cond (Nat.beq s d) v (T s)
def lst (L : Nat → Bool) (k : Nat) : Nat → Bool := fun j => Nat.beq j k || L j
def slot0 (a : Act) : Nat → Value := fun s => (a.tmps[s]?).getD undef

def AllK (f : Nat → Oper → Prop) : Nat → List Oper → Prop
  | _, [] => True
  | k, o :: os => f k o ∧ AllK f (k + 1) os
theorem AllK.get {f : Nat → Oper → Prop} : ∀ {k : Nat} {os : List Oper}, AllK f k os → ∀ i o, os[i]? = some o → f (k + i) o
  | _, [], _, i, o, h => by simp at h
  | k, x :: xs, hh, i, o, h => by
    cases i with
    | zero => simp at h; subst h; exact hh.1
    | succ i =>
      have := AllK.get hh.2 i o (by simpa using h)
      rwa [show k + 1 + i = k + (i + 1) by omega] at this

/-- What has come up has come up behind what it waits for. -/
def Closed (ops : Array Oper) (L : Nat → Bool) : Prop := ∀ j o, ops[j]? = some o → L j = true → ∀ e ∈ o.after.toList, Region.binds .any e = true → L e.on = true
/-- What an operation leaves in its slot, and the world behind it. -/
def Oper.wpv (P : Program) (o : Oper) (a : Act) (w : World) (K : Value → World → Prop) (Q : Exit → Act → World → Prop) : Prop :=
  match (execOp a.eval o).run P w with
  | .ok (.value v) w' => K v w'
  | .ok .skip w' => K undef w'
  | .ok (.enter f args) w' => Calls P f args w' fun
      | .returned v, w'' => K v w''
      | .panicked chain, w'' => Q (.panic chain) a w''
      | .outgrown, _ => LetsOut Q
  | .ok (.row row args) w' => Rows P row args w' fun v w'' => K v w''
  | .halt (.panic v) w' => Q (.panic [{ v, recovered := false }]) a w'
  | _ => False
theorem Oper.wp_of_wpv {P : Program} {o : Oper} {a : Act} {w : World} {K : Value → World → Prop} {N : Act → World → Prop} {Q : Exit → Act → World → Prop} (h : Oper.wpv P o a w K Q) (hk : ∀ v w', K v w' → N (a.put o.dst v) w') : o.wp P a w N Q := by
  unfold Oper.wpv at h
  unfold Oper.wp
  generalize (execOp a.eval o).run P w = r at h
  cases r with
  | ok n w' =>
    cases n with
    | value v => exact hk _ _ h
    | skip => exact hk _ _ h
    | enter f args => exact Calls.mono h (fun e w'' he => by cases e <;> first | exact hk _ _ he | exact he)
    | row r args => exact Rows.mono h (fun _ _ he => hk _ _ he)
    | _ => exact h.elim
  | halt x w' => cases x <;> first | exact h | exact h.elim
def updO (T : Nat → Value) (d : Option Nat) (v : Value) : Nat → Value := match d with
  | some d => upd T d v
  | none => T
theorem put_same (a : Act) (d : Nat) (u v : Value) : (a.put (some d) u).put (some d) v = a.put (some d) v := by
  obtain ⟨tmps, df⟩ := a
  simp [Act.put]
theorem put_ne (a : Act) {d x : Nat} (u v : Value) (h : x ≠ d) : (a.put (some x) u).put (some d) v = (a.put (some d) v).put (some x) u := Act.put_comm a u v (fun y hy hz => h (by cases hy; cases hz; rfl))
theorem fr_put : ∀ (ds : List Nat) (a : Act) (T : Nat → Value) (d : Nat) (v : Value), d ∉ ds → (fr a ds T).put (some d) v = fr (a.put (some d) v) ds T
  | [], _, _, _, _, _ => rfl
  | x :: xs, a, T, d, v, h => by
    simp only [List.mem_cons, not_or] at h
    simp only [fr]
    rw [fr_put xs _ T d v h.2, put_ne a _ _ (Ne.symm h.1)]
theorem upd_ne {T : Nat → Value} {d s : Nat} {v : Value} (h : s ≠ d) : upd T d v s = T s := by
  unfold upd
  cases hb : Nat.beq s d
  · rfl
  · exact absurd (Nat.eq_of_beq_eq_true hb) h
theorem upd_same {T : Nat → Value} {d : Nat} {v : Value} : upd T d v d = v := by simp [upd, Nat.beq_refl]
theorem fr_upd_out : ∀ (ds : List Nat) (a : Act) (T : Nat → Value) (d : Nat) (v : Value), d ∉ ds → fr a ds (upd T d v) = fr a ds T
  | [], _, _, _, _, _ => rfl
  | x :: xs, a, T, d, v, h => by
    simp only [List.mem_cons, not_or] at h
    simp only [fr]
    rw [upd_ne (Ne.symm h.1), fr_upd_out xs _ T d v h.2]
theorem fr_upd : ∀ (ds : List Nat) (a : Act) (T : Nat → Value) (d : Nat) (v : Value), ds.Nodup → d ∈ ds → (fr a ds T).put (some d) v = fr a ds (upd T d v)
  | [], _, _, _, _, _, h => by cases h
  | x :: xs, a, T, d, v, hn, h => by
    obtain ⟨hx, hn'⟩ := List.nodup_cons.1 hn
    simp only [fr]
    by_cases hxd : x = d
    · subst hxd
      rw [fr_put xs _ T x v hx, put_same, upd_same, fr_upd_out xs _ T x v hx]
    · have : d ∈ xs := by rcases List.mem_cons.1 h with h | h; exact absurd h.symm hxd; exact h
      rw [fr_upd xs _ T d v hn' this, upd_ne hxd]
theorem fr_updO {ds : List Nat} {a : Act} {T : Nat → Value} {d : Option Nat} {v : Value} (hn : ds.Nodup) (h : ∀ x, d = some x → x ∈ ds) : (fr a ds T).put d v = fr a ds (updO T d v) := by
  cases d with
  | none => rfl
  | some x => exact fr_upd ds a T x v hn (h x rfl)
/-- What is asked of an operation: from wherever the invariant stands it goes on, and the invariant stands again. -/
def StepK (P : Program) (ops : Array Oper) (Q : Exit → Act → World → Prop) (a : Act) (ds : List Nat) (I : (Nat → Bool) → (Nat → Value) → World → Prop) (k : Nat) (o : Oper) : Prop :=
  ∀ (L : Nat → Bool) (T : Nat → Value) (w : World), (∀ e ∈ o.after.toList, Region.binds .any e = true → L e.on = true) → L k = false → Closed ops L → I L T w →
    ∀ K : Value → World → Prop, (∀ v w', I (lst L k) (updO T o.dst v) w' → K v w') →
      if Region.wanted o (yielded ops (fr a ds T).tmps) = true then Oper.wpv P o (fr a ds T) w K Q else K undef w

/-- The slots that operations write. -/
def dstsIn (ops : Array Oper) (ds : List Nat) : Bool := ops.toList.all fun o => match o.dst with
  | some d => ds.contains d
  | none => true
/-- Edges lead back. -/
def back (ops : Array Oper) : Bool := (List.range ops.size).all fun i => match ops[i]? with
  | some o => o.after.toList.all fun e => !Region.binds .any e || decide (e.on < i)
  | none => true

section
variable {P : Program} {ops : Array Oper} {Q : Exit → Act → World → Prop} {a : Act} {ds : List Nat} {I : (Nat → Bool) → (Nat → Value) → World → Prop}

theorem ready_ne {listed : Array Bool} (hb : back ops = true) (hz : listed.size = ops.size) (i : Nat) (hi : i < ops.size) (hl : listed.getD i true = false) : Region.ready .any ops listed ≠ [] := by
  induction i using Nat.strongRecOn with
  | _ i ih =>
    by_cases hall : ∀ j, j < i → listed.getD j true = true
    · intro h
      have : i ∈ Region.ready .any ops listed := by
        rw [mem_ready]
        refine ⟨hl, ops[i], by simp [hi], fun e he hbn => ?_⟩
        have h1 := List.all_eq_true.1 hb i (by simpa using hi)
        simp only [Array.getElem?_eq_getElem hi] at h1
        have h2 := List.all_eq_true.1 h1 e (by simpa using he)
        have h3 : e.on < i := by simpa [hbn] using h2
        have h4 := hall e.on h3
        have h5 : e.on < listed.size := by omega
        simpa [h5] using h4
      rw [h] at this
      cases this
    · have : ∃ j, j < i ∧ listed.getD j true = false := by
        apply Classical.byContradiction
        intro hn
        apply hall
        intro j hj
        cases hc : listed.getD j true
        · exact absurd ⟨j, hj, hc⟩ hn
        · rfl
      obtain ⟨j, hj, hc⟩ := this
      exact ih j hj (by omega) hc

theorem wpAny_of_inv (hn : ds.Nodup) (hd : dstsIn ops ds = true) (hb : back ops = true) (hs : AllK (StepK P ops Q a ds I) 0 ops.toList)
    (he : ∀ L T w, (∀ i, i < ops.size → L i = true) → I L T w → Q .normal (fr a ds T) w) :
    ∀ (fuel : Nat) (listed : Array Bool) (T : Nat → Value) (w : World), listed.size = ops.size → listed.count false ≤ fuel → Closed ops (fun j => listed.getD j false) → I (fun j => listed.getD j false) T w → wpAny P .any ops Q fuel listed (fr a ds T) w := by
  have done : ∀ (listed : Array Bool) (T : Nat → Value) (w : World), listed.size = ops.size → Region.ready .any ops listed = [] → I (fun j => listed.getD j false) T w → Q .normal (fr a ds T) w := by
    intro listed T w hz hr hI
    refine he _ T w (fun i hi => ?_) hI
    cases hc : listed.getD i true with
    | false => exact absurd hr (ready_ne hb hz i hi hc)
    | true =>
      have h5 : i < listed.size := by omega
      simpa [h5] using hc
  intro fuel
  induction fuel with
  | zero =>
    intro listed T w hz hc hcl hI
    have hr : Region.ready .any ops listed = [] := by
      cases h : Region.ready .any ops listed with
      | nil => rfl
      | cons i is =>
        have hm : i ∈ Region.ready .any ops listed := by rw [h]; exact List.mem_cons_self ..
        obtain ⟨h0, o, ho, _⟩ := mem_ready.1 hm
        have hlt : i < ops.size := (Array.getElem?_eq_some_iff.1 ho).1
        have h5 : i < listed.size := by omega
        have : listed[i] = false := by simpa [h5] using h0
        have hin : false ∈ listed := by rw [← this]; exact Array.getElem_mem h5
        have := Array.count_pos_iff.2 hin
        omega
    exact ⟨hr, done listed T w hz hr hI⟩
  | succ fuel ih =>
    intro listed T w hz hc hcl hI
    refine ⟨fun hr => done listed T w hz hr hI, fun i hi => ?_⟩
    obtain ⟨h0, o, ho, hdep⟩ := mem_ready.1 hi
    have hlt : i < ops.size := (Array.getElem?_eq_some_iff.1 ho).1
    have h5 : i < listed.size := by omega
    have hli : listed[i] = false := by simpa [h5] using h0
    have hstep := AllK.get hs i o (by simpa using ho)
    rw [Nat.zero_add] at hstep
    unfold wpOp
    simp only [ho]
    have hK : ∀ T' w', I (lst (fun j => listed.getD j false) i) T' w' → wpAny P .any ops Q fuel (listed.setIfInBounds i true) (fr a ds T') w' := by
      intro T' w' hI'
      refine ih (listed.setIfInBounds i true) T' w' (by simpa using hz) ?_ ?_ ?_
      · have : listed.setIfInBounds i true = listed.set i true h5 := by simp [Array.setIfInBounds, h5]
        rw [this, Array.count_set h5, hli]
        simp
        omega
      · intro j o' ho' hj e he' hbn
        by_cases hji : j = i
        · subst hji
          obtain rfl : o' = o := Option.some.inj (ho'.symm.trans ho)
          exact getD_set_true (hdep e (by simpa using he') hbn)
        · refine getD_set_true (hcl j o' ho' ?_ e he' hbn)
          simpa only [getD_set_ne false (Ne.symm hji)] using hj
      · have : (fun j => (listed.setIfInBounds i true).getD j false) = lst (fun j => listed.getD j false) i := by
          funext j
          unfold lst
          by_cases hji : j = i
          · subst hji
            simp [h5, Nat.beq_refl]
          · have : Nat.beq j i = false := by
              cases hbq : Nat.beq j i
              · rfl
              · exact absurd (Nat.eq_of_beq_eq_true hbq) hji
            rw [this, Bool.false_or, getD_set_ne false (Ne.symm hji)]
        rw [this]
        exact hI'
    have hdst : ∀ x, o.dst = some x → x ∈ ds := by
      intro x hx
      have h1 := List.all_eq_true.1 hd o (by simpa using Array.mem_of_getElem? ho)
      simp only [hx] at h1
      simpa using h1
    have h1 := hstep _ T w (fun e he hbn => hdep e (by simpa using he) hbn) (by simp [h5, hli]) hcl hI (fun v w' => wpAny P .any ops Q fuel (listed.setIfInBounds i true) (fr a ds (updO T o.dst v)) w') (fun v w' hI' => hK _ w' hI')
    by_cases hw : Region.wanted o (yielded ops (fr a ds T).tmps) = true
    · rw [if_pos hw] at h1 ⊢
      exact .inl (Oper.wp_of_wpv h1 fun v w' h2 => by rw [fr_updO hn hdst]; exact h2)
    · rw [if_neg hw] at h1 ⊢
      rw [fr_updO hn hdst]
      exact h1

theorem fr_slot0 : ∀ (ds : List Nat) (a : Act), fr a ds (slot0 a) = a := by
  have put0 : ∀ (a : Act) (d : Nat), a.put (some d) (slot0 a d) = a := by
    intro a d
    obtain ⟨tmps, df⟩ := a
    simp only [Act.put, slot0]
    by_cases h : d < tmps.size
    · simp [Array.setIfInBounds, h]
    · simp [Array.setIfInBounds, h]
  intro ds
  induction ds with
  | nil => intro a; rfl
  | cons d ds ih => intro a; simp only [fr]; rw [put0]; exact ih a

/-- A drawn region by an invariant. -/
theorem wp_region_inv {id : Nat} {w : World} (hm : P.follows .mixedOrders = true) (ds : List Nat) (I : (Nat → Bool) → (Nat → Value) → World → Prop)
    (hn : ds.Nodup) (hd : dstsIn ops ds = true) (hb : back ops = true) (h0 : I (fun _ => false) (slot0 a) { w with drawn := w.drawn + 1 })
    (hs : AllK (StepK P ops Q a ds I) 0 ops.toList)
    (he : ∀ L T w, (∀ i, i < ops.size → L i = true) → I L T w → Q .normal (fr a ds T) w) : (Code.region id ops true).wp P Q a w := by
  refine wp_region_any hm ?_
  have := wpAny_of_inv hn hd hb hs he ops.size (Array.replicate ops.size false) (slot0 a) { w with drawn := w.drawn + 1 } (by simp) (by simp) (by
    intro j o _ hj
    by_cases hjs : j < ops.size <;> simp [hjs] at hj) (by
    have : (fun j => (Array.replicate ops.size false).getD j false) = fun _ => false := by
      funext j
      by_cases hj : j < ops.size <;> simp [hj]
    rw [this]
    exact h0)
  rwa [fr_slot0] at this
end
end Go.Proofs.YtlaagfnoepcnlaaDoor
