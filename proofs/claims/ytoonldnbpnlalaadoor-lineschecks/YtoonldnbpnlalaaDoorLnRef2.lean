/- The contract of the document's ActFault. -/
import Derived.Test.YtoonldnbpnlalaaDoorLnRef
namespace Go.Proofs.YtoonldnbpnlalaaDoor.Ln
open Go.ChangeShapes Go.WideShapes Go.ChangeAt Go.RowKit
set_option linter.unusedVariables false

theorem keep_cons {zs : List Int} {k : Nat} (hk : k < zs.length) : keepIn (zs.drop k) = (inR (zs.getD k 0) 0 6000 && keepIn (zs.drop (k + 1))) := by
  unfold keepIn
  rw [List.drop_eq_getElem_cons hk, List.all_cons]
  simp [List.getD, hk]

theorem line_nil {b : ByteArray} (h : b.size = 0) : b = { data := #[] } := by
  obtain ⟨d⟩ := b
  have : d.size = 0 := h
  rw [Array.eq_empty_of_size_eq_zero this]
theorem tl_ne {b : ByteArray} (h : b.size ≠ 0) : b.toList.isEmpty = false := by
  rw [ByteArray.toList_eq b]
  cases hb : b.data.toList with
  | nil => exact absurd (by have : b.data.size = 0 := by (have := congrArg List.length hb; simpa using this)
                            exact this) h
  | cons x xs => rfl
theorem one_nz {c0 c1 c2 c3 c4 : Int} (h : ¬ (c0 = 0 ∧ c1 = 0 ∧ c2 = 0 ∧ c3 = 0 ∧ c4 = 0)) : one (nz c0 c1 c2 c3 c4) = 1 := by
  have : nz c0 c1 c2 c3 c4 = true := by
    unfold nz
    simp
    omega
  rw [this]
  rfl
set_option maxRecDepth 100000 in
set_option maxHeartbeats 16000000 in
theorem actFault_any (s p : Int) (a : Option Addr) (len cap : Nat) (ls : List (Int × Int)) (v : AV) (w : World) (h : IsLabs w a len cap ls) (hk : IsInts w v.ka v.kl v.kc v.keep) :
    Calls Tryd.prog 6 #[.agg #[.int .i64 s, .slice a len cap, .int .i64 p], .agg v.cells.toArray] w fun e w' => e = .returned (.int .i64 (actFault s ls p v)) ∧ Below w.heap.size w w' := by
  obtain ⟨F, eF⟩ : ∃ F, F = actFault s ls p v := ⟨_, rfl⟩
  have hlen0 := h.1
  rw [← eF]
  have HF : Hid (F = if cfgFault s ls p ≠ 0 then cfgFault s ls p else if inR v.kind 1 8 = false then 3 else if actIn s len v = false then 2 else if only (aHas.getD v.kind.toNat []) (aParts v) = false then 4 else if v.kind = 1 then callFault v.c0 v.c1 v.c2 v.c3 v.c4 else 0) := by
    show _ = _
    rw [eF, actFault, hlen0]
  clear eF
  obtain ⟨kind, site, to1, label, pick, ka, kl, kc, c0, c1, c2, c3, c4, line, keep⟩ := v
  simp only [AV.cells, aParts, actIn] at *
  have HKL : Hid (keep.length = kl) := hk.1
  have hkm : kl ≤ maxLen := Nat.le_trans hk.2.1 hk.2.2.1
  unfold maxLen at hkm
  obtain ⟨W, hW⟩ : ∃ W : World, W = (w.alloc (.cells #[.int .i64 s, .slice a len cap, .int .i64 p] 24)).alloc (.cells #[.int .i64 kind, .int .i64 site, .int .i64 to1, .int .i64 label, .int .i64 pick, .slice ka kl kc, .int .i64 c0, .int .i64 c1, .int .i64 c2, .int .i64 c3, .int .i64 c4, .string line] 29) := ⟨_, rfl⟩
  have hB : Below w.heap.size w W := by rw [hW]; exact ((Below.refl _ _).alloc (Nat.le_refl _) _).alloc (by simp) _
  have zW : w.heap.size + 1 < W.heap.size := by rw [hW]; simp
  have hLW := h.below hB
  have HK : Hid (∀ U, Below W.heap.size W U → IsInts U ka kl kc keep) := fun U hU => (hk.below hB).below hU
  clear hk
  have d0 : W.cell? ⟨w.heap.size, 0, none⟩ = some (.int .i64 s) := by rw [hW]; go_simp
  have d1 : W.cell? ⟨w.heap.size, 1, none⟩ = some (.slice a len cap) := by rw [hW]; go_simp
  have d2 : W.cell? ⟨w.heap.size, 2, none⟩ = some (.int .i64 p) := by rw [hW]; go_simp
  have e0 : W.cell? ⟨w.heap.size + 1, 0, none⟩ = some (.int .i64 kind) := by rw [hW]; go_simp
  have e1 : W.cell? ⟨w.heap.size + 1, 1, none⟩ = some (.int .i64 site) := by rw [hW]; go_simp
  have e2 : W.cell? ⟨w.heap.size + 1, 2, none⟩ = some (.int .i64 to1) := by rw [hW]; go_simp
  have e3 : W.cell? ⟨w.heap.size + 1, 3, none⟩ = some (.int .i64 label) := by rw [hW]; go_simp
  have e4 : W.cell? ⟨w.heap.size + 1, 4, none⟩ = some (.int .i64 pick) := by rw [hW]; go_simp
  have e5 : W.cell? ⟨w.heap.size + 1, 5, none⟩ = some (.slice ka kl kc) := by rw [hW]; go_simp
  have e6 : W.cell? ⟨w.heap.size + 1, 6, none⟩ = some (.int .i64 c0) := by rw [hW]; go_simp
  have e7 : W.cell? ⟨w.heap.size + 1, 7, none⟩ = some (.int .i64 c1) := by rw [hW]; go_simp
  have e8 : W.cell? ⟨w.heap.size + 1, 8, none⟩ = some (.int .i64 c2) := by rw [hW]; go_simp
  have e9 : W.cell? ⟨w.heap.size + 1, 9, none⟩ = some (.int .i64 c3) := by rw [hW]; go_simp
  have e10 : W.cell? ⟨w.heap.size + 1, 10, none⟩ = some (.int .i64 c4) := by rw [hW]; go_simp
  have e11 : W.cell? ⟨w.heap.size + 1, 11, none⟩ = some (.string line) := by rw [hW]; go_simp
  have KC : Hid (∀ U : World, Below W.heap.size W U → U.cell? ⟨w.heap.size, 0, none⟩ = some (.int .i64 s) ∧ U.cell? ⟨w.heap.size, 1, none⟩ = some (.slice a len cap) ∧ U.cell? ⟨w.heap.size, 2, none⟩ = some (.int .i64 p) ∧ U.cell? ⟨w.heap.size + 1, 0, none⟩ = some (.int .i64 kind) ∧ U.cell? ⟨w.heap.size + 1, 1, none⟩ = some (.int .i64 site) ∧ U.cell? ⟨w.heap.size + 1, 2, none⟩ = some (.int .i64 to1) ∧ U.cell? ⟨w.heap.size + 1, 3, none⟩ = some (.int .i64 label) ∧ U.cell? ⟨w.heap.size + 1, 4, none⟩ = some (.int .i64 pick) ∧ U.cell? ⟨w.heap.size + 1, 5, none⟩ = some (.slice ka kl kc) ∧ U.cell? ⟨w.heap.size + 1, 6, none⟩ = some (.int .i64 c0) ∧ U.cell? ⟨w.heap.size + 1, 7, none⟩ = some (.int .i64 c1) ∧ U.cell? ⟨w.heap.size + 1, 8, none⟩ = some (.int .i64 c2) ∧ U.cell? ⟨w.heap.size + 1, 9, none⟩ = some (.int .i64 c3) ∧ U.cell? ⟨w.heap.size + 1, 10, none⟩ = some (.int .i64 c4) ∧ U.cell? ⟨w.heap.size + 1, 11, none⟩ = some (.string line)) := fun U hU => ⟨(hU.cell (p := ⟨w.heap.size, 0, none⟩) (by show w.heap.size < _; omega)).trans d0, (hU.cell (p := ⟨w.heap.size, 1, none⟩) (by show w.heap.size < _; omega)).trans d1, (hU.cell (p := ⟨w.heap.size, 2, none⟩) (by show w.heap.size < _; omega)).trans d2, (hU.cell (p := ⟨w.heap.size + 1, 0, none⟩) zW).trans e0, (hU.cell (p := ⟨w.heap.size + 1, 1, none⟩) zW).trans e1, (hU.cell (p := ⟨w.heap.size + 1, 2, none⟩) zW).trans e2, (hU.cell (p := ⟨w.heap.size + 1, 3, none⟩) zW).trans e3, (hU.cell (p := ⟨w.heap.size + 1, 4, none⟩) zW).trans e4, (hU.cell (p := ⟨w.heap.size + 1, 5, none⟩) zW).trans e5, (hU.cell (p := ⟨w.heap.size + 1, 6, none⟩) zW).trans e6, (hU.cell (p := ⟨w.heap.size + 1, 7, none⟩) zW).trans e7, (hU.cell (p := ⟨w.heap.size + 1, 8, none⟩) zW).trans e8, (hU.cell (p := ⟨w.heap.size + 1, 9, none⟩) zW).trans e9, (hU.cell (p := ⟨w.heap.size + 1, 10, none⟩) zW).trans e10, (hU.cell (p := ⟨w.heap.size + 1, 11, none⟩) zW).trans e11⟩
  go_enter Tryd.func6, Tryd.ntmps6
  go_upto_region 1 with (fail)
  rw [← hW]
  clear hW
  by_cases hF : cfgFault s ls p = 0
  case neg =>
    have hf : Hid (F = cfgFault s ls p) := by show _ = _; rw [HF.out, if_pos hF]
    clear HF
    go_wp2_with (go_at_call 16; refine (fault_any s p a len cap ls _ hLW).mono ?_; rintro e w1 ⟨rfl, hb1⟩)
    go_ret
    exact ⟨ret_int hf.out.symm, hB.trans (hb1.mono hB.size)⟩
  obtain ⟨s1, s4, n1, n6, _, _, _⟩ := cfg_zero hF
  have l6 : len ≤ 6 := by omega
  have hLM := fun n w' => labelMay_any s p a len cap n w' l6
  have HF1 : Hid (F = if inR kind 1 8 = false then 3 else if (decide (kl ≤ len) && keepIn keep && decide (line.size ≤ 60) && inR pick 0 1048576 && (inR site 0 (s - 1) && inR to1 0 (s - 1) && plc label len)) = false then 2 else if only (aHas.getD kind.toNat []) [site, to1, label, pick, (kl : Int), one (nz c0 c1 c2 c3 c4), (line.size : Int)] = false then 4 else if kind = 1 then callFault c0 c1 c2 c3 c4 else 0) := by show _ = _; rw [HF.out, if_neg (by simpa using hF)]
  clear HF
  have HLn : Hid (ls.length = len) := hlen0
  clear hlen0 n1 n6 h
  go_upto_region 4 with (go_at_call 16; refine (fault_any s p a len cap ls _ hLW).mono ?_; rintro e w1 ⟨rfl, hb1⟩)
  clear d0 d1 d2 e0 e1 e2 e3 e4 e5 e6 e7 e8 e9 e10 e11
  obtain ⟨d0, d1, d2, e0, e1, e2, e3, e4, e5, e6, e7, e8, e9, e10, e11⟩ := KC.out _ hb1
  cases hKd : inR kind 1 8 with
  | false =>
    have hf : Hid (F = 3) := by show _ = _; rw [HF1.out, if_pos hKd]
    clear HF1
    go_wp2_with (go_at_call 17; refine (in_any _ _ _ _).mono ?_; rintro e u1 ⟨rfl, hu1⟩; rw [hu1]; clear hu1)
    go_ret
    exact ⟨ret_int hf.out.symm, hB.trans (hb1.mono hB.size)⟩
  | true =>
    have kb := inR_of hKd
    have HF2 : Hid (F = if (decide (kl ≤ len) && keepIn keep && decide (line.size ≤ 60) && inR pick 0 1048576 && (inR site 0 (s - 1) && inR to1 0 (s - 1) && plc label len)) = false then 2 else if only (aHas.getD kind.toNat []) [site, to1, label, pick, (kl : Int), one (nz c0 c1 c2 c3 c4), (line.size : Int)] = false then 4 else if kind = 1 then callFault c0 c1 c2 c3 c4 else 0) := by show _ = _; rw [HF1.out, if_neg (by rw [hKd]; simp)]
    clear HF1
    go_upto_region 6 with (go_at_call 17; refine (in_any _ _ _ _).mono ?_; rintro e u1 ⟨rfl, hu1⟩; rw [hu1]; clear hu1)
    have hbv : Below W.heap.size W w1 := hb1
    cases t0 : inR site 0 (s - 1) with
    | false =>
      have hf : Hid (F = 2) := by show _ = _; rw [HF2.out, if_pos (by rw [t0]; simp)]
      clear HF2
      go_wp2_with (first | (go_at_call 17; refine (in_any _ _ _ _).mono ?_; rintro e u1 ⟨rfl, hu1⟩; rw [hu1]; clear hu1) | (go_at_call 18; refine (hLM _ _).mono ?_; rintro e u2 ⟨rfl, hb2⟩; replace hbv := hbv.trans (hb2.mono hbv.size); clear d0 d1 d2 e0 e1 e2 e3 e4 e5 e6 e7 e8 e9 e10 e11; obtain ⟨d0, d1, d2, e0, e1, e2, e3, e4, e5, e6, e7, e8, e9, e10, e11⟩ := KC.out _ hbv))
      go_ret
      exact ⟨ret_int hf.out.symm, hB.trans (hbv.mono hB.size)⟩
    | true =>
      cases t1 : inR to1 0 (s - 1) with
      | false =>
        have hf : Hid (F = 2) := by show _ = _; rw [HF2.out, if_pos (by rw [t1]; simp)]
        clear HF2
        go_wp2_with (first | (go_at_call 17; refine (in_any _ _ _ _).mono ?_; rintro e u1 ⟨rfl, hu1⟩; rw [hu1]; clear hu1) | (go_at_call 18; refine (hLM _ _).mono ?_; rintro e u2 ⟨rfl, hb2⟩; replace hbv := hbv.trans (hb2.mono hbv.size); clear d0 d1 d2 e0 e1 e2 e3 e4 e5 e6 e7 e8 e9 e10 e11; obtain ⟨d0, d1, d2, e0, e1, e2, e3, e4, e5, e6, e7, e8, e9, e10, e11⟩ := KC.out _ hbv))
        go_ret
        exact ⟨ret_int hf.out.symm, hB.trans (hbv.mono hB.size)⟩
      | true =>
        cases t2 : plc label len with
        | false =>
          have hf : Hid (F = 2) := by show _ = _; rw [HF2.out, if_pos (by rw [t2]; simp)]
          clear HF2
          go_wp2_with (first | (go_at_call 17; refine (in_any _ _ _ _).mono ?_; rintro e u1 ⟨rfl, hu1⟩; rw [hu1]; clear hu1) | (go_at_call 18; refine (hLM _ _).mono ?_; rintro e u2 ⟨rfl, hb2⟩; replace hbv := hbv.trans (hb2.mono hbv.size); clear d0 d1 d2 e0 e1 e2 e3 e4 e5 e6 e7 e8 e9 e10 e11; obtain ⟨d0, d1, d2, e0, e1, e2, e3, e4, e5, e6, e7, e8, e9, e10, e11⟩ := KC.out _ hbv))
          go_ret
          exact ⟨ret_int hf.out.symm, hB.trans (hbv.mono hB.size)⟩
        | true =>
          cases t3 : inR pick 0 1048576 with
          | false =>
            have hf : Hid (F = 2) := by show _ = _; rw [HF2.out, if_pos (by rw [t3]; simp)]
            clear HF2
            go_wp2_with (first | (go_at_call 17; refine (in_any _ _ _ _).mono ?_; rintro e u1 ⟨rfl, hu1⟩; rw [hu1]; clear hu1) | (go_at_call 18; refine (hLM _ _).mono ?_; rintro e u2 ⟨rfl, hb2⟩; replace hbv := hbv.trans (hb2.mono hbv.size); clear d0 d1 d2 e0 e1 e2 e3 e4 e5 e6 e7 e8 e9 e10 e11; obtain ⟨d0, d1, d2, e0, e1, e2, e3, e4, e5, e6, e7, e8, e9, e10, e11⟩ := KC.out _ hbv))
            go_ret
            exact ⟨ret_int hf.out.symm, hB.trans (hbv.mono hB.size)⟩
          | true =>
            by_cases r0 : kl ≤ len
            case neg =>
              have g0 : (len : Int) < (kl : Int) := by omega
              have hf : Hid (F = 2) := by show _ = _; rw [HF2.out, if_pos (by simp [r0])]
              clear HF2
              go_wp2_with (first | (go_at_call 17; refine (in_any _ _ _ _).mono ?_; rintro e u1 ⟨rfl, hu1⟩; rw [hu1]; clear hu1) | (go_at_call 18; refine (hLM _ _).mono ?_; rintro e u2 ⟨rfl, hb2⟩; replace hbv := hbv.trans (hb2.mono hbv.size); clear d0 d1 d2 e0 e1 e2 e3 e4 e5 e6 e7 e8 e9 e10 e11; obtain ⟨d0, d1, d2, e0, e1, e2, e3, e4, e5, e6, e7, e8, e9, e10, e11⟩ := KC.out _ hbv))
              go_ret
              exact ⟨ret_int hf.out.symm, hB.trans (hbv.mono hB.size)⟩
            have g0 : ¬ (len : Int) < (kl : Int) := by omega
            by_cases r1 : line.size ≤ 60
            case neg =>
              have g1 : (60 : Int) < (line.size : Int) := by omega
              have hf : Hid (F = 2) := by show _ = _; rw [HF2.out, if_pos (by simp [r1])]
              clear HF2
              go_wp2_with (first | (go_at_call 17; refine (in_any _ _ _ _).mono ?_; rintro e u1 ⟨rfl, hu1⟩; rw [hu1]; clear hu1) | (go_at_call 18; refine (hLM _ _).mono ?_; rintro e u2 ⟨rfl, hb2⟩; replace hbv := hbv.trans (hb2.mono hbv.size); clear d0 d1 d2 e0 e1 e2 e3 e4 e5 e6 e7 e8 e9 e10 e11; obtain ⟨d0, d1, d2, e0, e1, e2, e3, e4, e5, e6, e7, e8, e9, e10, e11⟩ := KC.out _ hbv))
              go_ret
              exact ⟨ret_int hf.out.symm, hB.trans (hbv.mono hB.size)⟩
            have g1 : ¬ (60 : Int) < (line.size : Int) := by omega
            have HF3 : Hid (F = if keepIn keep = false then 2 else if only (aHas.getD kind.toNat []) [site, to1, label, pick, (kl : Int), one (nz c0 c1 c2 c3 c4), (line.size : Int)] = false then 4 else if kind = 1 then callFault c0 c1 c2 c3 c4 else 0) := by show _ = _; rw [HF2.out, t0, t1, t2, t3, decide_eq_true r0, decide_eq_true r1]; simp
            clear HF2
            have gb0 : decide (len < kl) = false := by simp; omega
            have gb1 : decide ((60 : Int) < (line.size : Int)) = false := by simp; omega
            have gb2 : decide (60 < line.size) = false := by simp; omega
            go_upto_region 8 with (first | (go_at_call 17; refine (in_any _ _ _ _).mono ?_; rintro e u1 ⟨rfl, hu1⟩; rw [hu1]; clear hu1) | (go_at_call 18; refine (hLM _ _).mono ?_; rintro e u2 ⟨rfl, hb2⟩; replace hbv := hbv.trans (hb2.mono hbv.size); clear d0 d1 d2 e0 e1 e2 e3 e4 e5 e6 e7 e8 e9 e10 e11; obtain ⟨d0, d1, d2, e0, e1, e2, e3, e4, e5, e6, e7, e8, e9, e10, e11⟩ := KC.out _ hbv))
            obtain ⟨V, eV⟩ : ∃ V, V = u2 := ⟨_, rfl⟩
            rw [← eV] at hbv ⊢
            clear eV d0 d1 d2 e0 e1 e2 e3 e4 e5 e6 e7 e8 e9 e10 e11
            obtain ⟨d0, d1, d2, e0, e1, e2, e3, e4, e5, e6, e7, e8, e9, e10, e11⟩ := KC.out _ hbv
            have hwV := hB.trans (hbv.mono hB.size)
            have hmem := (HK.out V hbv).2.2.2.2
            have HR0 : Hid (keepIn keep = keepIn (keep.drop 0)) := rfl
            have zV : w.heap.size + 1 < V.heap.size := by have := hbv.size; omega
            clear hb1 hb2 KC HK hLM hF r0 r1 t3
            go_upto_region 9 with (fail)
            go_loop [6] (fun s6 => ∃ k : Nat, k ≤ kl ∧ s6 = .int .i64 (k : Int) ∧ Hid (keepIn keep = keepIn (keep.drop k))) (fun s6 => kl - (intOf s6).toNat)
            case atStart => exact ⟨0, Nat.zero_le _, rfl, HR0.out⟩
            case round =>
              obtain ⟨k, hk, rfl, hat⟩ := hrel
              by_cases hlt : k < kl
              · have hlt' : (k : Int) < (kl : Int) := by omega
                obtain ⟨b, off, rfl, zb, hc⟩ := hmem (by omega)
                have cz := hc k hlt
                have hst : Hid (keepIn keep = (inR (keep.getD k 0) 0 6000 && keepIn (keep.drop (k + 1)))) := by show _ = _; rw [hat.out]; exact keep_cons (by rw [HKL.out]; exact hlt)
                clear hat hc hmem
                obtain ⟨X, eX⟩ : ∃ X, X = keep.getD k 0 := ⟨_, rfl⟩
                rw [← eX] at cz hst
                clear eX
                cases hr : inR X 0 6000 with
                | true =>
                  have hn : Hid (keepIn keep = keepIn (keep.drop (k + 1))) := by show _ = _; rw [hst.out, hr]; rfl
                  clear hst
                  go_wp2_with (go_at_call 17; refine (in_any _ _ _ _).mono ?_; rintro e u1 ⟨rfl, hu1⟩; rw [hu1]; clear hu1)
                  go_round
                  case rel => exact ⟨k + 1, by omega, by go_num, hn.out⟩
                  case measure => simp [intOf]; omega
                | false =>
                  have hf : Hid (F = 2) := by show _ = _; rw [HF3.out, if_pos (by rw [hst.out, hr]; rfl)]
                  clear hst
                  go_wp2_with (go_at_call 17; refine (in_any _ _ _ _).mono ?_; rintro e u1 ⟨rfl, hu1⟩; rw [hu1]; clear hu1)
                  go_ret
                  exact ⟨ret_int hf.out.symm, hwV⟩
              · have HF4 : Hid (F = if only (aHas.getD kind.toNat []) [site, to1, label, pick, (kl : Int), one (nz c0 c1 c2 c3 c4), (line.size : Int)] = false then 4 else if kind = 1 then callFault c0 c1 c2 c3 c4 else 0) := by
                  show _ = _
                  rw [HF3.out, if_neg (by rw [hat.out, List.drop_eq_nil_of_le (by rw [HKL.out]; omega)]; simp [keepIn])]
                clear HF3 hat HR0 hmem

                rcases (by omega : kind = 1 ∨ kind = 2 ∨ kind = 3 ∨ kind = 4 ∨ kind = 5 ∨ kind = 6 ∨ kind = 7 ∨ kind = 8) with rfl | rfl | rfl | rfl | rfl | rfl | rfl | rfl
                · have hpath : inR 1 2 4 = false := by decide
                  clear hKd kb
                  go_upto_region 14 with (go_at_call 17; refine (in_any _ _ _ _).mono ?_; rintro e u1 ⟨rfl, hu1⟩; rw [hu1, hpath]; clear hu1)
                  simp only [List.append]
                  by_cases x_to : to1 = 0
                  case neg =>
                    have y1 : (to1 != 0) = true := by simpa using x_to
                    have hf : Hid (F = 4) := by show _ = _; rw [HF4.out, if_pos (by simp [only, aHas, x_to])]
                    clear HF4
                    go_wp2
                    go_ret
                    exact ⟨ret_int hf.out.symm, hwV⟩
                  subst x_to
                  by_cases x_pick : pick = 0
                  case neg =>
                    have y1 : (pick != 0) = true := by simpa using x_pick
                    have hf : Hid (F = 4) := by show _ = _; rw [HF4.out, if_pos (by simp [only, aHas, x_pick])]
                    clear HF4
                    go_wp2
                    go_ret
                    exact ⟨ret_int hf.out.symm, hwV⟩
                  subst x_pick
                  by_cases x_keep : kl = 0
                  case neg =>
                    have y1 : (0 : Int) < (kl : Int) := by omega
                    have y2 : decide (0 < kl) = true := by simp; omega
                    have hf : Hid (F = 4) := by show _ = _; rw [HF4.out, if_pos (by simp [only, aHas, x_keep])]
                    clear HF4
                    go_wp2
                    go_ret
                    exact ⟨ret_int hf.out.symm, hwV⟩
                  subst x_keep
                  by_cases x_line : line = { data := #[] }
                  case neg =>
                    have y2 : Hid (line.size ≠ 0) := fun h0 => x_line (line_nil h0)
                    have y1 : line.toList.isEmpty = false := tl_ne y2.out
                    clear x_line
                    have hf : Hid (F = 4) := by show _ = _; rw [HF4.out, if_pos (by have := y2.out; simp [only, aHas, this])]
                    clear HF4
                    go_wp2
                    go_ret
                    exact ⟨ret_int hf.out.symm, hwV⟩
                  subst x_line
                  have hf : Hid (F = callFault c0 c1 c2 c3 c4) := by show _ = _; rw [HF4.out, if_neg (by have hz0 : (({ data := #[] } : ByteArray).size : Int) = 0 := rfl; simp [only, aHas, hz0])]; simp
                  clear HF4
                  go_wp2_with (go_at_call 19; refine (callMay_any _ _ _ _ _ _).mono ?_; rintro e u3 ⟨rfl, hb3⟩)
                  go_ret
                  exact ⟨ret_int hf.out.symm, hwV.trans (hb3.mono hwV.size)⟩
                · have hpath : inR 2 2 4 = true := by decide
                  clear hKd kb
                  go_upto_region 14 with (go_at_call 17; refine (in_any _ _ _ _).mono ?_; rintro e u1 ⟨rfl, hu1⟩; rw [hu1, hpath]; clear hu1)
                  simp only [List.append]
                  by_cases x_keep : kl = 0
                  case neg =>
                    have y1 : (0 : Int) < (kl : Int) := by omega
                    have y2 : decide (0 < kl) = true := by simp; omega
                    have hf : Hid (F = 4) := by show _ = _; rw [HF4.out, if_pos (by simp [only, aHas, x_keep])]
                    clear HF4
                    go_wp2
                    go_ret
                    exact ⟨ret_int hf.out.symm, hwV⟩
                  subst x_keep
                  by_cases x_call : c0 = 0 ∧ c1 = 0 ∧ c2 = 0 ∧ c3 = 0 ∧ c4 = 0
                  case neg =>
                    have y1 : Hid (one (nz c0 c1 c2 c3 c4) = 1) := one_nz x_call
                    have y2 : Hid (¬ (c0 = 0 ∧ c1 = 0 ∧ c2 = 0 ∧ c3 = 0 ∧ c4 = 0)) := x_call
                    clear x_call
                    have hf : Hid (F = 4) := by show _ = _; rw [HF4.out, if_pos (by rw [y1.out]; simp [only, aHas])]
                    clear HF4
                    go_wp2
                    all_goals
                      first
                        | exact absurd ⟨by assumption, by assumption, by assumption, by assumption, by assumption⟩ y2.out
                        | (go_ret; exact ⟨ret_int hf.out.symm, hwV⟩)
                  obtain ⟨rfl, rfl, rfl, rfl, rfl⟩ := x_call
                  by_cases x_line : line = { data := #[] }
                  case neg =>
                    have y2 : Hid (line.size ≠ 0) := fun h0 => x_line (line_nil h0)
                    have y1 : line.toList.isEmpty = false := tl_ne y2.out
                    clear x_line
                    have hf : Hid (F = 4) := by show _ = _; rw [HF4.out, if_pos (by have := y2.out; simp [only, aHas, this])]
                    clear HF4
                    go_wp2
                    go_ret
                    exact ⟨ret_int hf.out.symm, hwV⟩
                  subst x_line
                  have hf : Hid (F = 0) := by show _ = _; rw [HF4.out, if_neg (by have hz0 : (({ data := #[] } : ByteArray).size : Int) = 0 := rfl; simp [only, aHas, one, nz, hz0])]; simp
                  clear HF4
                  go_wp2
                  go_ret
                  exact ⟨ret_int hf.out.symm, hwV⟩
                · have hpath : inR 3 2 4 = true := by decide
                  clear hKd kb
                  go_upto_region 14 with (go_at_call 17; refine (in_any _ _ _ _).mono ?_; rintro e u1 ⟨rfl, hu1⟩; rw [hu1, hpath]; clear hu1)
                  simp only [List.append]
                  by_cases x_keep : kl = 0
                  case neg =>
                    have y1 : (0 : Int) < (kl : Int) := by omega
                    have y2 : decide (0 < kl) = true := by simp; omega
                    have hf : Hid (F = 4) := by show _ = _; rw [HF4.out, if_pos (by simp [only, aHas, x_keep])]
                    clear HF4
                    go_wp2
                    go_ret
                    exact ⟨ret_int hf.out.symm, hwV⟩
                  subst x_keep
                  by_cases x_call : c0 = 0 ∧ c1 = 0 ∧ c2 = 0 ∧ c3 = 0 ∧ c4 = 0
                  case neg =>
                    have y1 : Hid (one (nz c0 c1 c2 c3 c4) = 1) := one_nz x_call
                    have y2 : Hid (¬ (c0 = 0 ∧ c1 = 0 ∧ c2 = 0 ∧ c3 = 0 ∧ c4 = 0)) := x_call
                    clear x_call
                    have hf : Hid (F = 4) := by show _ = _; rw [HF4.out, if_pos (by rw [y1.out]; simp [only, aHas])]
                    clear HF4
                    go_wp2
                    all_goals
                      first
                        | exact absurd ⟨by assumption, by assumption, by assumption, by assumption, by assumption⟩ y2.out
                        | (go_ret; exact ⟨ret_int hf.out.symm, hwV⟩)
                  obtain ⟨rfl, rfl, rfl, rfl, rfl⟩ := x_call
                  by_cases x_line : line = { data := #[] }
                  case neg =>
                    have y2 : Hid (line.size ≠ 0) := fun h0 => x_line (line_nil h0)
                    have y1 : line.toList.isEmpty = false := tl_ne y2.out
                    clear x_line
                    have hf : Hid (F = 4) := by show _ = _; rw [HF4.out, if_pos (by have := y2.out; simp [only, aHas, this])]
                    clear HF4
                    go_wp2
                    go_ret
                    exact ⟨ret_int hf.out.symm, hwV⟩
                  subst x_line
                  have hf : Hid (F = 0) := by show _ = _; rw [HF4.out, if_neg (by have hz0 : (({ data := #[] } : ByteArray).size : Int) = 0 := rfl; simp [only, aHas, one, nz, hz0])]; simp
                  clear HF4
                  go_wp2
                  go_ret
                  exact ⟨ret_int hf.out.symm, hwV⟩
                · have hpath : inR 4 2 4 = true := by decide
                  clear hKd kb
                  go_upto_region 14 with (go_at_call 17; refine (in_any _ _ _ _).mono ?_; rintro e u1 ⟨rfl, hu1⟩; rw [hu1, hpath]; clear hu1)
                  simp only [List.append]
                  by_cases x_keep : kl = 0
                  case neg =>
                    have y1 : (0 : Int) < (kl : Int) := by omega
                    have y2 : decide (0 < kl) = true := by simp; omega
                    have hf : Hid (F = 4) := by show _ = _; rw [HF4.out, if_pos (by simp [only, aHas, x_keep])]
                    clear HF4
                    go_wp2
                    go_ret
                    exact ⟨ret_int hf.out.symm, hwV⟩
                  subst x_keep
                  by_cases x_call : c0 = 0 ∧ c1 = 0 ∧ c2 = 0 ∧ c3 = 0 ∧ c4 = 0
                  case neg =>
                    have y1 : Hid (one (nz c0 c1 c2 c3 c4) = 1) := one_nz x_call
                    have y2 : Hid (¬ (c0 = 0 ∧ c1 = 0 ∧ c2 = 0 ∧ c3 = 0 ∧ c4 = 0)) := x_call
                    clear x_call
                    have hf : Hid (F = 4) := by show _ = _; rw [HF4.out, if_pos (by rw [y1.out]; simp [only, aHas])]
                    clear HF4
                    go_wp2
                    all_goals
                      first
                        | exact absurd ⟨by assumption, by assumption, by assumption, by assumption, by assumption⟩ y2.out
                        | (go_ret; exact ⟨ret_int hf.out.symm, hwV⟩)
                  obtain ⟨rfl, rfl, rfl, rfl, rfl⟩ := x_call
                  by_cases x_line : line = { data := #[] }
                  case neg =>
                    have y2 : Hid (line.size ≠ 0) := fun h0 => x_line (line_nil h0)
                    have y1 : line.toList.isEmpty = false := tl_ne y2.out
                    clear x_line
                    have hf : Hid (F = 4) := by show _ = _; rw [HF4.out, if_pos (by have := y2.out; simp [only, aHas, this])]
                    clear HF4
                    go_wp2
                    go_ret
                    exact ⟨ret_int hf.out.symm, hwV⟩
                  subst x_line
                  have hf : Hid (F = 0) := by show _ = _; rw [HF4.out, if_neg (by have hz0 : (({ data := #[] } : ByteArray).size : Int) = 0 := rfl; simp [only, aHas, one, nz, hz0])]; simp
                  clear HF4
                  go_wp2
                  go_ret
                  exact ⟨ret_int hf.out.symm, hwV⟩
                · have hpath : inR 5 2 4 = false := by decide
                  clear hKd kb
                  go_upto_region 14 with (go_at_call 17; refine (in_any _ _ _ _).mono ?_; rintro e u1 ⟨rfl, hu1⟩; rw [hu1, hpath]; clear hu1)
                  simp only [List.append]
                  by_cases x_site : site = 0
                  case neg =>
                    have y1 : (site != 0) = true := by simpa using x_site
                    have hf : Hid (F = 4) := by show _ = _; rw [HF4.out, if_pos (by simp [only, aHas, x_site])]
                    clear HF4
                    go_wp2
                    go_ret
                    exact ⟨ret_int hf.out.symm, hwV⟩
                  subst x_site
                  by_cases x_to : to1 = 0
                  case neg =>
                    have y1 : (to1 != 0) = true := by simpa using x_to
                    have hf : Hid (F = 4) := by show _ = _; rw [HF4.out, if_pos (by simp [only, aHas, x_to])]
                    clear HF4
                    go_wp2
                    go_ret
                    exact ⟨ret_int hf.out.symm, hwV⟩
                  subst x_to
                  by_cases x_pick : pick = 0
                  case neg =>
                    have y1 : (pick != 0) = true := by simpa using x_pick
                    have hf : Hid (F = 4) := by show _ = _; rw [HF4.out, if_pos (by simp [only, aHas, x_pick])]
                    clear HF4
                    go_wp2
                    go_ret
                    exact ⟨ret_int hf.out.symm, hwV⟩
                  subst x_pick
                  by_cases x_label : label = 0
                  case neg =>
                    have y1 : (label != 0) = true := by simpa using x_label
                    have hf : Hid (F = 4) := by show _ = _; rw [HF4.out, if_pos (by simp [only, aHas, x_label])]
                    clear HF4
                    go_wp2
                    go_ret
                    exact ⟨ret_int hf.out.symm, hwV⟩
                  subst x_label
                  by_cases x_keep : kl = 0
                  case neg =>
                    have y1 : (0 : Int) < (kl : Int) := by omega
                    have y2 : decide (0 < kl) = true := by simp; omega
                    have hf : Hid (F = 4) := by show _ = _; rw [HF4.out, if_pos (by simp [only, aHas, x_keep])]
                    clear HF4
                    go_wp2
                    go_ret
                    exact ⟨ret_int hf.out.symm, hwV⟩
                  subst x_keep
                  by_cases x_call : c0 = 0 ∧ c1 = 0 ∧ c2 = 0 ∧ c3 = 0 ∧ c4 = 0
                  case neg =>
                    have y1 : Hid (one (nz c0 c1 c2 c3 c4) = 1) := one_nz x_call
                    have y2 : Hid (¬ (c0 = 0 ∧ c1 = 0 ∧ c2 = 0 ∧ c3 = 0 ∧ c4 = 0)) := x_call
                    clear x_call
                    have hf : Hid (F = 4) := by show _ = _; rw [HF4.out, if_pos (by rw [y1.out]; simp [only, aHas])]
                    clear HF4
                    go_wp2
                    all_goals
                      first
                        | exact absurd ⟨by assumption, by assumption, by assumption, by assumption, by assumption⟩ y2.out
                        | (go_ret; exact ⟨ret_int hf.out.symm, hwV⟩)
                  obtain ⟨rfl, rfl, rfl, rfl, rfl⟩ := x_call
                  by_cases x_line : line = { data := #[] }
                  case neg =>
                    have y2 : Hid (line.size ≠ 0) := fun h0 => x_line (line_nil h0)
                    have y1 : line.toList.isEmpty = false := tl_ne y2.out
                    clear x_line
                    have hf : Hid (F = 4) := by show _ = _; rw [HF4.out, if_pos (by have := y2.out; simp [only, aHas, this])]
                    clear HF4
                    go_wp2
                    go_ret
                    exact ⟨ret_int hf.out.symm, hwV⟩
                  subst x_line
                  have hf : Hid (F = 0) := by show _ = _; rw [HF4.out, if_neg (by have hz0 : (({ data := #[] } : ByteArray).size : Int) = 0 := rfl; simp [only, aHas, one, nz, hz0])]; simp
                  clear HF4
                  go_wp2
                  go_ret
                  exact ⟨ret_int hf.out.symm, hwV⟩
                · have hpath : inR 6 2 4 = false := by decide
                  clear hKd kb
                  go_upto_region 14 with (go_at_call 17; refine (in_any _ _ _ _).mono ?_; rintro e u1 ⟨rfl, hu1⟩; rw [hu1, hpath]; clear hu1)
                  simp only [List.append]
                  by_cases x_to : to1 = 0
                  case neg =>
                    have y1 : (to1 != 0) = true := by simpa using x_to
                    have hf : Hid (F = 4) := by show _ = _; rw [HF4.out, if_pos (by simp [only, aHas, x_to])]
                    clear HF4
                    go_wp2
                    go_ret
                    exact ⟨ret_int hf.out.symm, hwV⟩
                  subst x_to
                  by_cases x_pick : pick = 0
                  case neg =>
                    have y1 : (pick != 0) = true := by simpa using x_pick
                    have hf : Hid (F = 4) := by show _ = _; rw [HF4.out, if_pos (by simp [only, aHas, x_pick])]
                    clear HF4
                    go_wp2
                    go_ret
                    exact ⟨ret_int hf.out.symm, hwV⟩
                  subst x_pick
                  by_cases x_label : label = 0
                  case neg =>
                    have y1 : (label != 0) = true := by simpa using x_label
                    have hf : Hid (F = 4) := by show _ = _; rw [HF4.out, if_pos (by simp [only, aHas, x_label])]
                    clear HF4
                    go_wp2
                    go_ret
                    exact ⟨ret_int hf.out.symm, hwV⟩
                  subst x_label
                  by_cases x_call : c0 = 0 ∧ c1 = 0 ∧ c2 = 0 ∧ c3 = 0 ∧ c4 = 0
                  case neg =>
                    have y1 : Hid (one (nz c0 c1 c2 c3 c4) = 1) := one_nz x_call
                    have y2 : Hid (¬ (c0 = 0 ∧ c1 = 0 ∧ c2 = 0 ∧ c3 = 0 ∧ c4 = 0)) := x_call
                    clear x_call
                    have hf : Hid (F = 4) := by show _ = _; rw [HF4.out, if_pos (by rw [y1.out]; simp [only, aHas])]
                    clear HF4
                    go_wp2
                    all_goals
                      first
                        | exact absurd ⟨by assumption, by assumption, by assumption, by assumption, by assumption⟩ y2.out
                        | (go_ret; exact ⟨ret_int hf.out.symm, hwV⟩)
                  obtain ⟨rfl, rfl, rfl, rfl, rfl⟩ := x_call
                  by_cases x_line : line = { data := #[] }
                  case neg =>
                    have y2 : Hid (line.size ≠ 0) := fun h0 => x_line (line_nil h0)
                    have y1 : line.toList.isEmpty = false := tl_ne y2.out
                    clear x_line
                    have hf : Hid (F = 4) := by show _ = _; rw [HF4.out, if_pos (by have := y2.out; simp [only, aHas, this])]
                    clear HF4
                    go_wp2
                    go_ret
                    exact ⟨ret_int hf.out.symm, hwV⟩
                  subst x_line
                  have hf : Hid (F = 0) := by show _ = _; rw [HF4.out, if_neg (by have hz0 : (({ data := #[] } : ByteArray).size : Int) = 0 := rfl; simp [only, aHas, one, nz, hz0])]; simp
                  clear HF4
                  go_wp2
                  go_ret
                  exact ⟨ret_int hf.out.symm, hwV⟩
                · have hpath : inR 7 2 4 = false := by decide
                  clear hKd kb
                  go_upto_region 14 with (go_at_call 17; refine (in_any _ _ _ _).mono ?_; rintro e u1 ⟨rfl, hu1⟩; rw [hu1, hpath]; clear hu1)
                  simp only [List.append]
                  by_cases x_to : to1 = 0
                  case neg =>
                    have y1 : (to1 != 0) = true := by simpa using x_to
                    have hf : Hid (F = 4) := by show _ = _; rw [HF4.out, if_pos (by simp [only, aHas, x_to])]
                    clear HF4
                    go_wp2
                    go_ret
                    exact ⟨ret_int hf.out.symm, hwV⟩
                  subst x_to
                  by_cases x_pick : pick = 0
                  case neg =>
                    have y1 : (pick != 0) = true := by simpa using x_pick
                    have hf : Hid (F = 4) := by show _ = _; rw [HF4.out, if_pos (by simp [only, aHas, x_pick])]
                    clear HF4
                    go_wp2
                    go_ret
                    exact ⟨ret_int hf.out.symm, hwV⟩
                  subst x_pick
                  by_cases x_label : label = 0
                  case neg =>
                    have y1 : (label != 0) = true := by simpa using x_label
                    have hf : Hid (F = 4) := by show _ = _; rw [HF4.out, if_pos (by simp [only, aHas, x_label])]
                    clear HF4
                    go_wp2
                    go_ret
                    exact ⟨ret_int hf.out.symm, hwV⟩
                  subst x_label
                  by_cases x_keep : kl = 0
                  case neg =>
                    have y1 : (0 : Int) < (kl : Int) := by omega
                    have y2 : decide (0 < kl) = true := by simp; omega
                    have hf : Hid (F = 4) := by show _ = _; rw [HF4.out, if_pos (by simp [only, aHas, x_keep])]
                    clear HF4
                    go_wp2
                    go_ret
                    exact ⟨ret_int hf.out.symm, hwV⟩
                  subst x_keep
                  by_cases x_call : c0 = 0 ∧ c1 = 0 ∧ c2 = 0 ∧ c3 = 0 ∧ c4 = 0
                  case neg =>
                    have y1 : Hid (one (nz c0 c1 c2 c3 c4) = 1) := one_nz x_call
                    have y2 : Hid (¬ (c0 = 0 ∧ c1 = 0 ∧ c2 = 0 ∧ c3 = 0 ∧ c4 = 0)) := x_call
                    clear x_call
                    have hf : Hid (F = 4) := by show _ = _; rw [HF4.out, if_pos (by rw [y1.out]; simp [only, aHas])]
                    clear HF4
                    go_wp2
                    all_goals
                      first
                        | exact absurd ⟨by assumption, by assumption, by assumption, by assumption, by assumption⟩ y2.out
                        | (go_ret; exact ⟨ret_int hf.out.symm, hwV⟩)
                  obtain ⟨rfl, rfl, rfl, rfl, rfl⟩ := x_call
                  by_cases x_line : line = { data := #[] }
                  case neg =>
                    have y2 : Hid (line.size ≠ 0) := fun h0 => x_line (line_nil h0)
                    have y1 : line.toList.isEmpty = false := tl_ne y2.out
                    clear x_line
                    have hf : Hid (F = 4) := by show _ = _; rw [HF4.out, if_pos (by have := y2.out; simp [only, aHas, this])]
                    clear HF4
                    go_wp2
                    go_ret
                    exact ⟨ret_int hf.out.symm, hwV⟩
                  subst x_line
                  have hf : Hid (F = 0) := by show _ = _; rw [HF4.out, if_neg (by have hz0 : (({ data := #[] } : ByteArray).size : Int) = 0 := rfl; simp [only, aHas, one, nz, hz0])]; simp
                  clear HF4
                  go_wp2
                  go_ret
                  exact ⟨ret_int hf.out.symm, hwV⟩
                · have hpath : inR 8 2 4 = false := by decide
                  clear hKd kb
                  go_upto_region 14 with (go_at_call 17; refine (in_any _ _ _ _).mono ?_; rintro e u1 ⟨rfl, hu1⟩; rw [hu1, hpath]; clear hu1)
                  simp only [List.append]
                  by_cases x_to : to1 = 0
                  case neg =>
                    have y1 : (to1 != 0) = true := by simpa using x_to
                    have hf : Hid (F = 4) := by show _ = _; rw [HF4.out, if_pos (by simp [only, aHas, x_to])]
                    clear HF4
                    go_wp2
                    go_ret
                    exact ⟨ret_int hf.out.symm, hwV⟩
                  subst x_to
                  by_cases x_pick : pick = 0
                  case neg =>
                    have y1 : (pick != 0) = true := by simpa using x_pick
                    have hf : Hid (F = 4) := by show _ = _; rw [HF4.out, if_pos (by simp [only, aHas, x_pick])]
                    clear HF4
                    go_wp2
                    go_ret
                    exact ⟨ret_int hf.out.symm, hwV⟩
                  subst x_pick
                  by_cases x_keep : kl = 0
                  case neg =>
                    have y1 : (0 : Int) < (kl : Int) := by omega
                    have y2 : decide (0 < kl) = true := by simp; omega
                    have hf : Hid (F = 4) := by show _ = _; rw [HF4.out, if_pos (by simp [only, aHas, x_keep])]
                    clear HF4
                    go_wp2
                    go_ret
                    exact ⟨ret_int hf.out.symm, hwV⟩
                  subst x_keep
                  by_cases x_call : c0 = 0 ∧ c1 = 0 ∧ c2 = 0 ∧ c3 = 0 ∧ c4 = 0
                  case neg =>
                    have y1 : Hid (one (nz c0 c1 c2 c3 c4) = 1) := one_nz x_call
                    have y2 : Hid (¬ (c0 = 0 ∧ c1 = 0 ∧ c2 = 0 ∧ c3 = 0 ∧ c4 = 0)) := x_call
                    clear x_call
                    have hf : Hid (F = 4) := by show _ = _; rw [HF4.out, if_pos (by rw [y1.out]; simp [only, aHas])]
                    clear HF4
                    go_wp2
                    all_goals
                      first
                        | exact absurd ⟨by assumption, by assumption, by assumption, by assumption, by assumption⟩ y2.out
                        | (go_ret; exact ⟨ret_int hf.out.symm, hwV⟩)
                  obtain ⟨rfl, rfl, rfl, rfl, rfl⟩ := x_call
                  have hf : Hid (F = 0) := by show _ = _; rw [HF4.out, if_neg (by simp [only, aHas, one, nz])]; simp
                  clear HF4
                  go_wp2
                  go_ret
                  exact ⟨ret_int hf.out.symm, hwV⟩
end Go.Proofs.YtoonldnbpnlalaaDoor.Ln
