/- The contracts of bounds.Site, bounds.Label, of the test of a Keep's numbers, and of lines.inBounds. -/
import Derived.Test.YtjihmhijnpjnoaaGreatDoorLnOnly
namespace Go.Proofs.YtjihmhijnpjnoaaGreatDoor.Ln
open Go.ChangeShapes Go.WideShapes Go.ChangeAt Go.RowKit
open Go.Proofs.YtjihmhijnpjnoaaGreatDoor.St (BoxN boxn_new)
set_option linter.unusedVariables false

theorem site_any (s p : Int) (a : Option Addr) (len cap : Nat) (n : Int) (w : World) (hs : 1 ≤ s ∧ s ≤ 4) :
    Calls Tryz.prog 50 #[.agg #[.int .i64 s, .slice a len cap, .int .i64 p], .int .i64 n] w fun e w' => e = .returned (.bool (inR n 0 (s - 1))) ∧ Below w.heap.size w w' := by
  have hA : Below w.heap.size w (w.alloc (.cells #[.int .i64 s, .slice a len cap, .int .i64 p] 26)) := (Below.refl _ _).alloc (Nat.le_refl _) _
  obtain ⟨h1, h2⟩ := hs
  go_enter Tryz.func50, Tryz.ntmps50
  go_wp2_with (go_at_call 29; refine (within_any _ _ _ _).mono ?_; rintro e u1 ⟨rfl, hu1⟩; rw [hu1]; clear hu1)
  go_ret
  exact ⟨rfl, hA⟩
theorem plc_in (l : Int) (len : Nat) : plc l len = inR l 0 ((len : Int) - 1) := by unfold plc inR; rw [Bool.eq_iff_iff]; simp; omega
theorem label_any (s p : Int) (a : Option Addr) (len cap : Nat) (n : Int) (w : World) (hl : len ≤ 6) :
    Calls Tryz.prog 51 #[.agg #[.int .i64 s, .slice a len cap, .int .i64 p], .int .i64 n] w fun e w' => e = .returned (.bool (plc n len)) ∧ Below w.heap.size w w' := by
  have hA : Below w.heap.size w (w.alloc (.cells #[.int .i64 s, .slice a len cap, .int .i64 p] 26)) := (Below.refl _ _).alloc (Nat.le_refl _) _
  have h2 : (len : Int) ≤ 6 := by omega
  rw [plc_in]
  go_enter Tryz.func51, Tryz.ntmps51
  go_wp2_with (go_at_call 29; refine (within_any _ _ _ _).mono ?_; rintro e u1 ⟨rfl, hu1⟩; rw [hu1]; clear hu1)
  go_ret
  exact ⟨rfl, hA⟩
theorem keepFn_any (z : Int) (w : World) : Calls Tryz.prog 48 #[.int .i64 z] w fun e w' => e = .returned (.bool (!inR z 0 6000)) ∧ w' = w := by
  go_enter Tryz.func48, Tryz.ntmps48
  go_wp2_with (go_at_call 29; refine (within_any _ _ _ _).mono ?_; rintro e u1 ⟨rfl, hu1⟩; rw [hu1]; clear hu1)
  go_ret
  exact ⟨rfl, rfl⟩

theorem keep_at {zs : List Int} {k : Nat} (hk : k < zs.length) : keepIn (zs.drop k) = (inR (zs.getD k 0) 0 6000 && keepIn (zs.drop (k + 1))) := by
  unfold keepIn
  rw [List.drop_eq_getElem_cons hk, List.all_cons]
  simp [List.getD, hk]
set_option maxHeartbeats 1000000 in
theorem keepIdx_any (a : Option Addr) (len cap : Nat) (zs : List Int) (w : World) (h : IsInts w a len cap zs) :
    Calls Tryz.prog 88 #[.slice a len cap, .func (.func 48) #[] #[]] w fun e w' => ∃ i : Int, e = .returned (.int .i64 i) ∧ decide (0 ≤ i) = (!keepIn zs) ∧ w' = w := by
  obtain ⟨hlen, hcap, hmax, _, hmem⟩ := h
  have HL : Hid (zs.length = len) := hlen
  clear hlen
  unfold maxLen at hmax
  obtain ⟨R, eR⟩ : ∃ R, R = keepIn zs := ⟨_, rfl⟩
  have HR : Hid (R = keepIn (zs.drop 0)) := eR
  rw [← eR]
  clear eR
  go_enter Tryz.func88, Tryz.ntmps88
  go_wp2
  go_loop [5, 8] (fun _ s8 => ∃ (k : Nat), k ≤ len ∧ s8 = .int .i64 (k : Int) ∧ Hid (R = keepIn (zs.drop k))) (fun _ s8 => len - (intOf s8).toNat)
  case atStart => exact ⟨0, Nat.zero_le _, rfl, HR.out⟩
  case round =>
    obtain ⟨k, hk, rfl, hat⟩ := hrel
    by_cases hlt : k < len
    · have hlt' : (k : Int) < (len : Int) := by omega
      obtain ⟨b, off, rfl, zb, hc⟩ := hmem (by omega)
      have c1 := hc k hlt
      have hst : Hid (R = (inR (zs.getD k 0) 0 6000 && keepIn (zs.drop (k + 1)))) := by show _ = _; rw [hat.out]; exact keep_at (by rw [HL.out]; exact hlt)
      clear hat hc
      obtain ⟨X, eX⟩ : ∃ X, X = zs.getD k 0 := ⟨_, rfl⟩
      rw [← eX] at c1 hst
      clear eX
      cases hr : inR X 0 6000 with
      | true =>
        have hn : Hid (R = keepIn (zs.drop (k + 1))) := by show _ = _; rw [hst.out, hr]; rfl
        clear hst
        go_wp2_with (go_at_call 48; refine (keepFn_any _ _).mono ?_; rintro e u1 ⟨rfl, hu1⟩; rw [hu1]; clear hu1)
        go_round
        case rel => exact ⟨k + 1, by omega, by go_num, hn.out⟩
        case measure => simp [intOf]; omega
      | false =>
        have hn : Hid (R = false) := by show _ = _; rw [hst.out, hr]; rfl
        clear hst
        go_wp2_with (go_at_call 48; refine (keepFn_any _ _).mono ?_; rintro e u1 ⟨rfl, hu1⟩; rw [hu1]; clear hu1)
        go_ret
        exact ⟨k, rfl, by rw [hn.out]; simp, rfl⟩
    · have hn : Hid (R = true) := by show _ = _; rw [hat.out, List.drop_eq_nil_of_le (by rw [HL.out]; omega)]; rfl
      clear hat
      go_wp2
      go_ret
      exact ⟨-1, rfl, by rw [hn.out]; simp, rfl⟩
theorem keepAny_any (a : Option Addr) (len cap : Nat) (zs : List Int) (w : World) (h : IsInts w a len cap zs) :
    Calls Tryz.prog 49 #[.slice a len cap, .func (.func 48) #[] #[]] w fun e w' => e = .returned (.bool (!keepIn zs)) ∧ w' = w := by
  have hI := fun w' h1 => keepIdx_any a len cap zs w' h1
  obtain ⟨R, eR⟩ : ∃ R, R = !keepIn zs := ⟨_, rfl⟩
  rw [← eR] at hI ⊢
  clear eR
  go_enter Tryz.func49, Tryz.ntmps49
  go_wp2_with (go_at_call 88; refine (hI _ h).mono ?_; rintro e u1 ⟨i, rfl, hi, hu1⟩; rw [hu1]; clear hu1)
  go_ret
  exact ⟨rfl, rfl⟩

set_option maxRecDepth 100000 in
set_option maxHeartbeats 4000000 in
theorem inBounds_any (s p : Int) (a : Option Addr) (len cap : Nat) (v : AV) (w : World) (hs : 1 ≤ s ∧ s ≤ 4) (hl : len ≤ 6) (hk : IsInts w v.ka v.kl v.kc v.keep) :
    Calls Tryz.prog 32 #[.agg #[.int .i64 s, .slice a len cap, .int .i64 p], .agg v.cells.toArray] w fun e w' => e = .returned (.bool (actIn s len v)) ∧ Below w.heap.size w w' := by
  have hS := fun n w' => site_any s p a len cap n w' hs
  have hLb := fun n w' => label_any s p a len cap n w' hl
  obtain ⟨kind, site, to1, label, pick, ka, kl, kc, c0, c1, c2, c3, c4, line, keep⟩ := v
  simp only [AV.cells] at *
  obtain ⟨R, eR⟩ : ∃ R, R = actIn s len ⟨kind, site, to1, label, pick, ka, kl, kc, c0, c1, c2, c3, c4, line, keep⟩ := ⟨_, rfl⟩
  have HR : Hid (R = (decide (kl ≤ len) && keepIn keep && decide (line.size ≤ 60) && inR pick 0 1048576 && (inR site 0 (s - 1) && inR to1 0 (s - 1) && plc label len))) := eR
  rw [← eR]
  clear eR
  obtain ⟨W, hW⟩ : ∃ W : World, W = (w.alloc (.cells #[.int .i64 s, .slice a len cap, .int .i64 p] 26)).alloc (.cells #[.int .i64 kind, .int .i64 site, .int .i64 to1, .int .i64 label, .int .i64 pick, .slice ka kl kc, .int .i64 c0, .int .i64 c1, .int .i64 c2, .int .i64 c3, .int .i64 c4, .string line] 34) := ⟨_, rfl⟩
  have hB : Below w.heap.size w W := by rw [hW]; exact ((Below.refl _ _).alloc (Nat.le_refl _) _).alloc (by simp) _
  have zW : w.heap.size + 1 < W.heap.size := by rw [hW]; simp
  have hkW := hk.below hB
  have hKp := fun w' h' => keepAny_any ka kl kc keep w' h'
  obtain ⟨KI, eKI⟩ : ∃ KI, KI = keepIn keep := ⟨_, rfl⟩
  rw [← eKI] at HR hKp
  clear eKI hk
  have d0 : W.cell? ⟨w.heap.size, 0, none⟩ = some (.int .i64 s) := by rw [hW]; go_simp
  have d1 : W.cell? ⟨w.heap.size, 1, none⟩ = some (.slice a len cap) := by rw [hW]; go_simp
  have d2 : W.cell? ⟨w.heap.size, 2, none⟩ = some (.int .i64 p) := by rw [hW]; go_simp
  have e0 : W.cell? ⟨w.heap.size + 1, 0, none⟩ = some (.int .i64 kind) := by rw [hW]; go_simp
  have e1 : W.cell? ⟨w.heap.size + 1, 1, none⟩ = some (.int .i64 site) := by rw [hW]; go_simp
  have e2 : W.cell? ⟨w.heap.size + 1, 2, none⟩ = some (.int .i64 to1) := by rw [hW]; go_simp
  have e3 : W.cell? ⟨w.heap.size + 1, 3, none⟩ = some (.int .i64 label) := by rw [hW]; go_simp
  have e4 : W.cell? ⟨w.heap.size + 1, 4, none⟩ = some (.int .i64 pick) := by rw [hW]; go_simp
  have e5 : W.cell? ⟨w.heap.size + 1, 5, none⟩ = some (.slice ka kl kc) := by rw [hW]; go_simp
  have e6 : W.cell? ⟨w.heap.size + 1, 6, none⟩ = some (.int .i64 c0) := by rw [hW]; go_simp
  have e7 : W.cell? ⟨w.heap.size + 1, 7, none⟩ = some (.int .i64 c1) := by rw [hW]; go_simp
  have e8 : W.cell? ⟨w.heap.size + 1, 8, none⟩ = some (.int .i64 c2) := by rw [hW]; go_simp
  have e9 : W.cell? ⟨w.heap.size + 1, 9, none⟩ = some (.int .i64 c3) := by rw [hW]; go_simp
  have e10 : W.cell? ⟨w.heap.size + 1, 10, none⟩ = some (.int .i64 c4) := by rw [hW]; go_simp
  have e11 : W.cell? ⟨w.heap.size + 1, 11, none⟩ = some (.string line) := by rw [hW]; go_simp
  have KC : Hid (∀ U : World, Below W.heap.size W U → U.cell? ⟨w.heap.size, 0, none⟩ = some (.int .i64 s) ∧ U.cell? ⟨w.heap.size, 1, none⟩ = some (.slice a len cap) ∧ U.cell? ⟨w.heap.size, 2, none⟩ = some (.int .i64 p) ∧ U.cell? ⟨w.heap.size + 1, 0, none⟩ = some (.int .i64 kind) ∧ U.cell? ⟨w.heap.size + 1, 1, none⟩ = some (.int .i64 site) ∧ U.cell? ⟨w.heap.size + 1, 2, none⟩ = some (.int .i64 to1) ∧ U.cell? ⟨w.heap.size + 1, 3, none⟩ = some (.int .i64 label) ∧ U.cell? ⟨w.heap.size + 1, 4, none⟩ = some (.int .i64 pick) ∧ U.cell? ⟨w.heap.size + 1, 5, none⟩ = some (.slice ka kl kc) ∧ U.cell? ⟨w.heap.size + 1, 6, none⟩ = some (.int .i64 c0) ∧ U.cell? ⟨w.heap.size + 1, 7, none⟩ = some (.int .i64 c1) ∧ U.cell? ⟨w.heap.size + 1, 8, none⟩ = some (.int .i64 c2) ∧ U.cell? ⟨w.heap.size + 1, 9, none⟩ = some (.int .i64 c3) ∧ U.cell? ⟨w.heap.size + 1, 10, none⟩ = some (.int .i64 c4) ∧ U.cell? ⟨w.heap.size + 1, 11, none⟩ = some (.string line)) := fun U hU => ⟨(hU.cell (p := ⟨w.heap.size, 0, none⟩) (by show w.heap.size < _; omega)).trans d0, (hU.cell (p := ⟨w.heap.size, 1, none⟩) (by show w.heap.size < _; omega)).trans d1, (hU.cell (p := ⟨w.heap.size, 2, none⟩) (by show w.heap.size < _; omega)).trans d2, (hU.cell (p := ⟨w.heap.size + 1, 0, none⟩) zW).trans e0, (hU.cell (p := ⟨w.heap.size + 1, 1, none⟩) zW).trans e1, (hU.cell (p := ⟨w.heap.size + 1, 2, none⟩) zW).trans e2, (hU.cell (p := ⟨w.heap.size + 1, 3, none⟩) zW).trans e3, (hU.cell (p := ⟨w.heap.size + 1, 4, none⟩) zW).trans e4, (hU.cell (p := ⟨w.heap.size + 1, 5, none⟩) zW).trans e5, (hU.cell (p := ⟨w.heap.size + 1, 6, none⟩) zW).trans e6, (hU.cell (p := ⟨w.heap.size + 1, 7, none⟩) zW).trans e7, (hU.cell (p := ⟨w.heap.size + 1, 8, none⟩) zW).trans e8, (hU.cell (p := ⟨w.heap.size + 1, 9, none⟩) zW).trans e9, (hU.cell (p := ⟨w.heap.size + 1, 10, none⟩) zW).trans e10, (hU.cell (p := ⟨w.heap.size + 1, 11, none⟩) zW).trans e11⟩
  go_enter Tryz.func32, Tryz.ntmps32
  go_upto_region 2 with (fail)
  rw [← hW]
  clear hW
  by_cases h1 : kl ≤ len
  case neg =>
    have g1 : (len : Int) < (kl : Int) := by omega
    have hf : Hid (R = false) := by show _ = _; rw [HR.out]; simp [h1]
    go_wp2_with (fail)
    go_ret
    exact ⟨ret_bool hf.out.symm, hB⟩
  have g1 : ¬ (len : Int) < (kl : Int) := by omega
  cases KI with
  | false =>
    have hf : Hid (R = false) := by show _ = _; rw [HR.out]; simp
    go_wp2_with (first | (go_at_call 49; refine (hKp _ hkW).mono ?_; rintro e u1 ⟨rfl, hu1⟩; rw [hu1]; clear hu1))
    go_ret
    exact ⟨ret_bool hf.out.symm, hB⟩
  | true =>
    have HR1 : Hid (R = (decide (line.size ≤ 60) && inR pick 0 1048576 && (inR site 0 (s - 1) && inR to1 0 (s - 1) && plc label len))) := by show _ = _; rw [HR.out]; simp [h1]
    clear HR
    go_upto_region 4 with (first | (go_at_call 49; refine (hKp _ hkW).mono ?_; rintro e u1 ⟨rfl, hu1⟩; rw [hu1]; clear hu1))
    by_cases h2 : line.size ≤ 60
    case neg =>
      have g2 : (60 : Int) < (line.size : Int) := by omega
      have hf : Hid (R = false) := by show _ = _; rw [HR1.out]; simp [h2]
      go_wp2_with (fail)
      go_ret
      exact ⟨ret_bool hf.out.symm, hB⟩
    have g2 : ¬ (60 : Int) < (line.size : Int) := by omega
    cases h3 : inR pick 0 1048576 with
    | false =>
      have hf : Hid (R = false) := by show _ = _; rw [HR1.out, h3]; simp
      go_wp2_with (go_at_call 29; refine (within_any _ _ _ _).mono ?_; rintro e u1 ⟨rfl, hu1⟩; rw [hu1]; clear hu1)
      go_ret
      exact ⟨ret_bool hf.out.symm, hB⟩
    | true =>
      have HR2 : Hid (R = (inR site 0 (s - 1) && inR to1 0 (s - 1) && plc label len)) := by show _ = _; rw [HR1.out, h3]; simp [h2]
      clear HR1
      go_upto_region 6 with (go_at_call 29; refine (within_any _ _ _ _).mono ?_; rintro e u1 ⟨rfl, hu1⟩; rw [hu1]; clear hu1)
      have hbv : Below W.heap.size W W := Below.refl _ _
      cases h4 : inR site 0 (s - 1) with
      | false =>
        have hf : Hid (R = false) := by show _ = _; rw [HR2.out, h4]; simp
        clear HR2
        go_wp2_with (go_at_call 50; refine (hS _ _).mono ?_; rintro e u1 ⟨rfl, hb1⟩; replace hbv := hbv.trans (hb1.mono hbv.size); clear d0 d1 d2 e0 e1 e2 e3 e4 e5 e6 e7 e8 e9 e10 e11; obtain ⟨d0, d1, d2, e0, e1, e2, e3, e4, e5, e6, e7, e8, e9, e10, e11⟩ := KC.out _ hbv)
        go_ret
        exact ⟨ret_bool hf.out.symm, hB.trans (hbv.mono hB.size)⟩
      | true =>
        cases h5 : inR to1 0 (s - 1) with
        | false =>
          have hf : Hid (R = false) := by show _ = _; rw [HR2.out, h4, h5]; simp
          clear HR2
          go_wp2_with (go_at_call 50; refine (hS _ _).mono ?_; rintro e u1 ⟨rfl, hb1⟩; replace hbv := hbv.trans (hb1.mono hbv.size); clear d0 d1 d2 e0 e1 e2 e3 e4 e5 e6 e7 e8 e9 e10 e11; obtain ⟨d0, d1, d2, e0, e1, e2, e3, e4, e5, e6, e7, e8, e9, e10, e11⟩ := KC.out _ hbv)
          go_ret
          exact ⟨ret_bool hf.out.symm, hB.trans (hbv.mono hB.size)⟩
        | true =>
          have hf : Hid (R = plc label len) := by show _ = _; rw [HR2.out, h4, h5]; simp
          clear HR2
          go_wp2_with (first | (go_at_call 50; refine (hS _ _).mono ?_; rintro e u1 ⟨rfl, hb1⟩; replace hbv := hbv.trans (hb1.mono hbv.size); clear d0 d1 d2 e0 e1 e2 e3 e4 e5 e6 e7 e8 e9 e10 e11; obtain ⟨d0, d1, d2, e0, e1, e2, e3, e4, e5, e6, e7, e8, e9, e10, e11⟩ := KC.out _ hbv) | (go_at_call 51; refine (hLb _ _).mono ?_; rintro e u1 ⟨rfl, hb1⟩; replace hbv := hbv.trans (hb1.mono hbv.size)))
          go_ret
          exact ⟨ret_bool hf.out.symm, hB.trans (hbv.mono hB.size)⟩
end Go.Proofs.YtjihmhijnpjnoaaGreatDoor.Ln
