/- The contract of lines.Check. -/
import Derived.Test.YtjihmhijnpjnoaaGreatDoorLnCall
import Derived.Test.YtjihmhijnpjnoaaGreatDoorLnIn
namespace Go.Proofs.YtjihmhijnpjnoaaGreatDoor.Ln
open Go.ChangeShapes Go.WideShapes Go.ChangeAt Go.RowKit
open Go.Proofs.YtjihmhijnpjnoaaGreatDoor.St (BoxN boxn_new)
set_option linter.unusedVariables false

theorem aHas_seven (k : Nat) (hk : k < 9) : aHas.getD k [] = [(aHas.getD k []).getD 0 false, (aHas.getD k []).getD 1 false, (aHas.getD k []).getD 2 false, (aHas.getD k []).getD 3 false, (aHas.getD k []).getD 4 false, (aHas.getD k []).getD 5 false, (aHas.getD k []).getD 6 false] := by
  rcases (by omega : k = 0 ∨ k = 1 ∨ k = 2 ∨ k = 3 ∨ k = 4 ∨ k = 5 ∨ k = 6 ∨ k = 7 ∨ k = 8) with rfl | rfl | rfl | rfl | rfl | rfl | rfl | rfl | rfl <;> rfl
theorem aHas_call (k : Nat) (hk : k < 9) : (aHas.getD k []).getD 5 false = decide ((k : Int) = 1) := by
  rcases (by omega : k = 0 ∨ k = 1 ∨ k = 2 ∨ k = 3 ∨ k = 4 ∨ k = 5 ∨ k = 6 ∨ k = 7 ∨ k = 8) with rfl | rfl | rfl | rfl | rfl | rfl | rfl | rfl | rfl <;> rfl

set_option maxRecDepth 100000 in
set_option maxHeartbeats 8000000 in
theorem check_act (s p : Int) (a : Option Addr) (len cap : Nat) (ls : List (Int × Int)) (v : AV) (w : World) (h : IsLabs w a len cap ls) (hk : IsInts w v.ka v.kl v.kc v.keep)
    (hha : Tab w 0 7 aHas) (hhc : Tab w 1 4 cHas) (ht : CTops w) :
    Calls Tryz.prog 18 #[.agg #[.int .i64 s, .slice a len cap, .int .i64 p], .agg v.cells.toArray] w fun e w' => e = .returned (.int .i64 (actFault s ls p v)) ∧ Below w.heap.size w w' := by
  have zh := hha.lt (by decide) (by decide)
  have zc := hhc.lt (by decide) (by decide)
  have hAP := fun w' => actParts_any v w'
  obtain ⟨F, eF⟩ : ∃ F, F = actFault s ls p v := ⟨_, rfl⟩
  have hIn := fun w' (h1 : 1 ≤ s ∧ s ≤ 4) (h2 : len ≤ 6) (h3 : IsInts w' v.ka v.kl v.kc v.keep) => inBounds_any s p a len cap v w' h1 h2 h3
  obtain ⟨AI, eAI⟩ : ∃ AI, AI = actIn s len v := ⟨_, rfl⟩
  have hlen0 := h.1
  rw [← eAI] at hIn
  rw [← eF]
  have HF : Hid (F = if cfgFault s ls p ≠ 0 then cfgFault s ls p else if inR v.kind 1 8 = false then 3 else if AI = false then 2 else if only (aHas.getD v.kind.toNat []) (aParts v) = false then 4 else if v.kind = 1 then callFault v.c0 v.c1 v.c2 v.c3 v.c4 else 0) := by
    show _ = _
    rw [eF, eAI, actFault, hlen0]
  clear eF eAI
  obtain ⟨kind, site, to1, label, pick, ka, kl, kc, c0, c1, c2, c3, c4, line, keep⟩ := v
  simp only [AV.cells, aParts, List.map] at *
  obtain ⟨B1, eB1⟩ : ∃ B1, B1 = one (nz c0 c1 c2 c3 c4) := ⟨_, rfl⟩
  rw [← eB1] at HF hAP
  clear eB1
  obtain ⟨W, hW⟩ : ∃ W : World, W = (w.alloc (.cells #[.int .i64 s, .slice a len cap, .int .i64 p] 26)).alloc (.cells #[.int .i64 kind, .int .i64 site, .int .i64 to1, .int .i64 label, .int .i64 pick, .slice ka kl kc, .int .i64 c0, .int .i64 c1, .int .i64 c2, .int .i64 c3, .int .i64 c4, .string line] 34) := ⟨_, rfl⟩
  have hB : Below w.heap.size w W := by rw [hW]; exact ((Below.refl _ _).alloc (Nat.le_refl _) _).alloc (by simp) _
  have zW : w.heap.size + 1 < W.heap.size := by rw [hW]; simp
  have hLW := h.below hB
  have HK : Hid (∀ U, Below W.heap.size W U → IsInts U ka kl kc keep) := fun U hU => (hk.below hB).below hU
  have HTA : Hid (∀ U, Below W.heap.size W U → Tab U 0 7 aHas) := fun U hU => (hha.below hB zh).below hU (by omega)
  have HTC : Hid (∀ U, Below W.heap.size W U → Tab U 1 4 cHas ∧ CTops U) := fun U hU => ⟨(hhc.below hB zc).below hU (by omega), Nms.below (Nms.below ht hB ht.1) hU (by have := ht.1; omega)⟩
  clear hha hhc ht hk
  have d0 : W.cell? ⟨w.heap.size, 0, none⟩ = some (.int .i64 s) := by rw [hW]; go_simp
  have d1 : W.cell? ⟨w.heap.size, 1, none⟩ = some (.slice a len cap) := by rw [hW]; go_simp
  have d2 : W.cell? ⟨w.heap.size, 2, none⟩ = some (.int .i64 p) := by rw [hW]; go_simp
  have e0 : W.cell? ⟨w.heap.size + 1, 0, none⟩ = some (.int .i64 kind) := by rw [hW]; go_simp
  have e1 : W.cell? ⟨w.heap.size + 1, 1, none⟩ = some (.int .i64 site) := by rw [hW]; go_simp
  have e2 : W.cell? ⟨w.heap.size + 1, 2, none⟩ = some (.int .i64 to1) := by rw [hW]; go_simp
  have e3 : W.cell? ⟨w.heap.size + 1, 3, none⟩ = some (.int .i64 label) := by rw [hW]; go_simp
  have e4 : W.cell? ⟨w.heap.size + 1, 4, none⟩ = some (.int .i64 pick) := by rw [hW]; go_simp
  have e5 : W.cell? ⟨w.heap.size + 1, 5, none⟩ = some (.slice ka kl kc) := by rw [hW]; go_simp
  have e6 : W.cell? ⟨w.heap.size + 1, 6, none⟩ = some (.int .i64 c0) := by rw [hW]; go_simp
  have e7 : W.cell? ⟨w.heap.size + 1, 7, none⟩ = some (.int .i64 c1) := by rw [hW]; go_simp
  have e8 : W.cell? ⟨w.heap.size + 1, 8, none⟩ = some (.int .i64 c2) := by rw [hW]; go_simp
  have e9 : W.cell? ⟨w.heap.size + 1, 9, none⟩ = some (.int .i64 c3) := by rw [hW]; go_simp
  have e10 : W.cell? ⟨w.heap.size + 1, 10, none⟩ = some (.int .i64 c4) := by rw [hW]; go_simp
  have e11 : W.cell? ⟨w.heap.size + 1, 11, none⟩ = some (.string line) := by rw [hW]; go_simp
  have KC : Hid (∀ U : World, Below W.heap.size W U → U.cell? ⟨w.heap.size, 0, none⟩ = some (.int .i64 s) ∧ U.cell? ⟨w.heap.size, 1, none⟩ = some (.slice a len cap) ∧ U.cell? ⟨w.heap.size, 2, none⟩ = some (.int .i64 p) ∧ U.cell? ⟨w.heap.size + 1, 0, none⟩ = some (.int .i64 kind) ∧ U.cell? ⟨w.heap.size + 1, 1, none⟩ = some (.int .i64 site) ∧ U.cell? ⟨w.heap.size + 1, 2, none⟩ = some (.int .i64 to1) ∧ U.cell? ⟨w.heap.size + 1, 3, none⟩ = some (.int .i64 label) ∧ U.cell? ⟨w.heap.size + 1, 4, none⟩ = some (.int .i64 pick) ∧ U.cell? ⟨w.heap.size + 1, 5, none⟩ = some (.slice ka kl kc) ∧ U.cell? ⟨w.heap.size + 1, 6, none⟩ = some (.int .i64 c0) ∧ U.cell? ⟨w.heap.size + 1, 7, none⟩ = some (.int .i64 c1) ∧ U.cell? ⟨w.heap.size + 1, 8, none⟩ = some (.int .i64 c2) ∧ U.cell? ⟨w.heap.size + 1, 9, none⟩ = some (.int .i64 c3) ∧ U.cell? ⟨w.heap.size + 1, 10, none⟩ = some (.int .i64 c4) ∧ U.cell? ⟨w.heap.size + 1, 11, none⟩ = some (.string line)) := fun U hU => ⟨(hU.cell (p := ⟨w.heap.size, 0, none⟩) (by show w.heap.size < _; omega)).trans d0, (hU.cell (p := ⟨w.heap.size, 1, none⟩) (by show w.heap.size < _; omega)).trans d1, (hU.cell (p := ⟨w.heap.size, 2, none⟩) (by show w.heap.size < _; omega)).trans d2, (hU.cell (p := ⟨w.heap.size + 1, 0, none⟩) zW).trans e0, (hU.cell (p := ⟨w.heap.size + 1, 1, none⟩) zW).trans e1, (hU.cell (p := ⟨w.heap.size + 1, 2, none⟩) zW).trans e2, (hU.cell (p := ⟨w.heap.size + 1, 3, none⟩) zW).trans e3, (hU.cell (p := ⟨w.heap.size + 1, 4, none⟩) zW).trans e4, (hU.cell (p := ⟨w.heap.size + 1, 5, none⟩) zW).trans e5, (hU.cell (p := ⟨w.heap.size + 1, 6, none⟩) zW).trans e6, (hU.cell (p := ⟨w.heap.size + 1, 7, none⟩) zW).trans e7, (hU.cell (p := ⟨w.heap.size + 1, 8, none⟩) zW).trans e8, (hU.cell (p := ⟨w.heap.size + 1, 9, none⟩) zW).trans e9, (hU.cell (p := ⟨w.heap.size + 1, 10, none⟩) zW).trans e10, (hU.cell (p := ⟨w.heap.size + 1, 11, none⟩) zW).trans e11⟩
  go_enter Tryz.func18, Tryz.ntmps18
  go_upto_region 1 with (fail)
  rw [← hW]
  clear hW
  by_cases hF : cfgFault s ls p = 0
  case neg =>
    have hf : Hid (F = cfgFault s ls p) := by show _ = _; rw [HF.out, if_pos hF]
    clear HF
    go_wp2_with (go_at_call 17; refine (check_any s p a len cap ls _ hLW).mono ?_; rintro e w1 ⟨rfl, hb1⟩)
    go_ret
    exact ⟨ret_int hf.out.symm, hB.trans (hb1.mono hB.size)⟩
  obtain ⟨s1, s4, n1, n6, _, _, _⟩ := cfg_zero hF
  have l6 : len ≤ 6 := by omega
  have HF1 : Hid (F = if inR kind 1 8 = false then 3 else if AI = false then 2 else if only (aHas.getD kind.toNat []) [site, to1, label, pick, (kl : Int), B1, (line.size : Int)] = false then 4 else if kind = 1 then callFault c0 c1 c2 c3 c4 else 0) := by show _ = _; rw [HF.out, if_neg (by simpa using hF)]
  clear HF
  have HLn : Hid (ls.length = len) := hlen0
  clear hlen0 n1 n6 h
  go_upto_region 4 with (go_at_call 17; refine (check_any s p a len cap ls _ hLW).mono ?_; rintro e w1 ⟨rfl, hb1⟩)
  clear d0 d1 d2 e0 e1 e2 e3 e4 e5 e6 e7 e8 e9 e10 e11
  obtain ⟨d0, d1, d2, e0, e1, e2, e3, e4, e5, e6, e7, e8, e9, e10, e11⟩ := KC.out _ hb1
  cases hK : inR kind 1 8 with
  | false =>
    have hf : Hid (F = 3) := by show _ = _; rw [HF1.out, if_pos hK]
    clear HF1
    go_wp2_with (go_at_call 29; refine (within_any _ _ _ _).mono ?_; rintro e u1 ⟨rfl, hu1⟩; rw [hu1]; clear hu1)
    go_ret
    exact ⟨ret_int hf.out.symm, hB.trans (hb1.mono hB.size)⟩
  | true =>
    have kb := inR_of hK
    obtain ⟨k, rfl⟩ : ∃ k : Nat, kind = k := ⟨kind.toNat, by omega⟩
    have k9 : k < 9 := by omega
    have k9' : (k : Int) < 9 := by omega
    have HF2 : Hid (F = if AI = false then 2 else if only (aHas.getD k []) [site, to1, label, pick, (kl : Int), B1, (line.size : Int)] = false then 4 else if (k : Int) = 1 then callFault c0 c1 c2 c3 c4 else 0) := by show _ = _; rw [HF1.out, if_neg (by rw [hK]; simp), Int.toNat_natCast]
    clear HF1
    go_upto_region 6 with (go_at_call 29; refine (within_any _ _ _ _).mono ?_; rintro e u1 ⟨rfl, hu1⟩; rw [hu1]; clear hu1)
    cases AI with
    | false =>
      have hf : Hid (F = 2) := by show _ = _; rw [HF2.out, if_pos rfl]
      clear HF2
      go_wp2_with (go_at_call 32; refine (hIn _ ⟨s1, s4⟩ l6 (HK.out _ hb1)).mono ?_; rintro e w2 ⟨rfl, hb2⟩)
      go_ret
      exact ⟨ret_int hf.out.symm, hB.trans ((hb1.trans (hb2.mono hb1.size)).mono hB.size)⟩
    | true =>
      have HF3 : Hid (F = if only (aHas.getD k []) [site, to1, label, pick, (kl : Int), B1, (line.size : Int)] = false then 4 else if (k : Int) = 1 then callFault c0 c1 c2 c3 c4 else 0) := by show _ = _; rw [HF2.out, if_neg (by simp)]
      clear HF2
      go_upto_region 8 with (go_at_call 32; refine (hIn _ ⟨s1, s4⟩ l6 (HK.out _ hb1)).mono ?_; rintro e w2 ⟨rfl, hb2⟩)
      have hbV : Below W.heap.size W w2 := hb1.trans (hb2.mono hb1.size)
      obtain ⟨V, eV⟩ : ∃ V, V = w2 := ⟨_, rfl⟩
      rw [← eV] at hbV ⊢
      clear eV d0 d1 d2 e0 e1 e2 e3 e4 e5 e6 e7 e8 e9 e10 e11 hb2 hb1
      have zV : w.heap.size + 1 < V.heap.size := by have := hbV.size; omega
      have zhV : 0 < V.heap.size := by have := hbV.size; omega
      obtain ⟨d0, d1, d2, e0, e1, e2, e3, e4, e5, e6, e7, e8, e9, e10, e11⟩ := KC.out _ hbV
      have hTA := HTA.out V hbV
      have f0 := hTA k 0 k9 (by decide)
      have f1 := hTA k 1 k9 (by decide)
      have f2 := hTA k 2 k9 (by decide)
      have f3 := hTA k 3 k9 (by decide)
      have f4 := hTA k 4 k9 (by decide)
      have f5 := hTA k 5 k9 (by decide)
      have f6 := hTA k 6 k9 (by decide)
      have EH := aHas_seven k k9
      have ECl := aHas_call k k9
      obtain ⟨h0, eh0⟩ : ∃ x, x = (aHas.getD k []).getD 0 false := ⟨_, rfl⟩
      obtain ⟨h1, eh1⟩ : ∃ x, x = (aHas.getD k []).getD 1 false := ⟨_, rfl⟩
      obtain ⟨h2, eh2⟩ : ∃ x, x = (aHas.getD k []).getD 2 false := ⟨_, rfl⟩
      obtain ⟨h3, eh3⟩ : ∃ x, x = (aHas.getD k []).getD 3 false := ⟨_, rfl⟩
      obtain ⟨h4, eh4⟩ : ∃ x, x = (aHas.getD k []).getD 4 false := ⟨_, rfl⟩
      obtain ⟨h5, eh5⟩ : ∃ x, x = (aHas.getD k []).getD 5 false := ⟨_, rfl⟩
      obtain ⟨h6, eh6⟩ : ∃ x, x = (aHas.getD k []).getD 6 false := ⟨_, rfl⟩
      rw [← eh5] at ECl
      have HE5 : Hid (h5 = decide ((k : Int) = 1)) := ECl
      clear ECl
      rw [← eh0, ← eh1, ← eh2, ← eh3, ← eh4, ← eh5, ← eh6] at EH
      rw [← eh0] at f0
      rw [← eh1] at f1
      rw [← eh2] at f2
      rw [← eh3] at f3
      rw [← eh4] at f4
      rw [← eh5] at f5
      rw [← eh6] at f6
      clear eh0 eh1 eh2 eh3 eh4 eh5 eh6 hTA
      simp only [Nat.add_zero] at f0
      rw [EH] at HF3
      clear EH
      have KV : Hid (∀ U : World, Below V.heap.size V U → (U.cell? ⟨w.heap.size + 1, 0, none⟩ = some (.int .i64 (k : Int)) ∧ U.cell? ⟨w.heap.size + 1, 1, none⟩ = some (.int .i64 site) ∧ U.cell? ⟨w.heap.size + 1, 2, none⟩ = some (.int .i64 to1) ∧ U.cell? ⟨w.heap.size + 1, 3, none⟩ = some (.int .i64 label) ∧ U.cell? ⟨w.heap.size + 1, 4, none⟩ = some (.int .i64 pick) ∧ U.cell? ⟨w.heap.size + 1, 5, none⟩ = some (.slice ka kl kc) ∧ U.cell? ⟨w.heap.size + 1, 6, none⟩ = some (.int .i64 c0) ∧ U.cell? ⟨w.heap.size + 1, 7, none⟩ = some (.int .i64 c1) ∧ U.cell? ⟨w.heap.size + 1, 8, none⟩ = some (.int .i64 c2) ∧ U.cell? ⟨w.heap.size + 1, 9, none⟩ = some (.int .i64 c3) ∧ U.cell? ⟨w.heap.size + 1, 10, none⟩ = some (.int .i64 c4) ∧ U.cell? ⟨w.heap.size + 1, 11, none⟩ = some (.string line)) ∧ U.cell? ⟨0, k * 7, none⟩ = some (.bool h0) ∧ U.cell? ⟨0, k * 7 + 1, none⟩ = some (.bool h1) ∧ U.cell? ⟨0, k * 7 + 2, none⟩ = some (.bool h2) ∧ U.cell? ⟨0, k * 7 + 3, none⟩ = some (.bool h3) ∧ U.cell? ⟨0, k * 7 + 4, none⟩ = some (.bool h4) ∧ U.cell? ⟨0, k * 7 + 5, none⟩ = some (.bool h5) ∧ U.cell? ⟨0, k * 7 + 6, none⟩ = some (.bool h6)) := fun U hU => ⟨⟨(hU.cell (p := ⟨w.heap.size + 1, 0, none⟩) zV).trans e0, (hU.cell (p := ⟨w.heap.size + 1, 1, none⟩) zV).trans e1, (hU.cell (p := ⟨w.heap.size + 1, 2, none⟩) zV).trans e2, (hU.cell (p := ⟨w.heap.size + 1, 3, none⟩) zV).trans e3, (hU.cell (p := ⟨w.heap.size + 1, 4, none⟩) zV).trans e4, (hU.cell (p := ⟨w.heap.size + 1, 5, none⟩) zV).trans e5, (hU.cell (p := ⟨w.heap.size + 1, 6, none⟩) zV).trans e6, (hU.cell (p := ⟨w.heap.size + 1, 7, none⟩) zV).trans e7, (hU.cell (p := ⟨w.heap.size + 1, 8, none⟩) zV).trans e8, (hU.cell (p := ⟨w.heap.size + 1, 9, none⟩) zV).trans e9, (hU.cell (p := ⟨w.heap.size + 1, 10, none⟩) zV).trans e10, (hU.cell (p := ⟨w.heap.size + 1, 11, none⟩) zV).trans e11⟩, (hU.cell (p := ⟨0, k * 7, none⟩) zhV).trans f0, (hU.cell (p := ⟨0, k * 7 + 1, none⟩) zhV).trans f1, (hU.cell (p := ⟨0, k * 7 + 2, none⟩) zhV).trans f2, (hU.cell (p := ⟨0, k * 7 + 3, none⟩) zhV).trans f3, (hU.cell (p := ⟨0, k * 7 + 4, none⟩) zhV).trans f4, (hU.cell (p := ⟨0, k * 7 + 5, none⟩) zhV).trans f5, (hU.cell (p := ⟨0, k * 7 + 6, none⟩) zhV).trans f6⟩
      clear d0 d1 d2 e0 e1 e2 e3 e4 e5 e6 e7 e8 e9 e10 e11 f0 f1 f2 f3 f4 f5 f6
      go_cut [6, 7] (fun s6 s7 wc => ∃ b6 b7 : Nat, s6 = .pointer (some ⟨b6, 0, none⟩) ∧ s7 = .pointer (some ⟨b7, 0, none⟩) ∧ BoxN wc b6 7 [.bool h0, .bool h1, .bool h2, .bool h3, .bool h4, .bool h5, .bool h6] ∧ BoxN wc b7 7 [.int .i64 site, .int .i64 to1, .int .i64 label, .int .i64 pick, .int .i64 (kl : Int), .int .i64 B1, .int .i64 (line.size : Int)] ∧ Below V.heap.size V wc)
      case first =>
        refine wp_region_inv (by kernel_rfl) [21, 22, 23, 24, 25, 26, 6, 7] (fun L T u => ∃ (b6 : Nat) (b7 : Nat), Below V.heap.size V u ∧ (L 0 = true → T 21 = .pointer (some ⟨w.heap.size + 1, 0, none⟩)) ∧ (L 1 = true → T 22 = .int .i64 (k : Int)) ∧ (L 2 = true → T 23 = .pointer (some ⟨0, k * 7, none⟩)) ∧ (L 3 = true → T 24 = .agg #[.bool h0, .bool h1, .bool h2, .bool h3, .bool h4, .bool h5, .bool h6]) ∧ (L 4 = true → T 25 = .agg #[.int .i64 (k : Int), .int .i64 site, .int .i64 to1, .int .i64 label, .int .i64 pick, .slice ka kl kc, .int .i64 c0, .int .i64 c1, .int .i64 c2, .int .i64 c3, .int .i64 c4, .string line]) ∧ (L 5 = true → T 26 = .agg #[.int .i64 site, .int .i64 to1, .int .i64 label, .int .i64 pick, .int .i64 (kl : Int), .int .i64 B1, .int .i64 (line.size : Int)]) ∧ (L 6 = true → (T 6 = .pointer (some ⟨b6, 0, none⟩) ∧ V.heap.size ≤ b6 ∧ b6 < u.heap.size)) ∧ (L 7 = true → (T 7 = .pointer (some ⟨b7, 0, none⟩) ∧ V.heap.size ≤ b7 ∧ b7 < u.heap.size)) ∧ (L 6 = true → L 7 = true → b6 ≠ b7) ∧ (L 6 = true → L 8 = false → BoxN u b6 7 [.bool false, .bool false, .bool false, .bool false, .bool false, .bool false, .bool false]) ∧ (L 7 = true → L 9 = false → BoxN u b7 7 [.int .i64 0, .int .i64 0, .int .i64 0, .int .i64 0, .int .i64 0, .int .i64 0, .int .i64 0]) ∧ (L 8 = true → BoxN u b6 7 [.bool h0, .bool h1, .bool h2, .bool h3, .bool h4, .bool h5, .bool h6]) ∧ (L 9 = true → BoxN u b7 7 [.int .i64 site, .int .i64 to1, .int .i64 label, .int .i64 pick, .int .i64 (kl : Int), .int .i64 B1, .int .i64 (line.size : Int)])) (by decide) (by kernel_rfl) (by kernel_rfl) ?_ ?_ ?_
        · exact ⟨0, 0, (Below.refl _ _).drew, nofun, nofun, nofun, nofun, nofun, nofun, nofun, nofun, nofun, nofun, nofun, nofun, nofun⟩
        · refine ⟨?_, ?_, ?_, ?_, ?_, ?_, ?_, ?_, ?_, ?_, trivial⟩
          · rintro L T u hd hk hcl ⟨b6, b7, hb, p0, p1, p2, p3, p4, p5, p6, p7, ap, z6, z7, q6, q7⟩ K hK
            simp only [fr, Act.put, List.setIfInBounds_toArray, List.set_cons_zero, List.set_cons_succ, updO] at hK ⊢
            simp [Region.binds] at hd
            rw [if_pos (by rfl)]
            simp only [Oper.wpv]
            go_simp
            exact hK _ _ ⟨b6, b7, hb, fun _ => rfl, p1, p2, p3, p4, p5, p6, p7, ap, z6, z7, q6, q7⟩
          · rintro L T u hd hk hcl ⟨b6, b7, hb, p0, p1, p2, p3, p4, p5, p6, p7, ap, z6, z7, q6, q7⟩ K hK
            simp only [fr, Act.put, List.setIfInBounds_toArray, List.set_cons_zero, List.set_cons_succ, updO] at hK ⊢
            simp [Region.binds] at hd
            have g0 := p0 (by simp [hd])
            obtain ⟨⟨e0, e1, e2, e3, e4, e5, e6, e7, e8, e9, e10, e11⟩, f0, f1, f2, f3, f4, f5, f6⟩ := KV.out u hb
            rw [if_pos (by rfl)]
            simp only [Oper.wpv]
            go_simp
            exact hK _ _ ⟨b6, b7, hb, p0, fun _ => rfl, p2, p3, p4, p5, p6, p7, ap, z6, z7, q6, q7⟩
          · rintro L T u hd hk hcl ⟨b6, b7, hb, p0, p1, p2, p3, p4, p5, p6, p7, ap, z6, z7, q6, q7⟩ K hK
            simp only [fr, Act.put, List.setIfInBounds_toArray, List.set_cons_zero, List.set_cons_succ, updO] at hK ⊢
            simp [Region.binds] at hd
            have g0 := p1 (by simp [hd])
            have k0 : (0 : Int) ≤ (k : Int) := by omega
            rw [if_pos (by rfl)]
            simp only [Oper.wpv]
            go_simp
            exact hK _ _ ⟨b6, b7, hb, p0, p1, fun _ => rfl, p3, p4, p5, p6, p7, ap, z6, z7, q6, q7⟩
          · rintro L T u hd hk hcl ⟨b6, b7, hb, p0, p1, p2, p3, p4, p5, p6, p7, ap, z6, z7, q6, q7⟩ K hK
            simp only [fr, Act.put, List.setIfInBounds_toArray, List.set_cons_zero, List.set_cons_succ, updO] at hK ⊢
            simp [Region.binds] at hd
            have g0 := p2 (by simp [hd])
            obtain ⟨⟨e0, e1, e2, e3, e4, e5, e6, e7, e8, e9, e10, e11⟩, f0, f1, f2, f3, f4, f5, f6⟩ := KV.out u hb
            rw [if_pos (by rfl)]
            simp only [Oper.wpv]
            go_simp
            exact hK _ _ ⟨b6, b7, hb, p0, p1, p2, fun _ => rfl, p4, p5, p6, p7, ap, z6, z7, q6, q7⟩
          · rintro L T u hd hk hcl ⟨b6, b7, hb, p0, p1, p2, p3, p4, p5, p6, p7, ap, z6, z7, q6, q7⟩ K hK
            simp only [fr, Act.put, List.setIfInBounds_toArray, List.set_cons_zero, List.set_cons_succ, updO] at hK ⊢
            simp [Region.binds] at hd
            obtain ⟨⟨e0, e1, e2, e3, e4, e5, e6, e7, e8, e9, e10, e11⟩, f0, f1, f2, f3, f4, f5, f6⟩ := KV.out u hb
            rw [if_pos (by rfl)]
            simp only [Oper.wpv]
            go_simp
            exact hK _ _ ⟨b6, b7, hb, p0, p1, p2, p3, fun _ => rfl, p5, p6, p7, ap, z6, z7, q6, q7⟩
          · rintro L T u hd hk hcl ⟨b6, b7, hb, p0, p1, p2, p3, p4, p5, p6, p7, ap, z6, z7, q6, q7⟩ K hK
            simp only [fr, Act.put, List.setIfInBounds_toArray, List.set_cons_zero, List.set_cons_succ, updO] at hK ⊢
            simp [Region.binds] at hd
            have g0 := p4 (by simp [hd])
            rw [if_pos (by rfl)]
            simp only [Oper.wpv]
            go_simp
            refine (hAP _).mono ?_
            rintro e u1 ⟨rfl, hg⟩
            exact hK _ _ ⟨b6, b7, (nT hb hg), p0, p1, p2, p3, p4, fun _ => rfl, fun h0 => ⟨(p6 h0).1, (p6 h0).2.1, Nat.lt_of_lt_of_le (p6 h0).2.2 hg.size⟩, fun h0 => ⟨(p7 h0).1, (p7 h0).2.1, Nat.lt_of_lt_of_le (p7 h0).2.2 hg.size⟩, ap, fun h0 h1 => (z6 h0 h1).below hg (z6 h0 h1).lt, fun h0 h1 => (z7 h0 h1).below hg (z7 h0 h1).lt, fun h0 => (q6 h0).below hg (q6 h0).lt, fun h0 => (q7 h0).below hg (q7 h0).lt⟩
          · rintro L T u hd hk hcl ⟨b6, b7, hb, p0, p1, p2, p3, p4, p5, p6, p7, ap, z6, z7, q6, q7⟩ K hK
            simp only [fr, Act.put, List.setIfInBounds_toArray, List.set_cons_zero, List.set_cons_succ, updO] at hK ⊢
            simp [Region.binds] at hd
            have hg : Below u.heap.size u (u.alloc (.cells #[.bool false, .bool false, .bool false, .bool false, .bool false, .bool false, .bool false] 100)) := (Below.refl _ _).alloc (Nat.le_refl _) _
            have k8 := hcl 8 _ rfl
            simp [Region.binds] at k8
            rw [if_pos (by rfl)]
            simp only [Oper.wpv]
            go_simp
            exact hK _ _ ⟨u.heap.size, b7, (nT hb hg), p0, p1, p2, p3, p4, p5, fun _ => ⟨rfl, hb.size, by simp⟩, fun h0 => ⟨(p7 h0).1, (p7 h0).2.1, Nat.lt_of_lt_of_le (p7 h0).2.2 hg.size⟩, fun _ h1 => (Nat.ne_of_lt (p7 h1).2.2).symm, fun _ _ => boxn_new u #[.bool false, .bool false, .bool false, .bool false, .bool false, .bool false, .bool false] 100 7 rfl, fun h0 h1 => (z7 h0 h1).below hg (z7 h0 h1).lt, fun h => by have := k8 h; simp [hk] at this, fun h0 => (q7 h0).below hg (q7 h0).lt⟩
          · rintro L T u hd hk hcl ⟨b6, b7, hb, p0, p1, p2, p3, p4, p5, p6, p7, ap, z6, z7, q6, q7⟩ K hK
            simp only [fr, Act.put, List.setIfInBounds_toArray, List.set_cons_zero, List.set_cons_succ, updO] at hK ⊢
            simp [Region.binds] at hd
            have hg : Below u.heap.size u (u.alloc (.cells #[.int .i64 0, .int .i64 0, .int .i64 0, .int .i64 0, .int .i64 0, .int .i64 0, .int .i64 0] 102)) := (Below.refl _ _).alloc (Nat.le_refl _) _
            have k9c := hcl 9 _ rfl
            simp [Region.binds] at k9c
            rw [if_pos (by rfl)]
            simp only [Oper.wpv]
            go_simp
            exact hK _ _ ⟨b6, u.heap.size, (nT hb hg), p0, p1, p2, p3, p4, p5, fun h0 => ⟨(p6 h0).1, (p6 h0).2.1, Nat.lt_of_lt_of_le (p6 h0).2.2 hg.size⟩, fun _ => ⟨rfl, hb.size, by simp⟩, fun h0 _ => Nat.ne_of_lt (p6 h0).2.2, fun h0 h1 => (z6 h0 h1).below hg (z6 h0 h1).lt, fun _ _ => boxn_new u #[.int .i64 0, .int .i64 0, .int .i64 0, .int .i64 0, .int .i64 0, .int .i64 0, .int .i64 0] 102 7 rfl, fun h0 => (q6 h0).below hg (q6 h0).lt, fun h => by have := k9c h; simp [hk] at this⟩
          · rintro L T u hd hk hcl ⟨b6, b7, hb, p0, p1, p2, p3, p4, p5, p6, p7, ap, z6, z7, q6, q7⟩ K hK
            simp only [fr, Act.put, List.setIfInBounds_toArray, List.set_cons_zero, List.set_cons_succ, updO] at hK ⊢
            simp [Region.binds] at hd
            have g3 := p3 (by simp [hd])
            obtain ⟨g0, l0, l1⟩ := p6 (by simp [hd])
            have bx := z6 (by simp [hd]) hk
            have x0 : _ = some _ := (bx.c 0 (by decide)).1
            have y0 := (bx.c 0 (by decide)).2
            have x1 : _ = some _ := (bx.c 1 (by decide)).1
            have y1 := (bx.c 1 (by decide)).2
            have x2 : _ = some _ := (bx.c 2 (by decide)).1
            have y2 := (bx.c 2 (by decide)).2
            have x3 : _ = some _ := (bx.c 3 (by decide)).1
            have y3 := (bx.c 3 (by decide)).2
            have x4 : _ = some _ := (bx.c 4 (by decide)).1
            have y4 := (bx.c 4 (by decide)).2
            have x5 : _ = some _ := (bx.c 5 (by decide)).1
            have y5 := (bx.c 5 (by decide)).2
            have x6 : _ = some _ := (bx.c 6 (by decide)).1
            have y6 := (bx.c 6 (by decide)).2
            simp only [List.getD_cons_zero, List.getD_cons_succ] at x0 x1 x2 x3 x4 x5 x6
            have k9c := hcl 9 _ rfl
            simp [Region.binds] at k9c
            rw [if_pos (by rfl)]
            simp only [Oper.wpv]
            go_simp
            exact hK _ _ ⟨b6, b7, (nS (nS (nS (nS (nS (nS (nS hb l0 _) l0 _) l0 _) l0 _) l0 _) l0 _) l0 _), p0, p1, p2, p3, p4, p5, fun h0 => ⟨(p6 h0).1, (p6 h0).2.1, by simpa using (p6 h0).2.2⟩, fun h0 => ⟨(p7 h0).1, (p7 h0).2.1, by simpa using (p7 h0).2.2⟩, ap, fun _ h => Bool.noConfusion (show true = false from h), fun h0 h1 => ((((((((z7 h0 h1).far (Ne.symm (ap (by simp [hd]) h0))).far (Ne.symm (ap (by simp [hd]) h0))).far (Ne.symm (ap (by simp [hd]) h0))).far (Ne.symm (ap (by simp [hd]) h0))).far (Ne.symm (ap (by simp [hd]) h0))).far (Ne.symm (ap (by simp [hd]) h0))).far (Ne.symm (ap (by simp [hd]) h0))), fun _ => (((((((bx.set 0 (by decide) (.bool h0)).set 1 (by decide) (.bool h1)).set 2 (by decide) (.bool h2)).set 3 (by decide) (.bool h3)).set 4 (by decide) (.bool h4)).set 5 (by decide) (.bool h5)).set 6 (by decide) (.bool h6)), fun h0 => ((((((((q7 h0).far (Ne.symm (ap (by simp [hd]) (by simp [k9c h0])))).far (Ne.symm (ap (by simp [hd]) (by simp [k9c h0])))).far (Ne.symm (ap (by simp [hd]) (by simp [k9c h0])))).far (Ne.symm (ap (by simp [hd]) (by simp [k9c h0])))).far (Ne.symm (ap (by simp [hd]) (by simp [k9c h0])))).far (Ne.symm (ap (by simp [hd]) (by simp [k9c h0])))).far (Ne.symm (ap (by simp [hd]) (by simp [k9c h0]))))⟩
          · rintro L T u hd hk hcl ⟨b6, b7, hb, p0, p1, p2, p3, p4, p5, p6, p7, ap, z6, z7, q6, q7⟩ K hK
            simp only [fr, Act.put, List.setIfInBounds_toArray, List.set_cons_zero, List.set_cons_succ, updO] at hK ⊢
            simp [Region.binds] at hd
            have g3 := p5 (by simp [hd])
            obtain ⟨g0, l0, l1⟩ := p7 (by simp [hd])
            have bx := z7 (by simp [hd]) hk
            have x0 : _ = some _ := (bx.c 0 (by decide)).1
            have y0 := (bx.c 0 (by decide)).2
            have x1 : _ = some _ := (bx.c 1 (by decide)).1
            have y1 := (bx.c 1 (by decide)).2
            have x2 : _ = some _ := (bx.c 2 (by decide)).1
            have y2 := (bx.c 2 (by decide)).2
            have x3 : _ = some _ := (bx.c 3 (by decide)).1
            have y3 := (bx.c 3 (by decide)).2
            have x4 : _ = some _ := (bx.c 4 (by decide)).1
            have y4 := (bx.c 4 (by decide)).2
            have x5 : _ = some _ := (bx.c 5 (by decide)).1
            have y5 := (bx.c 5 (by decide)).2
            have x6 : _ = some _ := (bx.c 6 (by decide)).1
            have y6 := (bx.c 6 (by decide)).2
            simp only [List.getD_cons_zero, List.getD_cons_succ] at x0 x1 x2 x3 x4 x5 x6
            have k8 := hcl 8 _ rfl
            simp [Region.binds] at k8
            rw [if_pos (by rfl)]
            simp only [Oper.wpv]
            go_simp
            exact hK _ _ ⟨b6, b7, (nS (nS (nS (nS (nS (nS (nS hb l0 _) l0 _) l0 _) l0 _) l0 _) l0 _) l0 _), p0, p1, p2, p3, p4, p5, fun h0 => ⟨(p6 h0).1, (p6 h0).2.1, by simpa using (p6 h0).2.2⟩, fun h0 => ⟨(p7 h0).1, (p7 h0).2.1, by simpa using (p7 h0).2.2⟩, ap, fun h0 h1 => ((((((((z6 h0 h1).far (ap h0 (by simp [hd]))).far (ap h0 (by simp [hd]))).far (ap h0 (by simp [hd]))).far (ap h0 (by simp [hd]))).far (ap h0 (by simp [hd]))).far (ap h0 (by simp [hd]))).far (ap h0 (by simp [hd]))), fun _ h => Bool.noConfusion (show true = false from h), fun h0 => ((((((((q6 h0).far (ap (by simp [k8 h0]) (by simp [hd]))).far (ap (by simp [k8 h0]) (by simp [hd]))).far (ap (by simp [k8 h0]) (by simp [hd]))).far (ap (by simp [k8 h0]) (by simp [hd]))).far (ap (by simp [k8 h0]) (by simp [hd]))).far (ap (by simp [k8 h0]) (by simp [hd]))).far (ap (by simp [k8 h0]) (by simp [hd]))), fun _ => (((((((bx.set 0 (by decide) (.int .i64 site)).set 1 (by decide) (.int .i64 to1)).set 2 (by decide) (.int .i64 label)).set 3 (by decide) (.int .i64 pick)).set 4 (by decide) (.int .i64 (kl : Int))).set 5 (by decide) (.int .i64 B1)).set 6 (by decide) (.int .i64 (line.size : Int)))⟩
        · rintro L T u hl ⟨b6, b7, hb, p0, p1, p2, p3, p4, p5, p6, p7, ap, z6, z7, q6, q7⟩
          simp only [fr, Act.put, List.setIfInBounds_toArray, List.set_cons_zero, List.set_cons_succ]
          obtain ⟨g6, _, _⟩ := p6 (hl 6 (by decide))
          obtain ⟨g7, _, _⟩ := p7 (hl 7 (by decide))
          have bx6 := q6 (hl 8 (by decide))
          have bx7 := q7 (hl 9 (by decide))
          have HE : Hid (T 6 = .pointer (some ⟨b6, 0, none⟩) ∧ T 7 = .pointer (some ⟨b7, 0, none⟩)) := ⟨g6, g7⟩
          clear g6 g7 p0 p1 p2 p3 p4 p5 p6 p7 ap z6 z7 q6 q7
          go_wp2_with fail
          go_meet
          case rel => exact ⟨b6, b7, HE.out.1, HE.out.2, bx6, bx7, hb⟩
      case rest =>
        obtain ⟨b6, b7, rfl, rfl, bx6, bx7, bX⟩ := hcut
        obtain ⟨X, eX⟩ : ∃ X, X = wc := ⟨_, rfl⟩
        rw [← eX] at bx6 bx7 bX ⊢
        clear eX
        have hB6 := Bools.of (hs := [h0, h1, h2, h3, h4, h5, h6]) bx6
        have hN7 := Nms.of (ps := [site, to1, label, pick, (kl : Int), B1, (line.size : Int)]) bx7
        have HO : Hid (∀ U, Below X.heap.size X U → Calls Tryz.prog 34 #[.slice (some ⟨b6, 0, none⟩) 7 7, .slice (some ⟨b7, 0, none⟩) 7 7] U fun e w' => e = .returned (.bool (only [h0, h1, h2, h3, h4, h5, h6] [site, to1, label, pick, (kl : Int), B1, (line.size : Int)])) ∧ w' = U) := fun U hU => onlyHas_any b6 b7 7 [h0, h1, h2, h3, h4, h5, h6] [site, to1, label, pick, (kl : Int), B1, (line.size : Int)] U rfl rfl (by decide) (hB6.below hU hB6.1) (hN7.below hU hN7.1)
        obtain ⟨O, eO⟩ : ∃ O, O = only [h0, h1, h2, h3, h4, h5, h6] [site, to1, label, pick, (kl : Int), B1, (line.size : Int)] := ⟨_, rfl⟩
        rw [← eO] at HF3 HO
        clear eO hB6 hN7
        have b5 := (bx6.c 5 (by decide)).1
        simp only [List.getD_cons_zero, List.getD_cons_succ] at b5
        have z6 := bx6.lt
        have z7 := bx7.lt
        have hWX : Below W.heap.size W X := hbV.trans (bX.mono hbV.size)
        have hwX : Below w.heap.size w X := hB.trans (hWX.mono hB.size)
        obtain ⟨⟨e0, e1, e2, e3, e4, e5, e6, e7, e8, e9, e10, e11⟩, _⟩ := KV.out X bX
        obtain ⟨hTC, hCT⟩ := HTC.out X hWX
        have HC : Hid (∀ U, Below X.heap.size X U → Calls Tryz.prog 35 #[.agg #[.int .i64 c0, .int .i64 c1, .int .i64 c2, .int .i64 c3, .int .i64 c4]] U fun e w' => e = .returned (.int .i64 (callFault c0 c1 c2 c3 c4)) ∧ Below U.heap.size U w') := fun U hU => checkCall_any c0 c1 c2 c3 c4 U (hTC.below hU (by have := hWX.size; omega)) (Nms.below hCT hU hCT.1)
        clear hTC hCT HTC HTA KV KC bx6 bx7 HK
        go_upto_region 9 with (fail)
        go_region_with ((go_at_call 34; refine (HO.out _ ((Below.refl _ _).drew)).mono ?_; rintro e u2 ⟨rfl, hu⟩; rw [hu]; clear hu))
        cases O with
        | false =>
          have hf : Hid (F = 4) := by show _ = _; rw [HF3.out]; rfl
          clear HF3
          go_wp2
          go_ret
          exact ⟨ret_int hf.out.symm, hwX.drew⟩
        | true =>
          by_cases hk1 : (k : Int) = 1
          · have hf : Hid (F = callFault c0 c1 c2 c3 c4) := by show _ = _; rw [HF3.out, if_neg (by simp), if_pos hk1]
            have h5t : h5 = true := by rw [HE5.out]; simpa using hk1
            subst h5t
            clear HF3 hk1 HE5
            go_wp2_with (go_at_call 35; refine (HC.out _ ((Below.refl _ _).drew)).mono ?_; rintro e u3 ⟨rfl, hb3⟩)
            go_ret
            exact ⟨ret_int hf.out.symm, hwX.drew.trans (hb3.mono (by simpa using hwX.size))⟩
          · have hf : Hid (F = 0) := by show _ = _; rw [HF3.out, if_neg (by simp), if_neg hk1]
            have h5f : h5 = false := by rw [HE5.out]; simpa using hk1
            subst h5f
            clear HF3 hk1 HE5
            go_wp2
            go_ret
            exact ⟨ret_int hf.out.symm, hwX.drew⟩
end Go.Proofs.YtjihmhijnpjnoaaGreatDoor.Ln
