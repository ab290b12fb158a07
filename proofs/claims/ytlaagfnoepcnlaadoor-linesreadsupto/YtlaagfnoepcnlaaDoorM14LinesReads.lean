/- Texts of this claim, one behind the other. -/
import Derived.Test.YtlaagfnoepcnlaaDoorM9LinesReads
import Derived.Test.YtlaagfnoepcnlaaDoorM13LinesReads
import Derived.Test.YtlaagfnoepcnlaaDoorShelf
import Derived.Test.YtlaagfnoepcnlaaDoorA1LinesReads
import Derived.Test.YtlaagfnoepcnlaaDoorM7LinesReads
import Derived.Shelf.Strings.BuilderK
import Derived.Lib.BufferKept
/- The contract of lines.Check. -/
namespace Go.Proofs.YtlaagfnoepcnlaaDoor.Ln
open Go.ChangeShapes Go.WideShapes Go.ChangeAt Go.RowKit
open Go.Proofs.YtlaagfnoepcnlaaDoor.St (BoxN boxn_new)
set_option linter.unusedVariables false

theorem aHas_seven (k : Nat) (hk : k < 9) : aHas.getD k [] = [(aHas.getD k []).getD 0 false, (aHas.getD k []).getD 1 false, (aHas.getD k []).getD 2 false, (aHas.getD k []).getD 3 false, (aHas.getD k []).getD 4 false, (aHas.getD k []).getD 5 false, (aHas.getD k []).getD 6 false] := by
  rcases (by omega : k = 0 ∨ k = 1 ∨ k = 2 ∨ k = 3 ∨ k = 4 ∨ k = 5 ∨ k = 6 ∨ k = 7 ∨ k = 8) with rfl | rfl | rfl | rfl | rfl | rfl | rfl | rfl | rfl <;> rfl
theorem aHas_call (k : Nat) (hk : k < 9) : (aHas.getD k []).getD 5 false = decide ((k : Int) = 1) := by
  rcases (by omega : k = 0 ∨ k = 1 ∨ k = 2 ∨ k = 3 ∨ k = 4 ∨ k = 5 ∨ k = 6 ∨ k = 7 ∨ k = 8) with rfl | rfl | rfl | rfl | rfl | rfl | rfl | rfl | rfl <;> rfl

set_option maxRecDepth 100000 in
set_option maxHeartbeats 8000000 in
theorem check_act (s p : Int) (a : Option Addr) (len cap : Nat) (ls : List (Int × Int)) (v : AV) (w : World) (h : IsLabs w a len cap ls) (hk : IsInts w v.ka v.kl v.kc v.keep)
    (hha : Tab w 0 7 aHas) (hhc : Tab w 2 4 cHas) (ht : CTops w) :
    Calls Tryd.prog 20 #[.agg #[.int .i64 s, .slice a len cap, .int .i64 p], .agg v.cells.toArray] w fun e w' => e = .returned (.int .i64 (actFault s ls p v)) ∧ Below w.heap.size w w' := by
  have zh := hha.lt (by decide) (by decide)
  have zc := hhc.lt (by decide) (by decide)
  have hAP := fun w' => actParts_any v w'
  obtain ⟨F, eF⟩ : ∃ F, F = actFault s ls p v := ⟨_, rfl⟩
  have hIn := fun w' (h1 : 1 ≤ s ∧ s ≤ 4) (h2 : len ≤ 6) (h3 : IsInts w' v.ka v.kl v.kc v.keep) => inBounds_any s p a len cap v w' h1 h2 h3
  obtain ⟨AI, eAI⟩ : ∃ AI, AI = actIn s len v := ⟨_, rfl⟩
  have hlen0 := h.1
  rw [← eAI] at hIn
  rw [← eF]
  have HF : Hid (F = if cfgFault s ls p ≠ 0 then cfgFault s ls p else if inR v.kind 1 8 = false then 3 else if AI = false then 2 else if only (aHas.getD v.kind.toNat []) (aParts v) = false then 4 else if v.kind = 1 then callFault v.c0 v.c1 v.c2 v.c3 v.c4 else 0) := by
    show _ = _
    rw [eF, eAI, actFault, hlen0]
  clear eF eAI
  obtain ⟨kind, site, to1, label, pick, ka, kl, kc, c0, c1, c2, c3, c4, line, keep⟩ := v
  simp only [AV.cells, aParts, List.map] at *
  obtain ⟨B1, eB1⟩ : ∃ B1, B1 = one (nz c0 c1 c2 c3 c4) := ⟨_, rfl⟩
  rw [← eB1] at HF hAP
  clear eB1
  obtain ⟨W, hW⟩ : ∃ W : World, W = (w.alloc (.cells #[.int .i64 s, .slice a len cap, .int .i64 p] 24)).alloc (.cells #[.int .i64 kind, .int .i64 site, .int .i64 to1, .int .i64 label, .int .i64 pick, .slice ka kl kc, .int .i64 c0, .int .i64 c1, .int .i64 c2, .int .i64 c3, .int .i64 c4, .string line] 41) := ⟨_, rfl⟩
  have hB : Below w.heap.size w W := by rw [hW]; exact ((Below.refl _ _).alloc (Nat.le_refl _) _).alloc (by simp) _
  have zW : w.heap.size + 1 < W.heap.size := by rw [hW]; simp
  have hLW := h.below hB
  have HK : Hid (∀ U, Below W.heap.size W U → IsInts U ka kl kc keep) := fun U hU => (hk.below hB).below hU
  have HTA : Hid (∀ U, Below W.heap.size W U → Tab U 0 7 aHas) := fun U hU => (hha.below hB zh).below hU (by omega)
  have HTC : Hid (∀ U, Below W.heap.size W U → Tab U 2 4 cHas ∧ CTops U) := fun U hU => ⟨(hhc.below hB zc).below hU (by omega), Nms.below (Nms.below ht hB ht.1) hU (by have := ht.1; omega)⟩
  clear hha hhc ht hk
  have d0 : W.cell? ⟨w.heap.size, 0, none⟩ = some (.int .i64 s) := by rw [hW]; go_simp
  have d1 : W.cell? ⟨w.heap.size, 1, none⟩ = some (.slice a len cap) := by rw [hW]; go_simp
  have d2 : W.cell? ⟨w.heap.size, 2, none⟩ = some (.int .i64 p) := by rw [hW]; go_simp
  have e0 : W.cell? ⟨w.heap.size + 1, 0, none⟩ = some (.int .i64 kind) := by rw [hW]; go_simp
  have e1 : W.cell? ⟨w.heap.size + 1, 1, none⟩ = some (.int .i64 site) := by rw [hW]; go_simp
  have e2 : W.cell? ⟨w.heap.size + 1, 2, none⟩ = some (.int .i64 to1) := by rw [hW]; go_simp
  have e3 : W.cell? ⟨w.heap.size + 1, 3, none⟩ = some (.int .i64 label) := by rw [hW]; go_simp
  have e4 : W.cell? ⟨w.heap.size + 1, 4, none⟩ = some (.int .i64 pick) := by rw [hW]; go_simp
  have e5 : W.cell? ⟨w.heap.size + 1, 5, none⟩ = some (.slice ka kl kc) := by rw [hW]; go_simp
  have e6 : W.cell? ⟨w.heap.size + 1, 6, none⟩ = some (.int .i64 c0) := by rw [hW]; go_simp
  have e7 : W.cell? ⟨w.heap.size + 1, 7, none⟩ = some (.int .i64 c1) := by rw [hW]; go_simp
  have e8 : W.cell? ⟨w.heap.size + 1, 8, none⟩ = some (.int .i64 c2) := by rw [hW]; go_simp
  have e9 : W.cell? ⟨w.heap.size + 1, 9, none⟩ = some (.int .i64 c3) := by rw [hW]; go_simp
  have e10 : W.cell? ⟨w.heap.size + 1, 10, none⟩ = some (.int .i64 c4) := by rw [hW]; go_simp
  have e11 : W.cell? ⟨w.heap.size + 1, 11, none⟩ = some (.string line) := by rw [hW]; go_simp
  have KC : Hid (∀ U : World, Below W.heap.size W U → U.cell? ⟨w.heap.size, 0, none⟩ = some (.int .i64 s) ∧ U.cell? ⟨w.heap.size, 1, none⟩ = some (.slice a len cap) ∧ U.cell? ⟨w.heap.size, 2, none⟩ = some (.int .i64 p) ∧ U.cell? ⟨w.heap.size + 1, 0, none⟩ = some (.int .i64 kind) ∧ U.cell? ⟨w.heap.size + 1, 1, none⟩ = some (.int .i64 site) ∧ U.cell? ⟨w.heap.size + 1, 2, none⟩ = some (.int .i64 to1) ∧ U.cell? ⟨w.heap.size + 1, 3, none⟩ = some (.int .i64 label) ∧ U.cell? ⟨w.heap.size + 1, 4, none⟩ = some (.int .i64 pick) ∧ U.cell? ⟨w.heap.size + 1, 5, none⟩ = some (.slice ka kl kc) ∧ U.cell? ⟨w.heap.size + 1, 6, none⟩ = some (.int .i64 c0) ∧ U.cell? ⟨w.heap.size + 1, 7, none⟩ = some (.int .i64 c1) ∧ U.cell? ⟨w.heap.size + 1, 8, none⟩ = some (.int .i64 c2) ∧ U.cell? ⟨w.heap.size + 1, 9, none⟩ = some (.int .i64 c3) ∧ U.cell? ⟨w.heap.size + 1, 10, none⟩ = some (.int .i64 c4) ∧ U.cell? ⟨w.heap.size + 1, 11, none⟩ = some (.string line)) := fun U hU => ⟨(hU.cell (p := ⟨w.heap.size, 0, none⟩) (by show w.heap.size < _; omega)).trans d0, (hU.cell (p := ⟨w.heap.size, 1, none⟩) (by show w.heap.size < _; omega)).trans d1, (hU.cell (p := ⟨w.heap.size, 2, none⟩) (by show w.heap.size < _; omega)).trans d2, (hU.cell (p := ⟨w.heap.size + 1, 0, none⟩) zW).trans e0, (hU.cell (p := ⟨w.heap.size + 1, 1, none⟩) zW).trans e1, (hU.cell (p := ⟨w.heap.size + 1, 2, none⟩) zW).trans e2, (hU.cell (p := ⟨w.heap.size + 1, 3, none⟩) zW).trans e3, (hU.cell (p := ⟨w.heap.size + 1, 4, none⟩) zW).trans e4, (hU.cell (p := ⟨w.heap.size + 1, 5, none⟩) zW).trans e5, (hU.cell (p := ⟨w.heap.size + 1, 6, none⟩) zW).trans e6, (hU.cell (p := ⟨w.heap.size + 1, 7, none⟩) zW).trans e7, (hU.cell (p := ⟨w.heap.size + 1, 8, none⟩) zW).trans e8, (hU.cell (p := ⟨w.heap.size + 1, 9, none⟩) zW).trans e9, (hU.cell (p := ⟨w.heap.size + 1, 10, none⟩) zW).trans e10, (hU.cell (p := ⟨w.heap.size + 1, 11, none⟩) zW).trans e11⟩
  go_enter Tryd.func20, Tryd.ntmps20
  go_upto_region 1 with (fail)
  rw [← hW]
  clear hW
  by_cases hF : cfgFault s ls p = 0
  case neg =>
    have hf : Hid (F = cfgFault s ls p) := by show _ = _; rw [HF.out, if_pos hF]
    clear HF
    go_wp2_with (go_at_call 19; refine (check_any s p a len cap ls _ hLW).mono ?_; rintro e w1 ⟨rfl, hb1⟩)
    go_ret
    exact ⟨ret_int hf.out.symm, hB.trans (hb1.mono hB.size)⟩
  obtain ⟨s1, s4, n1, n6, _, _, _⟩ := cfg_zero hF
  have l6 : len ≤ 6 := by omega
  have HF1 : Hid (F = if inR kind 1 8 = false then 3 else if AI = false then 2 else if only (aHas.getD kind.toNat []) [site, to1, label, pick, (kl : Int), B1, (line.size : Int)] = false then 4 else if kind = 1 then callFault c0 c1 c2 c3 c4 else 0) := by show _ = _; rw [HF.out, if_neg (by simpa using hF)]
  clear HF
  have HLn : Hid (ls.length = len) := hlen0
  clear hlen0 n1 n6 h
  go_upto_region 4 with (go_at_call 19; refine (check_any s p a len cap ls _ hLW).mono ?_; rintro e w1 ⟨rfl, hb1⟩)
  clear d0 d1 d2 e0 e1 e2 e3 e4 e5 e6 e7 e8 e9 e10 e11
  obtain ⟨d0, d1, d2, e0, e1, e2, e3, e4, e5, e6, e7, e8, e9, e10, e11⟩ := KC.out _ hb1
  cases hK : inR kind 1 8 with
  | false =>
    have hf : Hid (F = 3) := by show _ = _; rw [HF1.out, if_pos hK]
    clear HF1
    go_wp2_with (go_at_call 36; refine (within_any _ _ _ _).mono ?_; rintro e u1 ⟨rfl, hu1⟩; rw [hu1]; clear hu1)
    go_ret
    exact ⟨ret_int hf.out.symm, hB.trans (hb1.mono hB.size)⟩
  | true =>
    have kb := inR_of hK
    obtain ⟨k, rfl⟩ : ∃ k : Nat, kind = k := ⟨kind.toNat, by omega⟩
    have k9 : k < 9 := by omega
    have k9' : (k : Int) < 9 := by omega
    have HF2 : Hid (F = if AI = false then 2 else if only (aHas.getD k []) [site, to1, label, pick, (kl : Int), B1, (line.size : Int)] = false then 4 else if (k : Int) = 1 then callFault c0 c1 c2 c3 c4 else 0) := by show _ = _; rw [HF1.out, if_neg (by rw [hK]; simp), Int.toNat_natCast]
    clear HF1
    go_upto_region 6 with (go_at_call 36; refine (within_any _ _ _ _).mono ?_; rintro e u1 ⟨rfl, hu1⟩; rw [hu1]; clear hu1)
    cases AI with
    | false =>
      have hf : Hid (F = 2) := by show _ = _; rw [HF2.out, if_pos rfl]
      clear HF2
      go_wp2_with (go_at_call 39; refine (hIn _ ⟨s1, s4⟩ l6 (HK.out _ hb1)).mono ?_; rintro e w2 ⟨rfl, hb2⟩)
      go_ret
      exact ⟨ret_int hf.out.symm, hB.trans ((hb1.trans (hb2.mono hb1.size)).mono hB.size)⟩
    | true =>
      have HF3 : Hid (F = if only (aHas.getD k []) [site, to1, label, pick, (kl : Int), B1, (line.size : Int)] = false then 4 else if (k : Int) = 1 then callFault c0 c1 c2 c3 c4 else 0) := by show _ = _; rw [HF2.out, if_neg (by simp)]
      clear HF2
      go_upto_region 8 with (go_at_call 39; refine (hIn _ ⟨s1, s4⟩ l6 (HK.out _ hb1)).mono ?_; rintro e w2 ⟨rfl, hb2⟩)
      have hbV : Below W.heap.size W w2 := hb1.trans (hb2.mono hb1.size)
      obtain ⟨V, eV⟩ : ∃ V, V = w2 := ⟨_, rfl⟩
      rw [← eV] at hbV ⊢
      clear eV d0 d1 d2 e0 e1 e2 e3 e4 e5 e6 e7 e8 e9 e10 e11 hb2 hb1
      have zV : w.heap.size + 1 < V.heap.size := by have := hbV.size; omega
      have zhV : 0 < V.heap.size := by have := hbV.size; omega
      obtain ⟨d0, d1, d2, e0, e1, e2, e3, e4, e5, e6, e7, e8, e9, e10, e11⟩ := KC.out _ hbV
      have hTA := HTA.out V hbV
      have f0 := hTA k 0 k9 (by decide)
      have f1 := hTA k 1 k9 (by decide)
      have f2 := hTA k 2 k9 (by decide)
      have f3 := hTA k 3 k9 (by decide)
      have f4 := hTA k 4 k9 (by decide)
      have f5 := hTA k 5 k9 (by decide)
      have f6 := hTA k 6 k9 (by decide)
      have EH := aHas_seven k k9
      have ECl := aHas_call k k9
      obtain ⟨h0, eh0⟩ : ∃ x, x = (aHas.getD k []).getD 0 false := ⟨_, rfl⟩
      obtain ⟨h1, eh1⟩ : ∃ x, x = (aHas.getD k []).getD 1 false := ⟨_, rfl⟩
      obtain ⟨h2, eh2⟩ : ∃ x, x = (aHas.getD k []).getD 2 false := ⟨_, rfl⟩
      obtain ⟨h3, eh3⟩ : ∃ x, x = (aHas.getD k []).getD 3 false := ⟨_, rfl⟩
      obtain ⟨h4, eh4⟩ : ∃ x, x = (aHas.getD k []).getD 4 false := ⟨_, rfl⟩
      obtain ⟨h5, eh5⟩ : ∃ x, x = (aHas.getD k []).getD 5 false := ⟨_, rfl⟩
      obtain ⟨h6, eh6⟩ : ∃ x, x = (aHas.getD k []).getD 6 false := ⟨_, rfl⟩
      rw [← eh5] at ECl
      have HE5 : Hid (h5 = decide ((k : Int) = 1)) := ECl
      clear ECl
      rw [← eh0, ← eh1, ← eh2, ← eh3, ← eh4, ← eh5, ← eh6] at EH
      rw [← eh0] at f0
      rw [← eh1] at f1
      rw [← eh2] at f2
      rw [← eh3] at f3
      rw [← eh4] at f4
      rw [← eh5] at f5
      rw [← eh6] at f6
      clear eh0 eh1 eh2 eh3 eh4 eh5 eh6 hTA
      simp only [Nat.add_zero] at f0
      rw [EH] at HF3
      clear EH
      have KV : Hid (∀ U : World, Below V.heap.size V U → (U.cell? ⟨w.heap.size + 1, 0, none⟩ = some (.int .i64 (k : Int)) ∧ U.cell? ⟨w.heap.size + 1, 1, none⟩ = some (.int .i64 site) ∧ U.cell? ⟨w.heap.size + 1, 2, none⟩ = some (.int .i64 to1) ∧ U.cell? ⟨w.heap.size + 1, 3, none⟩ = some (.int .i64 label) ∧ U.cell? ⟨w.heap.size + 1, 4, none⟩ = some (.int .i64 pick) ∧ U.cell? ⟨w.heap.size + 1, 5, none⟩ = some (.slice ka kl kc) ∧ U.cell? ⟨w.heap.size + 1, 6, none⟩ = some (.int .i64 c0) ∧ U.cell? ⟨w.heap.size + 1, 7, none⟩ = some (.int .i64 c1) ∧ U.cell? ⟨w.heap.size + 1, 8, none⟩ = some (.int .i64 c2) ∧ U.cell? ⟨w.heap.size + 1, 9, none⟩ = some (.int .i64 c3) ∧ U.cell? ⟨w.heap.size + 1, 10, none⟩ = some (.int .i64 c4) ∧ U.cell? ⟨w.heap.size + 1, 11, none⟩ = some (.string line)) ∧ U.cell? ⟨0, k * 7, none⟩ = some (.bool h0) ∧ U.cell? ⟨0, k * 7 + 1, none⟩ = some (.bool h1) ∧ U.cell? ⟨0, k * 7 + 2, none⟩ = some (.bool h2) ∧ U.cell? ⟨0, k * 7 + 3, none⟩ = some (.bool h3) ∧ U.cell? ⟨0, k * 7 + 4, none⟩ = some (.bool h4) ∧ U.cell? ⟨0, k * 7 + 5, none⟩ = some (.bool h5) ∧ U.cell? ⟨0, k * 7 + 6, none⟩ = some (.bool h6)) := fun U hU => ⟨⟨(hU.cell (p := ⟨w.heap.size + 1, 0, none⟩) zV).trans e0, (hU.cell (p := ⟨w.heap.size + 1, 1, none⟩) zV).trans e1, (hU.cell (p := ⟨w.heap.size + 1, 2, none⟩) zV).trans e2, (hU.cell (p := ⟨w.heap.size + 1, 3, none⟩) zV).trans e3, (hU.cell (p := ⟨w.heap.size + 1, 4, none⟩) zV).trans e4, (hU.cell (p := ⟨w.heap.size + 1, 5, none⟩) zV).trans e5, (hU.cell (p := ⟨w.heap.size + 1, 6, none⟩) zV).trans e6, (hU.cell (p := ⟨w.heap.size + 1, 7, none⟩) zV).trans e7, (hU.cell (p := ⟨w.heap.size + 1, 8, none⟩) zV).trans e8, (hU.cell (p := ⟨w.heap.size + 1, 9, none⟩) zV).trans e9, (hU.cell (p := ⟨w.heap.size + 1, 10, none⟩) zV).trans e10, (hU.cell (p := ⟨w.heap.size + 1, 11, none⟩) zV).trans e11⟩, (hU.cell (p := ⟨0, k * 7, none⟩) zhV).trans f0, (hU.cell (p := ⟨0, k * 7 + 1, none⟩) zhV).trans f1, (hU.cell (p := ⟨0, k * 7 + 2, none⟩) zhV).trans f2, (hU.cell (p := ⟨0, k * 7 + 3, none⟩) zhV).trans f3, (hU.cell (p := ⟨0, k * 7 + 4, none⟩) zhV).trans f4, (hU.cell (p := ⟨0, k * 7 + 5, none⟩) zhV).trans f5, (hU.cell (p := ⟨0, k * 7 + 6, none⟩) zhV).trans f6⟩
      clear d0 d1 d2 e0 e1 e2 e3 e4 e5 e6 e7 e8 e9 e10 e11 f0 f1 f2 f3 f4 f5 f6
      go_cut [6, 7] (fun s6 s7 wc => ∃ b6 b7 : Nat, s6 = .pointer (some ⟨b6, 0, none⟩) ∧ s7 = .pointer (some ⟨b7, 0, none⟩) ∧ BoxN wc b6 7 [.bool h0, .bool h1, .bool h2, .bool h3, .bool h4, .bool h5, .bool h6] ∧ BoxN wc b7 7 [.int .i64 site, .int .i64 to1, .int .i64 label, .int .i64 pick, .int .i64 (kl : Int), .int .i64 B1, .int .i64 (line.size : Int)] ∧ Below V.heap.size V wc)
      case first =>
        refine wp_region_inv (by kernel_rfl) [21, 22, 23, 24, 25, 26, 6, 7] (fun L T u => ∃ (b6 : Nat) (b7 : Nat), Below V.heap.size V u ∧ (L 0 = true → T 21 = .pointer (some ⟨w.heap.size + 1, 0, none⟩)) ∧ (L 1 = true → T 22 = .int .i64 (k : Int)) ∧ (L 2 = true → T 23 = .pointer (some ⟨0, k * 7, none⟩)) ∧ (L 3 = true → T 24 = .agg #[.bool h0, .bool h1, .bool h2, .bool h3, .bool h4, .bool h5, .bool h6]) ∧ (L 4 = true → T 25 = .agg #[.int .i64 (k : Int), .int .i64 site, .int .i64 to1, .int .i64 label, .int .i64 pick, .slice ka kl kc, .int .i64 c0, .int .i64 c1, .int .i64 c2, .int .i64 c3, .int .i64 c4, .string line]) ∧ (L 5 = true → T 26 = .agg #[.int .i64 site, .int .i64 to1, .int .i64 label, .int .i64 pick, .int .i64 (kl : Int), .int .i64 B1, .int .i64 (line.size : Int)]) ∧ (L 6 = true → (T 6 = .pointer (some ⟨b6, 0, none⟩) ∧ V.heap.size ≤ b6 ∧ b6 < u.heap.size)) ∧ (L 7 = true → (T 7 = .pointer (some ⟨b7, 0, none⟩) ∧ V.heap.size ≤ b7 ∧ b7 < u.heap.size)) ∧ (L 6 = true → L 7 = true → b6 ≠ b7) ∧ (L 6 = true → L 8 = false → BoxN u b6 7 [.bool false, .bool false, .bool false, .bool false, .bool false, .bool false, .bool false]) ∧ (L 7 = true → L 9 = false → BoxN u b7 7 [.int .i64 0, .int .i64 0, .int .i64 0, .int .i64 0, .int .i64 0, .int .i64 0, .int .i64 0]) ∧ (L 8 = true → BoxN u b6 7 [.bool h0, .bool h1, .bool h2, .bool h3, .bool h4, .bool h5, .bool h6]) ∧ (L 9 = true → BoxN u b7 7 [.int .i64 site, .int .i64 to1, .int .i64 label, .int .i64 pick, .int .i64 (kl : Int), .int .i64 B1, .int .i64 (line.size : Int)])) (by decide) (by kernel_rfl) (by kernel_rfl) ?_ ?_ ?_
        · exact ⟨0, 0, (Below.refl _ _).drew, nofun, nofun, nofun, nofun, nofun, nofun, nofun, nofun, nofun, nofun, nofun, nofun, nofun⟩
        · refine ⟨?_, ?_, ?_, ?_, ?_, ?_, ?_, ?_, ?_, ?_, trivial⟩
          · rintro L T u hd hk hcl ⟨b6, b7, hb, p0, p1, p2, p3, p4, p5, p6, p7, ap, z6, z7, q6, q7⟩ K hK
            simp only [fr, Act.put, List.setIfInBounds_toArray, List.set_cons_zero, List.set_cons_succ, updO] at hK ⊢
            simp [Region.binds] at hd
            rw [if_pos (by rfl)]
            simp only [Oper.wpv]
            go_simp
            exact hK _ _ ⟨b6, b7, hb, fun _ => rfl, p1, p2, p3, p4, p5, p6, p7, ap, z6, z7, q6, q7⟩
          · rintro L T u hd hk hcl ⟨b6, b7, hb, p0, p1, p2, p3, p4, p5, p6, p7, ap, z6, z7, q6, q7⟩ K hK
            simp only [fr, Act.put, List.setIfInBounds_toArray, List.set_cons_zero, List.set_cons_succ, updO] at hK ⊢
            simp [Region.binds] at hd
            have g0 := p0 (by simp [hd])
            obtain ⟨⟨e0, e1, e2, e3, e4, e5, e6, e7, e8, e9, e10, e11⟩, f0, f1, f2, f3, f4, f5, f6⟩ := KV.out u hb
            rw [if_pos (by rfl)]
            simp only [Oper.wpv]
            go_simp
            exact hK _ _ ⟨b6, b7, hb, p0, fun _ => rfl, p2, p3, p4, p5, p6, p7, ap, z6, z7, q6, q7⟩
          · rintro L T u hd hk hcl ⟨b6, b7, hb, p0, p1, p2, p3, p4, p5, p6, p7, ap, z6, z7, q6, q7⟩ K hK
            simp only [fr, Act.put, List.setIfInBounds_toArray, List.set_cons_zero, List.set_cons_succ, updO] at hK ⊢
            simp [Region.binds] at hd
            have g0 := p1 (by simp [hd])
            have k0 : (0 : Int) ≤ (k : Int) := by omega
            rw [if_pos (by rfl)]
            simp only [Oper.wpv]
            go_simp
            exact hK _ _ ⟨b6, b7, hb, p0, p1, fun _ => rfl, p3, p4, p5, p6, p7, ap, z6, z7, q6, q7⟩
          · rintro L T u hd hk hcl ⟨b6, b7, hb, p0, p1, p2, p3, p4, p5, p6, p7, ap, z6, z7, q6, q7⟩ K hK
            simp only [fr, Act.put, List.setIfInBounds_toArray, List.set_cons_zero, List.set_cons_succ, updO] at hK ⊢
            simp [Region.binds] at hd
            have g0 := p2 (by simp [hd])
            obtain ⟨⟨e0, e1, e2, e3, e4, e5, e6, e7, e8, e9, e10, e11⟩, f0, f1, f2, f3, f4, f5, f6⟩ := KV.out u hb
            rw [if_pos (by rfl)]
            simp only [Oper.wpv]
            go_simp
            exact hK _ _ ⟨b6, b7, hb, p0, p1, p2, fun _ => rfl, p4, p5, p6, p7, ap, z6, z7, q6, q7⟩
          · rintro L T u hd hk hcl ⟨b6, b7, hb, p0, p1, p2, p3, p4, p5, p6, p7, ap, z6, z7, q6, q7⟩ K hK
            simp only [fr, Act.put, List.setIfInBounds_toArray, List.set_cons_zero, List.set_cons_succ, updO] at hK ⊢
            simp [Region.binds] at hd
            obtain ⟨⟨e0, e1, e2, e3, e4, e5, e6, e7, e8, e9, e10, e11⟩, f0, f1, f2, f3, f4, f5, f6⟩ := KV.out u hb
            rw [if_pos (by rfl)]
            simp only [Oper.wpv]
            go_simp
            exact hK _ _ ⟨b6, b7, hb, p0, p1, p2, p3, fun _ => rfl, p5, p6, p7, ap, z6, z7, q6, q7⟩
          · rintro L T u hd hk hcl ⟨b6, b7, hb, p0, p1, p2, p3, p4, p5, p6, p7, ap, z6, z7, q6, q7⟩ K hK
            simp only [fr, Act.put, List.setIfInBounds_toArray, List.set_cons_zero, List.set_cons_succ, updO] at hK ⊢
            simp [Region.binds] at hd
            have g0 := p4 (by simp [hd])
            rw [if_pos (by rfl)]
            simp only [Oper.wpv]
            go_simp
            refine (hAP _).mono ?_
            rintro e u1 ⟨rfl, hg⟩
            exact hK _ _ ⟨b6, b7, (nT hb hg), p0, p1, p2, p3, p4, fun _ => rfl, fun h0 => ⟨(p6 h0).1, (p6 h0).2.1, Nat.lt_of_lt_of_le (p6 h0).2.2 hg.size⟩, fun h0 => ⟨(p7 h0).1, (p7 h0).2.1, Nat.lt_of_lt_of_le (p7 h0).2.2 hg.size⟩, ap, fun h0 h1 => (z6 h0 h1).below hg (z6 h0 h1).lt, fun h0 h1 => (z7 h0 h1).below hg (z7 h0 h1).lt, fun h0 => (q6 h0).below hg (q6 h0).lt, fun h0 => (q7 h0).below hg (q7 h0).lt⟩
          · rintro L T u hd hk hcl ⟨b6, b7, hb, p0, p1, p2, p3, p4, p5, p6, p7, ap, z6, z7, q6, q7⟩ K hK
            simp only [fr, Act.put, List.setIfInBounds_toArray, List.set_cons_zero, List.set_cons_succ, updO] at hK ⊢
            simp [Region.binds] at hd
            have hg : Below u.heap.size u (u.alloc (.cells #[.bool false, .bool false, .bool false, .bool false, .bool false, .bool false, .bool false] 80)) := (Below.refl _ _).alloc (Nat.le_refl _) _
            have k8 := hcl 8 _ rfl
            simp [Region.binds] at k8
            rw [if_pos (by rfl)]
            simp only [Oper.wpv]
            go_simp
            exact hK _ _ ⟨u.heap.size, b7, (nT hb hg), p0, p1, p2, p3, p4, p5, fun _ => ⟨rfl, hb.size, by simp⟩, fun h0 => ⟨(p7 h0).1, (p7 h0).2.1, Nat.lt_of_lt_of_le (p7 h0).2.2 hg.size⟩, fun _ h1 => (Nat.ne_of_lt (p7 h1).2.2).symm, fun _ _ => boxn_new u #[.bool false, .bool false, .bool false, .bool false, .bool false, .bool false, .bool false] 80 7 rfl, fun h0 h1 => (z7 h0 h1).below hg (z7 h0 h1).lt, fun h => by have := k8 h; simp [hk] at this, fun h0 => (q7 h0).below hg (q7 h0).lt⟩
          · rintro L T u hd hk hcl ⟨b6, b7, hb, p0, p1, p2, p3, p4, p5, p6, p7, ap, z6, z7, q6, q7⟩ K hK
            simp only [fr, Act.put, List.setIfInBounds_toArray, List.set_cons_zero, List.set_cons_succ, updO] at hK ⊢
            simp [Region.binds] at hd
            have hg : Below u.heap.size u (u.alloc (.cells #[.int .i64 0, .int .i64 0, .int .i64 0, .int .i64 0, .int .i64 0, .int .i64 0, .int .i64 0] 82)) := (Below.refl _ _).alloc (Nat.le_refl _) _
            have k9c := hcl 9 _ rfl
            simp [Region.binds] at k9c
            rw [if_pos (by rfl)]
            simp only [Oper.wpv]
            go_simp
            exact hK _ _ ⟨b6, u.heap.size, (nT hb hg), p0, p1, p2, p3, p4, p5, fun h0 => ⟨(p6 h0).1, (p6 h0).2.1, Nat.lt_of_lt_of_le (p6 h0).2.2 hg.size⟩, fun _ => ⟨rfl, hb.size, by simp⟩, fun h0 _ => Nat.ne_of_lt (p6 h0).2.2, fun h0 h1 => (z6 h0 h1).below hg (z6 h0 h1).lt, fun _ _ => boxn_new u #[.int .i64 0, .int .i64 0, .int .i64 0, .int .i64 0, .int .i64 0, .int .i64 0, .int .i64 0] 82 7 rfl, fun h0 => (q6 h0).below hg (q6 h0).lt, fun h => by have := k9c h; simp [hk] at this⟩
          · rintro L T u hd hk hcl ⟨b6, b7, hb, p0, p1, p2, p3, p4, p5, p6, p7, ap, z6, z7, q6, q7⟩ K hK
            simp only [fr, Act.put, List.setIfInBounds_toArray, List.set_cons_zero, List.set_cons_succ, updO] at hK ⊢
            simp [Region.binds] at hd
            have g3 := p3 (by simp [hd])
            obtain ⟨g0, l0, l1⟩ := p6 (by simp [hd])
            have bx := z6 (by simp [hd]) hk
            have x0 : _ = some _ := (bx.c 0 (by decide)).1
            have y0 := (bx.c 0 (by decide)).2
            have x1 : _ = some _ := (bx.c 1 (by decide)).1
            have y1 := (bx.c 1 (by decide)).2
            have x2 : _ = some _ := (bx.c 2 (by decide)).1
            have y2 := (bx.c 2 (by decide)).2
            have x3 : _ = some _ := (bx.c 3 (by decide)).1
            have y3 := (bx.c 3 (by decide)).2
            have x4 : _ = some _ := (bx.c 4 (by decide)).1
            have y4 := (bx.c 4 (by decide)).2
            have x5 : _ = some _ := (bx.c 5 (by decide)).1
            have y5 := (bx.c 5 (by decide)).2
            have x6 : _ = some _ := (bx.c 6 (by decide)).1
            have y6 := (bx.c 6 (by decide)).2
            simp only [List.getD_cons_zero, List.getD_cons_succ] at x0 x1 x2 x3 x4 x5 x6
            have k9c := hcl 9 _ rfl
            simp [Region.binds] at k9c
            rw [if_pos (by rfl)]
            simp only [Oper.wpv]
            go_simp
            exact hK _ _ ⟨b6, b7, (nS (nS (nS (nS (nS (nS (nS hb l0 _) l0 _) l0 _) l0 _) l0 _) l0 _) l0 _), p0, p1, p2, p3, p4, p5, fun h0 => ⟨(p6 h0).1, (p6 h0).2.1, by simpa using (p6 h0).2.2⟩, fun h0 => ⟨(p7 h0).1, (p7 h0).2.1, by simpa using (p7 h0).2.2⟩, ap, fun _ h => Bool.noConfusion (show true = false from h), fun h0 h1 => ((((((((z7 h0 h1).far (Ne.symm (ap (by simp [hd]) h0))).far (Ne.symm (ap (by simp [hd]) h0))).far (Ne.symm (ap (by simp [hd]) h0))).far (Ne.symm (ap (by simp [hd]) h0))).far (Ne.symm (ap (by simp [hd]) h0))).far (Ne.symm (ap (by simp [hd]) h0))).far (Ne.symm (ap (by simp [hd]) h0))), fun _ => (((((((bx.set 0 (by decide) (.bool h0)).set 1 (by decide) (.bool h1)).set 2 (by decide) (.bool h2)).set 3 (by decide) (.bool h3)).set 4 (by decide) (.bool h4)).set 5 (by decide) (.bool h5)).set 6 (by decide) (.bool h6)), fun h0 => ((((((((q7 h0).far (Ne.symm (ap (by simp [hd]) (by simp [k9c h0])))).far (Ne.symm (ap (by simp [hd]) (by simp [k9c h0])))).far (Ne.symm (ap (by simp [hd]) (by simp [k9c h0])))).far (Ne.symm (ap (by simp [hd]) (by simp [k9c h0])))).far (Ne.symm (ap (by simp [hd]) (by simp [k9c h0])))).far (Ne.symm (ap (by simp [hd]) (by simp [k9c h0])))).far (Ne.symm (ap (by simp [hd]) (by simp [k9c h0]))))⟩
          · rintro L T u hd hk hcl ⟨b6, b7, hb, p0, p1, p2, p3, p4, p5, p6, p7, ap, z6, z7, q6, q7⟩ K hK
            simp only [fr, Act.put, List.setIfInBounds_toArray, List.set_cons_zero, List.set_cons_succ, updO] at hK ⊢
            simp [Region.binds] at hd
            have g3 := p5 (by simp [hd])
            obtain ⟨g0, l0, l1⟩ := p7 (by simp [hd])
            have bx := z7 (by simp [hd]) hk
            have x0 : _ = some _ := (bx.c 0 (by decide)).1
            have y0 := (bx.c 0 (by decide)).2
            have x1 : _ = some _ := (bx.c 1 (by decide)).1
            have y1 := (bx.c 1 (by decide)).2
            have x2 : _ = some _ := (bx.c 2 (by decide)).1
            have y2 := (bx.c 2 (by decide)).2
            have x3 : _ = some _ := (bx.c 3 (by decide)).1
            have y3 := (bx.c 3 (by decide)).2
            have x4 : _ = some _ := (bx.c 4 (by decide)).1
            have y4 := (bx.c 4 (by decide)).2
            have x5 : _ = some _ := (bx.c 5 (by decide)).1
            have y5 := (bx.c 5 (by decide)).2
            have x6 : _ = some _ := (bx.c 6 (by decide)).1
            have y6 := (bx.c 6 (by decide)).2
            simp only [List.getD_cons_zero, List.getD_cons_succ] at x0 x1 x2 x3 x4 x5 x6
            have k8 := hcl 8 _ rfl
            simp [Region.binds] at k8
            rw [if_pos (by rfl)]
            simp only [Oper.wpv]
            go_simp
            exact hK _ _ ⟨b6, b7, (nS (nS (nS (nS (nS (nS (nS hb l0 _) l0 _) l0 _) l0 _) l0 _) l0 _) l0 _), p0, p1, p2, p3, p4, p5, fun h0 => ⟨(p6 h0).1, (p6 h0).2.1, by simpa using (p6 h0).2.2⟩, fun h0 => ⟨(p7 h0).1, (p7 h0).2.1, by simpa using (p7 h0).2.2⟩, ap, fun h0 h1 => ((((((((z6 h0 h1).far (ap h0 (by simp [hd]))).far (ap h0 (by simp [hd]))).far (ap h0 (by simp [hd]))).far (ap h0 (by simp [hd]))).far (ap h0 (by simp [hd]))).far (ap h0 (by simp [hd]))).far (ap h0 (by simp [hd]))), fun _ h => Bool.noConfusion (show true = false from h), fun h0 => ((((((((q6 h0).far (ap (by simp [k8 h0]) (by simp [hd]))).far (ap (by simp [k8 h0]) (by simp [hd]))).far (ap (by simp [k8 h0]) (by simp [hd]))).far (ap (by simp [k8 h0]) (by simp [hd]))).far (ap (by simp [k8 h0]) (by simp [hd]))).far (ap (by simp [k8 h0]) (by simp [hd]))).far (ap (by simp [k8 h0]) (by simp [hd]))), fun _ => (((((((bx.set 0 (by decide) (.int .i64 site)).set 1 (by decide) (.int .i64 to1)).set 2 (by decide) (.int .i64 label)).set 3 (by decide) (.int .i64 pick)).set 4 (by decide) (.int .i64 (kl : Int))).set 5 (by decide) (.int .i64 B1)).set 6 (by decide) (.int .i64 (line.size : Int)))⟩
        · rintro L T u hl ⟨b6, b7, hb, p0, p1, p2, p3, p4, p5, p6, p7, ap, z6, z7, q6, q7⟩
          simp only [fr, Act.put, List.setIfInBounds_toArray, List.set_cons_zero, List.set_cons_succ]
          obtain ⟨g6, _, _⟩ := p6 (hl 6 (by decide))
          obtain ⟨g7, _, _⟩ := p7 (hl 7 (by decide))
          have bx6 := q6 (hl 8 (by decide))
          have bx7 := q7 (hl 9 (by decide))
          have HE : Hid (T 6 = .pointer (some ⟨b6, 0, none⟩) ∧ T 7 = .pointer (some ⟨b7, 0, none⟩)) := ⟨g6, g7⟩
          clear g6 g7 p0 p1 p2 p3 p4 p5 p6 p7 ap z6 z7 q6 q7
          go_wp2_with fail
          go_meet
          case rel => exact ⟨b6, b7, HE.out.1, HE.out.2, bx6, bx7, hb⟩
      case rest =>
        obtain ⟨b6, b7, rfl, rfl, bx6, bx7, bX⟩ := hcut
        obtain ⟨X, eX⟩ : ∃ X, X = wc := ⟨_, rfl⟩
        rw [← eX] at bx6 bx7 bX ⊢
        clear eX
        have hB6 := Bools.of (hs := [h0, h1, h2, h3, h4, h5, h6]) bx6
        have hN7 := Nms.of (ps := [site, to1, label, pick, (kl : Int), B1, (line.size : Int)]) bx7
        have HO : Hid (∀ U, Below X.heap.size X U → Calls Tryd.prog 41 #[.slice (some ⟨b6, 0, none⟩) 7 7, .slice (some ⟨b7, 0, none⟩) 7 7] U fun e w' => e = .returned (.bool (only [h0, h1, h2, h3, h4, h5, h6] [site, to1, label, pick, (kl : Int), B1, (line.size : Int)])) ∧ w' = U) := fun U hU => onlyHas_any b6 b7 7 [h0, h1, h2, h3, h4, h5, h6] [site, to1, label, pick, (kl : Int), B1, (line.size : Int)] U rfl rfl (by decide) (hB6.below hU hB6.1) (hN7.below hU hN7.1)
        obtain ⟨O, eO⟩ : ∃ O, O = only [h0, h1, h2, h3, h4, h5, h6] [site, to1, label, pick, (kl : Int), B1, (line.size : Int)] := ⟨_, rfl⟩
        rw [← eO] at HF3 HO
        clear eO hB6 hN7
        have b5 := (bx6.c 5 (by decide)).1
        simp only [List.getD_cons_zero, List.getD_cons_succ] at b5
        have z6 := bx6.lt
        have z7 := bx7.lt
        have hWX : Below W.heap.size W X := hbV.trans (bX.mono hbV.size)
        have hwX : Below w.heap.size w X := hB.trans (hWX.mono hB.size)
        obtain ⟨⟨e0, e1, e2, e3, e4, e5, e6, e7, e8, e9, e10, e11⟩, _⟩ := KV.out X bX
        obtain ⟨hTC, hCT⟩ := HTC.out X hWX
        have HC : Hid (∀ U, Below X.heap.size X U → Calls Tryd.prog 42 #[.agg #[.int .i64 c0, .int .i64 c1, .int .i64 c2, .int .i64 c3, .int .i64 c4]] U fun e w' => e = .returned (.int .i64 (callFault c0 c1 c2 c3 c4)) ∧ Below U.heap.size U w') := fun U hU => checkCall_any c0 c1 c2 c3 c4 U (hTC.below hU (by have := hWX.size; omega)) (Nms.below hCT hU hCT.1)
        clear hTC hCT HTC HTA KV KC bx6 bx7 HK
        go_upto_region 9 with (fail)
        go_region_with ((go_at_call 41; refine (HO.out _ ((Below.refl _ _).drew)).mono ?_; rintro e u2 ⟨rfl, hu⟩; rw [hu]; clear hu))
        cases O with
        | false =>
          have hf : Hid (F = 4) := by show _ = _; rw [HF3.out]; rfl
          clear HF3
          go_wp2
          go_ret
          exact ⟨ret_int hf.out.symm, hwX.drew⟩
        | true =>
          by_cases hk1 : (k : Int) = 1
          · have hf : Hid (F = callFault c0 c1 c2 c3 c4) := by show _ = _; rw [HF3.out, if_neg (by simp), if_pos hk1]
            have h5t : h5 = true := by rw [HE5.out]; simpa using hk1
            subst h5t
            clear HF3 hk1 HE5
            go_wp2_with (go_at_call 42; refine (HC.out _ ((Below.refl _ _).drew)).mono ?_; rintro e u3 ⟨rfl, hb3⟩)
            go_ret
            exact ⟨ret_int hf.out.symm, hwX.drew.trans (hb3.mono (by simpa using hwX.size))⟩
          · have hf : Hid (F = 0) := by show _ = _; rw [HF3.out, if_neg (by simp), if_neg hk1]
            have h5f : h5 = false := by rw [HE5.out]; simpa using hk1
            subst h5f
            clear HF3 hk1 HE5
            go_wp2
            go_ret
            exact ⟨ret_int hf.out.symm, hwX.drew⟩
end Go.Proofs.YtlaagfnoepcnlaaDoor.Ln
/- lines.actAsWords: an act's words. -/
namespace Go.Proofs.YtlaagfnoepcnlaaDoor.Ln
open Go.ChangeShapes Go.WideShapes Go.ChangeAt Go.RowKit
open Go.Proofs.YtlaagfnoepcnlaaDoor.St (BoxN boxn_new own_below IsRow Elem flat flat_append own_isRow)
set_option linter.unusedVariables false

theorem aHas_line (k : Nat) (hk : k < 9) : (aHas.getD k []).getD 6 false = decide ((k : Int) = 8) := by
  rcases (by omega : k = 0 ∨ k = 1 ∨ k = 2 ∨ k = 3 ∨ k = 4 ∨ k = 5 ∨ k = 6 ∨ k = 7 ∨ k = 8) with rfl | rfl | rfl | rfl | rfl | rfl | rfl | rfl | rfl <;> rfl
def aWord (k : Nat) : ByteArray := match k with
  | 1 => ⟨#[97, 115, 107]⟩
  | 2 => ⟨#[100, 101, 108, 105, 118, 101, 114]⟩
  | 3 => ⟨#[100, 114, 111, 112]⟩
  | 4 => ⟨#[99, 111, 112, 121]⟩
  | 5 => ⟨#[116, 105, 99, 107]⟩
  | 6 => ⟨#[99, 114, 97, 115, 104]⟩
  | 7 => ⟨#[115, 116, 97, 114, 116]⟩
  | 8 => ⟨#[116, 121, 112, 101]⟩
  | _ => ⟨#[]⟩
def actW (v : AV) : List ByteArray := ([aWord v.kind.toNat] ++ numsW ((aHas.getD v.kind.toNat []).take 4) [v.site, v.to, v.label, v.pick]) ++ v.keep.map wNum ++ (if v.kind = 1 then callW v.c0 v.c1 v.c2 v.c3 v.c4 else []) ++ (if v.kind = 8 then [txtW v.line] else [])
theorem numsW_len : ∀ (hs : List Bool) (ps : List Int), (numsW hs ps).length ≤ ps.length
  | [], ps => by simp [numsW]
  | _ :: _, [] => by simp [numsW]
  | h :: hs, p :: ps => by
    have := numsW_len hs ps
    simp only [numsW, List.length_append, List.length_cons]
    split <;> simp <;> omega
set_option maxRecDepth 100000 in
set_option maxHeartbeats 8000000 in
theorem actAsWords_any (k : Nat) (site to1 label pick : Int) (ka : Option Addr) (kl kc : Nat) (c0 c1 c2 c3 c4 : Int) (line : ByteArray) (keep : List Int) (w : World) (k9 : k < 9) (hkp : IsInts w ka kl kc keep) (hkl : kl ≤ 6) (hln : line.size ≤ 1000000)
    (hi : i64n site ∧ i64n to1 ∧ i64n label ∧ i64n pick) (hic : i64n c1 ∧ i64n c2 ∧ i64n c3 ∧ i64n c4) (hc0 : k = 1 → 0 ≤ c0 ∧ c0 < 6)
    (hT : ∀ U, Below w.heap.size w U → Lib.TabIs Tryd.prog U "internal/strconv.uint64pow10" .u64 Lib.pow10Tab) (hA : Tab w 0 7 aHas) (haw : WTab w 1 9 aWord) (hh : Tab w 2 4 cHas) (hcw : WTab w 4 6 cWord) :
    Calls Tryd.prog 23 #[.agg #[.int .i64 (k : Int), .int .i64 site, .int .i64 to1, .int .i64 label, .int .i64 pick, .slice ka kl kc, .int .i64 c0, .int .i64 c1, .int .i64 c2, .int .i64 c3, .int .i64 c4, .string line]] w fun e w' => ∃ a n c, e = .returned (.slice a n c) ∧ IsRow 1 stC w' a n c (actW ⟨(k : Int), site, to1, label, pick, ka, kl, kc, c0, c1, c2, c3, c4, line, keep⟩) ∧ Below w.heap.size w w' := by
  obtain ⟨iE, ES⟩ := stElem
  have zhA := hA.lt (by decide) (by decide)
  have zhC := hh.lt (by decide) (by decide)
  have hAP := fun w' => actParts_any ⟨(k : Int), site, to1, label, pick, ka, kl, kc, c0, c1, c2, c3, c4, line, keep⟩ w'
  simp only [aParts] at hAP
  obtain ⟨B1, eB1⟩ : ∃ x, x = one (nz c0 c1 c2 c3 c4) := ⟨_, rfl⟩
  rw [← eB1] at hAP
  clear eB1
  obtain ⟨R, eR⟩ : ∃ R, R = actW ⟨(k : Int), site, to1, label, pick, ka, kl, kc, c0, c1, c2, c3, c4, line, keep⟩ := ⟨_, rfl⟩
  have HR : Hid (R = ([aWord k] ++ numsW ((aHas.getD k []).take 4) [site, to1, label, pick]) ++ keep.map wNum ++ (if (k : Int) = 1 then callW c0 c1 c2 c3 c4 else []) ++ (if (k : Int) = 8 then [txtW line] else [])) := by show _ = _; rw [eR]; simp [actW]
  rw [← eR]
  clear eR
  have k9' : (k : Int) < 9 := by omega
  obtain ⟨W1, eW1⟩ : ∃ x, x = aWord k := ⟨_, rfl⟩
  rw [← eW1] at HR
  have cw := haw.2 k k9
  rw [← eW1] at cw
  have zw := haw.1
  clear eW1
  obtain ⟨V0, hV0⟩ : ∃ W : World, W = w.alloc (.cells #[.int .i64 (k : Int), .int .i64 site, .int .i64 to1, .int .i64 label, .int .i64 pick, .slice ka kl kc, .int .i64 c0, .int .i64 c1, .int .i64 c2, .int .i64 c3, .int .i64 c4, .string line] 41) := ⟨_, rfl⟩
  have hB0 : Below w.heap.size w V0 := by rw [hV0]; exact (Below.refl _ _).alloc (Nat.le_refl _) _
  have zV0 : V0.heap.size = w.heap.size + 1 := by rw [hV0]; simp
  have bxA : BoxN V0 w.heap.size 12 [.int .i64 (k : Int), .int .i64 site, .int .i64 to1, .int .i64 label, .int .i64 pick, .slice ka kl kc, .int .i64 c0, .int .i64 c1, .int .i64 c2, .int .i64 c3, .int .i64 c4, .string line] := by rw [hV0]; exact boxn_new w #[.int .i64 (k : Int), .int .i64 site, .int .i64 to1, .int .i64 label, .int .i64 pick, .slice ka kl kc, .int .i64 c0, .int .i64 c1, .int .i64 c2, .int .i64 c3, .int .i64 c4, .string line] 41 12 rfl
  have x0 := (bxA.c 0 (by decide)).1
  have xz := bxA.lt
  have cw0 := (hB0.cell (p := ⟨1, k, none⟩) zw).trans cw
  have zw0 : 1 < V0.heap.size := Nat.lt_of_lt_of_le zw hB0.size
  obtain ⟨V, hV⟩ : ∃ W : World, W = V0.alloc (.cells #[.string W1] 9) := ⟨_, rfl⟩
  have hBV : Below V0.heap.size V0 V := by rw [hV]; exact (Below.refl _ _).alloc (Nat.le_refl _) _
  have oV : V.ownsRow w.heap.size 9 1 (.slice (some ⟨w.heap.size + 1, 0, none⟩) 1 1) 1 (flat stC [W1]) := by
    rw [hV, ← zV0]
    exact ownB (row_new V0 9 [W1] #[.string W1] 1 rfl rfl (by unfold maxLen; omega) (by decide)) hB0.size
  have bV : Below w.heap.size w V := hB0.trans (hBV.mono hB0.size)
  have zV : w.heap.size < V.heap.size := by have := hBV.size; omega
  have zV2 : w.heap.size + 1 < V.heap.size := by rw [hV]; simp; omega
  have bxV := bxA.below hBV xz
  have e0 : _ = some (Value.int .i64 (k : Int)) := (bxV.c 0 (by decide)).1
  have e1 : _ = some (Value.int .i64 site) := (bxV.c 1 (by decide)).1
  have e2 : _ = some (Value.int .i64 to1) := (bxV.c 2 (by decide)).1
  have e3 : _ = some (Value.int .i64 label) := (bxV.c 3 (by decide)).1
  have e4 : _ = some (Value.int .i64 pick) := (bxV.c 4 (by decide)).1
  have e5 : _ = some (Value.slice ka kl kc) := (bxV.c 5 (by decide)).1
  have e6 : _ = some (Value.int .i64 c0) := (bxV.c 6 (by decide)).1
  have e7 : _ = some (Value.int .i64 c1) := (bxV.c 7 (by decide)).1
  have e8 : _ = some (Value.int .i64 c2) := (bxV.c 8 (by decide)).1
  have e9 : _ = some (Value.int .i64 c3) := (bxV.c 9 (by decide)).1
  have e10 : _ = some (Value.int .i64 c4) := (bxV.c 10 (by decide)).1
  have e11 : _ = some (Value.string line) := (bxV.c 11 (by decide)).1
  have hTA : Tab V 0 7 aHas := hA.below bV zhA
  have zhV : 0 < V.heap.size := Nat.lt_of_lt_of_le zhA bV.size
  have hKpV := hkp.below bV
  go_enter Tryd.func23, Tryd.ntmps23
  go_upto_region 1 with (fail)
  rw [← hV0]
  clear hV0
  go_upto_region 2 with (fail)
  rw [← hV]
  clear hV x0 xz cw0 zw0
  have f0 := hTA k 0 k9 (by decide)
  have f1 := hTA k 1 k9 (by decide)
  have f2 := hTA k 2 k9 (by decide)
  have f3 := hTA k 3 k9 (by decide)
  have f4 := hTA k 4 k9 (by decide)
  have f5 := hTA k 5 k9 (by decide)
  have f6 := hTA k 6 k9 (by decide)
  have EH := aHas_seven k k9
  have ECl := aHas_call k k9
  have EC8 := aHas_line k k9
  obtain ⟨h0, eh0⟩ : ∃ x, x = (aHas.getD k []).getD 0 false := ⟨_, rfl⟩
  obtain ⟨h1, eh1⟩ : ∃ x, x = (aHas.getD k []).getD 1 false := ⟨_, rfl⟩
  obtain ⟨h2, eh2⟩ : ∃ x, x = (aHas.getD k []).getD 2 false := ⟨_, rfl⟩
  obtain ⟨h3, eh3⟩ : ∃ x, x = (aHas.getD k []).getD 3 false := ⟨_, rfl⟩
  obtain ⟨h4, eh4⟩ : ∃ x, x = (aHas.getD k []).getD 4 false := ⟨_, rfl⟩
  obtain ⟨h5, eh5⟩ : ∃ x, x = (aHas.getD k []).getD 5 false := ⟨_, rfl⟩
  obtain ⟨h6, eh6⟩ : ∃ x, x = (aHas.getD k []).getD 6 false := ⟨_, rfl⟩
  rw [← eh5] at ECl
  have HE5 : Hid (h5 = decide ((k : Int) = 1)) := ECl
  rw [← eh6] at EC8
  have HE6 : Hid (h6 = decide ((k : Int) = 8)) := EC8
  clear ECl EC8
  rw [← eh0, ← eh1, ← eh2, ← eh3, ← eh4, ← eh5, ← eh6] at EH
  rw [← eh0] at f0
  rw [← eh1] at f1
  rw [← eh2] at f2
  rw [← eh3] at f3
  rw [← eh4] at f4
  rw [← eh5] at f5
  rw [← eh6] at f6
  clear eh0 eh1 eh2 eh3 eh4 eh5 eh6 hTA
  simp only [Nat.add_zero] at f0
  have HEH : Hid (aHas.getD k [] = [h0, h1, h2, h3, h4, h5, h6]) := EH
  clear EH
  have KV : Hid (∀ U : World, Below V.heap.size V U → (U.cell? ⟨w.heap.size, 0, none⟩ = some (.int .i64 (k : Int)) ∧ U.cell? ⟨w.heap.size, 1, none⟩ = some (.int .i64 site) ∧ U.cell? ⟨w.heap.size, 2, none⟩ = some (.int .i64 to1) ∧ U.cell? ⟨w.heap.size, 3, none⟩ = some (.int .i64 label) ∧ U.cell? ⟨w.heap.size, 4, none⟩ = some (.int .i64 pick) ∧ U.cell? ⟨w.heap.size, 5, none⟩ = some (.slice ka kl kc) ∧ U.cell? ⟨w.heap.size, 6, none⟩ = some (.int .i64 c0) ∧ U.cell? ⟨w.heap.size, 7, none⟩ = some (.int .i64 c1) ∧ U.cell? ⟨w.heap.size, 8, none⟩ = some (.int .i64 c2) ∧ U.cell? ⟨w.heap.size, 9, none⟩ = some (.int .i64 c3) ∧ U.cell? ⟨w.heap.size, 10, none⟩ = some (.int .i64 c4) ∧ U.cell? ⟨w.heap.size, 11, none⟩ = some (.string line)) ∧ U.cell? ⟨0, k * 7, none⟩ = some (.bool h0) ∧ U.cell? ⟨0, k * 7 + 1, none⟩ = some (.bool h1) ∧ U.cell? ⟨0, k * 7 + 2, none⟩ = some (.bool h2) ∧ U.cell? ⟨0, k * 7 + 3, none⟩ = some (.bool h3) ∧ U.cell? ⟨0, k * 7 + 4, none⟩ = some (.bool h4) ∧ U.cell? ⟨0, k * 7 + 5, none⟩ = some (.bool h5) ∧ U.cell? ⟨0, k * 7 + 6, none⟩ = some (.bool h6)) := fun U hU => ⟨⟨(hU.cell (p := ⟨w.heap.size, 0, none⟩) zV).trans e0, (hU.cell (p := ⟨w.heap.size, 1, none⟩) zV).trans e1, (hU.cell (p := ⟨w.heap.size, 2, none⟩) zV).trans e2, (hU.cell (p := ⟨w.heap.size, 3, none⟩) zV).trans e3, (hU.cell (p := ⟨w.heap.size, 4, none⟩) zV).trans e4, (hU.cell (p := ⟨w.heap.size, 5, none⟩) zV).trans e5, (hU.cell (p := ⟨w.heap.size, 6, none⟩) zV).trans e6, (hU.cell (p := ⟨w.heap.size, 7, none⟩) zV).trans e7, (hU.cell (p := ⟨w.heap.size, 8, none⟩) zV).trans e8, (hU.cell (p := ⟨w.heap.size, 9, none⟩) zV).trans e9, (hU.cell (p := ⟨w.heap.size, 10, none⟩) zV).trans e10, (hU.cell (p := ⟨w.heap.size, 11, none⟩) zV).trans e11⟩, (hU.cell (p := ⟨0, k * 7, none⟩) zhV).trans f0, (hU.cell (p := ⟨0, k * 7 + 1, none⟩) zhV).trans f1, (hU.cell (p := ⟨0, k * 7 + 2, none⟩) zhV).trans f2, (hU.cell (p := ⟨0, k * 7 + 3, none⟩) zhV).trans f3, (hU.cell (p := ⟨0, k * 7 + 4, none⟩) zhV).trans f4, (hU.cell (p := ⟨0, k * 7 + 5, none⟩) zhV).trans f5, (hU.cell (p := ⟨0, k * 7 + 6, none⟩) zhV).trans f6⟩
  clear e0 e1 e2 e3 e4 e5 e6 e7 e8 e9 e10 e11 f0 f1 f2 f3 f4 f5 f6
  go_cut [4, 5] (fun s6 s7 wc => ∃ b6 b7 : Nat, s6 = .pointer (some ⟨b6, 0, none⟩) ∧ s7 = .pointer (some ⟨b7, 0, none⟩) ∧ BoxN wc b6 7 [.bool h0, .bool h1, .bool h2, .bool h3, .bool h4, .bool h5, .bool h6] ∧ BoxN wc b7 7 [.int .i64 site, .int .i64 to1, .int .i64 label, .int .i64 pick, .int .i64 (kl : Int), .int .i64 B1, .int .i64 (line.size : Int)] ∧ Below V.heap.size V wc ∧ V.heap.size ≤ b6 ∧ V.heap.size ≤ b7)
  case first =>
    refine wp_region_inv (by kernel_rfl) [13, 14, 15, 16, 17, 18, 4, 5] (fun L T u => ∃ (b6 : Nat) (b7 : Nat), Below V.heap.size V u ∧ (L 0 = true → T 13 = .pointer (some ⟨w.heap.size, 0, none⟩)) ∧ (L 1 = true → T 14 = .int .i64 (k : Int)) ∧ (L 2 = true → T 15 = .pointer (some ⟨0, k * 7, none⟩)) ∧ (L 3 = true → T 16 = .agg #[.bool h0, .bool h1, .bool h2, .bool h3, .bool h4, .bool h5, .bool h6]) ∧ (L 4 = true → T 17 = .agg #[.int .i64 (k : Int), .int .i64 site, .int .i64 to1, .int .i64 label, .int .i64 pick, .slice ka kl kc, .int .i64 c0, .int .i64 c1, .int .i64 c2, .int .i64 c3, .int .i64 c4, .string line]) ∧ (L 5 = true → T 18 = .agg #[.int .i64 site, .int .i64 to1, .int .i64 label, .int .i64 pick, .int .i64 (kl : Int), .int .i64 B1, .int .i64 (line.size : Int)]) ∧ (L 6 = true → (T 4 = .pointer (some ⟨b6, 0, none⟩) ∧ V.heap.size ≤ b6 ∧ b6 < u.heap.size)) ∧ (L 7 = true → (T 5 = .pointer (some ⟨b7, 0, none⟩) ∧ V.heap.size ≤ b7 ∧ b7 < u.heap.size)) ∧ (L 6 = true → L 7 = true → b6 ≠ b7) ∧ (L 6 = true → L 8 = false → BoxN u b6 7 [.bool false, .bool false, .bool false, .bool false, .bool false, .bool false, .bool false]) ∧ (L 7 = true → L 9 = false → BoxN u b7 7 [.int .i64 0, .int .i64 0, .int .i64 0, .int .i64 0, .int .i64 0, .int .i64 0, .int .i64 0]) ∧ (L 8 = true → BoxN u b6 7 [.bool h0, .bool h1, .bool h2, .bool h3, .bool h4, .bool h5, .bool h6]) ∧ (L 9 = true → BoxN u b7 7 [.int .i64 site, .int .i64 to1, .int .i64 label, .int .i64 pick, .int .i64 (kl : Int), .int .i64 B1, .int .i64 (line.size : Int)])) (by decide) (by kernel_rfl) (by kernel_rfl) ?_ ?_ ?_
    · exact ⟨0, 0, (Below.refl _ _).drew, nofun, nofun, nofun, nofun, nofun, nofun, nofun, nofun, nofun, nofun, nofun, nofun, nofun⟩
    · refine ⟨?_, ?_, ?_, ?_, ?_, ?_, ?_, ?_, ?_, ?_, trivial⟩
      · rintro L T u hd hk hcl ⟨b6, b7, hb, p0, p1, p2, p3, p4, p5, p6, p7, ap, z6, z7, q6, q7⟩ K hK
        simp only [fr, Act.put, List.setIfInBounds_toArray, List.set_cons_zero, List.set_cons_succ, updO] at hK ⊢
        simp [Region.binds] at hd
        rw [if_pos (by rfl)]
        simp only [Oper.wpv]
        go_simp
        exact hK _ _ ⟨b6, b7, hb, fun _ => rfl, p1, p2, p3, p4, p5, p6, p7, ap, z6, z7, q6, q7⟩
      · rintro L T u hd hk hcl ⟨b6, b7, hb, p0, p1, p2, p3, p4, p5, p6, p7, ap, z6, z7, q6, q7⟩ K hK
        simp only [fr, Act.put, List.setIfInBounds_toArray, List.set_cons_zero, List.set_cons_succ, updO] at hK ⊢
        simp [Region.binds] at hd
        have g0 := p0 (by simp [hd])
        obtain ⟨⟨e0, e1, e2, e3, e4, e5, e6, e7, e8, e9, e10, e11⟩, f0, f1, f2, f3, f4, f5, f6⟩ := KV.out u hb
        rw [if_pos (by rfl)]
        simp only [Oper.wpv]
        go_simp
        exact hK _ _ ⟨b6, b7, hb, p0, fun _ => rfl, p2, p3, p4, p5, p6, p7, ap, z6, z7, q6, q7⟩
      · rintro L T u hd hk hcl ⟨b6, b7, hb, p0, p1, p2, p3, p4, p5, p6, p7, ap, z6, z7, q6, q7⟩ K hK
        simp only [fr, Act.put, List.setIfInBounds_toArray, List.set_cons_zero, List.set_cons_succ, updO] at hK ⊢
        simp [Region.binds] at hd
        have g0 := p1 (by simp [hd])
        have k0 : (0 : Int) ≤ (k : Int) := by omega
        rw [if_pos (by rfl)]
        simp only [Oper.wpv]
        go_simp
        exact hK _ _ ⟨b6, b7, hb, p0, p1, fun _ => rfl, p3, p4, p5, p6, p7, ap, z6, z7, q6, q7⟩
      · rintro L T u hd hk hcl ⟨b6, b7, hb, p0, p1, p2, p3, p4, p5, p6, p7, ap, z6, z7, q6, q7⟩ K hK
        simp only [fr, Act.put, List.setIfInBounds_toArray, List.set_cons_zero, List.set_cons_succ, updO] at hK ⊢
        simp [Region.binds] at hd
        have g0 := p2 (by simp [hd])
        obtain ⟨⟨e0, e1, e2, e3, e4, e5, e6, e7, e8, e9, e10, e11⟩, f0, f1, f2, f3, f4, f5, f6⟩ := KV.out u hb
        rw [if_pos (by rfl)]
        simp only [Oper.wpv]
        go_simp
        exact hK _ _ ⟨b6, b7, hb, p0, p1, p2, fun _ => rfl, p4, p5, p6, p7, ap, z6, z7, q6, q7⟩
      · rintro L T u hd hk hcl ⟨b6, b7, hb, p0, p1, p2, p3, p4, p5, p6, p7, ap, z6, z7, q6, q7⟩ K hK
        simp only [fr, Act.put, List.setIfInBounds_toArray, List.set_cons_zero, List.set_cons_succ, updO] at hK ⊢
        simp [Region.binds] at hd
        obtain ⟨⟨e0, e1, e2, e3, e4, e5, e6, e7, e8, e9, e10, e11⟩, f0, f1, f2, f3, f4, f5, f6⟩ := KV.out u hb
        rw [if_pos (by rfl)]
        simp only [Oper.wpv]
        go_simp
        exact hK _ _ ⟨b6, b7, hb, p0, p1, p2, p3, fun _ => rfl, p5, p6, p7, ap, z6, z7, q6, q7⟩
      · rintro L T u hd hk hcl ⟨b6, b7, hb, p0, p1, p2, p3, p4, p5, p6, p7, ap, z6, z7, q6, q7⟩ K hK
        simp only [fr, Act.put, List.setIfInBounds_toArray, List.set_cons_zero, List.set_cons_succ, updO] at hK ⊢
        simp [Region.binds] at hd
        have g0 := p4 (by simp [hd])
        rw [if_pos (by rfl)]
        simp only [Oper.wpv]
        go_simp
        refine (hAP _).mono ?_
        rintro e u1 ⟨rfl, hg⟩
        exact hK _ _ ⟨b6, b7, (nT hb hg), p0, p1, p2, p3, p4, fun _ => rfl, fun h0 => ⟨(p6 h0).1, (p6 h0).2.1, Nat.lt_of_lt_of_le (p6 h0).2.2 hg.size⟩, fun h0 => ⟨(p7 h0).1, (p7 h0).2.1, Nat.lt_of_lt_of_le (p7 h0).2.2 hg.size⟩, ap, fun h0 h1 => (z6 h0 h1).below hg (z6 h0 h1).lt, fun h0 h1 => (z7 h0 h1).below hg (z7 h0 h1).lt, fun h0 => (q6 h0).below hg (q6 h0).lt, fun h0 => (q7 h0).below hg (q7 h0).lt⟩
      · rintro L T u hd hk hcl ⟨b6, b7, hb, p0, p1, p2, p3, p4, p5, p6, p7, ap, z6, z7, q6, q7⟩ K hK
        simp only [fr, Act.put, List.setIfInBounds_toArray, List.set_cons_zero, List.set_cons_succ, updO] at hK ⊢
        simp [Region.binds] at hd
        have hg : Below u.heap.size u (u.alloc (.cells #[.bool false, .bool false, .bool false, .bool false, .bool false, .bool false, .bool false] 80)) := (Below.refl _ _).alloc (Nat.le_refl _) _
        have k8 := hcl 8 _ rfl
        simp [Region.binds] at k8
        rw [if_pos (by rfl)]
        simp only [Oper.wpv]
        go_simp
        exact hK _ _ ⟨u.heap.size, b7, (nT hb hg), p0, p1, p2, p3, p4, p5, fun _ => ⟨rfl, hb.size, by simp⟩, fun h0 => ⟨(p7 h0).1, (p7 h0).2.1, Nat.lt_of_lt_of_le (p7 h0).2.2 hg.size⟩, fun _ h1 => (Nat.ne_of_lt (p7 h1).2.2).symm, fun _ _ => boxn_new u #[.bool false, .bool false, .bool false, .bool false, .bool false, .bool false, .bool false] 80 7 rfl, fun h0 h1 => (z7 h0 h1).below hg (z7 h0 h1).lt, fun h => by have := k8 h; simp [hk] at this, fun h0 => (q7 h0).below hg (q7 h0).lt⟩
      · rintro L T u hd hk hcl ⟨b6, b7, hb, p0, p1, p2, p3, p4, p5, p6, p7, ap, z6, z7, q6, q7⟩ K hK
        simp only [fr, Act.put, List.setIfInBounds_toArray, List.set_cons_zero, List.set_cons_succ, updO] at hK ⊢
        simp [Region.binds] at hd
        have hg : Below u.heap.size u (u.alloc (.cells #[.int .i64 0, .int .i64 0, .int .i64 0, .int .i64 0, .int .i64 0, .int .i64 0, .int .i64 0] 82)) := (Below.refl _ _).alloc (Nat.le_refl _) _
        have k9c := hcl 9 _ rfl
        simp [Region.binds] at k9c
        rw [if_pos (by rfl)]
        simp only [Oper.wpv]
        go_simp
        exact hK _ _ ⟨b6, u.heap.size, (nT hb hg), p0, p1, p2, p3, p4, p5, fun h0 => ⟨(p6 h0).1, (p6 h0).2.1, Nat.lt_of_lt_of_le (p6 h0).2.2 hg.size⟩, fun _ => ⟨rfl, hb.size, by simp⟩, fun h0 _ => Nat.ne_of_lt (p6 h0).2.2, fun h0 h1 => (z6 h0 h1).below hg (z6 h0 h1).lt, fun _ _ => boxn_new u #[.int .i64 0, .int .i64 0, .int .i64 0, .int .i64 0, .int .i64 0, .int .i64 0, .int .i64 0] 82 7 rfl, fun h0 => (q6 h0).below hg (q6 h0).lt, fun h => by have := k9c h; simp [hk] at this⟩
      · rintro L T u hd hk hcl ⟨b6, b7, hb, p0, p1, p2, p3, p4, p5, p6, p7, ap, z6, z7, q6, q7⟩ K hK
        simp only [fr, Act.put, List.setIfInBounds_toArray, List.set_cons_zero, List.set_cons_succ, updO] at hK ⊢
        simp [Region.binds] at hd
        have g3 := p3 (by simp [hd])
        obtain ⟨g0, l0, l1⟩ := p6 (by simp [hd])
        have bx := z6 (by simp [hd]) hk
        have x0 : _ = some _ := (bx.c 0 (by decide)).1
        have y0 := (bx.c 0 (by decide)).2
        have x1 : _ = some _ := (bx.c 1 (by decide)).1
        have y1 := (bx.c 1 (by decide)).2
        have x2 : _ = some _ := (bx.c 2 (by decide)).1
        have y2 := (bx.c 2 (by decide)).2
        have x3 : _ = some _ := (bx.c 3 (by decide)).1
        have y3 := (bx.c 3 (by decide)).2
        have x4 : _ = some _ := (bx.c 4 (by decide)).1
        have y4 := (bx.c 4 (by decide)).2
        have x5 : _ = some _ := (bx.c 5 (by decide)).1
        have y5 := (bx.c 5 (by decide)).2
        have x6 : _ = some _ := (bx.c 6 (by decide)).1
        have y6 := (bx.c 6 (by decide)).2
        simp only [List.getD_cons_zero, List.getD_cons_succ] at x0 x1 x2 x3 x4 x5 x6
        have k9c := hcl 9 _ rfl
        simp [Region.binds] at k9c
        rw [if_pos (by rfl)]
        simp only [Oper.wpv]
        go_simp
        exact hK _ _ ⟨b6, b7, (nS (nS (nS (nS (nS (nS (nS hb l0 _) l0 _) l0 _) l0 _) l0 _) l0 _) l0 _), p0, p1, p2, p3, p4, p5, fun h0 => ⟨(p6 h0).1, (p6 h0).2.1, by simpa using (p6 h0).2.2⟩, fun h0 => ⟨(p7 h0).1, (p7 h0).2.1, by simpa using (p7 h0).2.2⟩, ap, fun _ h => Bool.noConfusion (show true = false from h), fun h0 h1 => ((((((((z7 h0 h1).far (Ne.symm (ap (by simp [hd]) h0))).far (Ne.symm (ap (by simp [hd]) h0))).far (Ne.symm (ap (by simp [hd]) h0))).far (Ne.symm (ap (by simp [hd]) h0))).far (Ne.symm (ap (by simp [hd]) h0))).far (Ne.symm (ap (by simp [hd]) h0))).far (Ne.symm (ap (by simp [hd]) h0))), fun _ => (((((((bx.set 0 (by decide) (.bool h0)).set 1 (by decide) (.bool h1)).set 2 (by decide) (.bool h2)).set 3 (by decide) (.bool h3)).set 4 (by decide) (.bool h4)).set 5 (by decide) (.bool h5)).set 6 (by decide) (.bool h6)), fun h0 => ((((((((q7 h0).far (Ne.symm (ap (by simp [hd]) (by simp [k9c h0])))).far (Ne.symm (ap (by simp [hd]) (by simp [k9c h0])))).far (Ne.symm (ap (by simp [hd]) (by simp [k9c h0])))).far (Ne.symm (ap (by simp [hd]) (by simp [k9c h0])))).far (Ne.symm (ap (by simp [hd]) (by simp [k9c h0])))).far (Ne.symm (ap (by simp [hd]) (by simp [k9c h0])))).far (Ne.symm (ap (by simp [hd]) (by simp [k9c h0]))))⟩
      · rintro L T u hd hk hcl ⟨b6, b7, hb, p0, p1, p2, p3, p4, p5, p6, p7, ap, z6, z7, q6, q7⟩ K hK
        simp only [fr, Act.put, List.setIfInBounds_toArray, List.set_cons_zero, List.set_cons_succ, updO] at hK ⊢
        simp [Region.binds] at hd
        have g3 := p5 (by simp [hd])
        obtain ⟨g0, l0, l1⟩ := p7 (by simp [hd])
        have bx := z7 (by simp [hd]) hk
        have x0 : _ = some _ := (bx.c 0 (by decide)).1
        have y0 := (bx.c 0 (by decide)).2
        have x1 : _ = some _ := (bx.c 1 (by decide)).1
        have y1 := (bx.c 1 (by decide)).2
        have x2 : _ = some _ := (bx.c 2 (by decide)).1
        have y2 := (bx.c 2 (by decide)).2
        have x3 : _ = some _ := (bx.c 3 (by decide)).1
        have y3 := (bx.c 3 (by decide)).2
        have x4 : _ = some _ := (bx.c 4 (by decide)).1
        have y4 := (bx.c 4 (by decide)).2
        have x5 : _ = some _ := (bx.c 5 (by decide)).1
        have y5 := (bx.c 5 (by decide)).2
        have x6 : _ = some _ := (bx.c 6 (by decide)).1
        have y6 := (bx.c 6 (by decide)).2
        simp only [List.getD_cons_zero, List.getD_cons_succ] at x0 x1 x2 x3 x4 x5 x6
        have k8 := hcl 8 _ rfl
        simp [Region.binds] at k8
        rw [if_pos (by rfl)]
        simp only [Oper.wpv]
        go_simp
        exact hK _ _ ⟨b6, b7, (nS (nS (nS (nS (nS (nS (nS hb l0 _) l0 _) l0 _) l0 _) l0 _) l0 _) l0 _), p0, p1, p2, p3, p4, p5, fun h0 => ⟨(p6 h0).1, (p6 h0).2.1, by simpa using (p6 h0).2.2⟩, fun h0 => ⟨(p7 h0).1, (p7 h0).2.1, by simpa using (p7 h0).2.2⟩, ap, fun h0 h1 => ((((((((z6 h0 h1).far (ap h0 (by simp [hd]))).far (ap h0 (by simp [hd]))).far (ap h0 (by simp [hd]))).far (ap h0 (by simp [hd]))).far (ap h0 (by simp [hd]))).far (ap h0 (by simp [hd]))).far (ap h0 (by simp [hd]))), fun _ h => Bool.noConfusion (show true = false from h), fun h0 => ((((((((q6 h0).far (ap (by simp [k8 h0]) (by simp [hd]))).far (ap (by simp [k8 h0]) (by simp [hd]))).far (ap (by simp [k8 h0]) (by simp [hd]))).far (ap (by simp [k8 h0]) (by simp [hd]))).far (ap (by simp [k8 h0]) (by simp [hd]))).far (ap (by simp [k8 h0]) (by simp [hd]))).far (ap (by simp [k8 h0]) (by simp [hd]))), fun _ => (((((((bx.set 0 (by decide) (.int .i64 site)).set 1 (by decide) (.int .i64 to1)).set 2 (by decide) (.int .i64 label)).set 3 (by decide) (.int .i64 pick)).set 4 (by decide) (.int .i64 (kl : Int))).set 5 (by decide) (.int .i64 B1)).set 6 (by decide) (.int .i64 (line.size : Int)))⟩
    · rintro L T u hl ⟨b6, b7, hb, p0, p1, p2, p3, p4, p5, p6, p7, ap, z6, z7, q6, q7⟩
      simp only [fr, Act.put, List.setIfInBounds_toArray, List.set_cons_zero, List.set_cons_succ]
      obtain ⟨g6, l6, _⟩ := p6 (hl 6 (by decide))
      obtain ⟨g7, l7, _⟩ := p7 (hl 7 (by decide))
      have bx6 := q6 (hl 8 (by decide))
      have bx7 := q7 (hl 9 (by decide))
      have HE : Hid (T 4 = .pointer (some ⟨b6, 0, none⟩) ∧ T 5 = .pointer (some ⟨b7, 0, none⟩)) := ⟨g6, g7⟩
      clear g6 g7 p0 p1 p2 p3 p4 p5 p6 p7 ap z6 z7 q6 q7
      go_wp2_with fail
      go_meet
      case rel => exact ⟨b6, b7, HE.out.1, HE.out.2, bx6, bx7, hb, l6, l7⟩
  case rest =>
    obtain ⟨b6, b7, rfl, rfl, bx6, bx7, bX, l6, l7⟩ := hcut
    obtain ⟨X, eX⟩ : ∃ X, X = wc := ⟨_, rfl⟩
    rw [← eX] at bx6 bx7 bX ⊢
    clear eX
    have bVX : Below w.heap.size w X := bV.trans (bX.mono bV.size)
    have hN7 := Nms.of (ps := [site, to1, label, pick, (kl : Int), B1, (line.size : Int)]) bx7
    have hB6 := Bools.of (hs := [h0, h1, h2, h3, h4, h5, h6]) bx6
    have oX : X.ownsRow w.heap.size 9 1 (.slice (some ⟨w.heap.size + 1, 0, none⟩) 1 1) 1 (flat stC [W1]) := own_below oV bX
    obtain ⟨v1, ev1⟩ : ∃ v, v = Value.slice (some ⟨w.heap.size + 1, 0, none⟩) 1 1 := ⟨_, rfl⟩
    have EV : Hid (v1 = Value.slice (some ⟨w.heap.size + 1, 0, none⟩) 1 1) := ev1
    have hown1 : v1.ownBlock = some (w.heap.size + 1) := by rw [ev1]; rfl
    have zX : V.heap.size ≤ X.heap.size := bX.size
    have HB : Hid (∀ U v, Gr X U v1 v → Below w.heap.size w U) := fun U v hG => bVX.trans (hG.bel w.heap.size bVX.size (fun g e => by rw [hown1] at e; cases e; omega))
    have HC : Hid (∀ U v (q i : Nat), Gr X U v1 v → q < X.heap.size → q ≠ w.heap.size + 1 → U.cell? ⟨q, i, none⟩ = X.cell? ⟨q, i, none⟩) := fun U v q i hG hq hne => hG.cell (p := ⟨q, i, none⟩) hq (fun e => by rw [hown1] at e; cases e; exact hne rfl)
    have n6 : b6 ≠ w.heap.size + 1 := by omega
    have n7 : b7 ≠ w.heap.size + 1 := by omega
    have HKp : Hid (∀ U v, Gr X U v1 v → IsInts U ka kl kc keep) := fun U v hG => hkp.below (HB.out U v hG)
    have HA5 : Hid (∀ U v, Gr X U v1 v → U.cell? ⟨b6, 5, none⟩ = some (.bool h5) ∧ U.cell? ⟨b6, 6, none⟩ = some (.bool h6) ∧ b6 < U.heap.size) := fun U v hG => ⟨(HC.out U v b6 5 hG hB6.1 n6).trans (hB6.2 5 (by simp)), (HC.out U v b6 6 hG hB6.1 n6).trans (hB6.2 6 (by simp)), Nat.lt_of_lt_of_le hB6.1 hG.size⟩
    have HAct : Hid (∀ U v, Gr X U v1 v → U.cell? ⟨w.heap.size, 5, none⟩ = some (.slice ka kl kc) ∧ U.cell? ⟨w.heap.size, 6, none⟩ = some (.int .i64 c0) ∧ U.cell? ⟨w.heap.size, 7, none⟩ = some (.int .i64 c1) ∧ U.cell? ⟨w.heap.size, 8, none⟩ = some (.int .i64 c2) ∧ U.cell? ⟨w.heap.size, 9, none⟩ = some (.int .i64 c3) ∧ U.cell? ⟨w.heap.size, 10, none⟩ = some (.int .i64 c4) ∧ U.cell? ⟨w.heap.size, 11, none⟩ = some (.string line) ∧ w.heap.size < U.heap.size) := fun U v hG => by
      have hx := bxV.below bX bxV.lt
      have f := fun i => HC.out U v w.heap.size i hG hx.lt (by omega)
      exact ⟨(f 5).trans (hx.c 5 (by decide)).1, (f 6).trans (hx.c 6 (by decide)).1, (f 7).trans (hx.c 7 (by decide)).1, (f 8).trans (hx.c 8 (by decide)).1, (f 9).trans (hx.c 9 (by decide)).1, (f 10).trans (hx.c 10 (by decide)).1, (f 11).trans (hx.c 11 (by decide)).1, Nat.lt_of_lt_of_le hx.lt hG.size⟩
    have HTa : Hid (∀ U, Below w.heap.size w U → Lib.TabIs Tryd.prog U "internal/strconv.uint64pow10" .u64 Lib.pow10Tab) := hT
    have HTc : Hid (∀ U, Below w.heap.size w U → Tab U 2 4 cHas ∧ WTab U 4 6 cWord) := fun U hU => ⟨hh.below hU zhC, hcw.below hU hcw.1⟩
    have zcw := hcw.1
    have HR2 : Hid (R = ([W1] ++ numsW [h0, h1, h2, h3] [site, to1, label, pick]) ++ keep.map wNum ++ (if (k : Int) = 1 then callW c0 c1 c2 c3 c4 else []) ++ (if (k : Int) = 8 then [txtW line] else [])) := by show _ = _; rw [HR.out, HEH.out]; rfl
    have HN : Hid (∀ U, Below X.heap.size X U → Calls Tryd.prog 45 #[v1, .slice (some ⟨b6, 0, none⟩) 4 7, .slice (some ⟨b7, 0, none⟩) 4 7] U fun e w' => WordsTo w.heap.size U w' e v1 ([W1] ++ numsW [h0, h1, h2, h3] [site, to1, label, pick])) := fun U hU => by
      have hG : Gr X U v1 v1 := Gr.below hU
      have hBU := HB.out U v1 hG
      rw [ev1]
      refine appendNumbers_any w.heap.size (some ⟨w.heap.size + 1, 0, none⟩) 1 [W1] b6 0 4 7 b7 0 4 7 [h0, h1, h2, h3] [site, to1, label, pick] U hBU.size (own_below oX hU) (by simp) (by omega) (by omega) rfl rfl (fun i hi4 => by
          rcases (by omega : i = 0 ∨ i = 1 ∨ i = 2 ∨ i = 3) with rfl | rfl | rfl | rfl
          · exact hi.1
          · exact hi.2.1
          · exact hi.2.2.1
          · exact hi.2.2.2) (Nat.lt_of_lt_of_le hB6.1 hU.size) (Nat.lt_of_lt_of_le hN7.1 hU.size) (fun e => n6 (Option.some.inj (show some (w.heap.size + 1) = some b6 from e)).symm) (fun e => n7 (Option.some.inj (show some (w.heap.size + 1) = some b7 from e)).symm) (fun i hi4 => by
          rw [Nat.zero_add]
          refine (hU.cell (p := ⟨b6, i, none⟩) hB6.1).trans ((hB6.2 i (by simp; omega)).trans ?_)
          rcases (by omega : i = 0 ∨ i = 1 ∨ i = 2 ∨ i = 3) with rfl | rfl | rfl | rfl <;> rfl) (fun i hi4 => by
          rw [Nat.zero_add]
          refine (hU.cell (p := ⟨b7, i, none⟩) hN7.1).trans ((hN7.2 i (by simp; omega)).trans ?_)
          rcases (by omega : i = 0 ∨ i = 1 ∨ i = 2 ∨ i = 3) with rfl | rfl | rfl | rfl <;> rfl) (fun Z hZ => hT Z (hBU.trans hZ))
    have HNl : Hid (([W1] ++ numsW [h0, h1, h2, h3] [site, to1, label, pick]).length ≤ 5) := by
      show _ ≤ _
      have := numsW_len [h0, h1, h2, h3] [site, to1, label, pick]
      simp only [List.length_append, List.length_cons, List.length_nil] at this ⊢
      omega
    obtain ⟨us0, eus⟩ : ∃ x, x = [W1] ++ numsW [h0, h1, h2, h3] [site, to1, label, pick] := ⟨_, rfl⟩
    rw [← eus] at HR2 HN HNl
    rw [← ev1]
    have HKl : Hid (keep.length = kl) := hkp.1
    have Hic : Hid (i64n c1 ∧ i64n c2 ∧ i64n c3 ∧ i64n c4) := hic
    clear hT hA haw hh hcw eus ev1 HR HEH hkp hKpV bx6 bx7 hN7 hB6 oX oV bxA bxV bX bVX bV hBV hB0 cw zw zhV zhA zV zV0 zV2 l6 l7 hown1 hAP hi hic KV
    go_upto_region 3 with (fail)
    refine wp_region_inv (by kernel_rfl) [19, 20, 21, 22, 3] (fun L T u => ∃ (a7 : Option Addr) (c7 : Nat), True ∧ (L 0 = true → T 19 = v1) ∧ (L 1 = true → T 20 = .slice (some ⟨b6, 0, none⟩) 4 7) ∧ (L 2 = true → T 21 = .slice (some ⟨b7, 0, none⟩) 4 7) ∧ (L 3 = true → T 22 = .slice a7 us0.length c7) ∧ (L 4 = true → T 3 = .slice a7 us0.length c7) ∧ (L 4 = false → T 3 = v1) ∧ (L 3 = false → Below X.heap.size X u) ∧ (L 3 = true → (u.ownsRow w.heap.size 9 1 (.slice a7 us0.length c7) us0.length (flat stC us0) ∧ Gr X u v1 (.slice a7 us0.length c7)))) (by decide) (by kernel_rfl) (by kernel_rfl) ?_ ?_ ?_
    · exact ⟨none, 0, trivial, nofun, nofun, nofun, nofun, nofun, fun _ => rfl, fun _ => (Below.refl _ _).drew, nofun⟩
    · refine ⟨?_, ?_, ?_, ?_, ?_, trivial⟩
      · rintro L T u hd hk hcl ⟨a7, c7, hb, f0, f1, f2, f3, f4, q3, s0, s2⟩ K hK
        simp only [fr, Act.put, List.setIfInBounds_toArray, List.set_cons_zero, List.set_cons_succ, updO] at hK ⊢
        simp [Region.binds] at hd
        have k3 := hcl 3 _ rfl
        simp [Region.binds] at k3
        have k4 := hcl 4 _ rfl
        simp [Region.binds] at k4
        have hF : L 4 = false := by cases h : L 4 with | false => rfl | true => have b4 := k4 h; have b3 := k3 (by simp [b4]); simp [hk] at b3
        have g3 := q3 hF
        rw [if_pos (by rfl)]
        simp only [Oper.wpv]
        go_simp
        exact hK _ _ ⟨a7, c7, hb, fun _ => rfl, f1, f2, f3, f4, q3, s0, s2⟩
      · rintro L T u hd hk hcl ⟨a7, c7, hb, f0, f1, f2, f3, f4, q3, s0, s2⟩ K hK
        simp only [fr, Act.put, List.setIfInBounds_toArray, List.set_cons_zero, List.set_cons_succ, updO] at hK ⊢
        simp [Region.binds] at hd
        rw [if_pos (by rfl)]
        simp only [Oper.wpv]
        go_simp
        exact hK _ _ ⟨a7, c7, hb, f0, fun _ => rfl, f2, f3, f4, q3, s0, s2⟩
      · rintro L T u hd hk hcl ⟨a7, c7, hb, f0, f1, f2, f3, f4, q3, s0, s2⟩ K hK
        simp only [fr, Act.put, List.setIfInBounds_toArray, List.set_cons_zero, List.set_cons_succ, updO] at hK ⊢
        simp [Region.binds] at hd
        rw [if_pos (by rfl)]
        simp only [Oper.wpv]
        go_simp
        exact hK _ _ ⟨a7, c7, hb, f0, f1, fun _ => rfl, f3, f4, q3, s0, s2⟩
      · rintro L T u hd hk hcl ⟨a7, c7, hb, f0, f1, f2, f3, f4, q3, s0, s2⟩ K hK
        simp only [fr, Act.put, List.setIfInBounds_toArray, List.set_cons_zero, List.set_cons_succ, updO] at hK ⊢
        simp [Region.binds] at hd
        have g0 := f0 (by simp [hd])
        have g1 := f1 (by simp [hd])
        have g2 := f2 (by simp [hd])
        have w0 := s0 hk
        have k4 := hcl 4 _ rfl
        simp [Region.binds] at k4
        rw [if_pos (by rfl)]
        simp only [Oper.wpv]
        go_simp
        refine (HN.out u w0).mono ?_
        rintro e u3 ⟨a8, c8, rfl, own8, gr8⟩
        exact hK _ _ ⟨a8, c8, trivial, f0, f1, f2, fun _ => rfl, fun h => absurd (show L 4 = true from h) (by intro hh; have := k4 hh; simp [hk] at this), q3, fun h => Bool.noConfusion (show true = false from h), fun _ => ⟨own8, (Gr.below w0).trans gr8⟩⟩
      · rintro L T u hd hk hcl ⟨a7, c7, hb, f0, f1, f2, f3, f4, q3, s0, s2⟩ K hK
        simp only [fr, Act.put, List.setIfInBounds_toArray, List.set_cons_zero, List.set_cons_succ, updO] at hK ⊢
        simp [Region.binds] at hd
        have g3 := f3 (by simp [hd])
        rw [if_pos (by rfl)]
        simp only [Oper.wpv]
        go_simp
        exact hK _ _ ⟨a7, c7, hb, f0, f1, f2, f3, fun _ => rfl, fun h => Bool.noConfusion (show true = false from h), s0, s2⟩
    · rintro L T u hl ⟨a7, c7, hb, f0, f1, f2, f3, f4, q3, s0, s2⟩
      simp only [fr, Act.put, List.setIfInBounds_toArray, List.set_cons_zero, List.set_cons_succ]
      have h3 := f4 (hl 4 (by decide))
      obtain ⟨o4, g4⟩ := s2 (hl 3 (by decide))
      clear f0 f1 f2 f3 f4 q3 s0 s2 HN
      rw [h3]
      clear h3
      have hKl := HKl.out
      have hN5 := HNl.out
      have HT0 : Hid (R = us0 ++ (keep.drop 0).map wNum ++ ((if (k : Int) = 1 then callW c0 c1 c2 c3 c4 else []) ++ (if (k : Int) = 8 then [txtW line] else []))) := by show _ = _; rw [HR2.out]; simp only [List.append_assoc, List.drop_zero]
      obtain ⟨TL, eTL⟩ : ∃ x, x = (if (k : Int) = 1 then callW c0 c1 c2 c3 c4 else []) ++ (if (k : Int) = 8 then [txtW line] else []) := ⟨_, rfl⟩
      have HTL : Hid (TL = (if (k : Int) = 1 then callW c0 c1 c2 c3 c4 else []) ++ (if (k : Int) = 8 then [txtW line] else [])) := eTL
      rw [← eTL] at HT0
      clear eTL HR2 HNl
      obtain ⟨x5, x6, x7, x8, x9, x10, x11, zx⟩ := HAct.out _ _ g4
      go_wp2
      clear x5 x6 x7 x8 x9 x10 x11 zx
      go_loopw [3, 26] (fun s3 s26 wr => ∃ (j : Nat) (a : Option Addr) (c : Nat) (us : List ByteArray), s3 = .slice a us.length c ∧ s26 = .int .i64 (j : Int) ∧ j ≤ kl ∧ us.length ≤ 5 + j ∧ wr.ownsRow w.heap.size 9 1 (.slice a us.length c) us.length (flat stC us) ∧ Gr X wr v1 (.slice a us.length c) ∧ Hid (R = us ++ (keep.drop j).map wNum ++ TL)) (fun _ s26 _ => kl - (intOf s26).toNat)
      case atStart => exact ⟨0, a7, c7, us0, rfl, rfl, by omega, by omega, o4, g4, HT0⟩
      case round =>
        clear o4 g4 HT0 hN5
        obtain ⟨j, a, c, us, rfl, rfl, hj, hul, hO, hG, hT⟩ := hrel
        obtain ⟨wo, ewo⟩ : ∃ X : World, X = wr := ⟨_, rfl⟩
        subst ewo
        have hbw := HB.out wo _ hG
        by_cases hlt : j < kl
        · have hlt' : (j : Int) < (kl : Int) := by omega
          have HJ : Hid (j + 1 ≤ kl) := hlt
          have hKi := HKp.out wo _ hG
          obtain ⟨bk, ok, rfl, zk, ck⟩ := hKi.2.2.2.2 (by omega)
          have c5 := ck j hlt
          have hrange := hKi.2.2.2.1 j
          have hT2 : Hid (R = (us ++ [wNum (keep.getD j 0)]) ++ (keep.drop (j + 1)).map wNum ++ TL) := by
            show _ = _
            rw [hT.out, List.drop_eq_getElem_cons (by omega : j < keep.length)]
            have : keep.getD j 0 = keep[j]'(by omega) := by simp [List.getD, show j < keep.length by omega]
            rw [this]
            simp only [List.map_cons, List.append_assoc, List.cons_append, List.nil_append]
          have hIt := itoa_gr (n := keep.getD j 0) hrange wo (HTa.out wo hbw)
          obtain ⟨P, eP⟩ : ∃ x, x = keep.getD j 0 := ⟨_, rfl⟩
          rw [← eP] at c5 hT2 hIt
          clear eP ck hKi hrange hT
          have HF : Hid (∀ (u1 w5 : World) (a5 : Option Addr) (c5 : Nat), Below wo.heap.size wo u1 → (u1.alloc (.cells #[.string (wNum P)] 9)).grownBy w5 (Value.slice a us.length c).ownBlock → ((Value.slice a5 (us.length + 1) c5).ownBlock = (Value.slice a us.length c).ownBlock ∨ (Value.slice a5 (us.length + 1) c5).ownBlock = some (u1.alloc (.cells #[.string (wNum P)] 9)).heap.size) → Gr X w5 v1 (.slice a5 (us.length + 1) c5)) := fun u1 w5 a5 c5 h8 h9 h10 =>
            (hG.trans ((Gr.below h8).trans (Gr.below ((Below.refl _ _).alloc (Nat.le_refl _) _)))).trans (Gr.grown h9 h10)
          obtain ⟨WP, eWP⟩ : ∃ x, x = wNum P := ⟨_, rfl⟩
          rw [← eWP] at hIt hT2 HF
          have hwsz := hbw.size
          clear eWP
          go_upto_region 7 with (fail)
          go_wp2_with (first | (go_at_call 46; refine hIt.mono ?_; rintro e u1 ⟨rfl, bu1⟩) | (at_builtin; go_loud (refine St.wpList_append_row ES (by rfl) _ _ (by rfl) w.heap.size (.slice a us.length c) us.length us (by rfl) (own_below (own_below hO bu1) ((Below.refl _ _).alloc (Nat.le_refl _) _)) _ 1 1 [WP] (by rfl) (words1 u1 WP _ rfl) (by unfold maxLen; omega) (by omega) (by have := bu1.size; simp; omega) ?_; intro a5 c5 w5 own5 gr5 at5; have hG5 := HF.out u1 w5 a5 c5 bu1 gr5 at5)))
          go_roundw
          case rel => exact ⟨j + 1, a5, c5, us ++ [WP], by rw [List.length_append]; rfl, by go_num, HJ.out, by rw [List.length_append, List.length_singleton]; omega, by rw [List.length_append]; exact own5, by rw [List.length_append]; exact hG5, hT2⟩
          case measure => have := HJ.out; simp [intOf]; omega
        · obtain rfl : j = kl := by omega
          have hnl : ¬ ((j : Int) < (j : Int)) := by omega
          have HE : Hid (R = us ++ TL) := by
            show _ = _
            rw [hT.out, List.drop_of_length_le (by omega)]
            simp
          obtain ⟨y5, y6, yz⟩ := HA5.out wo _ hG
          obtain ⟨x5, x6, x7, x8, x9, x10, x11, zx⟩ := HAct.out wo _ hG
          have hwsz := hbw.size
          clear hT
          by_cases k1 : k = 1
          · subst k1
            have e5 : h5 = true := HE5.out
            have e6 : h6 = false := HE6.out
            subst e5 e6
            obtain ⟨z0, z1⟩ := hc0 rfl
            obtain ⟨kc0, rfl⟩ : ∃ n : Nat, c0 = n := ⟨c0.toNat, by omega⟩
            have HE2 : Hid (R = us ++ callW kc0 c1 c2 c3 c4) := by show _ = _; rw [HE.out, HTL.out]; simp
            obtain ⟨i1, i2, i3, i4⟩ := Hic.out
            obtain ⟨t1, t2⟩ := HTc.out wo hbw
            have hCall := appendCall_any w.heap.size a c us kc0 c1 c2 c3 c4 wo hwsz (by omega) hO (by omega) i1 i2 i3 i4 (fun Z hZ => HTa.out Z (hbw.trans hZ)) t1 t2 zhC zcw
            clear HE HTL
            go_upto_region 11 with (go_at_call 47; refine hCall.mono ?_; rintro e w5 ⟨a5, c5, rfl, own5, gr5⟩)
            have hG5 := hG.trans gr5
            obtain ⟨-, y6', yz'⟩ := HA5.out w5 _ hG5
            have hb5 := HB.out w5 _ hG5
            clear y5 y6 yz x5 x6 x7 x8 x9 x10 x11 zx hCall
            go_wp2
            go_ret
            refine ⟨a5, _, c5, rfl, ?_, hb5⟩
            rw [HE2.out]
            have h9 := (own_isRow st_len own5 rfl).1
            rw [List.length_append] at h9
            exact h9
          · have k1' : ¬ (k : Int) = 1 := by omega
            have e5 : h5 = false := by rw [HE5.out]; simpa using k1'
            subst e5
            by_cases k8 : k = 8
            · subst k8
              have e6 : h6 = true := HE6.out
              subst e6
              obtain ⟨TW, eTW⟩ : ∃ x, x = txtW line := ⟨_, rfl⟩
              have hTx := textAsWord_any line wo hln
              have HE2 : Hid (R = us ++ [TW]) := by show _ = _; rw [HE.out, HTL.out, eTW]; simp
              rw [← eTW] at hTx
              have HF : Hid (∀ (u1 w5 : World) (a5 : Option Addr) (c5 : Nat), Below wo.heap.size wo u1 → (u1.alloc (.cells #[.string TW] 9)).grownBy w5 (Value.slice a us.length c).ownBlock → ((Value.slice a5 (us.length + 1) c5).ownBlock = (Value.slice a us.length c).ownBlock ∨ (Value.slice a5 (us.length + 1) c5).ownBlock = some (u1.alloc (.cells #[.string TW] 9)).heap.size) → Gr X w5 v1 (.slice a5 (us.length + 1) c5)) := fun u1 w5 a5 c5 h8 h9 h10 =>
                (hG.trans ((Gr.below h8).trans (Gr.below ((Below.refl _ _).alloc (Nat.le_refl _) _)))).trans (Gr.grown h9 h10)
              clear eTW HE HTL
              go_upto_region 12 with (fail)
              go_wp2_with (first | (go_at_call 48; refine hTx.mono ?_; rintro e u1 ⟨rfl, bu1⟩) | (at_builtin; go_loud (refine St.wpList_append_row ES (by rfl) _ _ (by rfl) w.heap.size (.slice a us.length c) us.length us (by rfl) (own_below (own_below hO bu1) ((Below.refl _ _).alloc (Nat.le_refl _) _)) _ 1 1 [TW] (by rfl) (words1 u1 TW _ rfl) (by unfold maxLen; omega) (by omega) (by have := bu1.size; simp; omega) ?_; intro a5 c5 w5 own5 gr5 at5; have hG5 := HF.out u1 w5 a5 c5 bu1 gr5 at5)))
              have hb5 := HB.out w5 _ hG5
              go_ret
              refine ⟨a5, _, c5, rfl, ?_, hb5⟩
              rw [HE2.out]
              exact (own_isRow st_len own5 (by simp)).1
            · have k8' : ¬ (k : Int) = 8 := by omega
              have e6 : h6 = false := by rw [HE6.out]; simpa using k8'
              subst e6
              have HE2 : Hid (R = us) := by show _ = _; rw [HE.out, HTL.out, if_neg k1', if_neg k8']; simp
              clear HE HTL
              go_wp2
              go_ret
              refine ⟨a, _, c, rfl, ?_, hbw⟩
              rw [HE2.out]
              exact (own_isRow st_len hO rfl).1
end Go.Proofs.YtlaagfnoepcnlaaDoor.Ln
/- strings.Builder: what is written goes in behind; what else is there stays. -/
namespace Go.Proofs.YtlaagfnoepcnlaaDoor.Cn
open Go.ChangeShapes Go.WideShapes Go.ChangeAt Go.RowKit
open Go.Proofs.YtlaagfnoepcnlaaDoor.St (BoxN boxn_new)
set_option linter.unusedVariables false

/-- A builder in block b that holds these bytes. -/
def Bld (B b : Nat) (l : List UInt8) (w : World) : Prop := Lib.IsBuilderF 54 5 B b (Lib.byteCells l) w
def Kept (b : Nat) (w w' : World) : Prop := Lib.OthersKept 5 (some b) w w'
theorem str_cells (s : ByteArray) : Lib.strCells s = Lib.byteCells s.data.toList := by
  unfold Lib.strCells Lib.byteCells
  simp
theorem cells_app (l m : List UInt8) : Lib.byteCells l ++ Lib.byteCells m = Lib.byteCells (l ++ m) := by
  unfold Lib.byteCells
  simp
theorem cells_len (l : List UInt8) : (Lib.byteCells l).length = l.length := by
  unfold Lib.byteCells
  simp
theorem write_any (B b : Nat) (l : List UInt8) (s : ByteArray) (w : World) (h : Bld B b l w) (hlen : l.length + s.size ≤ 140737488355328) (hBw : B ≤ w.heap.size) :
    Calls Tryd.prog 21 #[.pointer (some ⟨b, 0, none⟩), .string s] w fun e w' => e = .returned (.tuple #[.int .i64 s.size, .nilIface]) ∧ Bld B b (l ++ s.data.toList) w' ∧ Below B w w' ∧ Kept b w w' := by
  refine (Any.Builder_WriteString_k (ρ := Tryd.lays156_ren) { Tryd.lays156 with } Tryd.Builder_Extra_156 B b (Lib.byteCells l) s w h (by rw [cells_len]; exact hlen) hBw).mono ?_
  rintro e w' ⟨rfl, h1, h2, h3⟩
  refine ⟨rfl, Or.inr ?_, h2, h3⟩
  rw [str_cells, cells_app] at h1
  exact h1
theorem string_any (B b : Nat) (l : List UInt8) (w : World) (h : Bld B b l w) (hBw : B ≤ w.heap.size) :
    Calls Tryd.prog 24 #[.pointer (some ⟨b, 0, none⟩)] w fun e w' => e = .returned (.string ⟨l.toArray⟩) ∧ Bld B b l w' ∧ Below B w w' ∧ Kept b w w' :=
  Tryd.Builder_String_any_k B b l w h hBw
theorem Bld.new (w : World) (B : Nat) (hB : B ≤ w.heap.size) : Bld B w.heap.size [] (w.alloc (.cells #[.pointer none, .slice none 0 0] 54)) :=
  Or.inl ⟨hB, .slice none 0 0, heap_alloc_new w _, World.ownsRowF_nil _ _ _ _, by simp [Value.ownBlock]⟩
theorem Bld.below {B b : Nat} {l : List UInt8} {w w' : World} (h : Bld B b l w) (hb : Below w.heap.size w w') : Bld B b l w' := by
  have key : ∀ p, Lib.BuilderAtF 54 5 B b p (Lib.byteCells l) w → Lib.BuilderAtF 54 5 B b p (Lib.byteCells l) w' := fun p h => by
    obtain ⟨h1, v, h2, h3, h4⟩ := h
    have hl : b < w.heap.size := by
      by_cases hh : b < w.heap.size
      · exact hh
      · rw [Array.getElem?_eq_none (by omega)] at h2; cases h2
    refine ⟨h1, v, (hb.block b hl).trans h2, h3.kept (row := none) ⟨hb.os, hb.tape, hb.output, hb.size, fun j hj _ => hb.block j hj⟩ ?_, h4⟩
    cases hv : v.ownBlock with
    | none => exact Or.inl rfl
    | some g => exact Or.inr (by simp)
  exact h.elim (fun x => Or.inl (key _ x)) (fun x => Or.inr (key _ x))
theorem Bld.lt {B b : Nat} {l : List UInt8} {w : World} (h : Bld B b l w) : b < w.heap.size := by
  rcases h with h | h <;> exact h.lt
/-- A block as it lies. -/
def ObAt (w : World) (q : Nat) (cs : Array Value) (T : TypeId) : Prop := w.heap[q]? = some (.cells cs T (0, 0))
theorem ObAt.new (w : World) (cs : Array Value) (T : TypeId) : ObAt (w.alloc (.cells cs T)) w.heap.size cs T := heap_alloc_new w _
theorem ObAt.lt {w : World} {q : Nat} {cs : Array Value} {T : TypeId} (h : ObAt w q cs T) : q < w.heap.size := (Array.getElem?_eq_some_iff.1 h).1
theorem ObAt.below {w w' : World} {q : Nat} {cs : Array Value} {T : TypeId} (h : ObAt w q cs T) (hb : Below w.heap.size w w') : ObAt w' q cs T := (hb.block q h.lt).trans h
theorem ObAt.kept {w w' : World} {b q : Nat} {cs : Array Value} {T : TypeId} (h : ObAt w q cs T) (hk : Kept b w w') (hq : q ≠ b) (hT : T ≠ 5) : ObAt w' q cs T :=
  hk q _ h (fun e => hq (Option.some.inj e)) (fun c fz e => by cases e; exact hT rfl)
theorem ObAt.cell {w : World} {q : Nat} {cs : Array Value} {T : TypeId} (h : ObAt w q cs T) (i : Nat) : w.cell? ⟨q, i, none⟩ = cs[i]? := cell_of_row w q i cs T (0, 0) h
end Go.Proofs.YtlaagfnoepcnlaaDoor.Cn
