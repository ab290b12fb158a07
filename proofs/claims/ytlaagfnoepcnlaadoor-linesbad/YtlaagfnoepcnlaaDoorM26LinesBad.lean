/- Texts of this claim, one behind the other. -/
import Derived.Test.YtlaagfnoepcnlaaDoorM25LinesBad
import Derived.Test.YtlaagfnoepcnlaaDoorM2LinesBad
import Derived.Test.YtlaagfnoepcnlaaDoorM3LinesBad
/- What is shown is read, and what is read is shown so: texts of many lines. -/
namespace Go.Proofs.YtlaagfnoepcnlaaDoor.Ln
set_option linter.unusedVariables false

def lineL (v : AV) : List UInt8 := Lib.join (wds (actW v)) [32]
theorem actLine_eq (v : AV) : actLine v = lineL v ++ [10] := rfl
theorem aWord_word : ∀ k : Fin 9, ∀ c ∈ (aWord k.val).data.toList, c ≠ 32 ∧ c ≠ 10 := by decide
theorem cWord_word : ∀ k : Fin 6, ∀ c ∈ (cWord k.val).data.toList, c ≠ 32 ∧ c ≠ 10 := by decide
theorem wNum_word {z : Int} (h : 0 ≤ z) : ∀ c ∈ (wNum z).data.toList, c ≠ 32 ∧ c ≠ 10 := itoa_word h
theorem actW_word {v : AV} (h : ActFn v) : ∀ x ∈ actW v, ∀ c ∈ x.data.toList, c ≠ 32 ∧ c ≠ 10 := by
  intro x hx
  unfold actW at hx
  simp only [List.mem_append] at hx
  rcases hx with (((hx | hx) | hx) | hx) | hx
  · simp only [List.mem_singleton] at hx
    subst hx
    exact aWord_word ⟨v.kind.toNat, by have := h.kind; omega⟩
  · exact numsW_all (P := fun x => ∀ c ∈ x.data.toList, c ≠ 32 ∧ c ≠ 10) _ _ (fun z hz => wNum_word (h.pos z hz).1) x hx
  · obtain ⟨z, hz, rfl⟩ := List.mem_map.1 hx
    exact wNum_word (h.keep.2.2.1 z hz).1
  · split at hx
    · rename_i k1
      obtain ⟨d1, d2, _⟩ := h.call1 k1
      simp only [callW, List.mem_cons] at hx
      rcases hx with rfl | hx
      · exact cWord_word ⟨v.c0.toNat, by omega⟩
      · exact numsW_all (P := fun x => ∀ c ∈ x.data.toList, c ≠ 32 ∧ c ≠ 10) _ _ (fun z hz => wNum_word (d2 z hz).1) x hx
    · simp at hx
  · split at hx
    · simp only [List.mem_singleton] at hx
      subst hx
      intro c hc
      have hc : c ∈ txtL v.line.data.toList := by simpa [txtW] using hc
      rcases List.mem_cons.1 hc with rfl | hc
      · decide
      · exact hexes_word _ c hc
    · simp at hx
theorem actW_ne (v : AV) : wds (actW v) ≠ [] := by simp [actW, wds]
theorem join_mem : ∀ (ws : WS) (c : UInt8), c ∈ Lib.join ws [32] → c = 32 ∨ ∃ w ∈ ws, c ∈ w
  | [], c, h => by simp [Lib.join] at h
  | [w], c, h => Or.inr ⟨w, by simp, by simpa [Lib.join] using h⟩
  | w :: x :: r, c, h => by
    have e : Lib.join (w :: x :: r) [32] = w ++ 32 :: Lib.join (x :: r) [32] := by simp [Lib.join, List.intercalate]
    rw [e] at h
    rcases List.mem_append.1 h with h | h
    · exact Or.inr ⟨w, by simp, h⟩
    · rcases List.mem_cons.1 h with h | h
      · exact Or.inl h
      · rcases join_mem (x :: r) c h with h | ⟨y, hy, h⟩
        · exact Or.inl h
        · exact Or.inr ⟨y, List.mem_cons_of_mem _ hy, h⟩
theorem wds_word {v : AV} (h : ActFn v) : ∀ w ∈ wds (actW v), ∀ c ∈ w, c ≠ 32 ∧ c ≠ 10 := by
  intro w hw
  obtain ⟨x, hx, rfl⟩ := List.mem_map.1 hw
  exact actW_word h x hx
theorem lineL_word {v : AV} (h : ActFn v) : ∀ c ∈ lineL v, c ≠ 10 := by
  intro c hc
  rcases join_mem _ _ hc with rfl | ⟨w, hw, hc⟩
  · decide
  · exact (wds_word h w hw c hc).2
theorem lnAct_line {v : AV} (h : ActFn v) : lnAct (lineL v) = some (nk v) := by
  unfold lnAct lineL
  rw [join_spc _ (actW_ne v) (fun w hw c hc => (wds_word h w hw c hc).1), shown_act h]
theorem line_of {l : List UInt8} {a : AV} (h : lnAct l = some a) (hk : a.kl ≤ 6) : l = lineL a := by
  have h3 := spc_join 32 l.length l (Nat.le_refl _)
  rw [read_act (ln_of h) hk] at h3
  exact h3.symm
theorem spc_lines : ∀ (xs : List AV) (t : List UInt8), (∀ x ∈ xs, ActFn x) → spc 10 (linesOf xs ++ t) = xs.map lineL ++ spc 10 t
  | [], t, _ => rfl
  | x :: r, t, h => by
    have e : linesOf (x :: r) ++ t = lineL x ++ 10 :: (linesOf r ++ t) := by simp [linesOf, actLine_eq]
    rw [e, spc_cut _ _ (lineL_word (h x (by simp))), spc_lines r t (fun y hy => h y (by simp [hy]))]
    rfl
theorem rdL_lines {s : Int} {ls : List (Int × Int)} {p : Int} : ∀ (xs : List AV) (k : Nat) (acc : List AV) (R : WS), R ≠ [] → (∀ x ∈ xs, actFault s ls p x = 0 ∧ ActFn x) → k + xs.length ≤ 3000 → rdL s ls p k acc (xs.map lineL ++ R) = rdL s ls p (k + xs.length) (acc ++ xs.map nk) R
  | [], k, acc, R, _, _, _ => by simp
  | x :: r, k, acc, R, hR, h, hl => by
    obtain ⟨h1, h2⟩ := h x (by simp)
    have hl2 : k + (r.length + 1) ≤ 3000 := hl
    have hf : actFault s ls p (nk x) = 0 := h1
    have ih := rdL_lines (s := s) (ls := ls) (p := p) r (k + 1) (acc ++ [nk x]) R hR (fun y hy => h y (by simp [hy])) (by omega)
    cases e : r.map lineL ++ R with
    | nil => simp at e; exact absurd e.2 hR
    | cons y q =>
      rw [e] at ih
      rw [List.map_cons, List.cons_append, e, rdL, if_neg (by omega), lnAct_line h2]
      simp only [if_pos hf]
      rw [ih, show k + 1 + r.length = k + (x :: r).length by simp; omega]
      simp
theorem fns_of {s : Int} {ls : List (Int × Int)} {p : Int} {xs : List AV} (h : ∀ x ∈ xs, actFault s ls p x = 0 ∧ x.keep.length = x.kl) : ∀ x ∈ xs, actFault s ls p x = 0 ∧ ActFn x := fun x hx => ⟨(h x hx).1, act_fn (h x hx).2 (h x hx).1⟩
theorem rdAll_lines {s : Int} {ls : List (Int × Int)} {p : Int} {xs : List AV} (t : List UInt8) (hc : cfgFault s ls p = 0) (hl : xs.length ≤ 3000) (h : ∀ x ∈ xs, actFault s ls p x = 0 ∧ x.keep.length = x.kl) : rdAll s ls p (linesOf xs ++ t) = rdL s ls p xs.length (xs.map nk) (spc 10 t) := by
  have h2 := fns_of h
  unfold rdAll
  rw [if_neg (by simp [hc]), spc_lines xs t (fun x hx => (h2 x hx).2), rdL_lines xs 0 [] _ (spc_ne 10 t) h2 (by omega)]
  simp
/-- What is shown is read. -/
theorem rdAll_back {s : Int} {ls : List (Int × Int)} {p : Int} {xs : List AV} (hc : cfgFault s ls p = 0) (hl : xs.length ≤ 3000) (h : ∀ x ∈ xs, actFault s ls p x = 0 ∧ x.keep.length = x.kl) : rdAll s ls p (linesOf xs) = (xs.map nk, 0, 0) := by
  have h2 := rdAll_lines [] hc hl h
  rw [List.append_nil] at h2
  rw [h2]
  simp [spc, rdL]
/-- What is read is shown so. -/
theorem rdL_fixed {s : Int} {ls : List (Int × Int)} {p : Int} (hl6 : ls.length ≤ 6) (hc : cfgFault s ls p = 0) : ∀ (n : Nat) (t : List UInt8) (k : Nat) (acc : List AV), t.length ≤ n → k ≤ 3000 →
    ((rdL s ls p k acc (spc 10 t)).2.2 ≠ 0 ∧ (rdL s ls p k acc (spc 10 t)).1 = [] ∧ 0 ≤ (rdL s ls p k acc (spc 10 t)).2.1) ∨ ∃ xs, rdL s ls p k acc (spc 10 t) = (acc ++ xs, 0, 0) ∧ t = linesOf xs ∧ (∀ x ∈ xs, actFault s ls p x = 0) ∧ k + xs.length ≤ 3000 := by
  intro n
  induction n with
  | zero =>
    intro t k acc ht hk
    have : t = [] := List.length_eq_zero_iff.1 (by omega)
    subst this
    exact Or.inr ⟨[], by simp [spc, rdL], rfl, by simp, hk⟩
  | succ n ih =>
    intro t k acc ht hk
    rw [rdL_cut]
    by_cases h0 : t = []
    · subst h0
      rw [if_pos rfl]
      exact Or.inr ⟨[], by simp, rfl, by simp, hk⟩
    · rw [if_neg h0]
      by_cases h3 : k = 3000
      · rw [if_pos h3]
        exact Or.inl ⟨by simp, rfl, by simp⟩
      · rw [if_neg h3]
        by_cases hcu : (cutC 10 t).2.2 = false
        · rw [if_pos hcu]
          exact Or.inl ⟨by simp, rfl, by simp⟩
        · rw [if_neg hcu]
          have hcu2 : (cutC 10 t).2.2 = true := by simpa using hcu
          have hcs := ((cut_spc 10 t).2.1 hcu2)
          cases e : lnAct (cutC 10 t).1 with
          | none => exact Or.inl ⟨by simp, rfl, by simp⟩
          | some a =>
            dsimp only
            by_cases hf : actFault s ls p a = 0
            · rw [if_pos hf]
              have hkl : a.kl ≤ 6 := by
                have hin : actIn s ls.length a = true := by
                  unfold actFault at hf
                  rw [if_neg (by simp [hc])] at hf
                  split at hf
                  · cases hf
                  · split at hf
                    · cases hf
                    · rename_i h9; exact tr9 h9
                unfold actIn at hin
                simp only [Bool.and_eq_true, decide_eq_true_eq] at hin
                omega
              have hlA := line_of e hkl
              rcases ih (cutC 10 t).2.1 (k + 1) (acc ++ [a]) (by omega) (by omega) with h | ⟨xs, h1, h2, h4, h5⟩
              · exact Or.inl h
              · refine Or.inr ⟨a :: xs, by rw [h1]; simp, ?_, ?_, by simp; omega⟩
                · rcases spc_first 10 t with hn | ⟨b, r, rfl, hn⟩
                  · rw [cut_none hn] at hcu2; cases hcu2
                  · rw [cut_hit2 b r hn] at h2 hlA
                    dsimp only at h2 hlA
                    rw [hlA, h2]
                    simp [linesOf, actLine_eq]
                · intro x hx
                  rcases List.mem_cons.1 hx with rfl | hx
                  · exact hf
                  · exact h4 x hx
            · rw [if_neg hf]
              exact Or.inl ⟨hf, rfl, by simp⟩
theorem linesOf_nk : ∀ (xs : List AV), linesOf (xs.map nk) = linesOf xs
  | [] => rfl
  | x :: r => by rw [List.map_cons, linesOf, linesOf, linesOf_nk r]; rfl
theorem badAt_ok {s : Int} {ls : List (Int × Int)} {p : Int} : ∀ (xs : List AV) (k : Nat), (∀ x ∈ xs, actFault s ls p x = 0) → badAt s ls p k xs = none
  | [], _, _ => rfl
  | x :: r, k, h => by
    rw [badAt, if_pos (h x (by simp))]
    exact badAt_ok r (k + 1) (fun y hy => h y (by simp [hy]))
theorem shAll_ok {s : Int} {ls : List (Int × Int)} {p : Int} {xs : List AV} (hc : cfgFault s ls p = 0) (hl : xs.length ≤ 3000) (h : ∀ x ∈ xs, actFault s ls p x = 0) : shAll s ls p xs = (linesOf xs, 0, 0) := by
  unfold shAll
  rw [if_neg (by simp [hc]), if_neg (by omega), badAt_ok xs 0 h]
  rfl
end Go.Proofs.YtlaagfnoepcnlaaDoor.Ln
/- The config of two labels, the second one above the first one. -/
namespace Go.Proofs.YtlaagfnoepcnlaaDoor.Pt
open Go.ChangeShapes Go.WideShapes Go.ChangeAt Go.RowKit
set_option linter.unusedVariables false

def LS2 : List (Int × Int) := [(0, 0), (1, 0)]
theorem cfg_two {s p : Int} (h1 : 1 ≤ s) (h2 : s ≤ 4) (h3 : 1 ≤ p) (h4 : p ≤ 1048576) : cfgFault s LS2 p = 0 := by
  unfold cfgFault
  rw [if_neg (by omega), if_neg (by decide), if_neg (by decide), if_neg (by omega)]
set_option maxRecDepth 100000 in
theorem two_any (s : Int) (w : World) (hs : -9223372036854775808 ≤ s ∧ s ≤ 9223372036854775807) :
    Calls Tryd.prog 17 #[.int .i64 s] w fun e w' => ∃ g, e = .returned (.agg #[.int .i64 (1 + pk s 3), .slice (some ⟨g, 0, none⟩) 2 2, .int .i64 3]) ∧ IsLabs w' (some ⟨g, 0, none⟩) 2 2 LS2 ∧ w.heap.size ≤ g ∧ Below w.heap.size w w' := by
  have hp := pk_bd s 3 (by omega)
  have hwr : IntKind.i64.wrap (1 + pk s 3) = 1 + pk s 3 := by simp [IntKind.wrap, IntKind.bits, IntKind.signed]; omega
  have hP := fun u => picked_any s 3 u hs (by omega) (by omega)
  obtain ⟨K, eK⟩ : ∃ K, K = pk s 3 := ⟨_, rfl⟩
  rw [← eK] at hP hwr ⊢
  clear eK hp
  go_enter Tryd.func17, Tryd.ntmps17
  go_wp2_with (go_at_call 18; refine (hP _).mono ?_; rintro e u ⟨rfl, hu⟩; rw [hu]; clear hu)
  obtain ⟨X, eX⟩ : ∃ X : World, X = (w.alloc (.cells #[.int .i64 (1 + K), .slice (some ⟨w.heap.size + 1, 0, none⟩) 2 2, .int .i64 3] 24)).alloc (.cells #[.int .i64 0, .int .i64 0, .int .i64 1, .int .i64 0] 70) := ⟨_, rfl⟩
  have hb : Below w.heap.size w X := by rw [eX]; exact ((Below.refl _ _).alloc (Nat.le_refl _) _).alloc (by simp) _
  have c0 : X.cell? ⟨w.heap.size + 1, 0, none⟩ = some (.int .i64 0) := by rw [eX]; go_simp
  have c1 : X.cell? ⟨w.heap.size + 1, 1, none⟩ = some (.int .i64 0) := by rw [eX]; go_simp
  have c2 : X.cell? ⟨w.heap.size + 1, 2, none⟩ = some (.int .i64 1) := by rw [eX]; go_simp
  have c3 : X.cell? ⟨w.heap.size + 1, 3, none⟩ = some (.int .i64 0) := by rw [eX]; go_simp
  have q0 : X.cell? ⟨w.heap.size, 0, none⟩ = some (.int .i64 (1 + K)) := by rw [eX]; go_simp
  have q1 : X.cell? ⟨w.heap.size, 1, none⟩ = some (.slice (some ⟨w.heap.size + 1, 0, none⟩) 2 2) := by rw [eX]; go_simp
  have q2 : X.cell? ⟨w.heap.size, 2, none⟩ = some (.int .i64 3) := by rw [eX]; go_simp
  have zX : w.heap.size + 1 < X.heap.size := by rw [eX]; simp
  rw [← eX]
  clear eX
  refine bodyPost_ret (v := .agg #[.int .i64 (1 + K), .slice (some ⟨w.heap.size + 1, 0, none⟩) 2 2, .int .i64 3]) (by simp [results, Tryd.results17, go_sem, q0, q1, q2]) rfl ⟨w.heap.size + 1, rfl, ?_, by omega, ?_⟩
  · refine ⟨rfl, Nat.le_refl _, by unfold maxLen; omega, fun _ => ⟨w.heap.size + 1, 0, rfl, zX, fun i hi => ?_⟩⟩
    have hi2 : i = 0 ∨ i = 1 := by simp [LS2] at hi; omega
    rcases hi2 with rfl | rfl
    · exact ⟨c0, c1⟩
    · exact ⟨c2, c3⟩
  · exact hb
end Go.Proofs.YtlaagfnoepcnlaaDoor.Pt
/- Lines that are wrong, on plain data. -/
namespace Go.Proofs.YtlaagfnoepcnlaaDoor.Ln
open Go.Proofs.YtlaagfnoepcnlaaDoor.Pt (LS2 cfg_two)
set_option linter.unusedVariables false

def oddL : List (List UInt8) := [[], [84, 105, 99, 107, 10], [116, 105, 99, 107, 32, 49, 10], [97, 115, 107, 32, 48, 32, 48, 10], [97, 115, 107, 32, 48, 32, 48, 32, 98, 101, 103, 105, 110, 32, 49, 10], [97, 115, 107, 32, 48, 32, 50, 32, 98, 101, 103, 105, 110, 10], [97, 115, 107, 32, 48, 32, 48, 32, 103, 101, 116, 32, 49, 32, 48, 10], [97, 115, 107, 32, 48, 32, 48, 32, 103, 101, 116, 32, 49, 32, 48, 32, 57, 10], [100, 101, 108, 105, 118, 101, 114, 32, 48, 32, 48, 32, 48, 10], [100, 101, 108, 105, 118, 101, 114, 32, 50, 32, 48, 32, 48, 32, 48, 10], [100, 114, 111, 112, 32, 48, 32, 48, 32, 48, 32, 45, 49, 10], [99, 114, 97, 115, 104, 10], [99, 114, 97, 115, 104, 32, 48, 32, 48, 32, 48, 32, 48, 10], [115, 116, 97, 114, 116, 32, 48, 49, 10], [116, 121, 112, 101, 32, 48, 32, 48, 32, 54, 49, 10], [116, 121, 112, 101, 32, 48, 32, 48, 32, 46, 54, 10], [116, 105, 99, 107]]
def errL : List Int := [0, 4, 4, 4, 4, 2, 4, 2, 4, 2, 2, 4, 2, 4, 4, 4, 4]
theorem numI {n : Int} {l : List UInt8} (h0 : 0 ≤ n) (h1 : n ≤ 9223372036854775807) (h : Lib.itoa n = l) : numL l = some n := by
  have := numL_itoa h0 h1
  rw [h] at this
  exact this
theorem i_0 : Lib.itoa 0 = [48] := by simp [Lib.itoa, Lib.decDigits]
theorem i_1 : Lib.itoa 1 = [49] := by simp [Lib.itoa, Lib.decDigits]
theorem i_2 : Lib.itoa 2 = [50] := by simp [Lib.itoa, Lib.decDigits]
theorem i_9 : Lib.itoa 9 = [57] := by simp [Lib.itoa, Lib.decDigits]
theorem i_m : Lib.itoa (-1) = [45, 49] := by simp [Lib.itoa, Lib.decDigits]
theorem n_0 : numL [48] = some 0 := numI (by omega) (by omega) i_0
theorem n_1 : numL [49] = some 1 := numI (by omega) (by omega) i_1
theorem n_2 : numL [50] = some 2 := numI (by omega) (by omega) i_2
theorem n_9 : numL [57] = some 9 := numI (by omega) (by omega) i_9
theorem n_m : numL [45, 49] = some (-1) := by
  unfold numL
  have : Lib.atoiAll [45, 49] = .ok (-1) := by rfl
  rw [this]
  simp only
  rw [if_pos i_m]
theorem n_01 : numL [48, 49] = none := by
  unfold numL
  have : Lib.atoiAll [48, 49] = .ok 1 := by rfl
  rw [this]
  simp only
  rw [if_neg (by rw [i_1]; decide)]
theorem rd_form {s p : Int} {ls : List (Int × Int)} {l : List UInt8} (h : lnAct l = none) (k : Nat) (acc : List AV) (hk : k < 3000) (r : WS) (hr : r ≠ []) : rdL s ls p k acc (l :: r) = ([], (k : Int), 4) := by
  cases r with
  | nil => exact absurd rfl hr
  | cons y q => rw [rdL, if_neg (by omega), h]
theorem rd_fault {s p : Int} {ls : List (Int × Int)} {l : List UInt8} {a : AV} {f : Int} (h : lnAct l = some a) (hf : actFault s ls p a = f) (h0 : f ≠ 0) (k : Nat) (acc : List AV) (hk : k < 3000) (r : WS) (hr : r ≠ []) : rdL s ls p k acc (l :: r) = ([], (k : Int), f) := by
  cases r with
  | nil => exact absurd rfl hr
  | cons y q =>
    rw [rdL, if_neg (by omega), h]
    simp only
    rw [if_neg (by rw [hf]; exact h0), hf]
theorem w_1 : spc 32 [84, 105, 99, 107] = [[84, 105, 99, 107]] := by decide
theorem l_1 : lnAct [84, 105, 99, 107] = none := by
  unfold lnAct
  rw [w_1]
  simp [stAct, kindA, kFind, aWord]
theorem w_2 : spc 32 [116, 105, 99, 107, 32, 49] = [[116, 105, 99, 107], [49]] := by decide
theorem l_2 : lnAct [116, 105, 99, 107, 32, 49] = none := by
  unfold lnAct
  rw [w_2]
  simp [stAct, stNums, stKeep, stCalled, stLine, kindA, kFind, aWord, aHas, mkAct, CV.nil]
theorem w_3 : spc 32 [97, 115, 107, 32, 48, 32, 48] = [[97, 115, 107], [48], [48]] := by decide
theorem l_3 : lnAct [97, 115, 107, 32, 48, 32, 48] = none := by
  unfold lnAct
  rw [w_3]
  simp [stAct, stNums, stKeep, stCalled, stCall, kindA, kindC, kFind, aWord, cWord, aHas, n_0]
theorem w_4 : spc 32 [97, 115, 107, 32, 48, 32, 48, 32, 98, 101, 103, 105, 110, 32, 49] = [[97, 115, 107], [48], [48], [98, 101, 103, 105, 110], [49]] := by decide
theorem l_4 : lnAct [97, 115, 107, 32, 48, 32, 48, 32, 98, 101, 103, 105, 110, 32, 49] = none := by
  unfold lnAct
  rw [w_4]
  simp [stAct, stNums, stKeep, stCalled, stCall, stLine, kindA, kindC, kFind, aWord, cWord, aHas, cHas, mkAct, n_0]
theorem w_5 : spc 32 [97, 115, 107, 32, 48, 32, 50, 32, 98, 101, 103, 105, 110] = [[97, 115, 107], [48], [50], [98, 101, 103, 105, 110]] := by decide
theorem l_5 : lnAct [97, 115, 107, 32, 48, 32, 50, 32, 98, 101, 103, 105, 110] = some (mkAct 1 [0, 0, 2, 0] [] ⟨1, [0, 0, 0, 0]⟩ []) := by
  unfold lnAct
  rw [w_5]
  simp [stAct, stNums, stKeep, stCalled, stCall, stLine, kindA, kindC, kFind, aWord, cWord, aHas, cHas, mkAct, n_0, n_2]
theorem f_5 : actFault 2 LS2 3 (mkAct 1 [0, 0, 2, 0] [] ⟨1, [0, 0, 0, 0]⟩ []) = 2 := by rfl
theorem w_6 : spc 32 [97, 115, 107, 32, 48, 32, 48, 32, 103, 101, 116, 32, 49, 32, 48] = [[97, 115, 107], [48], [48], [103, 101, 116], [49], [48]] := by decide
theorem l_6 : lnAct [97, 115, 107, 32, 48, 32, 48, 32, 103, 101, 116, 32, 49, 32, 48] = none := by
  unfold lnAct
  rw [w_6]
  simp [stAct, stNums, stKeep, stCalled, stCall, kindA, kindC, kFind, aWord, cWord, aHas, cHas, n_0, n_1, numL_nil]
theorem w_7 : spc 32 [97, 115, 107, 32, 48, 32, 48, 32, 103, 101, 116, 32, 49, 32, 48, 32, 57] = [[97, 115, 107], [48], [48], [103, 101, 116], [49], [48], [57]] := by decide
theorem l_7 : lnAct [97, 115, 107, 32, 48, 32, 48, 32, 103, 101, 116, 32, 49, 32, 48, 32, 57] = some (mkAct 1 [0, 0, 0, 0] [] ⟨2, [1, 0, 9, 0]⟩ []) := by
  unfold lnAct
  rw [w_7]
  simp [stAct, stNums, stKeep, stCalled, stCall, stLine, kindA, kindC, kFind, aWord, cWord, aHas, cHas, mkAct, n_0, n_1, n_9]
theorem f_7 : actFault 2 LS2 3 (mkAct 1 [0, 0, 0, 0] [] ⟨2, [1, 0, 9, 0]⟩ []) = 2 := by rfl
theorem w_8 : spc 32 [100, 101, 108, 105, 118, 101, 114, 32, 48, 32, 48, 32, 48] = [[100, 101, 108, 105, 118, 101, 114], [48], [48], [48]] := by decide
theorem l_8 : lnAct [100, 101, 108, 105, 118, 101, 114, 32, 48, 32, 48, 32, 48] = none := by
  unfold lnAct
  rw [w_8]
  simp [stAct, stNums, kindA, kFind, aWord, aHas, n_0, numL_nil]
theorem w_9 : spc 32 [100, 101, 108, 105, 118, 101, 114, 32, 50, 32, 48, 32, 48, 32, 48] = [[100, 101, 108, 105, 118, 101, 114], [50], [48], [48], [48]] := by decide
theorem l_9 : lnAct [100, 101, 108, 105, 118, 101, 114, 32, 50, 32, 48, 32, 48, 32, 48] = some (mkAct 2 [2, 0, 0, 0] [] ⟨0, [0, 0, 0, 0]⟩ []) := by
  unfold lnAct
  rw [w_9]
  simp [stAct, stNums, stKeep, stCalled, stLine, kindA, kFind, aWord, aHas, mkAct, CV.nil, n_0, n_2]
theorem f_9 : actFault 2 LS2 3 (mkAct 2 [2, 0, 0, 0] [] ⟨0, [0, 0, 0, 0]⟩ []) = 2 := by rfl
theorem w_10 : spc 32 [100, 114, 111, 112, 32, 48, 32, 48, 32, 48, 32, 45, 49] = [[100, 114, 111, 112], [48], [48], [48], [45, 49]] := by decide
theorem l_10 : lnAct [100, 114, 111, 112, 32, 48, 32, 48, 32, 48, 32, 45, 49] = some (mkAct 3 [0, 0, 0, (-1)] [] ⟨0, [0, 0, 0, 0]⟩ []) := by
  unfold lnAct
  rw [w_10]
  simp [stAct, stNums, stKeep, stCalled, stLine, kindA, kFind, aWord, aHas, mkAct, CV.nil, n_0, n_m]
theorem f_10 : actFault 2 LS2 3 (mkAct 3 [0, 0, 0, (-1)] [] ⟨0, [0, 0, 0, 0]⟩ []) = 2 := by rfl
theorem w_11 : spc 32 [99, 114, 97, 115, 104] = [[99, 114, 97, 115, 104]] := by decide
theorem l_11 : lnAct [99, 114, 97, 115, 104] = none := by
  unfold lnAct
  rw [w_11]
  simp [stAct, stNums, kindA, kFind, aWord, aHas, numL_nil]
theorem w_12 : spc 32 [99, 114, 97, 115, 104, 32, 48, 32, 48, 32, 48, 32, 48] = [[99, 114, 97, 115, 104], [48], [48], [48], [48]] := by decide
theorem l_12 : lnAct [99, 114, 97, 115, 104, 32, 48, 32, 48, 32, 48, 32, 48] = some (mkAct 6 [0, 0, 0, 0] [0, 0, 0] ⟨0, [0, 0, 0, 0]⟩ []) := by
  unfold lnAct
  rw [w_12]
  simp [stAct, stNums, stKeep, stKept, stCalled, stLine, kindA, kFind, aWord, aHas, mkAct, CV.nil, n_0]
theorem f_12 : actFault 2 LS2 3 (mkAct 6 [0, 0, 0, 0] [0, 0, 0] ⟨0, [0, 0, 0, 0]⟩ []) = 2 := by rfl
theorem w_13 : spc 32 [115, 116, 97, 114, 116, 32, 48, 49] = [[115, 116, 97, 114, 116], [48, 49]] := by decide
theorem l_13 : lnAct [115, 116, 97, 114, 116, 32, 48, 49] = none := by
  unfold lnAct
  rw [w_13]
  simp [stAct, stNums, kindA, kFind, aWord, aHas, n_01]
theorem w_14 : spc 32 [116, 121, 112, 101, 32, 48, 32, 48, 32, 54, 49] = [[116, 121, 112, 101], [48], [48], [54, 49]] := by decide
theorem l_14 : lnAct [116, 121, 112, 101, 32, 48, 32, 48, 32, 54, 49] = none := by
  unfold lnAct
  rw [w_14]
  simp [stAct, stNums, stKeep, stCalled, stLine, stText, kindA, kFind, aWord, aHas, CV.nil, n_0]
theorem w_15 : spc 32 [116, 121, 112, 101, 32, 48, 32, 48, 32, 46, 54] = [[116, 121, 112, 101], [48], [48], [46, 54]] := by decide
theorem l_15 : lnAct [116, 121, 112, 101, 32, 48, 32, 48, 32, 46, 54] = none := by
  unfold lnAct
  rw [w_15]
  simp [stAct, stNums, stKeep, stCalled, stLine, stText, unhex, kindA, kFind, aWord, aHas, CV.nil, n_0]
theorem bad_end (j : Nat) (hj : j < 17) (h0 : j ≠ 0) (k : Nat) (acc : List AV) (hk : k < 3000) : rdL 2 LS2 3 k acc (spc 10 (oddL.getD j [])) = ([], (k : Int), errL.getD j 0) := by
  rcases (by omega : j = 1 ∨ j = 2 ∨ j = 3 ∨ j = 4 ∨ j = 5 ∨ j = 6 ∨ j = 7 ∨ j = 8 ∨ j = 9 ∨ j = 10 ∨ j = 11 ∨ j = 12 ∨ j = 13 ∨ j = 14 ∨ j = 15 ∨ j = 16) with rfl | rfl | rfl | rfl | rfl | rfl | rfl | rfl | rfl | rfl | rfl | rfl | rfl | rfl | rfl | rfl
  · show rdL 2 LS2 3 k acc (spc 10 [84, 105, 99, 107, 10]) = _
    rw [show spc 10 [84, 105, 99, 107, 10] = [[84, 105, 99, 107], []] by decide]
    exact rd_form l_1 k acc hk _ (by simp)
  · show rdL 2 LS2 3 k acc (spc 10 [116, 105, 99, 107, 32, 49, 10]) = _
    rw [show spc 10 [116, 105, 99, 107, 32, 49, 10] = [[116, 105, 99, 107, 32, 49], []] by decide]
    exact rd_form l_2 k acc hk _ (by simp)
  · show rdL 2 LS2 3 k acc (spc 10 [97, 115, 107, 32, 48, 32, 48, 10]) = _
    rw [show spc 10 [97, 115, 107, 32, 48, 32, 48, 10] = [[97, 115, 107, 32, 48, 32, 48], []] by decide]
    exact rd_form l_3 k acc hk _ (by simp)
  · show rdL 2 LS2 3 k acc (spc 10 [97, 115, 107, 32, 48, 32, 48, 32, 98, 101, 103, 105, 110, 32, 49, 10]) = _
    rw [show spc 10 [97, 115, 107, 32, 48, 32, 48, 32, 98, 101, 103, 105, 110, 32, 49, 10] = [[97, 115, 107, 32, 48, 32, 48, 32, 98, 101, 103, 105, 110, 32, 49], []] by decide]
    exact rd_form l_4 k acc hk _ (by simp)
  · show rdL 2 LS2 3 k acc (spc 10 [97, 115, 107, 32, 48, 32, 50, 32, 98, 101, 103, 105, 110, 10]) = _
    rw [show spc 10 [97, 115, 107, 32, 48, 32, 50, 32, 98, 101, 103, 105, 110, 10] = [[97, 115, 107, 32, 48, 32, 50, 32, 98, 101, 103, 105, 110], []] by decide]
    exact rd_fault l_5 f_5 (by decide) k acc hk _ (by simp)
  · show rdL 2 LS2 3 k acc (spc 10 [97, 115, 107, 32, 48, 32, 48, 32, 103, 101, 116, 32, 49, 32, 48, 10]) = _
    rw [show spc 10 [97, 115, 107, 32, 48, 32, 48, 32, 103, 101, 116, 32, 49, 32, 48, 10] = [[97, 115, 107, 32, 48, 32, 48, 32, 103, 101, 116, 32, 49, 32, 48], []] by decide]
    exact rd_form l_6 k acc hk _ (by simp)
  · show rdL 2 LS2 3 k acc (spc 10 [97, 115, 107, 32, 48, 32, 48, 32, 103, 101, 116, 32, 49, 32, 48, 32, 57, 10]) = _
    rw [show spc 10 [97, 115, 107, 32, 48, 32, 48, 32, 103, 101, 116, 32, 49, 32, 48, 32, 57, 10] = [[97, 115, 107, 32, 48, 32, 48, 32, 103, 101, 116, 32, 49, 32, 48, 32, 57], []] by decide]
    exact rd_fault l_7 f_7 (by decide) k acc hk _ (by simp)
  · show rdL 2 LS2 3 k acc (spc 10 [100, 101, 108, 105, 118, 101, 114, 32, 48, 32, 48, 32, 48, 10]) = _
    rw [show spc 10 [100, 101, 108, 105, 118, 101, 114, 32, 48, 32, 48, 32, 48, 10] = [[100, 101, 108, 105, 118, 101, 114, 32, 48, 32, 48, 32, 48], []] by decide]
    exact rd_form l_8 k acc hk _ (by simp)
  · show rdL 2 LS2 3 k acc (spc 10 [100, 101, 108, 105, 118, 101, 114, 32, 50, 32, 48, 32, 48, 32, 48, 10]) = _
    rw [show spc 10 [100, 101, 108, 105, 118, 101, 114, 32, 50, 32, 48, 32, 48, 32, 48, 10] = [[100, 101, 108, 105, 118, 101, 114, 32, 50, 32, 48, 32, 48, 32, 48], []] by decide]
    exact rd_fault l_9 f_9 (by decide) k acc hk _ (by simp)
  · show rdL 2 LS2 3 k acc (spc 10 [100, 114, 111, 112, 32, 48, 32, 48, 32, 48, 32, 45, 49, 10]) = _
    rw [show spc 10 [100, 114, 111, 112, 32, 48, 32, 48, 32, 48, 32, 45, 49, 10] = [[100, 114, 111, 112, 32, 48, 32, 48, 32, 48, 32, 45, 49], []] by decide]
    exact rd_fault l_10 f_10 (by decide) k acc hk _ (by simp)
  · show rdL 2 LS2 3 k acc (spc 10 [99, 114, 97, 115, 104, 10]) = _
    rw [show spc 10 [99, 114, 97, 115, 104, 10] = [[99, 114, 97, 115, 104], []] by decide]
    exact rd_form l_11 k acc hk _ (by simp)
  · show rdL 2 LS2 3 k acc (spc 10 [99, 114, 97, 115, 104, 32, 48, 32, 48, 32, 48, 32, 48, 10]) = _
    rw [show spc 10 [99, 114, 97, 115, 104, 32, 48, 32, 48, 32, 48, 32, 48, 10] = [[99, 114, 97, 115, 104, 32, 48, 32, 48, 32, 48, 32, 48], []] by decide]
    exact rd_fault l_12 f_12 (by decide) k acc hk _ (by simp)
  · show rdL 2 LS2 3 k acc (spc 10 [115, 116, 97, 114, 116, 32, 48, 49, 10]) = _
    rw [show spc 10 [115, 116, 97, 114, 116, 32, 48, 49, 10] = [[115, 116, 97, 114, 116, 32, 48, 49], []] by decide]
    exact rd_form l_13 k acc hk _ (by simp)
  · show rdL 2 LS2 3 k acc (spc 10 [116, 121, 112, 101, 32, 48, 32, 48, 32, 54, 49, 10]) = _
    rw [show spc 10 [116, 121, 112, 101, 32, 48, 32, 48, 32, 54, 49, 10] = [[116, 121, 112, 101, 32, 48, 32, 48, 32, 54, 49], []] by decide]
    exact rd_form l_14 k acc hk _ (by simp)
  · show rdL 2 LS2 3 k acc (spc 10 [116, 121, 112, 101, 32, 48, 32, 48, 32, 46, 54, 10]) = _
    rw [show spc 10 [116, 121, 112, 101, 32, 48, 32, 48, 32, 46, 54, 10] = [[116, 121, 112, 101, 32, 48, 32, 48, 32, 46, 54], []] by decide]
    exact rd_form l_15 k acc hk _ (by simp)
  · show rdL 2 LS2 3 k acc (spc 10 [116, 105, 99, 107]) = _
    rw [show spc 10 [116, 105, 99, 107] = [[116, 105, 99, 107]] by decide, rdL, if_neg (by decide), if_neg (by omega)]
    rfl
/-- What is told of acts and one line behind them. -/
theorem bad_all (j : Nat) (hj : j < 17) (xs : List AV) (hl : xs.length < 3000) (h : ∀ x ∈ xs, actFault 2 LS2 3 x = 0 ∧ x.keep.length = x.kl) : rdAll 2 LS2 3 (linesOf xs ++ oddL.getD j []) = if j = 0 then (xs.map nk, 0, 0) else ([], (xs.length : Int), errL.getD j 0) := by
  have hc : cfgFault 2 LS2 3 = 0 := cfg_two (by decide) (by decide) (by decide) (by decide)
  by_cases h0 : j = 0
  · subst h0
    rw [if_pos rfl]
    show rdAll 2 LS2 3 (linesOf xs ++ []) = _
    rw [List.append_nil, rdAll_back hc (by omega) h]
  · rw [if_neg h0, rdAll_lines _ hc (by omega) h, bad_end j hj h0 _ _ hl]
theorem odd_len : ∀ j, j < 17 → (oddL.getD j []).length ≤ 60 := by decide
end Go.Proofs.YtlaagfnoepcnlaaDoor.Ln
