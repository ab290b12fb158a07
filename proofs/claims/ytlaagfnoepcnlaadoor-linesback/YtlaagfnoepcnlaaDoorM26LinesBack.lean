/- Texts of this claim, one behind the other. -/
import Derived.Test.YtlaagfnoepcnlaaDoorM25LinesBack
import Derived.Test.YtlaagfnoepcnlaaDoorM18LinesBack
import Derived.Test.YtlaagfnoepcnlaaDoorA6LinesBack
/- What is shown is read, and what is read is shown so: texts of many lines. -/
namespace Go.Proofs.YtlaagfnoepcnlaaDoor.Ln
set_option linter.unusedVariables false

def lineL (v : AV) : List UInt8 := Lib.join (wds (actW v)) [32]
theorem actLine_eq (v : AV) : actLine v = lineL v ++ [10] := rfl
theorem aWord_word : ∀ k : Fin 9, ∀ c ∈ (aWord k.val).data.toList, c ≠ 32 ∧ c ≠ 10 := by decide
theorem cWord_word : ∀ k : Fin 6, ∀ c ∈ (cWord k.val).data.toList, c ≠ 32 ∧ c ≠ 10 := by decide
theorem wNum_word {z : Int} (h : 0 ≤ z) : ∀ c ∈ (wNum z).data.toList, c ≠ 32 ∧ c ≠ 10 := itoa_word h
theorem actW_word {v : AV} (h : ActFn v) : ∀ x ∈ actW v, ∀ c ∈ x.data.toList, c ≠ 32 ∧ c ≠ 10 := by
  intro x hx
  unfold actW at hx
  simp only [List.mem_append] at hx
  rcases hx with (((hx | hx) | hx) | hx) | hx
  · simp only [List.mem_singleton] at hx
    subst hx
    exact aWord_word ⟨v.kind.toNat, by have := h.kind; omega⟩
  · exact numsW_all (P := fun x => ∀ c ∈ x.data.toList, c ≠ 32 ∧ c ≠ 10) _ _ (fun z hz => wNum_word (h.pos z hz).1) x hx
  · obtain ⟨z, hz, rfl⟩ := List.mem_map.1 hx
    exact wNum_word (h.keep.2.2.1 z hz).1
  · split at hx
    · rename_i k1
      obtain ⟨d1, d2, _⟩ := h.call1 k1
      simp only [callW, List.mem_cons] at hx
      rcases hx with rfl | hx
      · exact cWord_word ⟨v.c0.toNat, by omega⟩
      · exact numsW_all (P := fun x => ∀ c ∈ x.data.toList, c ≠ 32 ∧ c ≠ 10) _ _ (fun z hz => wNum_word (d2 z hz).1) x hx
    · simp at hx
  · split at hx
    · simp only [List.mem_singleton] at hx
      subst hx
      intro c hc
      have hc : c ∈ txtL v.line.data.toList := by simpa [txtW] using hc
      rcases List.mem_cons.1 hc with rfl | hc
      · decide
      · exact hexes_word _ c hc
    · simp at hx
theorem actW_ne (v : AV) : wds (actW v) ≠ [] := by simp [actW, wds]
theorem join_mem : ∀ (ws : WS) (c : UInt8), c ∈ Lib.join ws [32] → c = 32 ∨ ∃ w ∈ ws, c ∈ w
  | [], c, h => by simp [Lib.join] at h
  | [w], c, h => Or.inr ⟨w, by simp, by simpa [Lib.join] using h⟩
  | w :: x :: r, c, h => by
    have e : Lib.join (w :: x :: r) [32] = w ++ 32 :: Lib.join (x :: r) [32] := by simp [Lib.join, List.intercalate]
    rw [e] at h
    rcases List.mem_append.1 h with h | h
    · exact Or.inr ⟨w, by simp, h⟩
    · rcases List.mem_cons.1 h with h | h
      · exact Or.inl h
      · rcases join_mem (x :: r) c h with h | ⟨y, hy, h⟩
        · exact Or.inl h
        · exact Or.inr ⟨y, List.mem_cons_of_mem _ hy, h⟩
theorem wds_word {v : AV} (h : ActFn v) : ∀ w ∈ wds (actW v), ∀ c ∈ w, c ≠ 32 ∧ c ≠ 10 := by
  intro w hw
  obtain ⟨x, hx, rfl⟩ := List.mem_map.1 hw
  exact actW_word h x hx
theorem lineL_word {v : AV} (h : ActFn v) : ∀ c ∈ lineL v, c ≠ 10 := by
  intro c hc
  rcases join_mem _ _ hc with rfl | ⟨w, hw, hc⟩
  · decide
  · exact (wds_word h w hw c hc).2
theorem lnAct_line {v : AV} (h : ActFn v) : lnAct (lineL v) = some (nk v) := by
  unfold lnAct lineL
  rw [join_spc _ (actW_ne v) (fun w hw c hc => (wds_word h w hw c hc).1), shown_act h]
theorem line_of {l : List UInt8} {a : AV} (h : lnAct l = some a) (hk : a.kl ≤ 6) : l = lineL a := by
  have h3 := spc_join 32 l.length l (Nat.le_refl _)
  rw [read_act (ln_of h) hk] at h3
  exact h3.symm
theorem spc_lines : ∀ (xs : List AV) (t : List UInt8), (∀ x ∈ xs, ActFn x) → spc 10 (linesOf xs ++ t) = xs.map lineL ++ spc 10 t
  | [], t, _ => rfl
  | x :: r, t, h => by
    have e : linesOf (x :: r) ++ t = lineL x ++ 10 :: (linesOf r ++ t) := by simp [linesOf, actLine_eq]
    rw [e, spc_cut _ _ (lineL_word (h x (by simp))), spc_lines r t (fun y hy => h y (by simp [hy]))]
    rfl
theorem rdL_lines {s : Int} {ls : List (Int × Int)} {p : Int} : ∀ (xs : List AV) (k : Nat) (acc : List AV) (R : WS), R ≠ [] → (∀ x ∈ xs, actFault s ls p x = 0 ∧ ActFn x) → k + xs.length ≤ 3000 → rdL s ls p k acc (xs.map lineL ++ R) = rdL s ls p (k + xs.length) (acc ++ xs.map nk) R
  | [], k, acc, R, _, _, _ => by simp
  | x :: r, k, acc, R, hR, h, hl => by
    obtain ⟨h1, h2⟩ := h x (by simp)
    have hl2 : k + (r.length + 1) ≤ 3000 := hl
    have hf : actFault s ls p (nk x) = 0 := h1
    have ih := rdL_lines (s := s) (ls := ls) (p := p) r (k + 1) (acc ++ [nk x]) R hR (fun y hy => h y (by simp [hy])) (by omega)
    cases e : r.map lineL ++ R with
    | nil => simp at e; exact absurd e.2 hR
    | cons y q =>
      rw [e] at ih
      rw [List.map_cons, List.cons_append, e, rdL, if_neg (by omega), lnAct_line h2]
      simp only [if_pos hf]
      rw [ih, show k + 1 + r.length = k + (x :: r).length by simp; omega]
      simp
theorem fns_of {s : Int} {ls : List (Int × Int)} {p : Int} {xs : List AV} (h : ∀ x ∈ xs, actFault s ls p x = 0 ∧ x.keep.length = x.kl) : ∀ x ∈ xs, actFault s ls p x = 0 ∧ ActFn x := fun x hx => ⟨(h x hx).1, act_fn (h x hx).2 (h x hx).1⟩
theorem rdAll_lines {s : Int} {ls : List (Int × Int)} {p : Int} {xs : List AV} (t : List UInt8) (hc : cfgFault s ls p = 0) (hl : xs.length ≤ 3000) (h : ∀ x ∈ xs, actFault s ls p x = 0 ∧ x.keep.length = x.kl) : rdAll s ls p (linesOf xs ++ t) = rdL s ls p xs.length (xs.map nk) (spc 10 t) := by
  have h2 := fns_of h
  unfold rdAll
  rw [if_neg (by simp [hc]), spc_lines xs t (fun x hx => (h2 x hx).2), rdL_lines xs 0 [] _ (spc_ne 10 t) h2 (by omega)]
  simp
/-- What is shown is read. -/
theorem rdAll_back {s : Int} {ls : List (Int × Int)} {p : Int} {xs : List AV} (hc : cfgFault s ls p = 0) (hl : xs.length ≤ 3000) (h : ∀ x ∈ xs, actFault s ls p x = 0 ∧ x.keep.length = x.kl) : rdAll s ls p (linesOf xs) = (xs.map nk, 0, 0) := by
  have h2 := rdAll_lines [] hc hl h
  rw [List.append_nil] at h2
  rw [h2]
  simp [spc, rdL]
/-- What is read is shown so. -/
theorem rdL_fixed {s : Int} {ls : List (Int × Int)} {p : Int} (hl6 : ls.length ≤ 6) (hc : cfgFault s ls p = 0) : ∀ (n : Nat) (t : List UInt8) (k : Nat) (acc : List AV), t.length ≤ n → k ≤ 3000 →
    ((rdL s ls p k acc (spc 10 t)).2.2 ≠ 0 ∧ (rdL s ls p k acc (spc 10 t)).1 = [] ∧ 0 ≤ (rdL s ls p k acc (spc 10 t)).2.1) ∨ ∃ xs, rdL s ls p k acc (spc 10 t) = (acc ++ xs, 0, 0) ∧ t = linesOf xs ∧ (∀ x ∈ xs, actFault s ls p x = 0) ∧ k + xs.length ≤ 3000 := by
  intro n
  induction n with
  | zero =>
    intro t k acc ht hk
    have : t = [] := List.length_eq_zero_iff.1 (by omega)
    subst this
    exact Or.inr ⟨[], by simp [spc, rdL], rfl, by simp, hk⟩
  | succ n ih =>
    intro t k acc ht hk
    rw [rdL_cut]
    by_cases h0 : t = []
    · subst h0
      rw [if_pos rfl]
      exact Or.inr ⟨[], by simp, rfl, by simp, hk⟩
    · rw [if_neg h0]
      by_cases h3 : k = 3000
      · rw [if_pos h3]
        exact Or.inl ⟨by simp, rfl, by simp⟩
      · rw [if_neg h3]
        by_cases hcu : (cutC 10 t).2.2 = false
        · rw [if_pos hcu]
          exact Or.inl ⟨by simp, rfl, by simp⟩
        · rw [if_neg hcu]
          have hcu2 : (cutC 10 t).2.2 = true := by simpa using hcu
          have hcs := ((cut_spc 10 t).2.1 hcu2)
          cases e : lnAct (cutC 10 t).1 with
          | none => exact Or.inl ⟨by simp, rfl, by simp⟩
          | some a =>
            dsimp only
            by_cases hf : actFault s ls p a = 0
            · rw [if_pos hf]
              have hkl : a.kl ≤ 6 := by
                have hin : actIn s ls.length a = true := by
                  unfold actFault at hf
                  rw [if_neg (by simp [hc])] at hf
                  split at hf
                  · cases hf
                  · split at hf
                    · cases hf
                    · rename_i h9; exact tr9 h9
                unfold actIn at hin
                simp only [Bool.and_eq_true, decide_eq_true_eq] at hin
                omega
              have hlA := line_of e hkl
              rcases ih (cutC 10 t).2.1 (k + 1) (acc ++ [a]) (by omega) (by omega) with h | ⟨xs, h1, h2, h4, h5⟩
              · exact Or.inl h
              · refine Or.inr ⟨a :: xs, by rw [h1]; simp, ?_, ?_, by simp; omega⟩
                · rcases spc_first 10 t with hn | ⟨b, r, rfl, hn⟩
                  · rw [cut_none hn] at hcu2; cases hcu2
                  · rw [cut_hit2 b r hn] at h2 hlA
                    dsimp only at h2 hlA
                    rw [hlA, h2]
                    simp [linesOf, actLine_eq]
                · intro x hx
                  rcases List.mem_cons.1 hx with rfl | hx
                  · exact hf
                  · exact h4 x hx
            · rw [if_neg hf]
              exact Or.inl ⟨hf, rfl, by simp⟩
theorem linesOf_nk : ∀ (xs : List AV), linesOf (xs.map nk) = linesOf xs
  | [] => rfl
  | x :: r => by rw [List.map_cons, linesOf, linesOf, linesOf_nk r]; rfl
theorem badAt_ok {s : Int} {ls : List (Int × Int)} {p : Int} : ∀ (xs : List AV) (k : Nat), (∀ x ∈ xs, actFault s ls p x = 0) → badAt s ls p k xs = none
  | [], _, _ => rfl
  | x :: r, k, h => by
    rw [badAt, if_pos (h x (by simp))]
    exact badAt_ok r (k + 1) (fun y hy => h y (by simp [hy]))
theorem shAll_ok {s : Int} {ls : List (Int × Int)} {p : Int} {xs : List AV} (hc : cfgFault s ls p = 0) (hl : xs.length ≤ 3000) (h : ∀ x ∈ xs, actFault s ls p x = 0) : shAll s ls p xs = (linesOf xs, 0, 0) := by
  unfold shAll
  rw [if_neg (by simp [hc]), if_neg (by omega), badAt_ok xs 0 h]
  rfl
end Go.Proofs.YtlaagfnoepcnlaaDoor.Ln
/- lines.Read. -/
namespace Go.Proofs.YtlaagfnoepcnlaaDoor.Ln
open Go.ChangeShapes Go.WideShapes Go.ChangeAt Go.RowKit
open Go.Proofs.YtlaagfnoepcnlaaDoor.St (BoxN boxn_new own_below IsRow Elem flat own_isRow)
set_option linter.unusedVariables false

theorem nk_fault {s : Int} {ls : List (Int × Int)} {p : Int} {a : AV} : actFault s ls p (nk a) = actFault s ls p a := rfl
theorem OwnActs.keepLen {w : World} {B : Nat} {v : Value} {ys : List AV} (h : OwnActs w B v ys) : True := trivial
/-- Acts that are read of a text. -/
def ReadTo (s : Int) (ls : List (Int × Int)) (p : Int) (t : List UInt8) (w w' : World) (e : Ending) : Prop := ∃ (ao : Option Addr) (cp : Nat) (ys : List AV),
  e = .returned (.tuple #[.slice ao ys.length cp, .int .i64 (rdAll s ls p t).2.1, .int .i64 (rdAll s ls p t).2.2]) ∧ OwnActs w' w.heap.size (.slice ao ys.length cp) ys ∧ ys.map nk = (rdAll s ls p t).1 ∧ (∀ y ∈ ys, y.keep.length = y.kl) ∧ Below w.heap.size w w'
theorem act_cells (X : World) (y : AV) (q : Nat) (hq : q = X.heap.size) : ∀ j, j < 12 → (X.alloc (.cells y.cells.toArray 41)).cell? ⟨q, j, none⟩ = some (y.cells.getD j (.bool false)) := by
  subst hq
  intro j hj
  exact ((boxn_new X y.cells.toArray 41 12 rfl).c j hj).1
theorem av_len2 (x : AV) : x.cells.length = 12 := rfl
theorem av_one2 (y : AV) : ∀ u ∈ y.cells, u.oneCell' = true := by
  intro u hu
  simp only [AV.cells, List.mem_cons, List.not_mem_nil, or_false] at hu
  rcases hu with rfl | rfl | rfl | rfl | rfl | rfl | rfl | rfl | rfl | rfl | rfl | rfl <;> rfl
theorem avInfo2 : (Tryd.prog.info? 41).map (fun i => (i.zero, i.size, i.bytes)) = some (some (.agg #[.int .i64 0, .int .i64 0, .int .i64 0, .int .i64 0, .int .i64 0, .slice none 0 0, .int .i64 0, .int .i64 0, .int .i64 0, .int .i64 0, .int .i64 0, .string ⟨#[]⟩]), 12, 120) := by kernel_rfl
theorem avElem2 : ∃ i, Elem 12 AV.cells 41 25 i (.agg #[.int .i64 0, .int .i64 0, .int .i64 0, .int .i64 0, .int .i64 0, .slice none 0 0, .int .i64 0, .int .i64 0, .int .i64 0, .int .i64 0, .int .i64 0, .string ⟨#[]⟩]) 120 := by
  obtain ⟨j0, hj, lj0, lj1, lj2⟩ := info_parts avInfo2
  exact ⟨j0, av_len2, by decide, av_one2, Tryd.underlying25, hj, lj0, lj1, lj2, rfl⟩
theorem av1 (X : World) (y : AV) (q : Nat) (hq : q = X.heap.size) : IsRow 12 AV.cells (X.alloc (.cells y.cells.toArray 41)) (some ⟨q, 0, none⟩) 1 1 [y] := by
  subst hq
  have b := boxn_new X y.cells.toArray 41 12 rfl
  refine ⟨rfl, Nat.le_refl _, by unfold maxLen; omega, nofun, fun _ => ⟨_, 0, rfl, b.lt, fun i hi j hj => ?_⟩⟩
  obtain rfl : i = 0 := by omega
  rw [Nat.zero_mul, Nat.zero_add, (b.c j hj).1]
  have hl : j < y.cells.length := hj
  simp [List.getD, List.getElem?_eq_getElem hl]
theorem lowA {w : World} {B C : Nat} {v : Value} {ys : List AV} (h : OwnActs w C v ys) (hB : B ≤ C) : OwnActs w B v ys := ⟨ownB h.row hB, fun y hy => ⟨ownB (h.keeps y hy).1 hB, (h.keeps y hy).2⟩⟩
theorem flat_av (ys : List AV) : St.flat AV.cells ys = flatActs ys := rfl
theorem rd_step {s : Int} {ls : List (Int × Int)} {p : Int} {t : List UInt8} {k : Nat} {acc : List AV} {R : List AV × Int × Int} (h : R = rdL s ls p k acc (spc 10 t)) (h0 : t ≠ []) :
    (k = 3000 → R = ([], (k : Int), 1)) ∧ (k ≠ 3000 → (cutC 10 t).2.2 = false ∨ (lnAct (cutC 10 t).1).isSome = false → R = ([], (k : Int), 4)) ∧
    (k ≠ 3000 → (cutC 10 t).2.2 = true → ∀ a, lnAct (cutC 10 t).1 = some a → actFault s ls p a ≠ 0 → R = ([], (k : Int), actFault s ls p a)) ∧
    (k ≠ 3000 → (cutC 10 t).2.2 = true → ∀ a, lnAct (cutC 10 t).1 = some a → actFault s ls p a = 0 → R = rdL s ls p (k + 1) (acc ++ [a]) (spc 10 (cutC 10 t).2.1)) := by
  rw [rdL_cut, if_neg h0] at h
  refine ⟨fun hk => ?_, fun hk hc => ?_, fun hk hc a ha hf => ?_, fun hk hc a ha hf => ?_⟩
  · rw [if_pos hk] at h; exact h
  · rw [if_neg hk] at h
    rcases hc with hc | hc
    · rw [if_pos hc] at h; exact h
    · have hn : lnAct (cutC 10 t).1 = none := by simpa using hc
      rw [hn] at h
      split at h <;> exact h
  · rw [if_neg hk, if_neg (by simp [hc]), ha] at h
    simp only [if_neg hf] at h
    exact h
  · rw [if_neg hk, if_neg (by simp [hc]), ha] at h
    simp only [if_pos hf] at h
    exact h
set_option maxRecDepth 100000 in
set_option maxHeartbeats 8000000 in
theorem read_any (s p : Int) (a : Option Addr) (len cap : Nat) (ls : List (Int × Int)) (t : List UInt8) (w : World) (h : IsLabs w a len cap ls) (hl : t.length ≤ 140737488355328) (hT : ∀ U, Below w.heap.size w U → RdT U) :
    Calls Tryd.prog 11 #[.agg #[.int .i64 s, .slice a len cap, .int .i64 p], .string ⟨t.toArray⟩] w fun e w' => ReadTo s ls p t w w' e := by
  obtain ⟨iA, EA⟩ := avElem2
  obtain ⟨W, hW⟩ : ∃ W : World, W = w.alloc (.cells #[.int .i64 s, .slice a len cap, .int .i64 p] 24) := ⟨_, rfl⟩
  have bW : Below w.heap.size w W := by rw [hW]; exact (Below.refl _ _).alloc (Nat.le_refl _) _
  have bx : BoxN W w.heap.size 3 [.int .i64 s, .slice a len cap, .int .i64 p] := by rw [hW]; exact boxn_new w #[.int .i64 s, .slice a len cap, .int .i64 p] 24 3 rfl
  have HL : Hid (∀ U, Below w.heap.size w U → IsLabs U a len cap ls) := fun U hU => h.below hU
  have HT : Hid (∀ U, Below w.heap.size w U → RdT U) := hT
  have HX : Hid (∀ U, Below W.heap.size W U → BoxN U w.heap.size 3 [.int .i64 s, .slice a len cap, .int .i64 p] ∧ Below w.heap.size w U) := fun U hU => ⟨bx.below hU bx.lt, bW.trans (hU.mono bW.size)⟩
  have x0 : W.cell? ⟨w.heap.size, 0, none⟩ = some (.int .i64 s) := (bx.c 0 (by decide)).1
  have x1 : W.cell? ⟨w.heap.size, 1, none⟩ = some (.slice a len cap) := (bx.c 1 (by decide)).1
  have x2 : W.cell? ⟨w.heap.size, 2, none⟩ = some (.int .i64 p) := (bx.c 2 (by decide)).1
  have zx := bx.lt
  have hCk := fun U (hU : Below w.heap.size w U) => check_any s p a len cap ls U (HL.out U hU)
  have hck := hCk W bW
  obtain ⟨F, eF⟩ : ∃ F, F = cfgFault s ls p := ⟨_, rfl⟩
  obtain ⟨R, eR⟩ : ∃ R, R = rdAll s ls p t := ⟨_, rfl⟩
  have HR : Hid (R = if F ≠ 0 then ([], 0, F) else rdL s ls p 0 [] (spc 10 t)) := by show _ = _; rw [eR, eF]; rfl
  have HFin : Hid (∀ (w' : World) (ao : Option Addr) (cp : Nat) (ys : List AV) (k e : Int), R = (ys.map nk, k, e) → OwnActs w' w.heap.size (.slice ao ys.length cp) ys → (∀ y ∈ ys, y.keep.length = y.kl) → Below w.heap.size w w' → ReadTo s ls p t w w' (.returned (.tuple #[.slice ao ys.length cp, .int .i64 k, .int .i64 e]))) := fun w' ao cp ys k e h1 h2 h3 h4 =>
    ⟨ao, cp, ys, by rw [← eR, h1], h2, by rw [← eR, h1], h3, h4⟩
  rw [← eF] at hck
  clear eR eF hCk hT h bx
  go_enter Tryd.func11, Tryd.ntmps11
  go_upto_region 1 with (fail)
  rw [← hW]
  clear hW
  by_cases hF : F = 0
  · have hF2 : (F != 0) = false := by simp [hF]
    have HR1 : Hid (R = rdL s ls p 0 (([] : List AV).map nk) (spc 10 t)) := by show _ = _; rw [HR.out, if_neg (by simp [hF])]; rfl
    clear HR hF
    go_upto_region 2 with (go_at_call 19; refine hck.mono ?_; rintro e u0 ⟨rfl, hu0⟩)
    have HB0 : Hid (Below W.heap.size W u0) := hu0
    clear hu0 hck x0 x1 x2 zx
    go_upto_region 6 with (fail)
    go_loopg [1, 8, 9] (t.length) (fun m s1 s8 s9 wr => ∃ (t' : List UInt8) (ao : Option Addr) (cp : Nat) (ys : List AV) (k : Nat), s1 = .string ⟨t'.toArray⟩ ∧ s8 = .slice ao ys.length cp ∧ s9 = .int .i64 (k : Int) ∧ k ≤ 3000 ∧ Hid (ys.length = k) ∧ Hid (t'.length ≤ m ∧ t'.length ≤ t.length) ∧ Hid (OwnActs wr W.heap.size (.slice ao ys.length cp) ys) ∧ Hid (R = rdL s ls p k (ys.map nk) (spc 10 t')) ∧ Hid (∀ y ∈ ys, y.keep.length = y.kl) ∧ Hid (Below W.heap.size W wr))
    case atStart => exact ⟨t, none, 0, [], 0, rfl, rfl, rfl, by omega, rfl, ⟨Nat.le_refl _, Nat.le_refl _⟩, ownActs_nil _ _, HR1, (by intro y hy; cases hy), HB0⟩
    case round =>
      clear HR1 HB0
      obtain ⟨t', ao, cp, ys, k, rfl, rfl, rfl, hk3, HK, HM, HO, HRk, HKl, HB⟩ := hrel
      obtain ⟨wo, ewo⟩ : ∃ X : World, X = wr := ⟨_, rfl⟩
      subst ewo
      have hbw := (HX.out wo HB.out).2
      have HE : Hid (∀ (u : World) (kk e : Int), Below wo.heap.size wo u → R = ([], kk, e) → ReadTo s ls p t w u (.returned (.tuple #[.slice none 0 0, .int .i64 kk, .int .i64 e]))) := fun u kk e hu h1 => HFin.out u none 0 [] kk e h1 (ownActs_nil _ _) (by intro y hy; cases hy) (hbw.trans (hu.mono hbw.size))
      by_cases ht : t' = []
      · subst ht
        have HE2 : Hid (ReadTo s ls p t w wo (.returned (.tuple #[.slice ao ys.length cp, .int .i64 0, .int .i64 0]))) := HFin.out wo ao cp ys 0 0 (by rw [HRk.out, rdL_cut, if_pos rfl]) (lowA HO.out bW.size) HKl.out hbw
        clear HE HRk HO HB HKl HK HM hbw
        go_wp2
        go_ret3
        exact HE2.out
      · have ht2 : (t'.isEmpty) = false := by cases t' with | nil => exact absurd rfl ht | cons _ _ => rfl
        obtain ⟨j1, j2, j3, j4⟩ := rd_step HRk.out ht
        have hpos : 0 < t'.length := by cases t' with | nil => exact absurd rfl ht | cons _ _ => simp
        by_cases hk : k = 3000
        · have HE2 : Hid (ReadTo s ls p t w wo (.returned (.tuple #[.slice none 0 0, .int .i64 (k : Int), .int .i64 1]))) := HE.out wo _ _ (Below.refl _ _) (j1 hk)
          have hk2 : ((k : Int) == 3000) = true := by simp [hk]
          clear HE HRk HO HB HKl HK HM hbw j1 j2 j3 j4 hk
          go_wp2
          go_ret3
          exact HE2.out
        · have hk2 : ((k : Int) == 3000) = false := by simp; omega
          have hcut := cut_any ⟨t'.toArray⟩ 10 wo (by show t'.toArray.size ≤ _; have := HM.out; simp; omega)
          simp only at hcut
          have J2 : Hid ((cutC 10 t').2.2 = false ∨ (lnAct (cutC 10 t').1).isSome = false → R = ([], (k : Int), 4)) := j2 hk
          have J3 : Hid ((cutC 10 t').2.2 = true → ∀ a, lnAct (cutC 10 t').1 = some a → actFault s ls p a ≠ 0 → R = ([], (k : Int), actFault s ls p a)) := j3 hk
          have J4 : Hid ((cutC 10 t').2.2 = true → ∀ a, lnAct (cutC 10 t').1 = some a → actFault s ls p a = 0 → R = rdL s ls p (k + 1) (ys.map nk ++ [a]) (spc 10 (cutC 10 t').2.1)) := j4 hk
          have hcl := cutC_len (c := 10) (r := t')
          have hcs := (cut_spc 10 t').2.1
          obtain ⟨A, eA⟩ : ∃ x, x = (cutC 10 t').1 := ⟨_, rfl⟩
          obtain ⟨T2, eT2⟩ : ∃ x, x = (cutC 10 t').2.1 := ⟨_, rfl⟩
          obtain ⟨E, eE⟩ : ∃ x, x = (cutC 10 t').2.2 := ⟨_, rfl⟩
          rw [← eA, ← eT2] at hcl
          rw [← eT2, ← eE] at hcs
          rw [← eA, ← eT2, ← eE] at hcut
          rw [← eE, ← eA] at J2 J3 J4
          rw [← eT2] at J4
          have HMs : Hid (T2.length ≤ t'.length ∧ (E = true → T2.length < t'.length) ∧ t'.length ≤ gk ∧ t'.length ≤ t.length ∧ 0 < t'.length) := ⟨hcl.2, fun h => (hcs h).2, HM.out.1, HM.out.2, hpos⟩
          have hAl : A.length ≤ 140737488355328 := by have := HM.out.2; omega
          have HRA : Hid (∀ u, Below wo.heap.size wo u → Calls Tryd.prog 29 #[.string ⟨A.toArray⟩] u fun e w' => ReadActTo A u w' e) := fun u hu => readAct_any A u hAl (fun U hU => HT.out U ((hbw.trans (hu.mono hbw.size)).trans (hU.mono (hbw.trans (hu.mono hbw.size)).size)))
          clear eA eT2 eE hcl hcs HM hpos j1 j2 j3 j4 hk HRk hAl ht
          go_upto_region 11 with (go_at_call 28; refine hcut.mono ?_; rintro e u1 ⟨rfl, hu1⟩)
          have hra := HRA.out u1 hu1
          clear hcut
          obtain ⟨OKb, eOK⟩ : ∃ x, x = (lnAct A).isSome := ⟨_, rfl⟩
          have HOK : Hid (OKb = (lnAct A).isSome) := eOK
          have HRA2 : Hid (∀ e u2, ReadActTo A u1 u2 e → ∃ a : AV, e = .returned (.tuple #[.agg a.cells.toArray, .bool OKb]) ∧ u2.ownsRow u1.heap.size 3 1 (.slice a.ka a.kl a.kc) a.kl (a.keep.map (Value.int .i64)) ∧ Nums a.keep ∧ a.keep.length = a.kl ∧ (∀ x, lnAct A = some x → x = nk a) ∧ Below u1.heap.size u1 u2) := fun e u2 ⟨a, h1, h2⟩ => ⟨a, by rw [eOK]; exact h1, h2⟩
          have HU1 : Hid (Below wo.heap.size wo u1) := hu1
          clear eOK hu1
          go_upto_region 12 with (go_at_call 29; refine hra.mono ?_; intro e u2 hr2; obtain ⟨y, he, hown, hnums, hkl, hV, hu2⟩ := HRA2.out e u2 hr2; obtain ⟨kd, st, to1, lb, pk1, ka, kl, kc, c0, c1, c2, c3, c4, ln, kp⟩ := y; have he2 : e = .returned (.tuple #[.agg #[.int .i64 kd, .int .i64 st, .int .i64 to1, .int .i64 lb, .int .i64 pk1, .slice ka kl kc, .int .i64 c0, .int .i64 c1, .int .i64 c2, .int .i64 c3, .int .i64 c4, .string ln], .bool OKb]) := he; subst he2)
          have HV : Hid (∀ x, lnAct A = some x → x = nk ⟨kd, st, to1, lb, pk1, ka, kl, kc, c0, c1, c2, c3, c4, ln, kp⟩) := hV
          have HOw : Hid (u2.ownsRow u1.heap.size 3 1 (.slice ka kl kc) kl (kp.map (Value.int .i64)) ∧ Nums kp ∧ kp.length = kl) := ⟨hown, hnums, hkl⟩
          obtain ⟨Y, hY⟩ : ∃ Y : World, Y = u2.alloc (.cells #[.int .i64 kd, .int .i64 st, .int .i64 to1, .int .i64 lb, .int .i64 pk1, .slice ka kl kc, .int .i64 c0, .int .i64 c1, .int .i64 c2, .int .i64 c3, .int .i64 c4, .string ln] 41) := ⟨_, rfl⟩
          have bY : Below u2.heap.size u2 Y := by rw [hY]; exact (Below.refl _ _).alloc (Nat.le_refl _) _
          have bxA : BoxN Y u2.heap.size 12 [.int .i64 kd, .int .i64 st, .int .i64 to1, .int .i64 lb, .int .i64 pk1, .slice ka kl kc, .int .i64 c0, .int .i64 c1, .int .i64 c2, .int .i64 c3, .int .i64 c4, .string ln] := by rw [hY]; exact boxn_new u2 #[.int .i64 kd, .int .i64 st, .int .i64 to1, .int .i64 lb, .int .i64 pk1, .slice ka kl kc, .int .i64 c0, .int .i64 c1, .int .i64 c2, .int .i64 c3, .int .i64 c4, .string ln] 41 12 rfl
          rw [← hY]
          have b0Y : Below wo.heap.size wo Y := (HU1.out.trans (hu2.mono HU1.out.size)).trans (bY.mono (Nat.le_trans HU1.out.size hu2.size))
          have HbY : Hid (Below wo.heap.size wo Y) := b0Y
          have hbR := HE.out Y (k : Int) 4 b0Y
          have HE4 : Hid (R = ([], (k : Int), 4) → ReadTo s ls p t w Y (.returned (.tuple #[.slice none 0 0, .int .i64 (k : Int), .int .i64 4]))) := hbR
          have HbA : Hid (BoxN Y u2.heap.size 12 [.int .i64 kd, .int .i64 st, .int .i64 to1, .int .i64 lb, .int .i64 pk1, .slice ka kl kc, .int .i64 c0, .int .i64 c1, .int .i64 c2, .int .i64 c3, .int .i64 c4, .string ln]) := bxA
          have HO2 : Hid (u1.heap.size ≤ u2.heap.size ∧ Y.ownsRow u1.heap.size 3 1 (.slice ka kl kc) kl (kp.map (Value.int .i64))) := ⟨hu2.size, own_below hown bY⟩
          clear hY hV hown hnums hkl bY bxA hu2 b0Y hbR hra HRA2
          by_cases hEO : E = true ∧ OKb = true
          · obtain ⟨hE1, hO1⟩ := hEO
            subst hE1 hO1
            obtain ⟨a0, ha0⟩ : ∃ a0, lnAct A = some a0 := by
              cases h : lnAct A with
              | none => have := HOK.out; rw [h] at this; cases this
              | some a0 => exact ⟨a0, rfl⟩
            have hnk := HV.out a0 ha0
            subst hnk
            obtain ⟨bx3, bwY⟩ := HX.out Y (HB.out.trans (HbY.out.mono HB.out.size))
            have x0 : Y.cell? ⟨w.heap.size, 0, none⟩ = some (.int .i64 s) := (bx3.c 0 (by decide)).1
            have x1 : Y.cell? ⟨w.heap.size, 1, none⟩ = some (.slice a len cap) := (bx3.c 1 (by decide)).1
            have x2 : Y.cell? ⟨w.heap.size, 2, none⟩ = some (.int .i64 p) := (bx3.c 2 (by decide)).1
            have y0 : Y.cell? ⟨u2.heap.size, 0, none⟩ = some (.int .i64 kd) := (HbA.out.c 0 (by decide)).1
            have y1 : Y.cell? ⟨u2.heap.size, 1, none⟩ = some (.int .i64 st) := (HbA.out.c 1 (by decide)).1
            have y2 : Y.cell? ⟨u2.heap.size, 2, none⟩ = some (.int .i64 to1) := (HbA.out.c 2 (by decide)).1
            have y3 : Y.cell? ⟨u2.heap.size, 3, none⟩ = some (.int .i64 lb) := (HbA.out.c 3 (by decide)).1
            have y4 : Y.cell? ⟨u2.heap.size, 4, none⟩ = some (.int .i64 pk1) := (HbA.out.c 4 (by decide)).1
            have y5 : Y.cell? ⟨u2.heap.size, 5, none⟩ = some (.slice ka kl kc) := (HbA.out.c 5 (by decide)).1
            have y6 : Y.cell? ⟨u2.heap.size, 6, none⟩ = some (.int .i64 c0) := (HbA.out.c 6 (by decide)).1
            have y7 : Y.cell? ⟨u2.heap.size, 7, none⟩ = some (.int .i64 c1) := (HbA.out.c 7 (by decide)).1
            have y8 : Y.cell? ⟨u2.heap.size, 8, none⟩ = some (.int .i64 c2) := (HbA.out.c 8 (by decide)).1
            have y9 : Y.cell? ⟨u2.heap.size, 9, none⟩ = some (.int .i64 c3) := (HbA.out.c 9 (by decide)).1
            have y10 : Y.cell? ⟨u2.heap.size, 10, none⟩ = some (.int .i64 c4) := (HbA.out.c 10 (by decide)).1
            have y11 : Y.cell? ⟨u2.heap.size, 11, none⟩ = some (.string ln) := (HbA.out.c 11 (by decide)).1
            have zx := bx3.lt
            have zy := HbA.out.lt
            have hints : IsInts Y ka kl kc kp := ints_of_own HO2.out.2 HOw.out.2.1
            have tb := (HT.out Y bwY).ln
            have hCk : Calls Tryd.prog 20 #[.agg #[.int .i64 s, .slice a len cap, .int .i64 p], .agg #[.int .i64 kd, .int .i64 st, .int .i64 to1, .int .i64 lb, .int .i64 pk1, .slice ka kl kc, .int .i64 c0, .int .i64 c1, .int .i64 c2, .int .i64 c3, .int .i64 c4, .string ln]] Y fun e w' => e = .returned (.int .i64 (actFault s ls p ⟨kd, st, to1, lb, pk1, ka, kl, kc, c0, c1, c2, c3, c4, ln, kp⟩)) ∧ Below Y.heap.size Y w' := check_act s p a len cap ls ⟨kd, st, to1, lb, pk1, ka, kl, kc, c0, c1, c2, c3, c4, ln, kp⟩ Y (HL.out Y bwY) hints tb.2.1 tb.2.2.2.1 tb.2.2.2.2.2
            have J3b : Hid (actFault s ls p ⟨kd, st, to1, lb, pk1, ka, kl, kc, c0, c1, c2, c3, c4, ln, kp⟩ ≠ 0 → R = ([], (k : Int), actFault s ls p ⟨kd, st, to1, lb, pk1, ka, kl, kc, c0, c1, c2, c3, c4, ln, kp⟩)) := by have := J3.out rfl _ ha0; rw [nk_fault] at this; exact this
            have J4b : Hid (actFault s ls p ⟨kd, st, to1, lb, pk1, ka, kl, kc, c0, c1, c2, c3, c4, ln, kp⟩ = 0 → R = rdL s ls p (k + 1) (ys.map nk ++ [nk ⟨kd, st, to1, lb, pk1, ka, kl, kc, c0, c1, c2, c3, c4, ln, kp⟩]) (spc 10 T2)) := by have := J4.out rfl _ ha0; rw [nk_fault] at this; exact this
            obtain ⟨G, eG⟩ : ∃ G, G = actFault s ls p ⟨kd, st, to1, lb, pk1, ka, kl, kc, c0, c1, c2, c3, c4, ln, kp⟩ := ⟨_, rfl⟩
            rw [← eG] at J3b J4b hCk
            clear eG ha0 hints tb bx3 bwY J2 J3 J4 HV HOK
            by_cases hG : G = 0
            · have hG2 : (G != 0) = false := by simp [hG]
              have HR2 : Hid (R = rdL s ls p (k + 1) ((ys ++ [(⟨kd, st, to1, lb, pk1, ka, kl, kc, c0, c1, c2, c3, c4, ln, kp⟩ : AV)]).map nk) (spc 10 T2)) := by show _ = _; rw [J4b.out hG, List.map_append]; rfl
              have HKs : ys.length ≤ 3000 := by have := HK.out; omega
              have HJ : Hid (k + 1 ≤ 3000 ∧ ys.length = k) := ⟨by have := hk2; simp at this; omega, HK.out⟩
              have hzw : W.heap.size ≤ Y.heap.size := Nat.le_trans HB.out.size HbY.out.size
              have hzu : W.heap.size ≤ u1.heap.size := Nat.le_trans HB.out.size HU1.out.size
              have HPush : Hid (∀ (u3 w5 : World) (a5 : Option Addr) (c5 : Nat), Below Y.heap.size Y u3 → w5.ownsRow W.heap.size 41 12 (.slice a5 (ys.length + 1) c5) (ys.length + 1) (St.flat AV.cells (ys ++ [(⟨kd, st, to1, lb, pk1, ka, kl, kc, c0, c1, c2, c3, c4, ln, kp⟩ : AV)])) → (u3.alloc (.cells #[.int .i64 kd, .int .i64 st, .int .i64 to1, .int .i64 lb, .int .i64 pk1, .slice ka kl kc, .int .i64 c0, .int .i64 c1, .int .i64 c2, .int .i64 c3, .int .i64 c4, .string ln] 41)).grownBy w5 (Value.slice ao ys.length cp).ownBlock → OwnActs w5 W.heap.size (.slice a5 (ys.length + 1) c5) (ys ++ [(⟨kd, st, to1, lb, pk1, ka, kl, kc, c0, c1, c2, c3, c4, ln, kp⟩ : AV)]) ∧ Below W.heap.size W w5) := fun u3 w5 a5 c5 h1 h2 h3 => by
                have b1 : Below wo.heap.size wo u3 := HbY.out.trans (h1.mono HbY.out.size)
                have b2 : Below wo.heap.size wo (u3.alloc (.cells #[.int .i64 kd, .int .i64 st, .int .i64 to1, .int .i64 lb, .int .i64 pk1, .slice ka kl kc, .int .i64 c0, .int .i64 c1, .int .i64 c2, .int .i64 c3, .int .i64 c4, .string ln] 41)) := b1.alloc b1.size _
                refine ⟨OwnActs.push HO.out b2 (ownB (own_below (own_below HO2.out.2 h1) ((Below.refl _ _).alloc (Nat.le_refl _) _)) hzu) HOw.out.2.1 ?_ h3, ?_⟩
                · rw [flat_av, flatActs_append] at h2
                  exact h2
                · have b3 : Below W.heap.size W (u3.alloc (.cells #[.int .i64 kd, .int .i64 st, .int .i64 to1, .int .i64 lb, .int .i64 pk1, .slice ka kl kc, .int .i64 c0, .int .i64 c1, .int .i64 c2, .int .i64 c3, .int .i64 c4, .string ln] 41)) := HB.out.trans (b2.mono HB.out.size)
                  exact b3.grown h3 b3.size (fun g hg => by have := (HO.out.row.lt g hg).1; exact this)
              have HKl2 : Hid (∀ y ∈ ys ++ [(⟨kd, st, to1, lb, pk1, ka, kl, kc, c0, c1, c2, c3, c4, ln, kp⟩ : AV)], y.keep.length = y.kl) := by
                intro y hy
                rcases List.mem_append.1 hy with h | h
                · exact HKl.out y h
                · simp only [List.mem_singleton] at h
                  rw [h]
                  exact HOw.out.2.2
              have HOr : Hid (∀ u3, Below Y.heap.size Y u3 → u3.ownsRow W.heap.size 41 12 (.slice ao ys.length cp) ys.length (St.flat AV.cells ys) ∧ W.heap.size ≤ u3.heap.size) := fun u3 hu3 => ⟨own_below HO.out.row (HbY.out.trans (hu3.mono HbY.out.size)), Nat.le_trans hzw hu3.size⟩
              have HyA : Hid (∀ u3, Below Y.heap.size Y u3 → BoxN u3 u2.heap.size 12 [.int .i64 kd, .int .i64 st, .int .i64 to1, .int .i64 lb, .int .i64 pk1, .slice ka kl kc, .int .i64 c0, .int .i64 c1, .int .i64 c2, .int .i64 c3, .int .i64 c4, .string ln]) := fun u3 hu3 => HbA.out.below hu3 HbA.out.lt
              clear J4b hG HE HE4 HO HKl HB HFin HbY HbA HO2 HOw HK hzw hzu hbw
              go_upto_region 15 with (go_at_call 20; refine hCk.mono ?_; rintro e u3 ⟨rfl, hu3⟩)
              have bx4 := HyA.out u3 hu3
              clear x0 x1 x2 y0 y1 y2 y3 y4 y5 y6 y7 y8 y9 y10 y11 zx zy hCk
              have y0 : u3.cell? ⟨u2.heap.size, 0, none⟩ = some (.int .i64 kd) := (bx4.c 0 (by decide)).1
              have y1 : u3.cell? ⟨u2.heap.size, 1, none⟩ = some (.int .i64 st) := (bx4.c 1 (by decide)).1
              have y2 : u3.cell? ⟨u2.heap.size, 2, none⟩ = some (.int .i64 to1) := (bx4.c 2 (by decide)).1
              have y3 : u3.cell? ⟨u2.heap.size, 3, none⟩ = some (.int .i64 lb) := (bx4.c 3 (by decide)).1
              have y4 : u3.cell? ⟨u2.heap.size, 4, none⟩ = some (.int .i64 pk1) := (bx4.c 4 (by decide)).1
              have y5 : u3.cell? ⟨u2.heap.size, 5, none⟩ = some (.slice ka kl kc) := (bx4.c 5 (by decide)).1
              have y6 : u3.cell? ⟨u2.heap.size, 6, none⟩ = some (.int .i64 c0) := (bx4.c 6 (by decide)).1
              have y7 : u3.cell? ⟨u2.heap.size, 7, none⟩ = some (.int .i64 c1) := (bx4.c 7 (by decide)).1
              have y8 : u3.cell? ⟨u2.heap.size, 8, none⟩ = some (.int .i64 c2) := (bx4.c 8 (by decide)).1
              have y9 : u3.cell? ⟨u2.heap.size, 9, none⟩ = some (.int .i64 c3) := (bx4.c 9 (by decide)).1
              have y10 : u3.cell? ⟨u2.heap.size, 10, none⟩ = some (.int .i64 c4) := (bx4.c 10 (by decide)).1
              have y11 : u3.cell? ⟨u2.heap.size, 11, none⟩ = some (.string ln) := (bx4.c 11 (by decide)).1
              have zy := bx4.lt
              obtain ⟨hO3, hz3⟩ := HOr.out u3 hu3
              have HU3 : Hid (Below Y.heap.size Y u3) := hu3
              clear bx4 hu3
              go_wp2_with (at_builtin; go_loud (refine St.wpList_append_row EA (by rfl) _ _ (by rfl) W.heap.size (.slice ao ys.length cp) ys.length ys (by rfl) (own_below hO3 ((Below.refl _ _).alloc (Nat.le_refl _) _)) _ 1 1 [(⟨kd, st, to1, lb, pk1, ka, kl, kc, c0, c1, c2, c3, c4, ln, kp⟩ : AV)] (by rfl) (av1 u3 ⟨kd, st, to1, lb, pk1, ka, kl, kc, c0, c1, c2, c3, c4, ln, kp⟩ _ rfl) (by unfold maxLen; omega) (by omega) (by simp; omega) ?_; intro a5 c5 w5 own5 gr5 at5; have HP5 : Hid (OwnActs w5 W.heap.size (.slice a5 (ys.length + 1) c5) (ys ++ [(⟨kd, st, to1, lb, pk1, ka, kl, kc, c0, c1, c2, c3, c4, ln, kp⟩ : AV)]) ∧ Below W.heap.size W w5) := HPush.out u3 w5 a5 c5 HU3.out own5 gr5))
              go_roundg (gk - 1)
              case rel => exact ⟨T2, a5, c5, ys ++ [(⟨kd, st, to1, lb, pk1, ka, kl, kc, c0, c1, c2, c3, c4, ln, kp⟩ : AV)], k + 1, rfl, by rw [List.length_append]; rfl, by go_num, HJ.out.1, by show _ = _; rw [List.length_append, HJ.out.2]; rfl, by have := HMs.out; exact ⟨by have := this.2.1 (by first | rfl | trivial); omega, by omega⟩, by rw [List.length_append]; exact HP5.out.1, HR2, HKl2, HP5.out.2⟩
              case measure => have := HMs.out; omega
            · have hG2 : (G != 0) = true := by simp [hG]
              have HEG : Hid (∀ u, Below Y.heap.size Y u → ReadTo s ls p t w u (.returned (.tuple #[.slice none 0 0, .int .i64 (k : Int), .int .i64 G]))) := fun u hu => HE.out u (k : Int) G (HbY.out.trans (hu.mono HbY.out.size)) (J3b.out hG)
              clear J3b J4b hG HE HE4 HO HKl HB HFin HbY HbA HO2 HOw
              go_wp2_with (go_at_call 20; refine hCk.mono ?_; rintro e u3 ⟨rfl, hu3⟩; have hE := HEG.out u3 hu3)
              go_ret3
              exact hE
          · have HE5 := HE4.out (J2.out (by
              cases hE2 : E with
              | false => exact Or.inl rfl
              | true =>
                cases hO2 : OKb with
                | false => exact Or.inr (by rw [← HOK.out]; exact hO2)
                | true => exact absurd ⟨hE2, hO2⟩ hEO))
            clear J2 J3 J4 HE HE4 HO HKl HB HFin HbY HbA HO2 HOw HV HOK hbw
            cases E <;> cases OKb
            case true.true => exact absurd ⟨rfl, rfl⟩ hEO
            all_goals
              clear hEO
              go_wp2
              go_ret3
              exact HE5
  · have hF2 : (F != 0) = true := by simp [hF]
    have HE : Hid (∀ u, Below w.heap.size w u → ReadTo s ls p t w u (.returned (.tuple #[.slice none 0 0, .int .i64 0, .int .i64 F]))) := fun u hu => HFin.out u none 0 [] 0 F (by rw [HR.out, if_pos hF]; rfl) (ownActs_nil _ _) (by intro y hy; cases hy) hu
    clear hF HR HFin
    go_wp2_with (go_at_call 19; refine hck.mono ?_; rintro e u0 ⟨rfl, hu0⟩; have hE := HE.out u0 (bW.trans (hu0.mono bW.size)))
    go_ret3
    exact hE
end Go.Proofs.YtlaagfnoepcnlaaDoor.Ln
/- A config made of raw numbers, whatever its patience. -/
namespace Go.Proofs.YtlaagfnoepcnlaaDoor
open Go.ChangeShapes Go.WideShapes Go.ChangeAt Go.RowKit
set_option linter.unusedVariables false

namespace Kp
/-- A config that may be, and where its labels lie. -/
structure GoodC (w : World) (S P : Int) (g n cp : Nat) (L : List (Int × Int)) : Prop where
  labs : IsLabs w (some ⟨g, 0, none⟩) n cp L
  ok : cfgFault S L P = 0
  s1 : 1 ≤ S
  s3 : S ≤ 3
  n1 : 1 ≤ n
  n4 : n ≤ 4
  nl : Hid (n = L.length)

theorem GoodC.below {w w' : World} {S P : Int} {g n cp : Nat} {L : List (Int × Int)} (h : GoodC w S P g n cp L) (hb : Below w.heap.size w w') : GoodC w' S P g n cp L :=
  ⟨h.labs.below hb, h.ok, h.s1, h.s3, h.n1, h.n4, h.nl⟩

theorem cfg_goodP (s p : Int) (a : Option Addr) (len cap : Nat) (zs : List Int) (w : World) (hs : -9223372036854775808 ≤ s ∧ s ≤ 9223372036854775807) (hp : -9223372036854775808 ≤ p ∧ p ≤ 9223372036854775807) (h : IsInts w a len cap zs) :
    Calls Tryd.prog 14 #[.int .i64 s, .slice a len cap, .int .i64 p] w fun e w' => ∃ (S P : Int) (g n cp : Nat) (L : List (Int × Int)), e = .returned (.agg #[.int .i64 S, .slice (some ⟨g, 0, none⟩) n cp, .int .i64 P]) ∧ GoodC w' S P g n cp L ∧ Below w.heap.size w w' := by
  refine (config_any s p a len cap zs w hs hp h).mono ?_
  rintro e w' ⟨g, cp, rfl, h1, h2, h3, h4, hb⟩
  have bs := cfgS_bd s
  have bp := cfgP_bd p
  obtain ⟨hgood, hn1⟩ := good_labs zs
  refine ⟨cfgS s, cfgP p, g, (cfgLabs zs).length, cp, cfgLabs zs, rfl, ⟨⟨rfl, h2, h3, fun _ => ⟨g, 0, rfl, h4⟩⟩, cfgFault_good hgood hn1 (by omega) (by omega), bs.1, bs.2, hn1, hgood.len, rfl⟩, hb⟩
end Kp
end Go.Proofs.YtlaagfnoepcnlaaDoor
