/- Texts of this claim, one behind the other. -/
import Derived.Test.YtlaagfnoepcnlaaDoorM24LinesReads
import Derived.Test.YtlaagfnoepcnlaaDoorM23LinesReads
/- What is shown is read, and what is read is shown so: texts of many lines. -/
namespace Go.Proofs.YtlaagfnoepcnlaaDoor.Ln
set_option linter.unusedVariables false

def lineL (v : AV) : List UInt8 := Lib.join (wds (actW v)) [32]
theorem actLine_eq (v : AV) : actLine v = lineL v ++ [10] := rfl
theorem aWord_word : ∀ k : Fin 9, ∀ c ∈ (aWord k.val).data.toList, c ≠ 32 ∧ c ≠ 10 := by decide
theorem cWord_word : ∀ k : Fin 6, ∀ c ∈ (cWord k.val).data.toList, c ≠ 32 ∧ c ≠ 10 := by decide
theorem wNum_word {z : Int} (h : 0 ≤ z) : ∀ c ∈ (wNum z).data.toList, c ≠ 32 ∧ c ≠ 10 := itoa_word h
theorem actW_word {v : AV} (h : ActFn v) : ∀ x ∈ actW v, ∀ c ∈ x.data.toList, c ≠ 32 ∧ c ≠ 10 := by
  intro x hx
  unfold actW at hx
  simp only [List.mem_append] at hx
  rcases hx with (((hx | hx) | hx) | hx) | hx
  · simp only [List.mem_singleton] at hx
    subst hx
    exact aWord_word ⟨v.kind.toNat, by have := h.kind; omega⟩
  · exact numsW_all (P := fun x => ∀ c ∈ x.data.toList, c ≠ 32 ∧ c ≠ 10) _ _ (fun z hz => wNum_word (h.pos z hz).1) x hx
  · obtain ⟨z, hz, rfl⟩ := List.mem_map.1 hx
    exact wNum_word (h.keep.2.2.1 z hz).1
  · split at hx
    · rename_i k1
      obtain ⟨d1, d2, _⟩ := h.call1 k1
      simp only [callW, List.mem_cons] at hx
      rcases hx with rfl | hx
      · exact cWord_word ⟨v.c0.toNat, by omega⟩
      · exact numsW_all (P := fun x => ∀ c ∈ x.data.toList, c ≠ 32 ∧ c ≠ 10) _ _ (fun z hz => wNum_word (d2 z hz).1) x hx
    · simp at hx
  · split at hx
    · simp only [List.mem_singleton] at hx
      subst hx
      intro c hc
      have hc : c ∈ txtL v.line.data.toList := by simpa [txtW] using hc
      rcases List.mem_cons.1 hc with rfl | hc
      · decide
      · exact hexes_word _ c hc
    · simp at hx
theorem actW_ne (v : AV) : wds (actW v) ≠ [] := by simp [actW, wds]
theorem join_mem : ∀ (ws : WS) (c : UInt8), c ∈ Lib.join ws [32] → c = 32 ∨ ∃ w ∈ ws, c ∈ w
  | [], c, h => by simp [Lib.join] at h
  | [w], c, h => Or.inr ⟨w, by simp, by simpa [Lib.join] using h⟩
  | w :: x :: r, c, h => by
    have e : Lib.join (w :: x :: r) [32] = w ++ 32 :: Lib.join (x :: r) [32] := by simp [Lib.join, List.intercalate]
    rw [e] at h
    rcases List.mem_append.1 h with h | h
    · exact Or.inr ⟨w, by simp, h⟩
    · rcases List.mem_cons.1 h with h | h
      · exact Or.inl h
      · rcases join_mem (x :: r) c h with h | ⟨y, hy, h⟩
        · exact Or.inl h
        · exact Or.inr ⟨y, List.mem_cons_of_mem _ hy, h⟩
theorem wds_word {v : AV} (h : ActFn v) : ∀ w ∈ wds (actW v), ∀ c ∈ w, c ≠ 32 ∧ c ≠ 10 := by
  intro w hw
  obtain ⟨x, hx, rfl⟩ := List.mem_map.1 hw
  exact actW_word h x hx
theorem lineL_word {v : AV} (h : ActFn v) : ∀ c ∈ lineL v, c ≠ 10 := by
  intro c hc
  rcases join_mem _ _ hc with rfl | ⟨w, hw, hc⟩
  · decide
  · exact (wds_word h w hw c hc).2
theorem lnAct_line {v : AV} (h : ActFn v) : lnAct (lineL v) = some (nk v) := by
  unfold lnAct lineL
  rw [join_spc _ (actW_ne v) (fun w hw c hc => (wds_word h w hw c hc).1), shown_act h]
theorem line_of {l : List UInt8} {a : AV} (h : lnAct l = some a) (hk : a.kl ≤ 6) : l = lineL a := by
  have h3 := spc_join 32 l.length l (Nat.le_refl _)
  rw [read_act (ln_of h) hk] at h3
  exact h3.symm
theorem spc_lines : ∀ (xs : List AV) (t : List UInt8), (∀ x ∈ xs, ActFn x) → spc 10 (linesOf xs ++ t) = xs.map lineL ++ spc 10 t
  | [], t, _ => rfl
  | x :: r, t, h => by
    have e : linesOf (x :: r) ++ t = lineL x ++ 10 :: (linesOf r ++ t) := by simp [linesOf, actLine_eq]
    rw [e, spc_cut _ _ (lineL_word (h x (by simp))), spc_lines r t (fun y hy => h y (by simp [hy]))]
    rfl
theorem rdL_lines {s : Int} {ls : List (Int × Int)} {p : Int} : ∀ (xs : List AV) (k : Nat) (acc : List AV) (R : WS), R ≠ [] → (∀ x ∈ xs, actFault s ls p x = 0 ∧ ActFn x) → k + xs.length ≤ 3000 → rdL s ls p k acc (xs.map lineL ++ R) = rdL s ls p (k + xs.length) (acc ++ xs.map nk) R
  | [], k, acc, R, _, _, _ => by simp
  | x :: r, k, acc, R, hR, h, hl => by
    obtain ⟨h1, h2⟩ := h x (by simp)
    have hl2 : k + (r.length + 1) ≤ 3000 := hl
    have hf : actFault s ls p (nk x) = 0 := h1
    have ih := rdL_lines (s := s) (ls := ls) (p := p) r (k + 1) (acc ++ [nk x]) R hR (fun y hy => h y (by simp [hy])) (by omega)
    cases e : r.map lineL ++ R with
    | nil => simp at e; exact absurd e.2 hR
    | cons y q =>
      rw [e] at ih
      rw [List.map_cons, List.cons_append, e, rdL, if_neg (by omega), lnAct_line h2]
      simp only [if_pos hf]
      rw [ih, show k + 1 + r.length = k + (x :: r).length by simp; omega]
      simp
theorem fns_of {s : Int} {ls : List (Int × Int)} {p : Int} {xs : List AV} (h : ∀ x ∈ xs, actFault s ls p x = 0 ∧ x.keep.length = x.kl) : ∀ x ∈ xs, actFault s ls p x = 0 ∧ ActFn x := fun x hx => ⟨(h x hx).1, act_fn (h x hx).2 (h x hx).1⟩
theorem rdAll_lines {s : Int} {ls : List (Int × Int)} {p : Int} {xs : List AV} (t : List UInt8) (hc : cfgFault s ls p = 0) (hl : xs.length ≤ 3000) (h : ∀ x ∈ xs, actFault s ls p x = 0 ∧ x.keep.length = x.kl) : rdAll s ls p (linesOf xs ++ t) = rdL s ls p xs.length (xs.map nk) (spc 10 t) := by
  have h2 := fns_of h
  unfold rdAll
  rw [if_neg (by simp [hc]), spc_lines xs t (fun x hx => (h2 x hx).2), rdL_lines xs 0 [] _ (spc_ne 10 t) h2 (by omega)]
  simp
/-- What is shown is read. -/
theorem rdAll_back {s : Int} {ls : List (Int × Int)} {p : Int} {xs : List AV} (hc : cfgFault s ls p = 0) (hl : xs.length ≤ 3000) (h : ∀ x ∈ xs, actFault s ls p x = 0 ∧ x.keep.length = x.kl) : rdAll s ls p (linesOf xs) = (xs.map nk, 0, 0) := by
  have h2 := rdAll_lines [] hc hl h
  rw [List.append_nil] at h2
  rw [h2]
  simp [spc, rdL]
/-- What is read is shown so. -/
theorem rdL_fixed {s : Int} {ls : List (Int × Int)} {p : Int} (hl6 : ls.length ≤ 6) (hc : cfgFault s ls p = 0) : ∀ (n : Nat) (t : List UInt8) (k : Nat) (acc : List AV), t.length ≤ n → k ≤ 3000 →
    ((rdL s ls p k acc (spc 10 t)).2.2 ≠ 0 ∧ (rdL s ls p k acc (spc 10 t)).1 = [] ∧ 0 ≤ (rdL s ls p k acc (spc 10 t)).2.1) ∨ ∃ xs, rdL s ls p k acc (spc 10 t) = (acc ++ xs, 0, 0) ∧ t = linesOf xs ∧ (∀ x ∈ xs, actFault s ls p x = 0) ∧ k + xs.length ≤ 3000 := by
  intro n
  induction n with
  | zero =>
    intro t k acc ht hk
    have : t = [] := List.length_eq_zero_iff.1 (by omega)
    subst this
    exact Or.inr ⟨[], by simp [spc, rdL], rfl, by simp, hk⟩
  | succ n ih =>
    intro t k acc ht hk
    rw [rdL_cut]
    by_cases h0 : t = []
    · subst h0
      rw [if_pos rfl]
      exact Or.inr ⟨[], by simp, rfl, by simp, hk⟩
    · rw [if_neg h0]
      by_cases h3 : k = 3000
      · rw [if_pos h3]
        exact Or.inl ⟨by simp, rfl, by simp⟩
      · rw [if_neg h3]
        by_cases hcu : (cutC 10 t).2.2 = false
        · rw [if_pos hcu]
          exact Or.inl ⟨by simp, rfl, by simp⟩
        · rw [if_neg hcu]
          have hcu2 : (cutC 10 t).2.2 = true := by simpa using hcu
          have hcs := ((cut_spc 10 t).2.1 hcu2)
          cases e : lnAct (cutC 10 t).1 with
          | none => exact Or.inl ⟨by simp, rfl, by simp⟩
          | some a =>
            dsimp only
            by_cases hf : actFault s ls p a = 0
            · rw [if_pos hf]
              have hkl : a.kl ≤ 6 := by
                have hin : actIn s ls.length a = true := by
                  unfold actFault at hf
                  rw [if_neg (by simp [hc])] at hf
                  split at hf
                  · cases hf
                  · split at hf
                    · cases hf
                    · rename_i h9; exact tr9 h9
                unfold actIn at hin
                simp only [Bool.and_eq_true, decide_eq_true_eq] at hin
                omega
              have hlA := line_of e hkl
              rcases ih (cutC 10 t).2.1 (k + 1) (acc ++ [a]) (by omega) (by omega) with h | ⟨xs, h1, h2, h4, h5⟩
              · exact Or.inl h
              · refine Or.inr ⟨a :: xs, by rw [h1]; simp, ?_, ?_, by simp; omega⟩
                · rcases spc_first 10 t with hn | ⟨b, r, rfl, hn⟩
                  · rw [cut_none hn] at hcu2; cases hcu2
                  · rw [cut_hit2 b r hn] at h2 hlA
                    dsimp only at h2 hlA
                    rw [hlA, h2]
                    simp [linesOf, actLine_eq]
                · intro x hx
                  rcases List.mem_cons.1 hx with rfl | hx
                  · exact hf
                  · exact h4 x hx
            · rw [if_neg hf]
              exact Or.inl ⟨hf, rfl, by simp⟩
theorem linesOf_nk : ∀ (xs : List AV), linesOf (xs.map nk) = linesOf xs
  | [] => rfl
  | x :: r => by rw [List.map_cons, linesOf, linesOf, linesOf_nk r]; rfl
theorem badAt_ok {s : Int} {ls : List (Int × Int)} {p : Int} : ∀ (xs : List AV) (k : Nat), (∀ x ∈ xs, actFault s ls p x = 0) → badAt s ls p k xs = none
  | [], _, _ => rfl
  | x :: r, k, h => by
    rw [badAt, if_pos (h x (by simp))]
    exact badAt_ok r (k + 1) (fun y hy => h y (by simp [hy]))
theorem shAll_ok {s : Int} {ls : List (Int × Int)} {p : Int} {xs : List AV} (hc : cfgFault s ls p = 0) (hl : xs.length ≤ 3000) (h : ∀ x ∈ xs, actFault s ls p x = 0) : shAll s ls p xs = (linesOf xs, 0, 0) := by
  unfold shAll
  rw [if_neg (by simp [hc]), if_neg (by omega), badAt_ok xs 0 h]
  rfl
end Go.Proofs.YtlaagfnoepcnlaaDoor.Ln
/- The document's lines, on plain data: they are read as the program's are. -/
namespace Go.Proofs.YtlaagfnoepcnlaaDoor.Ln
set_option linter.unusedVariables false

/-- An act whose Keep is cut off behind the seventh. -/
def cap7 (a : AV) : AV := { a with kl := (a.keep.take 7).length, keep := a.keep.take 7 }
theorem cap_mk (k : Nat) (ps zs : List Int) (c : CV) (t : List UInt8) : cap7 (mkA k ps zs c t) = mkAct k ps zs c t := rfl
theorem cap_fault {s : Int} {ls : List (Int × Int)} {p : Int} {a : AV} (hl : ls.length ≤ 6) (hk : a.keep.length = a.kl) : actFault s ls p (cap7 a) = actFault s ls p a := by
  by_cases h : a.kl ≤ 6
  · have e : a.keep.take 7 = a.keep := List.take_of_length_le (by omega)
    have : cap7 a = a := by
      unfold cap7
      rw [e, hk]
    rw [this]
  · have h7 : (a.keep.take 7).length = 7 := by rw [List.length_take]; omega
    have i1 : actIn s ls.length a = false := by
      unfold actIn
      have : decide (a.kl ≤ ls.length) = false := by simp; omega
      rw [this]
      rfl
    have i2 : actIn s ls.length (cap7 a) = false := by
      unfold actIn
      have : decide ((cap7 a).kl ≤ ls.length) = false := by show decide ((a.keep.take 7).length ≤ ls.length) = false; rw [h7]; simp; omega
      rw [this]
      rfl
    unfold actFault
    rw [i1, i2]
    rfl
def bW (l : List UInt8) : List UInt8 := l
def askW : List UInt8 := [97, 115, 107]
def dlvW : List UInt8 := [100, 101, 108, 105, 118, 101, 114]
def drpW : List UInt8 := [100, 114, 111, 112]
def cpyW : List UInt8 := [99, 111, 112, 121]
def tckW : List UInt8 := [116, 105, 99, 107]
def crsW : List UInt8 := [99, 114, 97, 115, 104]
def stuW : List UInt8 := [115, 116, 97, 114, 116]
def typW : List UInt8 := [116, 121, 112, 101]
def bgnW : List UInt8 := [98, 101, 103, 105, 110]
def gttW : List UInt8 := [103, 101, 116]
def putW : List UInt8 := [112, 117, 116]
def cmtW : List UInt8 := [99, 111, 109, 109, 105, 116]
def rbkW : List UInt8 := [114, 111, 108, 108, 98, 97, 99, 107]
/-- A call of its words, as the document has it. -/
def dcCall : WS → Option CV
  | [] => none
  | w :: r => match stKept r with
    | none => none
    | some l =>
      if w = bgnW then (if l.length = 0 then some ⟨1, [0, 0, 0, 0]⟩ else none)
      else if w = gttW then (if l.length = 3 then some ⟨2, [l.getD 0 0, l.getD 1 0, l.getD 2 0, 0]⟩ else none)
      else if w = putW then (if l.length = 3 then some ⟨3, [l.getD 0 0, 0, l.getD 1 0, l.getD 2 0]⟩ else none)
      else if w = cmtW then (if l.length = 1 then some ⟨4, [l.getD 0 0, 0, 0, 0]⟩ else none)
      else if w = rbkW then (if l.length = 1 then some ⟨5, [l.getD 0 0, 0, 0, 0]⟩ else none)
      else none
/-- An act of its words, as the document has it. -/
def dcAct (ws : WS) : Option AV :=
  if ws.headD [] = askW ∨ ws.headD [] = typW then
    if ws.length < 4 then none else match stKept ((ws.drop 1).take 2) with
      | none => none
      | some l =>
        if ws.headD [] = askW then (dcCall (ws.drop 3)).map fun c => mkA 1 [l.getD 0 0, 0, l.getD 1 0, 0] [] c []
        else if ws.length = 4 then (stText (ws.getD 3 [])).map fun t => mkA 8 [l.getD 0 0, 0, l.getD 1 0, 0] [] CV.nil t else none
  else match stKept ws.tail with
    | none => none
    | some l =>
      if ws.headD [] = tckW then (if l.length = 0 then some (mkA 5 [0, 0, 0, 0] [] CV.nil []) else none)
      else if ws.headD [] = stuW then (if l.length = 1 then some (mkA 7 [l.getD 0 0, 0, 0, 0] [] CV.nil []) else none)
      else if ws.headD [] = crsW then (if 0 < l.length then some (mkA 6 [l.getD 0 0, 0, 0, 0] l.tail CV.nil []) else none)
      else if ws.headD [] = dlvW then (if l.length = 4 then some (mkA 2 [l.getD 0 0, l.getD 1 0, l.getD 2 0, l.getD 3 0] [] CV.nil []) else none)
      else if ws.headD [] = drpW then (if l.length = 4 then some (mkA 3 [l.getD 0 0, l.getD 1 0, l.getD 2 0, l.getD 3 0] [] CV.nil []) else none)
      else if ws.headD [] = cpyW then (if l.length = 4 then some (mkA 4 [l.getD 0 0, l.getD 1 0, l.getD 2 0, l.getD 3 0] [] CV.nil []) else none)
      else none
theorem stKept_len : ∀ {ws : WS} {l : List Int}, stKept ws = some l → l.length = ws.length
  | [], l, h => by cases h; rfl
  | w :: r, l, h => by
    rw [stKept] at h
    cases e1 : numL w with
    | none => rw [e1] at h; cases h
    | some n =>
      rw [e1] at h
      cases e2 : stKept r with
      | none => simp only [e2] at h; cases h
      | some q =>
        simp only [e2] at h
        cases h
        simp [stKept_len e2]
def fin9 {α : Type} : Option (α × WS) → Option α
  | some (a, []) => some a
  | _ => none
theorem lnAct_fin (l : List UInt8) : lnAct l = fin9 (stAct (spc 32 l)) := by
  unfold lnAct fin9
  cases stAct (spc 32 l) with
  | none => rfl
  | some p =>
    obtain ⟨a, ws⟩ := p
    cases ws <;> rfl
theorem call_dc (ws : WS) : fin9 (stCall ws) = dcCall ws := by
  cases ws with
  | nil => rfl
  | cons w r =>
    unfold stCall dcCall
    rw [List.headD_cons, List.tail_cons]
    by_cases h1 : w = bgnW
    · subst h1
      have e : kindC bgnW = 1 := by decide
      rw [e, if_neg (by decide)]
      show fin9 ((stNums [false, false, false, false] r).map _) = _
      cases r with
      | nil => rfl
      | cons a t =>
        simp only [stNums, Bool.false_eq_true, if_false, Option.map_some, fin9, stKept]
        cases numL a with
        | none => rfl
        | some n =>
          cases stKept t with
          | none => rfl
          | some l => simp
    · by_cases h2 : w = gttW
      · subst h2
        have e : kindC gttW = 2 := by decide
        rw [e, if_neg (by decide)]
        show fin9 ((stNums [true, true, true, false] r).map _) = _
        rcases r with _ | ⟨a, _ | ⟨b, _ | ⟨c, _ | ⟨d, t⟩⟩⟩⟩
        all_goals simp only [stNums, List.headD_nil, List.headD_cons, List.tail_cons, numL_nil, if_true, Bool.false_eq_true, if_false, stKept, Option.map_some, Option.map_none]
        · rfl
        · cases numL a <;> rfl
        · cases numL a <;> cases numL b <;> rfl
        · cases numL a <;> cases numL b <;> cases numL c <;> rfl
        · cases numL a <;> cases numL b <;> cases numL c <;> cases numL d <;> cases stKept t <;> simp [fin9, h1]
      · by_cases h3 : w = putW
        · subst h3
          have e : kindC putW = 3 := by decide
          rw [e, if_neg (by decide)]
          show fin9 ((stNums [true, false, true, true] r).map _) = _
          rcases r with _ | ⟨a, _ | ⟨b, _ | ⟨c, _ | ⟨d, t⟩⟩⟩⟩
          all_goals simp only [stNums, List.headD_nil, List.headD_cons, List.tail_cons, numL_nil, if_true, Bool.false_eq_true, if_false, stKept, Option.map_some, Option.map_none]
          · rfl
          · cases numL a <;> rfl
          · cases numL a <;> cases numL b <;> rfl
          · cases numL a <;> cases numL b <;> cases numL c <;> rfl
          · cases numL a <;> cases numL b <;> cases numL c <;> cases numL d <;> cases stKept t <;> simp [fin9, h1, h2]
        · by_cases h4 : w = cmtW
          · subst h4
            have e : kindC cmtW = 4 := by decide
            rw [e, if_neg (by decide)]
            show fin9 ((stNums [true, false, false, false] r).map _) = _
            rcases r with _ | ⟨a, _ | ⟨b, t⟩⟩
            all_goals simp only [stNums, List.headD_nil, List.headD_cons, List.tail_cons, numL_nil, if_true, Bool.false_eq_true, if_false, stKept, Option.map_some, Option.map_none]
            · rfl
            · cases numL a <;> rfl
            · cases numL a <;> cases numL b <;> cases stKept t <;> simp [fin9, h1, h2, h3]
          · by_cases h5 : w = rbkW
            · subst h5
              have e : kindC rbkW = 5 := by decide
              rw [e, if_neg (by decide)]
              show fin9 ((stNums [true, false, false, false] r).map _) = _
              rcases r with _ | ⟨a, _ | ⟨b, t⟩⟩
              all_goals simp only [stNums, List.headD_nil, List.headD_cons, List.tail_cons, numL_nil, if_true, Bool.false_eq_true, if_false, stKept, Option.map_some, Option.map_none]
              · rfl
              · cases numL a <;> rfl
              · cases numL a <;> cases numL b <;> cases stKept t <;> simp [fin9, h1, h2, h3, h4]
            · by_cases h0 : w = []
              · subst h0
                have e : kindC ([] : List UInt8) = 0 := by decide
                rw [e, if_pos rfl]
                dsimp only
                cases stKept r with
                | none => rfl
                | some l => simp [fin9, h1, h2, h3, h4, h5]
              · have e : kindC w = 0 := by
                  simp only [kindC, kFind]
                  have g1 : ¬ (cWord 1).data.toList = w := fun e => h1 e.symm
                  have g2 : ¬ (cWord 2).data.toList = w := fun e => h2 e.symm
                  have g3 : ¬ (cWord 3).data.toList = w := fun e => h3 e.symm
                  have g4 : ¬ (cWord 4).data.toList = w := fun e => h4 e.symm
                  have g5 : ¬ (cWord 5).data.toList = w := fun e => h5 e.symm
                  rw [if_neg g1, if_neg g2, if_neg g3, if_neg g4, if_neg g5]
                  simp
                rw [e, if_pos rfl]
                dsimp only
                cases stKept r with
                | none => rfl
                | some l => simp [fin9, h1, h2, h3, h4, h5]
end Go.Proofs.YtlaagfnoepcnlaaDoor.Ln
/- The document's callOf: a call of its words. -/
namespace Go.Proofs.YtlaagfnoepcnlaaDoor.Ln
open Go.ChangeShapes Go.WideShapes Go.ChangeAt Go.RowKit
open Go.Proofs.YtlaagfnoepcnlaaDoor.St (BoxN boxn_new own_below IsRow Elem own_isRow)
set_option linter.unusedVariables false

theorem slice_t1 (b off n c : Nat) (U : World) (h : 1 ≤ n) (hnc : n ≤ c) (hc : c ≤ 9223372036854775807) : (Instr.slice 45 (.slice (some ⟨b, off, none⟩) n c) (some (.int .i64 1)) none none).run Tryd.prog U = .ok (.slice (if c = 1 then some ⟨b, off, none⟩ else some ⟨b, off + 1, none⟩) (n - 1) (c - 1)) U := by
  go_simp
  intro h9
  omega
theorem slice_t3 (b off n c : Nat) (U : World) (h : 3 ≤ n) (hnc : n ≤ c) (hc : c ≤ 9223372036854775807) : (Instr.slice 45 (.slice (some ⟨b, off, none⟩) n c) (some (.int .i64 3)) none none).run Tryd.prog U = .ok (.slice (if c = 3 then some ⟨b, off, none⟩ else some ⟨b, off + 3, none⟩) (n - 3) (c - 3)) U := by
  go_simp
  intro h9
  omega
theorem slice_t13 (b off n c : Nat) (U : World) (h : 3 ≤ n) (hnc : n ≤ c) (hc : c ≤ 9223372036854775807) : (Instr.slice 45 (.slice (some ⟨b, off, none⟩) n c) (some (.int .i64 1)) (some (.int .i64 3)) none).run Tryd.prog U = .ok (.slice (some ⟨b, off + 1, none⟩) 2 (c - 1)) U := by
  go_simp
  rw [if_pos (by omega), if_neg (by omega)]
theorem slice_i1 (b off n c : Nat) (U : World) (h : 1 ≤ n) (hnc : n ≤ c) (hc : c ≤ 9223372036854775807) : (Instr.slice 34 (.slice (some ⟨b, off, none⟩) n c) (some (.int .i64 1)) none none).run Tryd.prog U = .ok (.slice (if c = 1 then some ⟨b, off, none⟩ else some ⟨b, off + 1, none⟩) (n - 1) (c - 1)) U := by
  go_simp
  intro h9
  omega
theorem strs_tail {w : World} {b off n c : Nat} {ws : List ByteArray} (h : IsStrs w (some ⟨b, off, none⟩) n c ws) (lo : Nat) (h1 : lo ≤ n) (a1 : Option Addr) (ha : a1 = if c = lo then some ⟨b, off, none⟩ else some ⟨b, off + lo, none⟩) : IsStrs w a1 (n - lo) (c - lo) (ws.drop lo) := by
  obtain ⟨e1, e2, e3, e4⟩ := h
  refine ⟨by rw [List.length_drop, e1], by omega, by omega, fun h0 => ?_⟩
  obtain ⟨b', off', ea, hb, hc⟩ := e4 (by omega)
  cases ea
  rw [if_neg (by omega)] at ha
  refine ⟨b, off + lo, ha, hb, fun i hi => ?_⟩
  rw [show off + lo + i = off + (lo + i) by omega, hc (lo + i) (by omega)]
  simp [List.getD, List.getElem?_drop]
/-- A call that is read of words. -/
def CallOfTo (ws : List ByteArray) (w w' : World) (e : Ending) : Prop := ∃ (k : Nat) (p0 p1 p2 p3 : Int), e = .returned (.tuple #[.agg #[.int .i64 (k : Int), .int .i64 p0, .int .i64 p1, .int .i64 p2, .int .i64 p3], .bool (dcCall (txt ws)).isSome]) ∧ (∀ cv, dcCall (txt ws) = some cv → cv = ⟨k, [p0, p1, p2, p3]⟩) ∧ Below w.heap.size w w'
theorem ints_cells {w : World} {B : Nat} {a : Option Addr} {n c : Nat} {zs : List Int} (h : w.ownsRow B 3 1 (.slice a n c) n (St.flat iC zs)) (hl : zs.length = n) (h0 : 0 < n) : ∃ b off, a = some ⟨b, off, none⟩ ∧ b < w.heap.size ∧ ∀ i, i < n → w.cell? ⟨b, off + i, none⟩ = some (.int .i64 (zs.getD i 0)) := by
  obtain ⟨⟨_, _, _, _, h5⟩, -⟩ := own_isRow iC_len h hl
  obtain ⟨b, off, e, hb, hc⟩ := h5 h0
  refine ⟨b, off, e, hb, fun i hi => ?_⟩
  have h8 := hc i hi 0 (by decide)
  rw [Nat.mul_one, Nat.add_zero] at h8
  rw [h8]
  simp [iC, List.getD, show i < zs.length by omega]
set_option maxRecDepth 100000 in
set_option maxHeartbeats 8000000 in
theorem callOf_any (a : Option Addr) (n c : Nat) (ws : List ByteArray) (w : World) (h : IsStrs w a n c ws) (hn8 : n ≤ 8000000000000) (hz : ∀ x ∈ ws, x.size ≤ 140737488355328) :
    Calls Tryd.prog 60 #[.slice a n c] w fun e w' => CallOfTo ws w w' e := by
  obtain ⟨O, eO⟩ : ∃ O, O = dcCall (txt ws) := ⟨_, rfl⟩
  have HO : Hid (O = dcCall (txt ws)) := eO
  have hc9 : c ≤ 9223372036854775807 := h.2.2.1
  have hnc := h.2.1
  obtain ⟨W, hW⟩ : ∃ W : World, W = w.alloc (.cells #[.int .i64 0, .int .i64 0, .int .i64 0, .int .i64 0, .int .i64 0] 39) := ⟨_, rfl⟩
  have bW : Below w.heap.size w W := by rw [hW]; exact (Below.refl _ _).alloc (Nat.le_refl _) _
  have bx : BoxN W w.heap.size 5 [.int .i64 0, .int .i64 0, .int .i64 0, .int .i64 0, .int .i64 0] := by rw [hW]; exact boxn_new w #[.int .i64 0, .int .i64 0, .int .i64 0, .int .i64 0, .int .i64 0] 39 5 rfl
  have KB : Hid (∀ U, Below W.heap.size W U → BoxN U w.heap.size 5 [.int .i64 0, .int .i64 0, .int .i64 0, .int .i64 0, .int .i64 0] ∧ Below w.heap.size w U ∧ IsStrs U a n c ws) := fun U hU => ⟨bx.below hU bx.lt, bW.trans (hU.mono bW.size), h.below (bW.trans (hU.mono bW.size))⟩
  have HFin : Hid (∀ (U F : World) (k : Nat) (p0 p1 p2 p3 : Int), Below w.heap.size w F → (∀ cv, O = some cv → cv = ⟨k, [p0, p1, p2, p3]⟩) → CallOfTo ws w F (.returned (.tuple #[.agg #[.int .i64 (k : Int), .int .i64 p0, .int .i64 p1, .int .i64 p2, .int .i64 p3], .bool O.isSome]))) := fun U F k p0 p1 p2 p3 h1 h2 => ⟨k, p0, p1, p2, p3, by rw [eO], by rw [← eO]; exact h2, h1⟩
  have H5 : Hid (∀ (U : World) (x0 x1 x2 x3 x4 : Value), Below w.heap.size w U → Below w.heap.size w (((((U.setCell ⟨w.heap.size, 0, none⟩ x0).setCell ⟨w.heap.size, 1, none⟩ x1).setCell ⟨w.heap.size, 2, none⟩ x2).setCell ⟨w.heap.size, 3, none⟩ x3).setCell ⟨w.heap.size, 4, none⟩ x4)) := fun U x0 x1 x2 x3 x4 h1 => ((((h1.setCell (p := ⟨w.heap.size, 0, none⟩) (Nat.le_refl _) x0).setCell (p := ⟨w.heap.size, 1, none⟩) (Nat.le_refl _) x1).setCell (p := ⟨w.heap.size, 2, none⟩) (Nat.le_refl _) x2).setCell (p := ⟨w.heap.size, 3, none⟩) (Nat.le_refl _) x3).setCell (p := ⟨w.heap.size, 4, none⟩) (Nat.le_refl _) x4
  clear eO bW bx
  by_cases h0 : n = 0
  · have hws : ws = [] := List.length_eq_zero_iff.1 (by rw [h.1, h0])
    subst h0
    have hO : O = none := by rw [HO.out, hws]; rfl
    clear HO h hws
    go_enter Tryd.func60, Tryd.ntmps60
    go_upto_region 1 with (fail)
    rw [← hW]
    clear hW
    have hUW := Below.refl W.heap.size W
    obtain ⟨bx, hbw, -⟩ := KB.out W hUW
    have b0 := (bx.c 0 (by decide)).1
    have b1 := (bx.c 1 (by decide)).1
    have b2 := (bx.c 2 (by decide)).1
    have b3 := (bx.c 3 (by decide)).1
    have b4 := (bx.c 4 (by decide)).1
    have e0 := (bx.c 0 (by decide)).2
    have e1 := (bx.c 1 (by decide)).2
    have e2 := (bx.c 2 (by decide)).2
    have e3 := (bx.c 3 (by decide)).2
    have e4 := (bx.c 4 (by decide)).2
    have z5 := bx.lt
    simp only [List.getD_cons_zero, List.getD_cons_succ] at b0 b1 b2 b3 b4
    obtain ⟨F, hF⟩ : ∃ F : World, F = ((((W.setCell ⟨w.heap.size, 0, none⟩ (.int .i64 0)).setCell ⟨w.heap.size, 1, none⟩ (.int .i64 0)).setCell ⟨w.heap.size, 2, none⟩ (.int .i64 0)).setCell ⟨w.heap.size, 3, none⟩ (.int .i64 0)).setCell ⟨w.heap.size, 4, none⟩ (.int .i64 0) := ⟨_, rfl⟩
    have k0 : F.cell? ⟨w.heap.size, 0, none⟩ = some (.int .i64 0) := by rw [hF]; go_simp
    have k1 : F.cell? ⟨w.heap.size, 1, none⟩ = some (.int .i64 0) := by rw [hF]; go_simp
    have k2 : F.cell? ⟨w.heap.size, 2, none⟩ = some (.int .i64 0) := by rw [hF]; go_simp
    have k3 : F.cell? ⟨w.heap.size, 3, none⟩ = some (.int .i64 0) := by rw [hF]; go_simp
    have k4 : F.cell? ⟨w.heap.size, 4, none⟩ = some (.int .i64 0) := by rw [hF]; go_simp
    have HF := HFin.out W F 0 0 0 0 0 (by rw [hF]; exact (H5.out W _ _ _ _ _ hbw)) (by intro cv hcv; rw [hO] at hcv; cases hcv)
    rw [hO] at HF
    have HF2 : Hid (CallOfTo _ w F (.returned (.tuple #[.agg #[.int .i64 0, .int .i64 0, .int .i64 0, .int .i64 0, .int .i64 0], .bool false]))) := HF
    clear HF HFin H5 KB bx hbw hO 
    go_wp2
    rw [← hF]
    refine bodyPost_ret (v := .tuple #[.agg #[.int .i64 0, .int .i64 0, .int .i64 0, .int .i64 0, .int .i64 0], .bool false]) (by simp [results, Tryd.results60, go_sem, k0, k1, k2, k3, k4]) rfl HF2.out
  · obtain ⟨b, off, rfl, zb, hcw⟩ := h.2.2.2 (by omega)
    obtain ⟨w0, r, rfl⟩ : ∃ w0 r, ws = w0 :: r := by
      cases ws with
      | nil => exact absurd h.1.symm h0
      | cons x y => exact ⟨x, y, rfl⟩
    obtain ⟨⟨L⟩⟩ := w0
    have hcell : w.cell? ⟨b, off, none⟩ = some (.string ⟨L.toArray⟩) := hcw 0 (by omega)
    obtain ⟨a1, ea1⟩ : ∃ a1, a1 = (if c = 1 then some ⟨b, off, none⟩ else some ⟨b, off + 1, none⟩ : Option Addr) := ⟨_, rfl⟩
    have hsl : ∀ U : World, (Instr.slice 45 (.slice (some ⟨b, off, none⟩) n c) (some (.int .i64 1)) none none).run Tryd.prog U = .ok (.slice a1 (n - 1) (c - 1)) U := fun U => by rw [ea1]; exact slice_t1 b off n c U (by omega) hnc hc9
    have hlr : r.length = n - 1 := by have := h.1; simp at this; omega
    have HWh : Hid (∀ U, Below W.heap.size W U → Calls Tryd.prog 59 #[.slice a1 (n - 1) (c - 1)] U fun e w' => WholesTo r U w' e) := fun U hU => wholes_any a1 (n - 1) (c - 1) r U (strs_tail (KB.out U hU).2.2 1 (by omega) a1 ea1) (by omega) (fun x hx => hz x (by simp [hx]))
    have HD : Hid (O = dcCall (L :: txt r)) := HO.out
    have hcl : ∀ U, Below W.heap.size W U → U.cell? ⟨b, off, none⟩ = some (.string ⟨L.toArray⟩) := fun U hU => ((KB.out U hU).2.1.cell (p := ⟨b, off, none⟩) zb).trans hcell
    have HCl : Hid (∀ U, Below W.heap.size W U → U.cell? ⟨b, off, none⟩ = some (.string ⟨L.toArray⟩) ∧ b < U.heap.size) := fun U hU => ⟨hcl U hU, Nat.lt_of_lt_of_le zb (KB.out U hU).2.1.size⟩
    have h0' : ¬ (n : Int) = 0 := by omega
    have h0'' : 0 < n := by omega
    clear hcl hcell hcw h HO ea1 hz hlr
    have hWh := HWh.out W (Below.refl _ _)
    go_enter Tryd.func60, Tryd.ntmps60
    go_upto_region 1 with (fail)
    rw [← hW]
    clear hW HWh
    go_upto_region 4 with (go_at_call 59; refine hWh.mono ?_; rintro e u ⟨a5, n5, c5, zs, rfl, hO5, hzl, hzi, hzs, hUW⟩)
    clear hWh hsl
    obtain ⟨Q, eQ⟩ : ∃ Q, Q = stKept (txt r) := ⟨_, rfl⟩
    have HQ : Hid (Q = stKept (txt r)) := eQ
    rw [← eQ] at hzs ⊢
    cases Q with
    | none =>
      have hO : O = none := by rw [HD.out, dcCall, ← eQ]
      clear HD HQ eQ hzs HCl hO5 hzi
      obtain ⟨bx, hbw, -⟩ := KB.out u hUW
      have b0 := (bx.c 0 (by decide)).1
      have b1 := (bx.c 1 (by decide)).1
      have b2 := (bx.c 2 (by decide)).1
      have b3 := (bx.c 3 (by decide)).1
      have b4 := (bx.c 4 (by decide)).1
      have e0 := (bx.c 0 (by decide)).2
      have e1 := (bx.c 1 (by decide)).2
      have e2 := (bx.c 2 (by decide)).2
      have e3 := (bx.c 3 (by decide)).2
      have e4 := (bx.c 4 (by decide)).2
      have z5 := bx.lt
      simp only [List.getD_cons_zero, List.getD_cons_succ] at b0 b1 b2 b3 b4
      obtain ⟨F, hF⟩ : ∃ F : World, F = ((((u.setCell ⟨w.heap.size, 0, none⟩ (.int .i64 0)).setCell ⟨w.heap.size, 1, none⟩ (.int .i64 0)).setCell ⟨w.heap.size, 2, none⟩ (.int .i64 0)).setCell ⟨w.heap.size, 3, none⟩ (.int .i64 0)).setCell ⟨w.heap.size, 4, none⟩ (.int .i64 0) := ⟨_, rfl⟩
      have k0 : F.cell? ⟨w.heap.size, 0, none⟩ = some (.int .i64 0) := by rw [hF]; go_simp
      have k1 : F.cell? ⟨w.heap.size, 1, none⟩ = some (.int .i64 0) := by rw [hF]; go_simp
      have k2 : F.cell? ⟨w.heap.size, 2, none⟩ = some (.int .i64 0) := by rw [hF]; go_simp
      have k3 : F.cell? ⟨w.heap.size, 3, none⟩ = some (.int .i64 0) := by rw [hF]; go_simp
      have k4 : F.cell? ⟨w.heap.size, 4, none⟩ = some (.int .i64 0) := by rw [hF]; go_simp
      have HF := HFin.out u F 0 0 0 0 0 (by rw [hF]; exact (H5.out u _ _ _ _ _ hbw)) (by intro cv hcv; rw [hO] at hcv; cases hcv)
      rw [hO] at HF
      have HF2 : Hid (CallOfTo _ w F (.returned (.tuple #[.agg #[.int .i64 0, .int .i64 0, .int .i64 0, .int .i64 0, .int .i64 0], .bool false]))) := HF
      clear HF HFin H5 KB bx hbw hO 
      go_wp2
      rw [← hF]
      refine bodyPost_ret (v := .tuple #[.agg #[.int .i64 0, .int .i64 0, .int .i64 0, .int .i64 0, .int .i64 0], .bool false]) (by simp [results, Tryd.results60, go_sem, k0, k1, k2, k3, k4]) rfl HF2.out
    | some l =>
      obtain rfl : zs = l := hzs l rfl
      have HD2 : Hid (O = (if L = bgnW then (if zs.length = 0 then some ⟨1, [0, 0, 0, 0]⟩ else none)
        else if L = gttW then (if zs.length = 3 then some ⟨2, [zs.getD 0 0, zs.getD 1 0, zs.getD 2 0, 0]⟩ else none)
        else if L = putW then (if zs.length = 3 then some ⟨3, [zs.getD 0 0, 0, zs.getD 1 0, zs.getD 2 0]⟩ else none)
        else if L = cmtW then (if zs.length = 1 then some ⟨4, [zs.getD 0 0, 0, 0, 0]⟩ else none)
        else if L = rbkW then (if zs.length = 1 then some ⟨5, [zs.getD 0 0, 0, 0, 0]⟩ else none)
        else none : Option CV)) := by show _ = _; rw [HD.out, dcCall, ← eQ]
      obtain ⟨hcl, zbu⟩ := HCl.out u hUW
      have HOw : Hid (u.ownsRow W.heap.size 3 1 (.slice a5 n5 c5) n5 (St.flat iC zs)) := hO5
      clear HD HQ eQ hzs HCl hO5 hzi
      by_cases hbgn : L = [98, 101, 103, 105, 110]
      · have HD3 : Hid (O = _) := HD2.out
        have hD4 := HD2.out
        rw [if_pos (show L = bgnW from hbgn)] at hD4
        clear HD3
        by_cases hm : zs.length = 0
        · have hO : O = some ⟨1, [0, 0, 0, 0]⟩ := by rw [hD4, if_pos hm]
          obtain rfl : n5 = 0 := by omega
          subst hbgn
          clear hD4 HD2 HOw hzl hm
          obtain ⟨bx, hbw, -⟩ := KB.out u hUW
          have b0 := (bx.c 0 (by decide)).1
          have b1 := (bx.c 1 (by decide)).1
          have b2 := (bx.c 2 (by decide)).1
          have b3 := (bx.c 3 (by decide)).1
          have b4 := (bx.c 4 (by decide)).1
          have e0 := (bx.c 0 (by decide)).2
          have e1 := (bx.c 1 (by decide)).2
          have e2 := (bx.c 2 (by decide)).2
          have e3 := (bx.c 3 (by decide)).2
          have e4 := (bx.c 4 (by decide)).2
          have z5 := bx.lt
          simp only [List.getD_cons_zero, List.getD_cons_succ] at b0 b1 b2 b3 b4
          obtain ⟨F, hF⟩ : ∃ F : World, F = ((((u.setCell ⟨w.heap.size, 0, none⟩ (.int .i64 1)).setCell ⟨w.heap.size, 1, none⟩ (.int .i64 0)).setCell ⟨w.heap.size, 2, none⟩ (.int .i64 0)).setCell ⟨w.heap.size, 3, none⟩ (.int .i64 0)).setCell ⟨w.heap.size, 4, none⟩ (.int .i64 0) := ⟨_, rfl⟩
          have k0 : F.cell? ⟨w.heap.size, 0, none⟩ = some (.int .i64 1) := by rw [hF]; go_simp
          have k1 : F.cell? ⟨w.heap.size, 1, none⟩ = some (.int .i64 0) := by rw [hF]; go_simp
          have k2 : F.cell? ⟨w.heap.size, 2, none⟩ = some (.int .i64 0) := by rw [hF]; go_simp
          have k3 : F.cell? ⟨w.heap.size, 3, none⟩ = some (.int .i64 0) := by rw [hF]; go_simp
          have k4 : F.cell? ⟨w.heap.size, 4, none⟩ = some (.int .i64 0) := by rw [hF]; go_simp
          have HF := HFin.out u F 1 0 0 0 0 (by rw [hF]; exact (H5.out u _ _ _ _ _ hbw)) (by intro cv hcv; rw [hO] at hcv; cases hcv; rfl)
          rw [hO] at HF
          have HF2 : Hid (CallOfTo _ w F (.returned (.tuple #[.agg #[.int .i64 1, .int .i64 0, .int .i64 0, .int .i64 0, .int .i64 0], .bool true]))) := HF
          clear HF HFin H5 KB bx hbw hO 
          go_wp2
          rw [← hF]
          refine bodyPost_ret (v := .tuple #[.agg #[.int .i64 1, .int .i64 0, .int .i64 0, .int .i64 0, .int .i64 0], .bool true]) (by simp [results, Tryd.results60, go_sem, k0, k1, k2, k3, k4]) rfl HF2.out
        · have hO : O = none := by rw [hD4, if_neg hm]
          have hm5 : ¬ (n5 : Int) = 0 := by omega
          have hm6 : ((n5 : Int) == 0) = false := beq_eq_false_iff_ne.2 hm5
          subst hbgn
          clear hD4 HD2 HOw hzl hm
          obtain ⟨bx, hbw, -⟩ := KB.out u hUW
          have b0 := (bx.c 0 (by decide)).1
          have b1 := (bx.c 1 (by decide)).1
          have b2 := (bx.c 2 (by decide)).1
          have b3 := (bx.c 3 (by decide)).1
          have b4 := (bx.c 4 (by decide)).1
          have e0 := (bx.c 0 (by decide)).2
          have e1 := (bx.c 1 (by decide)).2
          have e2 := (bx.c 2 (by decide)).2
          have e3 := (bx.c 3 (by decide)).2
          have e4 := (bx.c 4 (by decide)).2
          have z5 := bx.lt
          simp only [List.getD_cons_zero, List.getD_cons_succ] at b0 b1 b2 b3 b4
          obtain ⟨F, hF⟩ : ∃ F : World, F = ((((u.setCell ⟨w.heap.size, 0, none⟩ (.int .i64 1)).setCell ⟨w.heap.size, 1, none⟩ (.int .i64 0)).setCell ⟨w.heap.size, 2, none⟩ (.int .i64 0)).setCell ⟨w.heap.size, 3, none⟩ (.int .i64 0)).setCell ⟨w.heap.size, 4, none⟩ (.int .i64 0) := ⟨_, rfl⟩
          have k0 : F.cell? ⟨w.heap.size, 0, none⟩ = some (.int .i64 1) := by rw [hF]; go_simp
          have k1 : F.cell? ⟨w.heap.size, 1, none⟩ = some (.int .i64 0) := by rw [hF]; go_simp
          have k2 : F.cell? ⟨w.heap.size, 2, none⟩ = some (.int .i64 0) := by rw [hF]; go_simp
          have k3 : F.cell? ⟨w.heap.size, 3, none⟩ = some (.int .i64 0) := by rw [hF]; go_simp
          have k4 : F.cell? ⟨w.heap.size, 4, none⟩ = some (.int .i64 0) := by rw [hF]; go_simp
          have HF := HFin.out u F 1 0 0 0 0 (by rw [hF]; exact (H5.out u _ _ _ _ _ hbw)) (by intro cv hcv; rw [hO] at hcv; cases hcv)
          rw [hO] at HF
          have HF2 : Hid (CallOfTo _ w F (.returned (.tuple #[.agg #[.int .i64 1, .int .i64 0, .int .i64 0, .int .i64 0, .int .i64 0], .bool false]))) := HF
          clear HF HFin H5 KB bx hbw hO 
          go_wp2
          rw [← hF]
          refine bodyPost_ret (v := .tuple #[.agg #[.int .i64 1, .int .i64 0, .int .i64 0, .int .i64 0, .int .i64 0], .bool false]) (by simp [results, Tryd.results60, go_sem, k0, k1, k2, k3, k4]) rfl HF2.out
      · skip
        by_cases hgtt : L = [103, 101, 116]
        · have HD3 : Hid (O = _) := HD2.out
          have hD4 := HD2.out
          rw [if_neg (show ¬ L = bgnW from hbgn), if_pos (show L = gttW from hgtt)] at hD4
          clear HD3
          by_cases hm : zs.length = 3
          · obtain rfl : n5 = 3 := by omega
            obtain ⟨b5, o5, rfl, zb5, hc5⟩ := ints_cells HOw.out hzl (by omega)
            subst hgtt
            obtain ⟨p0, ep0⟩ : ∃ p, p = zs.getD 0 0 := ⟨_, rfl⟩
            obtain ⟨p1, ep1⟩ : ∃ p, p = zs.getD 1 0 := ⟨_, rfl⟩
            obtain ⟨p2, ep2⟩ : ∃ p, p = zs.getD 2 0 := ⟨_, rfl⟩
            have d0 := hc5 0 (by omega)
            have d1 := hc5 1 (by omega)
            have d2 := hc5 2 (by omega)
            rw [← ep0] at d0 hD4
            rw [← ep1] at d1 hD4
            rw [← ep2] at d2 hD4
            rw [Nat.add_zero] at d0
            have hO : O = some ⟨2, [p0, p1, p2, 0]⟩ := by rw [hD4, if_pos hm]
            clear hD4 HD2 HOw hzl hm hc5 ep0 ep1 ep2
            obtain ⟨bx, hbw, -⟩ := KB.out u hUW
            have b0 := (bx.c 0 (by decide)).1
            have b1 := (bx.c 1 (by decide)).1
            have b2 := (bx.c 2 (by decide)).1
            have b3 := (bx.c 3 (by decide)).1
            have b4 := (bx.c 4 (by decide)).1
            have e0 := (bx.c 0 (by decide)).2
            have e1 := (bx.c 1 (by decide)).2
            have e2 := (bx.c 2 (by decide)).2
            have e3 := (bx.c 3 (by decide)).2
            have e4 := (bx.c 4 (by decide)).2
            have z5 := bx.lt
            simp only [List.getD_cons_zero, List.getD_cons_succ] at b0 b1 b2 b3 b4
            obtain ⟨F, hF⟩ : ∃ F : World, F = ((((u.setCell ⟨w.heap.size, 0, none⟩ (.int .i64 2)).setCell ⟨w.heap.size, 1, none⟩ (.int .i64 p0)).setCell ⟨w.heap.size, 2, none⟩ (.int .i64 p1)).setCell ⟨w.heap.size, 3, none⟩ (.int .i64 p2)).setCell ⟨w.heap.size, 4, none⟩ (.int .i64 0) := ⟨_, rfl⟩
            have k0 : F.cell? ⟨w.heap.size, 0, none⟩ = some (.int .i64 2) := by rw [hF]; go_simp
            have k1 : F.cell? ⟨w.heap.size, 1, none⟩ = some (.int .i64 p0) := by rw [hF]; go_simp
            have k2 : F.cell? ⟨w.heap.size, 2, none⟩ = some (.int .i64 p1) := by rw [hF]; go_simp
            have k3 : F.cell? ⟨w.heap.size, 3, none⟩ = some (.int .i64 p2) := by rw [hF]; go_simp
            have k4 : F.cell? ⟨w.heap.size, 4, none⟩ = some (.int .i64 0) := by rw [hF]; go_simp
            have HF := HFin.out u F.drew 2 p0 p1 p2 0 (by rw [hF]; exact (H5.out u _ _ _ _ _ hbw).drew) (by intro cv hcv; rw [hO] at hcv; cases hcv; rfl)
            rw [hO] at HF
            have HF2 : Hid (CallOfTo _ w F.drew (.returned (.tuple #[.agg #[.int .i64 2, .int .i64 p0, .int .i64 p1, .int .i64 p2, .int .i64 0], .bool true]))) := HF
            clear HF HFin H5 KB bx hbw hO 
            go_upto_region 11 with (fail)
            go_region
            go_wp2
            rw [← hF]
            refine bodyPost_ret (v := .tuple #[.agg #[.int .i64 2, .int .i64 p0, .int .i64 p1, .int .i64 p2, .int .i64 0], .bool true]) (by simp [results, Tryd.results60, go_sem, k0, k1, k2, k3, k4]) rfl HF2.out
          · have hO : O = none := by rw [hD4, if_neg hm]
            have hm5 : ¬ (n5 : Int) = 3 := by omega
            have hm6 : ((n5 : Int) == 3) = false := beq_eq_false_iff_ne.2 hm5
            subst hgtt
            clear hD4 HD2 HOw hzl hm
            obtain ⟨bx, hbw, -⟩ := KB.out u hUW
            have b0 := (bx.c 0 (by decide)).1
            have b1 := (bx.c 1 (by decide)).1
            have b2 := (bx.c 2 (by decide)).1
            have b3 := (bx.c 3 (by decide)).1
            have b4 := (bx.c 4 (by decide)).1
            have e0 := (bx.c 0 (by decide)).2
            have e1 := (bx.c 1 (by decide)).2
            have e2 := (bx.c 2 (by decide)).2
            have e3 := (bx.c 3 (by decide)).2
            have e4 := (bx.c 4 (by decide)).2
            have z5 := bx.lt
            simp only [List.getD_cons_zero, List.getD_cons_succ] at b0 b1 b2 b3 b4
            obtain ⟨F, hF⟩ : ∃ F : World, F = ((((u.setCell ⟨w.heap.size, 0, none⟩ (.int .i64 0)).setCell ⟨w.heap.size, 1, none⟩ (.int .i64 0)).setCell ⟨w.heap.size, 2, none⟩ (.int .i64 0)).setCell ⟨w.heap.size, 3, none⟩ (.int .i64 0)).setCell ⟨w.heap.size, 4, none⟩ (.int .i64 0) := ⟨_, rfl⟩
            have k0 : F.cell? ⟨w.heap.size, 0, none⟩ = some (.int .i64 0) := by rw [hF]; go_simp
            have k1 : F.cell? ⟨w.heap.size, 1, none⟩ = some (.int .i64 0) := by rw [hF]; go_simp
            have k2 : F.cell? ⟨w.heap.size, 2, none⟩ = some (.int .i64 0) := by rw [hF]; go_simp
            have k3 : F.cell? ⟨w.heap.size, 3, none⟩ = some (.int .i64 0) := by rw [hF]; go_simp
            have k4 : F.cell? ⟨w.heap.size, 4, none⟩ = some (.int .i64 0) := by rw [hF]; go_simp
            have HF := HFin.out u F 0 0 0 0 0 (by rw [hF]; exact (H5.out u _ _ _ _ _ hbw)) (by intro cv hcv; rw [hO] at hcv; cases hcv)
            rw [hO] at HF
            have HF2 : Hid (CallOfTo _ w F (.returned (.tuple #[.agg #[.int .i64 0, .int .i64 0, .int .i64 0, .int .i64 0, .int .i64 0], .bool false]))) := HF
            clear HF HFin H5 KB bx hbw hO 
            go_wp2
            rw [← hF]
            refine bodyPost_ret (v := .tuple #[.agg #[.int .i64 0, .int .i64 0, .int .i64 0, .int .i64 0, .int .i64 0], .bool false]) (by simp [results, Tryd.results60, go_sem, k0, k1, k2, k3, k4]) rfl HF2.out
        · skip
          by_cases hput : L = [112, 117, 116]
          · have HD3 : Hid (O = _) := HD2.out
            have hD4 := HD2.out
            rw [if_neg (show ¬ L = bgnW from hbgn), if_neg (show ¬ L = gttW from hgtt), if_pos (show L = putW from hput)] at hD4
            clear HD3
            by_cases hm : zs.length = 3
            · obtain rfl : n5 = 3 := by omega
              obtain ⟨b5, o5, rfl, zb5, hc5⟩ := ints_cells HOw.out hzl (by omega)
              subst hput
              obtain ⟨p0, ep0⟩ : ∃ p, p = zs.getD 0 0 := ⟨_, rfl⟩
              obtain ⟨p1, ep1⟩ : ∃ p, p = zs.getD 1 0 := ⟨_, rfl⟩
              obtain ⟨p2, ep2⟩ : ∃ p, p = zs.getD 2 0 := ⟨_, rfl⟩
              have d0 := hc5 0 (by omega)
              have d1 := hc5 1 (by omega)
              have d2 := hc5 2 (by omega)
              rw [← ep0] at d0 hD4
              rw [← ep1] at d1 hD4
              rw [← ep2] at d2 hD4
              rw [Nat.add_zero] at d0
              have hO : O = some ⟨3, [p0, 0, p1, p2]⟩ := by rw [hD4, if_pos hm]
              clear hD4 HD2 HOw hzl hm hc5 ep0 ep1 ep2
              obtain ⟨bx, hbw, -⟩ := KB.out u hUW
              have b0 := (bx.c 0 (by decide)).1
              have b1 := (bx.c 1 (by decide)).1
              have b2 := (bx.c 2 (by decide)).1
              have b3 := (bx.c 3 (by decide)).1
              have b4 := (bx.c 4 (by decide)).1
              have e0 := (bx.c 0 (by decide)).2
              have e1 := (bx.c 1 (by decide)).2
              have e2 := (bx.c 2 (by decide)).2
              have e3 := (bx.c 3 (by decide)).2
              have e4 := (bx.c 4 (by decide)).2
              have z5 := bx.lt
              simp only [List.getD_cons_zero, List.getD_cons_succ] at b0 b1 b2 b3 b4
              obtain ⟨F, hF⟩ : ∃ F : World, F = ((((u.setCell ⟨w.heap.size, 0, none⟩ (.int .i64 3)).setCell ⟨w.heap.size, 1, none⟩ (.int .i64 p0)).setCell ⟨w.heap.size, 2, none⟩ (.int .i64 0)).setCell ⟨w.heap.size, 3, none⟩ (.int .i64 p1)).setCell ⟨w.heap.size, 4, none⟩ (.int .i64 p2) := ⟨_, rfl⟩
              have k0 : F.cell? ⟨w.heap.size, 0, none⟩ = some (.int .i64 3) := by rw [hF]; go_simp
              have k1 : F.cell? ⟨w.heap.size, 1, none⟩ = some (.int .i64 p0) := by rw [hF]; go_simp
              have k2 : F.cell? ⟨w.heap.size, 2, none⟩ = some (.int .i64 0) := by rw [hF]; go_simp
              have k3 : F.cell? ⟨w.heap.size, 3, none⟩ = some (.int .i64 p1) := by rw [hF]; go_simp
              have k4 : F.cell? ⟨w.heap.size, 4, none⟩ = some (.int .i64 p2) := by rw [hF]; go_simp
              have HF := HFin.out u F.drew 3 p0 0 p1 p2 (by rw [hF]; exact (H5.out u _ _ _ _ _ hbw).drew) (by intro cv hcv; rw [hO] at hcv; cases hcv; rfl)
              rw [hO] at HF
              have HF2 : Hid (CallOfTo _ w F.drew (.returned (.tuple #[.agg #[.int .i64 3, .int .i64 p0, .int .i64 0, .int .i64 p1, .int .i64 p2], .bool true]))) := HF
              clear HF HFin H5 KB bx hbw hO 
              go_upto_region 14 with (fail)
              go_region
              go_wp2
              rw [← hF]
              refine bodyPost_ret (v := .tuple #[.agg #[.int .i64 3, .int .i64 p0, .int .i64 0, .int .i64 p1, .int .i64 p2], .bool true]) (by simp [results, Tryd.results60, go_sem, k0, k1, k2, k3, k4]) rfl HF2.out
            · have hO : O = none := by rw [hD4, if_neg hm]
              have hm5 : ¬ (n5 : Int) = 3 := by omega
              have hm6 : ((n5 : Int) == 3) = false := beq_eq_false_iff_ne.2 hm5
              subst hput
              clear hD4 HD2 HOw hzl hm
              obtain ⟨bx, hbw, -⟩ := KB.out u hUW
              have b0 := (bx.c 0 (by decide)).1
              have b1 := (bx.c 1 (by decide)).1
              have b2 := (bx.c 2 (by decide)).1
              have b3 := (bx.c 3 (by decide)).1
              have b4 := (bx.c 4 (by decide)).1
              have e0 := (bx.c 0 (by decide)).2
              have e1 := (bx.c 1 (by decide)).2
              have e2 := (bx.c 2 (by decide)).2
              have e3 := (bx.c 3 (by decide)).2
              have e4 := (bx.c 4 (by decide)).2
              have z5 := bx.lt
              simp only [List.getD_cons_zero, List.getD_cons_succ] at b0 b1 b2 b3 b4
              obtain ⟨F, hF⟩ : ∃ F : World, F = ((((u.setCell ⟨w.heap.size, 0, none⟩ (.int .i64 0)).setCell ⟨w.heap.size, 1, none⟩ (.int .i64 0)).setCell ⟨w.heap.size, 2, none⟩ (.int .i64 0)).setCell ⟨w.heap.size, 3, none⟩ (.int .i64 0)).setCell ⟨w.heap.size, 4, none⟩ (.int .i64 0) := ⟨_, rfl⟩
              have k0 : F.cell? ⟨w.heap.size, 0, none⟩ = some (.int .i64 0) := by rw [hF]; go_simp
              have k1 : F.cell? ⟨w.heap.size, 1, none⟩ = some (.int .i64 0) := by rw [hF]; go_simp
              have k2 : F.cell? ⟨w.heap.size, 2, none⟩ = some (.int .i64 0) := by rw [hF]; go_simp
              have k3 : F.cell? ⟨w.heap.size, 3, none⟩ = some (.int .i64 0) := by rw [hF]; go_simp
              have k4 : F.cell? ⟨w.heap.size, 4, none⟩ = some (.int .i64 0) := by rw [hF]; go_simp
              have HF := HFin.out u F 0 0 0 0 0 (by rw [hF]; exact (H5.out u _ _ _ _ _ hbw)) (by intro cv hcv; rw [hO] at hcv; cases hcv)
              rw [hO] at HF
              have HF2 : Hid (CallOfTo _ w F (.returned (.tuple #[.agg #[.int .i64 0, .int .i64 0, .int .i64 0, .int .i64 0, .int .i64 0], .bool false]))) := HF
              clear HF HFin H5 KB bx hbw hO 
              go_wp2
              rw [← hF]
              refine bodyPost_ret (v := .tuple #[.agg #[.int .i64 0, .int .i64 0, .int .i64 0, .int .i64 0, .int .i64 0], .bool false]) (by simp [results, Tryd.results60, go_sem, k0, k1, k2, k3, k4]) rfl HF2.out
          · skip
            by_cases hcmt : L = [99, 111, 109, 109, 105, 116]
            · have HD3 : Hid (O = _) := HD2.out
              have hD4 := HD2.out
              rw [if_neg (show ¬ L = bgnW from hbgn), if_neg (show ¬ L = gttW from hgtt), if_neg (show ¬ L = putW from hput), if_pos (show L = cmtW from hcmt)] at hD4
              clear HD3
              by_cases hm : zs.length = 1
              · obtain rfl : n5 = 1 := by omega
                obtain ⟨b5, o5, rfl, zb5, hc5⟩ := ints_cells HOw.out hzl (by omega)
                subst hcmt
                obtain ⟨p0, ep0⟩ : ∃ p, p = zs.getD 0 0 := ⟨_, rfl⟩
                have d0 := hc5 0 (by omega)
                rw [← ep0] at d0 hD4
                rw [Nat.add_zero] at d0
                have hO : O = some ⟨4, [p0, 0, 0, 0]⟩ := by rw [hD4, if_pos hm]
                clear hD4 HD2 HOw hzl hm hc5 ep0
                obtain ⟨bx, hbw, -⟩ := KB.out u hUW
                have b0 := (bx.c 0 (by decide)).1
                have b1 := (bx.c 1 (by decide)).1
                have b2 := (bx.c 2 (by decide)).1
                have b3 := (bx.c 3 (by decide)).1
                have b4 := (bx.c 4 (by decide)).1
                have e0 := (bx.c 0 (by decide)).2
                have e1 := (bx.c 1 (by decide)).2
                have e2 := (bx.c 2 (by decide)).2
                have e3 := (bx.c 3 (by decide)).2
                have e4 := (bx.c 4 (by decide)).2
                have z5 := bx.lt
                simp only [List.getD_cons_zero, List.getD_cons_succ] at b0 b1 b2 b3 b4
                obtain ⟨F, hF⟩ : ∃ F : World, F = ((((u.setCell ⟨w.heap.size, 0, none⟩ (.int .i64 4)).setCell ⟨w.heap.size, 1, none⟩ (.int .i64 p0)).setCell ⟨w.heap.size, 2, none⟩ (.int .i64 0)).setCell ⟨w.heap.size, 3, none⟩ (.int .i64 0)).setCell ⟨w.heap.size, 4, none⟩ (.int .i64 0) := ⟨_, rfl⟩
                have k0 : F.cell? ⟨w.heap.size, 0, none⟩ = some (.int .i64 4) := by rw [hF]; go_simp
                have k1 : F.cell? ⟨w.heap.size, 1, none⟩ = some (.int .i64 p0) := by rw [hF]; go_simp
                have k2 : F.cell? ⟨w.heap.size, 2, none⟩ = some (.int .i64 0) := by rw [hF]; go_simp
                have k3 : F.cell? ⟨w.heap.size, 3, none⟩ = some (.int .i64 0) := by rw [hF]; go_simp
                have k4 : F.cell? ⟨w.heap.size, 4, none⟩ = some (.int .i64 0) := by rw [hF]; go_simp
                have HF := HFin.out u F 4 p0 0 0 0 (by rw [hF]; exact (H5.out u _ _ _ _ _ hbw)) (by intro cv hcv; rw [hO] at hcv; cases hcv; rfl)
                rw [hO] at HF
                have HF2 : Hid (CallOfTo _ w F (.returned (.tuple #[.agg #[.int .i64 4, .int .i64 p0, .int .i64 0, .int .i64 0, .int .i64 0], .bool true]))) := HF
                clear HF HFin H5 KB bx hbw hO 
                go_wp2
                rw [← hF]
                refine bodyPost_ret (v := .tuple #[.agg #[.int .i64 4, .int .i64 p0, .int .i64 0, .int .i64 0, .int .i64 0], .bool true]) (by simp [results, Tryd.results60, go_sem, k0, k1, k2, k3, k4]) rfl HF2.out
              · have hO : O = none := by rw [hD4, if_neg hm]
                have hm5 : ¬ (n5 : Int) = 1 := by omega
                have hm6 : ((n5 : Int) == 1) = false := beq_eq_false_iff_ne.2 hm5
                subst hcmt
                clear hD4 HD2 HOw hzl hm
                obtain ⟨bx, hbw, -⟩ := KB.out u hUW
                have b0 := (bx.c 0 (by decide)).1
                have b1 := (bx.c 1 (by decide)).1
                have b2 := (bx.c 2 (by decide)).1
                have b3 := (bx.c 3 (by decide)).1
                have b4 := (bx.c 4 (by decide)).1
                have e0 := (bx.c 0 (by decide)).2
                have e1 := (bx.c 1 (by decide)).2
                have e2 := (bx.c 2 (by decide)).2
                have e3 := (bx.c 3 (by decide)).2
                have e4 := (bx.c 4 (by decide)).2
                have z5 := bx.lt
                simp only [List.getD_cons_zero, List.getD_cons_succ] at b0 b1 b2 b3 b4
                obtain ⟨F, hF⟩ : ∃ F : World, F = ((((u.setCell ⟨w.heap.size, 0, none⟩ (.int .i64 0)).setCell ⟨w.heap.size, 1, none⟩ (.int .i64 0)).setCell ⟨w.heap.size, 2, none⟩ (.int .i64 0)).setCell ⟨w.heap.size, 3, none⟩ (.int .i64 0)).setCell ⟨w.heap.size, 4, none⟩ (.int .i64 0) := ⟨_, rfl⟩
                have k0 : F.cell? ⟨w.heap.size, 0, none⟩ = some (.int .i64 0) := by rw [hF]; go_simp
                have k1 : F.cell? ⟨w.heap.size, 1, none⟩ = some (.int .i64 0) := by rw [hF]; go_simp
                have k2 : F.cell? ⟨w.heap.size, 2, none⟩ = some (.int .i64 0) := by rw [hF]; go_simp
                have k3 : F.cell? ⟨w.heap.size, 3, none⟩ = some (.int .i64 0) := by rw [hF]; go_simp
                have k4 : F.cell? ⟨w.heap.size, 4, none⟩ = some (.int .i64 0) := by rw [hF]; go_simp
                have HF := HFin.out u F 0 0 0 0 0 (by rw [hF]; exact (H5.out u _ _ _ _ _ hbw)) (by intro cv hcv; rw [hO] at hcv; cases hcv)
                rw [hO] at HF
                have HF2 : Hid (CallOfTo _ w F (.returned (.tuple #[.agg #[.int .i64 0, .int .i64 0, .int .i64 0, .int .i64 0, .int .i64 0], .bool false]))) := HF
                clear HF HFin H5 KB bx hbw hO 
                go_wp2
                rw [← hF]
                refine bodyPost_ret (v := .tuple #[.agg #[.int .i64 0, .int .i64 0, .int .i64 0, .int .i64 0, .int .i64 0], .bool false]) (by simp [results, Tryd.results60, go_sem, k0, k1, k2, k3, k4]) rfl HF2.out
            · skip
              by_cases hrbk : L = [114, 111, 108, 108, 98, 97, 99, 107]
              · have HD3 : Hid (O = _) := HD2.out
                have hD4 := HD2.out
                rw [if_neg (show ¬ L = bgnW from hbgn), if_neg (show ¬ L = gttW from hgtt), if_neg (show ¬ L = putW from hput), if_neg (show ¬ L = cmtW from hcmt), if_pos (show L = rbkW from hrbk)] at hD4
                clear HD3
                by_cases hm : zs.length = 1
                · obtain rfl : n5 = 1 := by omega
                  obtain ⟨b5, o5, rfl, zb5, hc5⟩ := ints_cells HOw.out hzl (by omega)
                  subst hrbk
                  obtain ⟨p0, ep0⟩ : ∃ p, p = zs.getD 0 0 := ⟨_, rfl⟩
                  have d0 := hc5 0 (by omega)
                  rw [← ep0] at d0 hD4
                  rw [Nat.add_zero] at d0
                  have hO : O = some ⟨5, [p0, 0, 0, 0]⟩ := by rw [hD4, if_pos hm]
                  clear hD4 HD2 HOw hzl hm hc5 ep0
                  obtain ⟨bx, hbw, -⟩ := KB.out u hUW
                  have b0 := (bx.c 0 (by decide)).1
                  have b1 := (bx.c 1 (by decide)).1
                  have b2 := (bx.c 2 (by decide)).1
                  have b3 := (bx.c 3 (by decide)).1
                  have b4 := (bx.c 4 (by decide)).1
                  have e0 := (bx.c 0 (by decide)).2
                  have e1 := (bx.c 1 (by decide)).2
                  have e2 := (bx.c 2 (by decide)).2
                  have e3 := (bx.c 3 (by decide)).2
                  have e4 := (bx.c 4 (by decide)).2
                  have z5 := bx.lt
                  simp only [List.getD_cons_zero, List.getD_cons_succ] at b0 b1 b2 b3 b4
                  obtain ⟨F, hF⟩ : ∃ F : World, F = ((((u.setCell ⟨w.heap.size, 0, none⟩ (.int .i64 5)).setCell ⟨w.heap.size, 1, none⟩ (.int .i64 p0)).setCell ⟨w.heap.size, 2, none⟩ (.int .i64 0)).setCell ⟨w.heap.size, 3, none⟩ (.int .i64 0)).setCell ⟨w.heap.size, 4, none⟩ (.int .i64 0) := ⟨_, rfl⟩
                  have k0 : F.cell? ⟨w.heap.size, 0, none⟩ = some (.int .i64 5) := by rw [hF]; go_simp
                  have k1 : F.cell? ⟨w.heap.size, 1, none⟩ = some (.int .i64 p0) := by rw [hF]; go_simp
                  have k2 : F.cell? ⟨w.heap.size, 2, none⟩ = some (.int .i64 0) := by rw [hF]; go_simp
                  have k3 : F.cell? ⟨w.heap.size, 3, none⟩ = some (.int .i64 0) := by rw [hF]; go_simp
                  have k4 : F.cell? ⟨w.heap.size, 4, none⟩ = some (.int .i64 0) := by rw [hF]; go_simp
                  have HF := HFin.out u F 5 p0 0 0 0 (by rw [hF]; exact (H5.out u _ _ _ _ _ hbw)) (by intro cv hcv; rw [hO] at hcv; cases hcv; rfl)
                  rw [hO] at HF
                  have HF2 : Hid (CallOfTo _ w F (.returned (.tuple #[.agg #[.int .i64 5, .int .i64 p0, .int .i64 0, .int .i64 0, .int .i64 0], .bool true]))) := HF
                  clear HF HFin H5 KB bx hbw hO 
                  go_wp2
                  rw [← hF]
                  refine bodyPost_ret (v := .tuple #[.agg #[.int .i64 5, .int .i64 p0, .int .i64 0, .int .i64 0, .int .i64 0], .bool true]) (by simp [results, Tryd.results60, go_sem, k0, k1, k2, k3, k4]) rfl HF2.out
                · have hO : O = none := by rw [hD4, if_neg hm]
                  have hm5 : ¬ (n5 : Int) = 1 := by omega
                  have hm6 : ((n5 : Int) == 1) = false := beq_eq_false_iff_ne.2 hm5
                  subst hrbk
                  clear hD4 HD2 HOw hzl hm
                  obtain ⟨bx, hbw, -⟩ := KB.out u hUW
                  have b0 := (bx.c 0 (by decide)).1
                  have b1 := (bx.c 1 (by decide)).1
                  have b2 := (bx.c 2 (by decide)).1
                  have b3 := (bx.c 3 (by decide)).1
                  have b4 := (bx.c 4 (by decide)).1
                  have e0 := (bx.c 0 (by decide)).2
                  have e1 := (bx.c 1 (by decide)).2
                  have e2 := (bx.c 2 (by decide)).2
                  have e3 := (bx.c 3 (by decide)).2
                  have e4 := (bx.c 4 (by decide)).2
                  have z5 := bx.lt
                  simp only [List.getD_cons_zero, List.getD_cons_succ] at b0 b1 b2 b3 b4
                  obtain ⟨F, hF⟩ : ∃ F : World, F = ((((u.setCell ⟨w.heap.size, 0, none⟩ (.int .i64 0)).setCell ⟨w.heap.size, 1, none⟩ (.int .i64 0)).setCell ⟨w.heap.size, 2, none⟩ (.int .i64 0)).setCell ⟨w.heap.size, 3, none⟩ (.int .i64 0)).setCell ⟨w.heap.size, 4, none⟩ (.int .i64 0) := ⟨_, rfl⟩
                  have k0 : F.cell? ⟨w.heap.size, 0, none⟩ = some (.int .i64 0) := by rw [hF]; go_simp
                  have k1 : F.cell? ⟨w.heap.size, 1, none⟩ = some (.int .i64 0) := by rw [hF]; go_simp
                  have k2 : F.cell? ⟨w.heap.size, 2, none⟩ = some (.int .i64 0) := by rw [hF]; go_simp
                  have k3 : F.cell? ⟨w.heap.size, 3, none⟩ = some (.int .i64 0) := by rw [hF]; go_simp
                  have k4 : F.cell? ⟨w.heap.size, 4, none⟩ = some (.int .i64 0) := by rw [hF]; go_simp
                  have HF := HFin.out u F 0 0 0 0 0 (by rw [hF]; exact (H5.out u _ _ _ _ _ hbw)) (by intro cv hcv; rw [hO] at hcv; cases hcv)
                  rw [hO] at HF
                  have HF2 : Hid (CallOfTo _ w F (.returned (.tuple #[.agg #[.int .i64 0, .int .i64 0, .int .i64 0, .int .i64 0, .int .i64 0], .bool false]))) := HF
                  clear HF HFin H5 KB bx hbw hO 
                  go_wp2
                  rw [← hF]
                  refine bodyPost_ret (v := .tuple #[.agg #[.int .i64 0, .int .i64 0, .int .i64 0, .int .i64 0, .int .i64 0], .bool false]) (by simp [results, Tryd.results60, go_sem, k0, k1, k2, k3, k4]) rfl HF2.out
              · skip
                have hO : O = none := by rw [HD2.out, if_neg (show ¬ L = bgnW from hbgn), if_neg (show ¬ L = gttW from hgtt), if_neg (show ¬ L = putW from hput), if_neg (show ¬ L = cmtW from hcmt), if_neg (show ¬ L = rbkW from hrbk)]
                clear HD2 HOw hzl
                have gbgn : (L == [98, 101, 103, 105, 110]) = false := beq_eq_false_iff_ne.2 hbgn
                have ggtt : (L == [103, 101, 116]) = false := beq_eq_false_iff_ne.2 hgtt
                have gput : (L == [112, 117, 116]) = false := beq_eq_false_iff_ne.2 hput
                have gcmt : (L == [99, 111, 109, 109, 105, 116]) = false := beq_eq_false_iff_ne.2 hcmt
                have grbk : (L == [114, 111, 108, 108, 98, 97, 99, 107]) = false := beq_eq_false_iff_ne.2 hrbk
                obtain ⟨bx, hbw, -⟩ := KB.out u hUW
                have b0 := (bx.c 0 (by decide)).1
                have b1 := (bx.c 1 (by decide)).1
                have b2 := (bx.c 2 (by decide)).1
                have b3 := (bx.c 3 (by decide)).1
                have b4 := (bx.c 4 (by decide)).1
                have e0 := (bx.c 0 (by decide)).2
                have e1 := (bx.c 1 (by decide)).2
                have e2 := (bx.c 2 (by decide)).2
                have e3 := (bx.c 3 (by decide)).2
                have e4 := (bx.c 4 (by decide)).2
                have z5 := bx.lt
                simp only [List.getD_cons_zero, List.getD_cons_succ] at b0 b1 b2 b3 b4
                obtain ⟨F, hF⟩ : ∃ F : World, F = ((((u.setCell ⟨w.heap.size, 0, none⟩ (.int .i64 0)).setCell ⟨w.heap.size, 1, none⟩ (.int .i64 0)).setCell ⟨w.heap.size, 2, none⟩ (.int .i64 0)).setCell ⟨w.heap.size, 3, none⟩ (.int .i64 0)).setCell ⟨w.heap.size, 4, none⟩ (.int .i64 0) := ⟨_, rfl⟩
                have k0 : F.cell? ⟨w.heap.size, 0, none⟩ = some (.int .i64 0) := by rw [hF]; go_simp
                have k1 : F.cell? ⟨w.heap.size, 1, none⟩ = some (.int .i64 0) := by rw [hF]; go_simp
                have k2 : F.cell? ⟨w.heap.size, 2, none⟩ = some (.int .i64 0) := by rw [hF]; go_simp
                have k3 : F.cell? ⟨w.heap.size, 3, none⟩ = some (.int .i64 0) := by rw [hF]; go_simp
                have k4 : F.cell? ⟨w.heap.size, 4, none⟩ = some (.int .i64 0) := by rw [hF]; go_simp
                have HF := HFin.out u F 0 0 0 0 0 (by rw [hF]; exact (H5.out u _ _ _ _ _ hbw)) (by intro cv hcv; rw [hO] at hcv; cases hcv)
                rw [hO] at HF
                have HF2 : Hid (CallOfTo _ w F (.returned (.tuple #[.agg #[.int .i64 0, .int .i64 0, .int .i64 0, .int .i64 0, .int .i64 0], .bool false]))) := HF
                clear HF HFin H5 KB bx hbw hO 
                go_wp2
                rw [← hF]
                refine bodyPost_ret (v := .tuple #[.agg #[.int .i64 0, .int .i64 0, .int .i64 0, .int .i64 0, .int .i64 0], .bool false]) (by simp [results, Tryd.results60, go_sem, k0, k1, k2, k3, k4]) rfl HF2.out
end Go.Proofs.YtlaagfnoepcnlaaDoor.Ln
