/- Texts of this claim, one behind the other. -/
import Derived.Test.YtlaagfnoepcnlaaDoorM25LinesReads
import Derived.Test.YtlaagfnoepcnlaaDoorM10LinesReads
import Derived.Test.YtlaagfnoepcnlaaDoorM23LinesReads
/- The document's line is read as the program's is: acts, on plain data. -/
namespace Go.Proofs.YtlaagfnoepcnlaaDoor.Ln
set_option linter.unusedVariables false

theorem numsN (hs : List Bool) (r : WS) : stNums (true :: hs) r = match numL (r.headD []) with | none => none | some n => (stNums hs r.tail).map fun p => (n :: p.1, p.2) := by
  rw [stNums, if_pos rfl]
  rfl
theorem numsZ (hs : List Bool) (r : WS) : stNums (false :: hs) r = (stNums hs r).map fun p => (0 :: p.1, p.2) := by rw [stNums, if_neg (by simp)]
theorem numsE (r : WS) : stNums [] r = some ([], r) := by rw [stNums]
theorem act_ask (r : WS) : fin9 (stAct (askW :: r)) = (dcAct (askW :: r)).map cap7 := by
  have e : kindA askW = 1 := by decide
  unfold stAct dcAct
  rw [List.headD_cons, List.tail_cons, e, if_neg (by decide), if_pos (Or.inl rfl)]
  show fin9 (match stNums [true, false, true, false] r with | none => none | some p => _) = _
  rcases r with _ | ⟨a, _ | ⟨b, q⟩⟩
  · rw [if_pos (show ([askW] : WS).length < 4 by simp)]
    rfl
  · rw [if_pos (show ([askW, a] : WS).length < 4 by simp)]
    simp only [numsN, numsZ, List.headD_cons, List.tail_cons, List.headD_nil, numL_nil]
    cases numL a <;> rfl
  · simp only [numsN, numsZ, numsE, List.headD_cons, List.tail_cons, List.drop_succ_cons, List.drop_zero, List.take_succ_cons, List.take_zero, stKept, if_true]
    cases q with
    | nil =>
      rw [if_pos (show ([askW, a, b] : WS).length < 4 by simp)]
      cases numL a <;> cases numL b <;> rfl
    | cons c t =>
      rw [if_neg (show ¬ (askW :: a :: b :: c :: t : WS).length < 4 by simp)]
      cases numL a with
      | none => rfl
      | some x =>
        cases numL b with
        | none => rfl
        | some y =>
          simp only [Option.map_some]
          rw [← call_dc (c :: t)]
          have e2 : stKeep 1 (c :: t) = some ([], c :: t) := rfl
          have e3 : ∀ ws : WS, stCalled 1 ws = stCall ws := fun ws => rfl
          have e4 : ∀ ws : WS, stLine 1 ws = some ([], ws) := fun ws => rfl
          simp only [e2, e3, e4]
          cases stCall (c :: t) with
          | none => rfl
          | some p =>
            obtain ⟨cv, ws⟩ := p
            cases ws <;> rfl
theorem act_typ (r : WS) : fin9 (stAct (typW :: r)) = (dcAct (typW :: r)).map cap7 := by
  have e : kindA typW = 8 := by decide
  unfold stAct dcAct
  rw [List.headD_cons, List.tail_cons, e, if_neg (by decide), if_pos (Or.inr rfl)]
  show fin9 (match stNums [true, false, true, false] r with | none => none | some p => _) = _
  rcases r with _ | ⟨a, _ | ⟨b, q⟩⟩
  · rw [if_pos (show ([typW] : WS).length < 4 by simp)]
    rfl
  · rw [if_pos (show ([typW, a] : WS).length < 4 by simp)]
    simp only [numsN, numsZ, List.headD_cons, List.tail_cons, List.headD_nil, numL_nil]
    cases numL a <;> rfl
  · simp only [numsN, numsZ, numsE, List.headD_cons, List.tail_cons, List.drop_succ_cons, List.drop_zero, List.take_succ_cons, List.take_zero, stKept, if_neg (show ¬ typW = askW by decide)]
    cases q with
    | nil =>
      rw [if_pos (show ([typW, a, b] : WS).length < 4 by simp)]
      cases numL a <;> cases numL b <;> rfl
    | cons c t =>
      rw [if_neg (show ¬ (typW :: a :: b :: c :: t : WS).length < 4 by simp)]
      cases numL a with
      | none => rfl
      | some x =>
        cases numL b with
        | none => rfl
        | some y =>
          simp only [Option.map_some]
          have e2 : stKeep 8 (c :: t) = some ([], c :: t) := rfl
          have e3 : ∀ ws : WS, stCalled 8 ws = some (CV.nil, ws) := fun ws => rfl
          have e4 : stLine 8 (c :: t) = (stText c).map fun x => (x, t) := rfl
          have e5 : (typW :: a :: b :: c :: t).getD 3 [] = c := rfl
          simp only [e2, e3, e4, e5]
          cases t with
          | nil => rw [if_pos (show ([typW, a, b, c] : WS).length = 4 by simp)]; cases stText c <;> rfl
          | cons d u => rw [if_neg (show ¬ (typW :: a :: b :: c :: d :: u : WS).length = 4 by simp)]; cases stText c <;> rfl
theorem act_tck (r : WS) : fin9 (stAct (tckW :: r)) = (dcAct (tckW :: r)).map cap7 := by
  have e : kindA tckW = 5 := by decide
  unfold stAct dcAct
  rw [List.headD_cons, List.tail_cons, e, if_neg (by decide), if_neg (by decide)]
  have e1 : stNums ((aHas.getD 5 []).take 4) r = some ([0, 0, 0, 0], r) := rfl
  simp only [e1]
  have e2 : stKeep 5 r = some ([], r) := rfl
  have e3 : ∀ ws : WS, stCalled 5 ws = some (CV.nil, ws) := fun ws => rfl
  have e4 : ∀ ws : WS, stLine 5 ws = some ([], ws) := fun ws => rfl
  simp only [e2, e3, e4]
  cases r with
  | nil => rfl
  | cons a t =>
    cases h : stKept (a :: t) with
    | none => rfl
    | some l =>
      have := stKept_len h
      simp only
      rw [if_pos trivial, if_neg (by rw [this]; simp)]
      rfl
theorem act_stu (r : WS) : fin9 (stAct (stuW :: r)) = (dcAct (stuW :: r)).map cap7 := by
  have e : kindA stuW = 7 := by decide
  unfold stAct dcAct
  rw [List.headD_cons, List.tail_cons, e, if_neg (by decide), if_neg (by decide)]
  show fin9 (match stNums [true, false, false, false] r with | none => none | some p => _) = _
  have e3 : ∀ ws : WS, stCalled 7 ws = some (CV.nil, ws) := fun ws => rfl
  have e4 : ∀ ws : WS, stLine 7 ws = some ([], ws) := fun ws => rfl
  have e2 : ∀ ws : WS, stKeep 7 ws = some ([], ws) := fun ws => rfl
  simp only [if_neg (show ¬ stuW = tckW by decide), if_true]
  rcases r with _ | ⟨a, _ | ⟨b, t⟩⟩
  · rfl
  · simp only [numsN, numsZ, numsE, List.headD_cons, List.tail_cons, stKept]
    cases numL a <;> rfl
  · simp only [numsN, numsZ, numsE, List.headD_cons, List.tail_cons, stKept]
    cases numL a with
    | none => rfl
    | some x =>
      simp only [Option.map_some, e2, e3, e4]
      cases numL b with
      | none => rfl
      | some y => cases stKept t <;> simp [fin9]
theorem act_crs (r : WS) : fin9 (stAct (crsW :: r)) = (dcAct (crsW :: r)).map cap7 := by
  have e : kindA crsW = 6 := by decide
  unfold stAct dcAct
  rw [List.headD_cons, List.tail_cons, e, if_neg (by decide), if_neg (by decide)]
  show fin9 (match stNums [true, false, false, false] r with | none => none | some p => _) = _
  have e3 : ∀ ws : WS, stCalled 6 ws = some (CV.nil, ws) := fun ws => rfl
  have e4 : ∀ ws : WS, stLine 6 ws = some ([], ws) := fun ws => rfl
  have e2 : ∀ ws : WS, stKeep 6 ws = (stKept ws).map fun l => (l, []) := fun ws => rfl
  simp only [if_neg (show ¬ crsW = tckW by decide), if_neg (show ¬ crsW = stuW by decide), if_true]
  rcases r with _ | ⟨a, t⟩
  · rfl
  · simp only [numsN, numsZ, numsE, List.headD_cons, List.tail_cons, stKept]
    cases numL a with
    | none => rfl
    | some x =>
      simp only [Option.map_some, e2, e3, e4]
      cases stKept t with
      | none => rfl
      | some l => rfl
theorem act_four (k : Nat) (w : List UInt8) (r : WS) (e : kindA w = k) (hk : k = 2 ∧ w = dlvW ∨ k = 3 ∧ w = drpW ∨ k = 4 ∧ w = cpyW) : fin9 (stAct (w :: r)) = (dcAct (w :: r)).map cap7 := by
  have eN : (aHas.getD k []).take 4 = [true, true, true, true] := by rcases hk with ⟨rfl, -⟩ | ⟨rfl, -⟩ | ⟨rfl, -⟩ <;> rfl
  have e3 : ∀ ws : WS, stCalled k ws = some (CV.nil, ws) := fun ws => by rcases hk with ⟨rfl, -⟩ | ⟨rfl, -⟩ | ⟨rfl, -⟩ <;> rfl
  have e4 : ∀ ws : WS, stLine k ws = some ([], ws) := fun ws => by rcases hk with ⟨rfl, -⟩ | ⟨rfl, -⟩ | ⟨rfl, -⟩ <;> rfl
  have e2 : ∀ ws : WS, stKeep k ws = some ([], ws) := fun ws => by rcases hk with ⟨rfl, -⟩ | ⟨rfl, -⟩ | ⟨rfl, -⟩ <;> rfl
  have ed : dcAct (w :: r) = match stKept r with | none => none | some l => if l.length = 4 then some (mkA k [l.getD 0 0, l.getD 1 0, l.getD 2 0, l.getD 3 0] [] CV.nil []) else none := by
    rcases hk with ⟨rfl, rfl⟩ | ⟨rfl, rfl⟩ | ⟨rfl, rfl⟩ <;> rfl
  have hk0 : ¬ k = 0 := by rcases hk with ⟨rfl, -⟩ | ⟨rfl, -⟩ | ⟨rfl, -⟩ <;> decide
  rw [ed]
  unfold stAct
  rw [List.headD_cons, List.tail_cons, e, if_neg hk0, eN]
  rcases r with _ | ⟨a, _ | ⟨b, _ | ⟨c, _ | ⟨d, _ | ⟨f, t⟩⟩⟩⟩⟩
  all_goals simp only [numsN, numsE, List.headD_cons, List.tail_cons, List.headD_nil, numL_nil, stKept]
  · rfl
  · cases numL a <;> rfl
  · cases numL a <;> cases numL b <;> rfl
  · cases numL a <;> cases numL b <;> cases numL c <;> rfl
  · cases numL a with
    | none => rfl
    | some x1 => cases numL b with
      | none => rfl
      | some x2 => cases numL c with
        | none => rfl
        | some x3 => cases numL d with
          | none => rfl
          | some x4 =>
            simp only [Option.map_some, e2, e3, e4]
            rfl
  · cases numL a with
    | none => rfl
    | some x1 => cases numL b with
      | none => rfl
      | some x2 => cases numL c with
        | none => rfl
        | some x3 => cases numL d with
          | none => rfl
          | some x4 =>
            simp only [Option.map_some, e2, e3, e4]
            cases numL f with
            | none => rfl
            | some x5 => cases stKept t <;> simp [fin9]
theorem act_none (w : List UInt8) (r : WS) (h1 : ¬ w = askW) (h2 : ¬ w = dlvW) (h3 : ¬ w = drpW) (h4 : ¬ w = cpyW) (h5 : ¬ w = tckW) (h6 : ¬ w = crsW) (h7 : ¬ w = stuW) (h8 : ¬ w = typW) : fin9 (stAct (w :: r)) = (dcAct (w :: r)).map cap7 := by
  have e : kindA w = 0 := by
    simp only [kindA, kFind]
    have g1 : ¬ (aWord 1).data.toList = w := fun e => h1 e.symm
    have g2 : ¬ (aWord 2).data.toList = w := fun e => h2 e.symm
    have g3 : ¬ (aWord 3).data.toList = w := fun e => h3 e.symm
    have g4 : ¬ (aWord 4).data.toList = w := fun e => h4 e.symm
    have g5 : ¬ (aWord 5).data.toList = w := fun e => h5 e.symm
    have g6 : ¬ (aWord 6).data.toList = w := fun e => h6 e.symm
    have g7 : ¬ (aWord 7).data.toList = w := fun e => h7 e.symm
    have g8 : ¬ (aWord 8).data.toList = w := fun e => h8 e.symm
    rw [if_neg g1, if_neg g2, if_neg g3, if_neg g4, if_neg g5, if_neg g6, if_neg g7, if_neg g8]
    simp
  unfold stAct dcAct
  rw [List.headD_cons, List.tail_cons, e, if_pos rfl, if_neg (by rintro (h | h); exact h1 h; exact h8 h)]
  cases stKept r with
  | none => rfl
  | some l =>
    simp only
    rw [if_neg h5, if_neg h7, if_neg h6, if_neg h2, if_neg h3, if_neg h4]
    rfl
/-- A line of words is read alike. -/
theorem act_dc (ws : WS) (h0 : ws ≠ []) : fin9 (stAct ws) = (dcAct ws).map cap7 := by
  cases ws with
  | nil => exact absurd rfl h0
  | cons w r =>
    by_cases h1 : w = askW
    · rw [h1]; exact act_ask r
    · by_cases h2 : w = dlvW
      · exact act_four 2 w r (by rw [h2]; decide) (Or.inl ⟨rfl, h2⟩)
      · by_cases h3 : w = drpW
        · exact act_four 3 w r (by rw [h3]; decide) (Or.inr (Or.inl ⟨rfl, h3⟩))
        · by_cases h4 : w = cpyW
          · exact act_four 4 w r (by rw [h4]; decide) (Or.inr (Or.inr ⟨rfl, h4⟩))
          · by_cases h5 : w = tckW
            · rw [h5]; exact act_tck r
            · by_cases h6 : w = crsW
              · rw [h6]; exact act_crs r
              · by_cases h7 : w = stuW
                · rw [h7]; exact act_stu r
                · by_cases h8 : w = typW
                  · rw [h8]; exact act_typ r
                  · exact act_none w r h1 h2 h3 h4 h5 h6 h7 h8
theorem lnAct_dc (l : List UInt8) : lnAct l = (dcAct (spc 32 l)).map cap7 := by rw [lnAct_fin, act_dc _ (spc_ne 32 l)]
end Go.Proofs.YtlaagfnoepcnlaaDoor.Ln
/- Acts of a list of the document's own: where their Keeps lie. -/
namespace Go.Proofs.YtlaagfnoepcnlaaDoor.Ln
open Go.ChangeShapes Go.WideShapes Go.ChangeAt Go.RowKit
open Go.Proofs.YtlaagfnoepcnlaaDoor.St (BoxN boxn_new own_below IsRow Elem own_isRow)
set_option linter.unusedVariables false

/-- A Keep that lies somewhere in a block of numbers, made behind a block. -/
def KeepIn (w : World) (B : Nat) (y : AV) : Prop := IsInts w y.ka y.kl y.kc y.keep ∧ (0 < y.kl → ∃ b off cur, y.ka = some ⟨b, off, none⟩ ∧ B ≤ b ∧ w.heap[b]? = some (.cells cur 3 (0, 0)))
theorem ints_block {w w' : World} {b off : Nat} {n c : Nat} {zs : List Int} (h : IsInts w (some ⟨b, off, none⟩) n c zs) (e : w'.heap[b]? = w.heap[b]?) (hs : w.heap.size ≤ w'.heap.size) : IsInts w' (some ⟨b, off, none⟩) n c zs := by
  obtain ⟨h1, h2, h3, h4, h5⟩ := h
  refine ⟨h1, h2, h3, h4, fun h0 => ?_⟩
  obtain ⟨b', off', ea, hb, hc⟩ := h5 h0
  cases ea
  exact ⟨b, off, rfl, Nat.lt_of_lt_of_le hb hs, fun i hi => by rw [World.cell?_of_block (a := ⟨b, off + i, none⟩) e]; exact hc i hi⟩
theorem ints_none {w w' : World} {a : Option Addr} {c : Nat} {zs : List Int} (h : IsInts w a 0 c zs) : IsInts w' a 0 c zs := ⟨h.1, h.2.1, h.2.2.1, h.2.2.2.1, fun h0 => absurd h0 (Nat.lt_irrefl 0)⟩
theorem KeepIn.same {w w' : World} {B : Nat} {y : AV} (h : KeepIn w B y) (hs : w.heap.size ≤ w'.heap.size) (he : ∀ b, B ≤ b → b < w.heap.size → (∃ cur, w.heap[b]? = some (.cells cur 3 (0, 0))) → w'.heap[b]? = w.heap[b]?) : KeepIn w' B y := by
  obtain ⟨h1, h2⟩ := h
  by_cases h0 : 0 < y.kl
  · obtain ⟨b, off, cur, ea, hb, hh⟩ := h2 h0
    have hlt : b < w.heap.size := (Array.getElem?_eq_some_iff.1 hh).1
    have e := he b hb hlt ⟨cur, hh⟩
    rw [ea] at h1
    refine ⟨by rw [ea]; exact ints_block h1 e hs, fun _ => ⟨b, off, cur, ea, hb, e.trans hh⟩⟩
  · have hz : y.kl = 0 := by omega
    refine ⟨?_, fun h => absurd h h0⟩
    rw [hz] at h1 ⊢
    exact ints_none h1
theorem KeepIn.below {w w' : World} {B : Nat} {y : AV} (h : KeepIn w B y) (hb : Below w.heap.size w w') : KeepIn w' B y := h.same hb.size (fun b _ hlt _ => hb.block b hlt)
theorem KeepIn.far {w : World} {B C i : Nat} {x : Value} {y : AV} (h : KeepIn w C y) (hB : B < C) : KeepIn (w.setCell ⟨B, i, none⟩ x) C y := h.same (by simp) (fun b hb _ _ => Below.heap_setCell w _ _ b (by show b ≠ B; omega))
theorem KeepIn.low {w : World} {B C : Nat} {y : AV} (h : KeepIn w C y) (hB : B ≤ C) : KeepIn w B y := ⟨h.1, fun h0 => by obtain ⟨b, off, cur, e1, e2, e3⟩ := h.2 h0; exact ⟨b, off, cur, e1, by omega, e3⟩⟩
theorem keep_nil (w : World) (B : Nat) (y : AV) (ha : y.ka = none) (hl : y.kl = 0) (hc : y.kc = 0) (hk : y.keep = []) : KeepIn w B y := by
  refine ⟨?_, fun h => by omega⟩
  rw [ha, hl, hc, hk]
  exact ⟨rfl, Nat.le_refl _, by unfold maxLen; omega, fun i => by simp, fun h => absurd h (Nat.lt_irrefl 0)⟩
/-- Acts in a row of the call's own, their Keeps anywhere behind a block. -/
structure DcActs (w : World) (B : Nat) (v : Value) (ys : List AV) : Prop where
  row : w.ownsRow B 41 12 v ys.length (flatActs ys)
  keeps : ∀ y ∈ ys, KeepIn w B y
theorem dcActs_nil (w : World) (B : Nat) : DcActs w B (.slice none 0 0) [] := ⟨World.ownsRow_nil _ _ _ _, by simp⟩
theorem DcActs.below {w w' : World} {B : Nat} {v : Value} {ys : List AV} (h : DcActs w B v ys) (hb : Below w.heap.size w w') : DcActs w' B v ys := ⟨own_below h.row hb, fun y hy => (h.keeps y hy).below hb⟩
theorem DcActs.push {w w1 w2 : World} {B : Nat} {v v' : Value} {ys : List AV} {y : AV} (h : DcActs w B v ys) (hb : Below w.heap.size w w1) (hk : KeepIn w1 B y)
    (hown : w2.ownsRow B 41 12 v' (ys.length + 1) (flatActs ys ++ y.cells)) (hg : w1.grownBy w2 v.ownBlock) : DcActs w2 B v' (ys ++ [y]) := by
  have h1 := h.below hb
  have key : ∀ z, KeepIn w1 B z → KeepIn w2 B z := fun z hz => hz.same hg.size (fun b _ hlt ⟨cur, hcur⟩ => hg.block b hlt (fun e => by
    rcases h1.row.2 with ⟨hv, -⟩ | ⟨g, cap, cur', hv, -, hgg, -⟩
    · rw [hv] at e; cases e
    · rw [hv] at e
      have e2 : b = g := by have : some b = some g := e; exact Option.some.inj this
      rw [e2, hgg] at hcur
      simp at hcur))
  refine ⟨?_, fun z hz => ?_⟩
  · rw [flatActs_append]
    simpa using hown
  · rcases List.mem_append.1 hz with hz | hz
    · exact key z (h1.keeps z hz)
    · simp at hz
      subst hz
      exact key _ hk
theorem DcActs.isActs {w : World} {B : Nat} {ao : Option Addr} {n cp : Nat} {ys : List AV} (h : DcActs w B (.slice ao n cp) ys) : n = ys.length ∧ IsActs w ao n cp ys := by
  have hr := h.row
  obtain ⟨ao', cp', e, h1, h2⟩ := own_form hr
  simp at e
  obtain ⟨rfl, rfl, rfl⟩ := e
  refine ⟨rfl, rfl, h1, h2, fun hp => ?_⟩
  rcases hr.2 with ⟨_, hn⟩ | ⟨g, cap, cur, hv, hb, hg, _⟩
  · omega
  · simp at hv
    obtain ⟨rfl, rfl⟩ := hv
    refine ⟨g, 0, rfl, (hr.lt g rfl).2, fun i hi => ⟨fun j hj => ?_, ?_⟩⟩
    · have hf := flatActs_get ys i hi j hj
      have hc : j < (ys.getD i default).cells.length := by rw [AV.cells_len]; exact hj
      rw [List.getElem?_eq_getElem hc] at hf
      have := hr.cells (g := g) rfl _ _ hf
      have e : ∀ m, (⟨g, 0, none⟩ : Addr).add m = ⟨g, 0 + m, none⟩ := by
        intro m
        unfold Addr.add
        by_cases hm : m = 0 <;> simp [hm]
      rw [e, ← Nat.add_assoc] at this
      rw [this, List.getElem?_eq_getElem hc]
    · have hm : ys.getD i default ∈ ys := by simp [List.getD, hi]
      exact (h.keeps _ hm).1
def dcA1 (L : List UInt8) (R : WS) : Option (List Int) → Option AV
  | none => none
  | some l => if L = askW then (dcCall (R.drop 2)).map fun c => mkA 1 [l.getD 0 0, 0, l.getD 1 0, 0] [] c [] else if R.length = 3 then (stText (R.getD 2 [])).map fun t => mkA 8 [l.getD 0 0, 0, l.getD 1 0, 0] [] CV.nil t else none
def dcB1 (L : List UInt8) : Option (List Int) → Option AV
  | none => none
  | some l =>
    if L = tckW then (if l.length = 0 then some (mkA 5 [0, 0, 0, 0] [] CV.nil []) else none)
    else if L = stuW then (if l.length = 1 then some (mkA 7 [l.getD 0 0, 0, 0, 0] [] CV.nil []) else none)
    else if L = crsW then (if 0 < l.length then some (mkA 6 [l.getD 0 0, 0, 0, 0] l.tail CV.nil []) else none)
    else if L = dlvW then (if l.length = 4 then some (mkA 2 [l.getD 0 0, l.getD 1 0, l.getD 2 0, l.getD 3 0] [] CV.nil []) else none)
    else if L = drpW then (if l.length = 4 then some (mkA 3 [l.getD 0 0, l.getD 1 0, l.getD 2 0, l.getD 3 0] [] CV.nil []) else none)
    else if L = cpyW then (if l.length = 4 then some (mkA 4 [l.getD 0 0, l.getD 1 0, l.getD 2 0, l.getD 3 0] [] CV.nil []) else none)
    else none
theorem dcAct_A {L : List UInt8} {R : WS} (h : L = askW ∨ L = typW) : dcAct (L :: R) = if R.length < 3 then none else dcA1 L R (stKept (R.take 2)) := by
  unfold dcAct
  rw [List.headD_cons, if_pos h]
  have e1 : ((L :: R).length < 4) = (R.length < 3) := propext (by simp; omega)
  have e2 : ((L :: R).length = 4) = (R.length = 3) := propext (by simp)
  simp only [e1, e2]
  rfl
theorem dcAct_B {L : List UInt8} {R : WS} (h1 : ¬ L = askW) (h2 : ¬ L = typW) : dcAct (L :: R) = dcB1 L (stKept R) := by
  unfold dcAct
  rw [List.headD_cons, if_neg (by rintro (h | h); exact h1 h; exact h2 h)]
  rfl
theorem txt_drop (ws : List ByteArray) (k : Nat) : txt (ws.drop k) = (txt ws).drop k := by simp [txt, List.map_drop]
theorem txt_take (ws : List ByteArray) (k : Nat) : txt (ws.take k) = (txt ws).take k := by simp [txt, List.map_take]
theorem strs_two {w : World} {b off n c : Nat} {x : ByteArray} {r : List ByteArray} (h : IsStrs w (some ⟨b, off, none⟩) n c (x :: r)) (h3 : 4 ≤ n) : IsStrs w (some ⟨b, off + 1, none⟩) 2 (c - 1) (r.take 2) := by
  obtain ⟨e1, e2, e3, e4⟩ := h
  have hl : r.length + 1 = n := e1
  refine ⟨by rw [List.length_take]; omega, by omega, by omega, fun h0 => ?_⟩
  obtain ⟨b', off', ea, hb, hc⟩ := e4 (by omega)
  cases ea
  refine ⟨b, off + 1, rfl, hb, fun i hi => ?_⟩
  rw [show off + 1 + i = off + (i + 1) by omega, hc (i + 1) (by omega)]
  simp [List.getD, hi]
/-- A line that is read. -/
def LineTo (l : List UInt8) (w w' : World) (e : Ending) : Prop := ∃ y : AV, e = .returned (.tuple #[.agg y.cells.toArray, .bool (dcAct (spc 32 l)).isSome]) ∧ KeepIn w' w.heap.size y ∧ (∀ a, dcAct (spc 32 l) = some a → a = nk y) ∧ Below w.heap.size w w'
end Go.Proofs.YtlaagfnoepcnlaaDoor.Ln
/- The document's undotted: a text of a word. -/
namespace Go.Proofs.YtlaagfnoepcnlaaDoor.Ln
open Go.ChangeShapes Go.WideShapes Go.ChangeAt Go.RowKit
open Go.Proofs.YtlaagfnoepcnlaaDoor.St (BoxN boxn_new own_below IsRow Elem own_isRow)
set_option linter.unusedVariables false

def optT (o : Option (List UInt8)) : Value := .tuple #[.string ⟨(o.getD []).toArray⟩, .bool o.isSome]
theorem nil_t (O : Option (List UInt8)) (h : O = none) : optT O = .tuple #[.string ⟨#[]⟩, .bool false] := by rw [h]; rfl
theorem byte_join : ∀ (a b : Fin 16), IntKind.u8.wrap (16 * (a.val : Int) + (b.val : Int)) = ((UInt8.ofNat (16 * a.val + b.val)).toNat : Int) := by decide
set_option maxRecDepth 100000 in
set_option maxHeartbeats 8000000 in
theorem undotted_any (l : List UInt8) (w : World) (hl : l.length ≤ 140737488355320) :
    Calls Tryd.prog 61 #[.string ⟨l.toArray⟩] w fun e w' => e = .returned (optT (stText l)) ∧ Below w.heap.size w w' := by
  obtain ⟨iE, EU⟩ := u8Elem
  obtain ⟨O, eO⟩ : ∃ O, O = stText l := ⟨_, rfl⟩
  have HO : Hid (O = stText l) := eO
  rw [← eO]
  clear eO
  by_cases h0 : l = []
  · subst h0
    have HE := nil_t O (by rw [HO.out]; rfl)
    clear HO
    go_enter Tryd.func61, Tryd.ntmps61
    go_wp2
    go_ret2
    exact ⟨by first | (rw [HE]; rfl) | rfl, Below.refl _ _⟩
  · obtain ⟨C, hC, hx, c, hcc, hd⟩ := idx_at l 0 (List.length_pos_iff.2 h0)
    have hx : ∀ U : World, (Instr.index 9 (.string ⟨l.toArray⟩) (.int .i64 0)).run Tryd.prog U = .ok (.int .u8 (C : Int)) U := hx
    rw [List.drop_zero] at hd
    obtain ⟨r, er⟩ : ∃ r, r = l.drop (0 + 1) := ⟨_, rfl⟩
    rw [← er] at hd
    have hlr : l.length = r.length + 1 := by rw [hd]; rfl
    have HT : Hid (stText l = if c = 46 then unhex r else none) := by show _ = _; rw [hd]; rfl
    have HD : Hid (∀ k, l.drop (k + 1) = r.drop k) := fun k => by rw [hd]; rfl
    clear hd er
    have hln : ¬ l = [] := h0
    go_enter Tryd.func61, Tryd.ntmps61
    by_cases h46 : C = 46
    · have hc : c = 46 := UInt8.toNat_inj.1 (by rw [hcc, h46]; rfl)
      have HT2 : Hid (O = unhex r) := by show _ = _; rw [HO.out, HT.out, if_pos hc]
      subst h46
      clear HO HT hc hcc hC
      by_cases hm : r.length % 2 = 0
      · obtain ⟨m, em⟩ : ∃ m, r.length = 2 * m := ⟨r.length / 2, by omega⟩
        have hz : l.length = 2 * m + 1 := by omega
        have hm1 : (l.length : Int) % 2 = 1 := by omega
        have hm2 : ¬ (l.length : Int) % 2 = 0 := by omega
        have hm3 : ((l.length : Int).tmod 2 == 0) = false := by
          rw [Int.tmod_eq_emod_of_nonneg (by omega), hm1]; rfl
        have HM : Hid (r.length = 2 * m ∧ l.length = 2 * m + 1) := ⟨em, hz⟩
        have HT0 : Hid (O = (unhex (r.drop 0)).map (([] : List UInt8) ++ ·)) := by show _ = _; rw [HT2.out]; simp
        have HOw : Hid (w.ownsRow w.heap.size 5 1 (.slice none 0 0) 0 (St.flat u8C [])) := ⟨rfl, Or.inl ⟨rfl, rfl⟩⟩
        clear HT2 hm em hlr hz
        go_upto_region 5 with (fail)
        clear hx hm3
        go_loopw [4, 5] (fun s4 s5 wr => ∃ (a : Option Addr) (c k i : Nat) (bs : List UInt8), s4 = .slice a bs.length c ∧ s5 = .int .i64 (i : Int) ∧ Hid (i = 2 * k + 1 ∧ k ≤ m ∧ bs.length = k) ∧ Hid (wr.ownsRow w.heap.size 5 1 (.slice a bs.length c) bs.length (St.flat u8C bs)) ∧ Hid (O = (unhex (r.drop (2 * k))).map (bs ++ ·)) ∧ Hid (Below w.heap.size w wr)) (fun _ s5 _ => 2 * m + 1 - (intOf s5).toNat)
        case atStart => exact ⟨none, 0, 0, 1, [], rfl, rfl, ⟨rfl, by omega, rfl⟩, HOw, HT0, Below.refl _ _⟩
        case round =>
          clear HOw HT0
          obtain ⟨a, c, k, i, bs, rfl, rfl, HK, HOw, HT, HB⟩ := hrel
          obtain ⟨wo, ewo⟩ : ∃ X : World, X = wr := ⟨_, rfl⟩
          subst ewo
          obtain ⟨hi, hk, hbl⟩ := HK.out
          obtain ⟨hrm, hlm⟩ := HM.out
          by_cases hlt : i < l.length
          · have hlt' : (i : Int) < (l.length : Int) := by omega
            obtain ⟨C1, hC1, hx1, ch1, hcc1, hd1⟩ := idx_at l i hlt
            obtain ⟨C2, hC2, hx2, ch2, hcc2, hd2⟩ := idx_at l (i + 1) (by omega)
            rw [show (((i + 1 : Nat)) : Int) = (i : Int) + 1 by omega] at hx2
            have hdd : r.drop (2 * k) = ch1 :: ch2 :: r.drop (2 * k + 2) := by
              have e1 := HD.out (2 * k)
              have e2 := HD.out (2 * k + 1)
              have e3 := HD.out (2 * k + 2)
              rw [hi] at hd1 hd2
              rw [← e1, hd1, hd2, e3]
            have h16 := fun (ch : UInt8) (X : Nat) (U : World) (h : ch.toNat = X) => sixteenth_any ch X U h
            have hI1 := fun U => sixteenth_any ch1 C1 U hcc1
            have hI2 := fun U => sixteenth_any ch2 C2 U hcc2
            have HU : Hid (O = (if dgt ch1 < 0 ∨ dgt ch2 < 0 then none else (unhex (r.drop (2 * k + 2))).map (UInt8.ofNat (16 * (dgt ch1).toNat + (dgt ch2).toNat) :: ·)).map (bs ++ ·)) := by show _ = _; rw [← unhex_at hdd]; exact HT.out
            have hw1 : IntKind.i64.wrap ((i : Int) + 1) = (i : Int) + 1 := by rw [IntKind.wrap_i64]; omega
            have hw2 : IntKind.i64.wrap ((i : Int) + 2) = ((i + 2 : Nat) : Int) := by rw [IntKind.wrap_i64]; omega
            have HJ : Hid (i + 2 = 2 * (k + 1) + 1 ∧ k + 1 ≤ m ∧ i + 2 ≤ 2 * m + 1) := ⟨by omega, by omega, by omega⟩
            have L1 := dgt_lt ch1
            have L2 := dgt_lt ch2
            have HBl : Hid (bs.length = k) := hbl
            have HBz : bs.length ≤ 140737488355320 := by omega
            obtain ⟨D1, eD1⟩ : ∃ x, x = dgt ch1 := ⟨_, rfl⟩
            obtain ⟨D2, eD2⟩ : ∃ x, x = dgt ch2 := ⟨_, rfl⟩
            rw [← eD1] at hI1 HU L1
            rw [← eD2] at hI2 HU L2
            clear eD1 eD2 hdd hd1 hd2 HK hlm hrm hi hk hbl HT hcc1 hcc2 h16
            go_upto_region 8 with (go_at_call 81; refine (hI1 _).mono ?_; rintro e u1 ⟨rfl, hu1⟩)
            clear hx1 hI1
            go_upto_region 9 with (go_at_call 81; refine (hI2 _).mono ?_; rintro e Z ⟨rfl, hZ⟩)
            clear hx2 hI2 hw1
            have bQ : Below wo.heap.size wo Z := hu1.trans (hZ.mono hu1.size)
            have HBZ : Hid (Below w.heap.size w Z) := HB.out.trans (bQ.mono HB.out.size)
            clear hu1 hZ
            by_cases h1 : D1 < 0
            · have HE := nil_t O (by rw [HU.out, if_pos (Or.inl h1)]; rfl)
              clear HU HOw HJ bQ hw2
              go_wp2
              go_ret2
              exact ⟨by first | (rw [HE]; rfl) | rfl, HBZ.out⟩
            · by_cases h2 : D2 < 0
              · have HE := nil_t O (by rw [HU.out, if_pos (Or.inr h2)]; rfl)
                clear HU HOw HJ bQ hw2
                go_wp2
                go_ret2
                exact ⟨by first | (rw [HE]; rfl) | rfl, HBZ.out⟩
              · obtain ⟨d1, rfl⟩ : ∃ d : Nat, D1 = d := ⟨D1.toNat, by omega⟩
                obtain ⟨d2, rfl⟩ : ∃ d : Nat, D2 = d := ⟨D2.toNat, by omega⟩
                have hor : IntKind.u8.wrap (16 * (d1 : Int) + (d2 : Int)) = ((UInt8.ofNat (16 * d1 + d2)).toNat : Int) := byte_join ⟨d1, by omega⟩ ⟨d2, by omega⟩
                have hm16 : IntKind.i64.wrap (16 * (d1 : Int)) = 16 * (d1 : Int) := by rw [IntKind.wrap_i64]; omega
                have ha16 : IntKind.i64.wrap (16 * (d1 : Int) + (d2 : Int)) = 16 * (d1 : Int) + (d2 : Int) := by rw [IntKind.wrap_i64]; omega
                have HU2 : Hid (O = (unhex (r.drop (2 * (k + 1)))).map ((bs ++ [UInt8.ofNat (16 * d1 + d2)]) ++ ·)) := by
                  show _ = _
                  rw [HU.out, if_neg (by omega), show 2 * (k + 1) = 2 * k + 2 by omega]
                  simp only [Int.toNat_natCast]
                  cases unhex (r.drop (2 * k + 2)) with
                  | none => rfl
                  | some t => simp
                obtain ⟨G, eG⟩ : ∃ g, g = UInt8.ofNat (16 * d1 + d2) := ⟨_, rfl⟩
                rw [← eG] at hor HU2
                have hO1 := own_below HOw.out bQ
                have HFn : Hid (∀ (w5 : World) (a5 : Option Addr) (c5 : Nat), (Z.alloc (.cells #[.int .u8 (G.toNat : Int)] 5)).grownBy w5 (Value.slice a bs.length c).ownBlock → Below w.heap.size w w5) := fun w5 a5 c5 h8 => by
                  have b1 : Below w.heap.size w (Z.alloc (.cells #[.int .u8 (G.toNat : Int)] 5)) := HBZ.out.alloc HBZ.out.size _
                  exact b1.grown h8 b1.size (fun g hg => (HOw.out.lt g hg).1)
                have hz1 : w.heap.size ≤ Z.heap.size := HBZ.out.size
                clear HU eG L1 L2 HOw
                go_wp2_with (at_builtin; go_loud (refine St.wpList_append_row EU (by rfl) _ _ (by rfl) w.heap.size (.slice a bs.length c) bs.length bs (by rfl) (own_below hO1 ((Below.refl _ _).alloc (Nat.le_refl _) _)) _ 1 1 [G] (by rfl) (u81 Z G _ rfl) (by unfold maxLen; omega) (by omega) (by simp; omega) ?_; intro a5 c5 w5 own5 gr5 at5; have HF5 : Hid (Below w.heap.size w w5) := HFn.out w5 a5 c5 gr5))
                go_roundw
                case rel => exact ⟨_, _, .slice a5 (bs.length + 1) c5, .int .i64 ((i : Int) + 2), ⟨a5, c5, k + 1, i + 2, bs ++ [G], by rw [List.length_append]; rfl, by go_num, ⟨HJ.out.1, HJ.out.2.1, by rw [List.length_append, HBl.out]; rfl⟩, by rw [List.length_append]; exact own5, HU2⟩, rfl, rfl, rfl, rfl⟩
                case measure => have := HJ.out; simp [intOf]; omega
          · obtain rfl : i = l.length := by omega
            have hnl : ¬ ((l.length : Int) < (l.length : Int)) := by omega
            have hO : O = some bs := by
              rw [HT.out, List.drop_of_length_le (by omega)]
              simp [unhex]
            have HCv : Hid ((convert 52 9 (.slice a bs.length c)).run Tryd.prog wo = .ok (.string ⟨bs.toArray⟩) wo) := by
              show _ = _
              by_cases h0 : bs.length = 0
              · obtain rfl : bs = [] := List.length_eq_zero_iff.1 h0
                rcases HOw.out.2 with ⟨h, -⟩ | ⟨g, cap, cur, h, -⟩
                · rw [h]
                  kernel_rfl
                · rw [h]
                  exact run_convert_bytes_back (P := Tryd.prog) wo 52 9 5 ⟨g, 0, none⟩ cap [] Tryd.underlying52 Tryd.underlying5 Tryd.underlying9 (fun j hj => by simp at hj)
              · obtain ⟨⟨_, _, _, _, h5⟩, -⟩ := own_isRow u8_len HOw.out rfl
                obtain ⟨b, off, rfl, _, hc⟩ := h5 (by omega)
                have := run_convert_bytes_back (P := Tryd.prog) wo 52 9 5 ⟨b, off, none⟩ c bs Tryd.underlying52 Tryd.underlying5 Tryd.underlying9 (fun j hj => by
                  have h8 := hc j hj 0 (by decide)
                  rw [Nat.mul_one, Nat.add_zero] at h8
                  have e1 : ((⟨b, off, none⟩ : Addr).add j) = ⟨b, off + j, none⟩ := by unfold Addr.add; by_cases h : j = 0 <;> simp [h]
                  rw [e1, h8]
                  simp [u8C, List.getD, hj])
                rw [this]
            have hcv := HCv.out
            have hE : optT O = .tuple #[.string ⟨bs.toArray⟩, .bool true] := by rw [hO]; rfl
            clear HT HOw HK HM hbl hi hk hlt hO HCv
            go_wp2
            go_ret2
            exact ⟨by first | (rw [hE]; rfl) | rfl, HB.out⟩
      · have hm1 : (l.length : Int) % 2 = 0 := by omega
        have hm3 : ((l.length : Int).tmod 2 == 0) = true := by
          rw [Int.tmod_eq_emod_of_nonneg (by omega), hm1]; rfl
        have HE := nil_t O (by rw [HT2.out]; exact unhex_odd (r.length / 2) r (by omega))
        clear HT2 HD hlr hm
        go_wp2
        go_ret2
        exact ⟨by first | (rw [HE]; rfl) | rfl, Below.refl _ _⟩
    · have hc : c ≠ 46 := fun e => h46 (by rw [← hcc, e]; rfl)
      have HE := nil_t O (by rw [HO.out, HT.out, if_neg hc])
      have h46' : ((C : Int) == 46) = false := beq_eq_false_iff_ne.2 (by omega)
      have h46'' : ¬ ((C : Int) = 46) := by omega
      clear HO HT HD
      go_wp2
      go_ret2
      exact ⟨by first | (rw [HE]; rfl) | rfl, Below.refl _ _⟩
end Go.Proofs.YtlaagfnoepcnlaaDoor.Ln
