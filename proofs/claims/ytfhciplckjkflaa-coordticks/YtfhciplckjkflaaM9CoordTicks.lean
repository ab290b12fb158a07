/- Texts of this claim, one behind the other. -/
import Derived.Test.YtfhciplckjkflaaM8CoordTicks
import Derived.Test.YtfhciplckjkflaaM4CoordTicks
import Derived.Test.YtfhciplckjkflaaA0CoordTicks
import Derived.Laws.BitsLemmas
/- Rows of the call's own: cells stored into them, a beginning of them, elements of several cells. -/
namespace Go.Proofs.Ytfhciplckjkflaa.St
open Go.ChangeShapes Go.WideShapes Go.ChangeAt Go.RowKit
set_option linter.unusedVariables false

theorem grown_setCell (w : World) (a : Addr) (u : Value) : w.grownBy (w.setCell a u) (some a.block) :=
  ⟨rfl, rfl, rfl, by simp, fun k _ hk => Below.heap_setCell w a u k (fun e => hk (by rw [e]))⟩
theorem own_setk {w : World} {base : Nat} {e : TypeId} {g n cap size : Nat} {xs : List Value} (h : w.ownsRow base e size (.slice (some ⟨g, 0, none⟩) n cap) n xs) {k : Nat} (hk : k < n * size) (u : Value) :
    (w.setCell ⟨g, k, none⟩ u).ownsRow base e size (.slice (some ⟨g, 0, none⟩) n cap) n (xs.set k u) := by
  obtain ⟨hl, h2⟩ := h
  rcases h2 with ⟨hv, hn⟩ | ⟨g', cap', cur, hv, hb, hg, h1, h3, hs, ht⟩
  · subst hn; simp at hk
  · simp at hv
    obtain ⟨rfl, rfl⟩ := hv
    refine ⟨by simpa using hl, .inr ⟨g, cap, cur.setIfInBounds k u, rfl, hb, heap_setCell_same w g k cur e u hg, h1, h3, by simpa using hs, ?_⟩⟩
    rw [← ht, Array.toList_setIfInBounds, List.take_set]
theorem own_there {w : World} {base : Nat} {e : TypeId} {g n cap size : Nat} {xs : List Value} (h : w.ownsRow base e size (.slice (some ⟨g, 0, none⟩) n cap) n xs) {k : Nat} (hk : k < n * size) : (w.cell? ⟨g, k, none⟩).isSome = true ∧ w.frozen? ⟨g, k, none⟩ = false := by
  obtain ⟨hl, h2⟩ := h
  rcases h2 with ⟨hv, hn⟩ | ⟨g', cap', cur, hv, hb, hg, h1, h3, hs, ht⟩
  · subst hn; simp at hk
  · simp at hv
    obtain ⟨rfl, rfl⟩ := hv
    have hk2 : n * size ≤ cap * size := Nat.mul_le_mul_right _ h1
    have hkc : k < cur.size := by omega
    exact ⟨by simp [World.cell?, hg, hkc], by simp [World.frozen?, hg]⟩
def setL : List Value → Nat → List Value → List Value
  | xs, _, [] => xs
  | xs, o, v :: r => setL (xs.set o v) (o + 1) r
theorem setL_len : ∀ (vs : List Value) (xs : List Value) (o : Nat), (setL xs o vs).length = xs.length
  | [], xs, o => rfl
  | v :: r, xs, o => by rw [setL, setL_len]; simp
theorem setL_eq : ∀ (vs : List Value) (xs : List Value) (o : Nat), o + vs.length ≤ xs.length → setL xs o vs = xs.take o ++ vs ++ xs.drop (o + vs.length)
  | [], xs, o, h => by simp [setL]
  | v :: r, xs, o, h => by
    simp only [List.length_cons] at h
    rw [setL, setL_eq r (xs.set o v) (o + 1) (by simp; omega)]
    have h1 : (xs.set o v).take (o + 1) = xs.take o ++ [v] := by
      rw [List.take_succ_eq_append_getElem (by simp; omega), List.take_set, List.set_eq_of_length_le (by simp; omega)]
      simp
    have h2 : (xs.set o v).drop (o + 1 + r.length) = xs.drop (o + 1 + r.length) := by
      rw [List.drop_set]
      rw [if_pos (by omega)]
    rw [h1, h2, List.length_cons, show o + (r.length + 1) = o + 1 + r.length by omega]
    simp
theorem own_setCells {base : Nat} {e : TypeId} {g n cap size : Nat} : ∀ (vs : List Value) (o : Nat) (w : World) (xs : List Value), w.ownsRow base e size (.slice (some ⟨g, 0, none⟩) n cap) n xs → o + vs.length ≤ n * size → (w.setCells g o vs).ownsRow base e size (.slice (some ⟨g, 0, none⟩) n cap) n (setL xs o vs)
  | [], o, w, xs, h, _ => h
  | v :: r, o, w, xs, h, hl => by
    simp only [List.length_cons] at hl
    exact own_setCells r (o + 1) _ _ (own_setk h (by omega) v) (by omega)
theorem own_prefix {w : World} {base : Nat} {e : TypeId} {g n cap size : Nat} {xs : List Value} (h : w.ownsRow base e size (.slice (some ⟨g, 0, none⟩) n cap) n xs) {k : Nat} (hk : k ≤ n) (h0 : 0 < n) : w.ownsRow base e size (.slice (some ⟨g, 0, none⟩) k cap) k (xs.take (k * size)) := by
  obtain ⟨hl, h2⟩ := h
  rcases h2 with ⟨hv, hn⟩ | ⟨g', cap', cur, hv, hb, hg, h1, h3, hs, ht⟩
  · omega
  · simp at hv
    obtain ⟨rfl, rfl⟩ := hv
    have hk2 : k * size ≤ n * size := Nat.mul_le_mul_right _ hk
    refine ⟨by rw [List.length_take, hl]; omega, .inr ⟨g, cap, cur, rfl, hb, hg, by omega, h3, hs, ?_⟩⟩
    rw [← ht, List.take_take]
    congr 1
    omega
theorem grown_setCells (b : Nat) : ∀ (vs : List Value) (o : Nat) (w : World), w.grownBy (w.setCells b o vs) (some b)
  | [], o, w => World.grownBy.refl _ _
  | v :: r, o, w => by
    have h1 := grown_setCell w ⟨b, o, none⟩ v
    have h2 := grown_setCells b r (o + 1) (w.setCell ⟨b, o, none⟩ v)
    exact ⟨h2.os.trans h1.os, h2.tape.trans h1.tape, h2.output.trans h1.output, Nat.le_trans h1.size h2.size, fun k hk hne => (h2.block k (Nat.lt_of_lt_of_le hk h1.size) hne).trans (h1.block k hk hne)⟩
theorem flat_take {α : Type} {cells : α → List Value} {k : Nat} (hk : ∀ x, (cells x).length = k) : ∀ (xs : List α) (i : Nat), (flat cells xs).take (i * k) = flat cells (xs.take i)
  | [], i => by simp [flat]
  | x :: r, 0 => by simp [flat]
  | x :: r, i + 1 => by
    have e : flat cells (x :: r) = cells x ++ flat cells r := by simp [flat]
    have e2 : flat cells ((x :: r).take (i + 1)) = cells x ++ flat cells (r.take i) := by simp [flat]
    rw [e, e2, List.take_append, hk, List.take_of_length_le (by rw [hk, Nat.add_mul]; omega), show (i + 1) * k - k = i * k by rw [Nat.add_mul]; omega, flat_take hk r i]
theorem flat_drop {α : Type} {cells : α → List Value} {k : Nat} (hk : ∀ x, (cells x).length = k) : ∀ (xs : List α) (i : Nat), (flat cells xs).drop (i * k) = flat cells (xs.drop i)
  | [], i => by simp [flat]
  | x :: r, 0 => by simp [flat]
  | x :: r, i + 1 => by
    have e : flat cells (x :: r) = cells x ++ flat cells r := by simp [flat]
    rw [e, List.drop_append, hk, List.drop_eq_nil_of_le (by rw [hk, Nat.add_mul]; omega), show (i + 1) * k - k = i * k by rw [Nat.add_mul]; omega, flat_drop hk r i]
    simp
theorem flat_setL {α : Type} {cells : α → List Value} {k : Nat} (hk : ∀ x, (cells x).length = k) (xs : List α) (i : Nat) (hi : i < xs.length) (y : α) : setL (flat cells xs) (i * k) (cells y) = flat cells (xs.set i y) := by
  have hX := flat_len hk xs
  have h1 : (i + 1) * k ≤ xs.length * k := Nat.mul_le_mul_right _ hi
  rw [Nat.add_mul, Nat.one_mul] at h1
  rw [setL_eq _ _ _ (by rw [hX, hk]; exact h1), hk, flat_take hk, show i * k + k = (i + 1) * k by rw [Nat.add_mul, Nat.one_mul], flat_drop hk, List.set_eq_take_append_cons_drop, if_pos hi]
  simp [flat]
theorem flat_set {α : Type} [Inhabited α] {cells : α → List Value} {k : Nat} (hk : ∀ x, (cells x).length = k) : ∀ (xs : List α) (i j : Nat) (u : Value) (y : α), i < xs.length → j < k → cells y = (cells (xs.getD i default)).set j u → (flat cells xs).set (i * k + j) u = flat cells (xs.set i y)
  | [], i, j, u, y, hi, _, _ => by simp at hi
  | x :: r, 0, j, u, y, _, hj, hy => by
    have e : flat cells (x :: r) = cells x ++ flat cells r := by simp [flat]
    have e2 : flat cells (y :: r) = cells y ++ flat cells r := by simp [flat]
    simp only [List.getD_cons_zero] at hy
    rw [e, List.set_cons_zero, e2, hy, Nat.zero_mul, Nat.zero_add, List.set_append_left _ _ (by rw [hk]; exact hj)]
  | x :: r, i + 1, j, u, y, hi, hj, hy => by
    have e : flat cells (x :: r) = cells x ++ flat cells r := by simp [flat]
    have e2 : flat cells (x :: r.set i y) = cells x ++ flat cells (r.set i y) := by simp [flat]
    simp only [List.getD_cons_succ] at hy
    have h1 : (i + 1) * k + j = k + (i * k + j) := by rw [Nat.add_mul, Nat.one_mul]; omega
    rw [e, List.set_cons_succ, e2, h1, List.set_append_right _ _ (by rw [hk]; omega), hk, Nat.add_sub_cancel_left, flat_set hk r i j u y (by simpa using hi) hj hy]
theorem grown_trans {u v w : World} {r : Option Nat} (h1 : u.grownBy v r) (h2 : v.grownBy w r) : u.grownBy w r :=
  ⟨h2.os.trans h1.os, h2.tape.trans h1.tape, h2.output.trans h1.output, Nat.le_trans h1.size h2.size, fun k hk hne => (h2.block k (Nat.lt_of_lt_of_le hk h1.size) hne).trans (h1.block k hk hne)⟩
theorem grown_below {w w' : World} (h : Below w.heap.size w w') (r : Option Nat) : w.grownBy w' r := ⟨h.os, h.tape, h.output, h.size, fun k hk _ => h.block k hk⟩
end Go.Proofs.Ytfhciplckjkflaa.St
/- Rows of the call's own, many of them: each lies in a block of its own; one may grow, be told a cell, or be made, and the others stay. A box beside them. -/
namespace Go.Proofs.Ytfhciplckjkflaa.Co
open Go.ChangeShapes Go.WideShapes Go.ChangeAt Go.RowKit
open Go.Proofs.Ytfhciplckjkflaa.St (BoxN boxn_new own_below grown_setCell own_setk)
set_option linter.unusedVariables false

/-- A row: the element's type, its cells, the slice, how many, and what the cells hold. -/
structure Rw where
  te : TypeId
  k : Nat
  v : Value
  n : Nat
  xs : List Value
structure Own (X : World) (B : Nat) (rows : List Rw) : Prop where
  own : ∀ (i : Nat) (r : Rw), rows[i]? = some r → X.ownsRow B r.te r.k r.v r.n r.xs
  ap : ∀ (i j : Nat) (r s : Rw), rows[i]? = some r → rows[j]? = some s → i ≠ j → r.v.ownBlock = none ∨ r.v.ownBlock ≠ s.v.ownBlock
theorem own_nil (X : World) (B : Nat) : Own X B [] := ⟨fun i r e => by simp at e, fun i j r s e => by simp at e⟩
theorem own_base {w : World} {B C : Nat} {te : TypeId} {k : Nat} {v : Value} {n : Nat} {xs : List Value} (h : w.ownsRow C te k v n xs) (hB : B ≤ C) : w.ownsRow B te k v n xs := by
  obtain ⟨h1, h2⟩ := h
  refine ⟨h1, ?_⟩
  rcases h2 with h2 | ⟨g, cap, cur, e, hb, r⟩
  · exact .inl h2
  · exact .inr ⟨g, cap, cur, e, Nat.le_trans hB hb, r⟩
theorem Own.base {X : World} {B C : Nat} {rows : List Rw} (h : Own X C rows) (hB : B ≤ C) : Own X B rows := ⟨fun i r e => own_base (h.own i r e) hB, h.ap⟩
theorem Own.below {X X' : World} {B : Nat} {rows : List Rw} (h : Own X B rows) (hb : Below X.heap.size X X') : Own X' B rows := ⟨fun i r e => own_below (h.own i r e) hb, h.ap⟩
theorem set_get {α : Type} {l : List α} {i j : Nat} {x y z : α} (e : l[i]? = some x) (h : (l.set i y)[j]? = some z) : (j = i ∧ z = y) ∨ (j ≠ i ∧ l[j]? = some z) := by
  by_cases hj : j = i
  · subst hj
    have hl : j < l.length := (List.getElem?_eq_some_iff.1 e).1
    rw [List.getElem?_set_self hl] at h
    exact Or.inl ⟨rfl, (Option.some.inj h).symm⟩
  · rw [List.getElem?_set_ne (fun e => hj e.symm)] at h
    exact Or.inr ⟨hj, h⟩
/-- One row grew, where it lay or in a new block. -/
theorem Own.grow {X X' : World} {B : Nat} {rows : List Rw} (h : Own X B rows) {i : Nat} {r r' : Rw} (e : rows[i]? = some r) (hg : X.grownBy X' r.v.ownBlock) (ho : X'.ownsRow B r'.te r'.k r'.v r'.n r'.xs) (hat : r'.v.ownBlock = r.v.ownBlock ∨ r'.v.ownBlock = some X.heap.size) : Own X' B (rows.set i r') := by
  have old : ∀ (j : Nat) (s : Rw), rows[j]? = some s → j ≠ i → r'.v.ownBlock = none ∨ r'.v.ownBlock ≠ s.v.ownBlock := fun j s es hj => by
    rcases hat with e1 | e1
    · rw [e1]; exact h.ap i j r s e es (fun e => hj e.symm)
    · refine Or.inr (fun e2 => ?_)
      have := ((h.own j s es).lt X.heap.size (by rw [← e2]; exact e1)).2
      omega
  refine ⟨fun j s es => ?_, fun j l s t es et hjl => ?_⟩
  · rcases set_get e es with ⟨rfl, rfl⟩ | ⟨hj, es⟩
    · exact ho
    · exact (h.own j s es).kept hg (h.ap j i s r es e hj)
  · rcases set_get e es with ⟨rfl, rfl⟩ | ⟨hj, es2⟩
    · rcases set_get e et with ⟨hl, _⟩ | ⟨hl, et2⟩
      · exact absurd hl.symm hjl
      · exact old l t et2 hl
    · rcases set_get e et with ⟨rfl, rfl⟩ | ⟨hl, et2⟩
      · rcases old j s es2 hj with e1 | e1
        · by_cases h2 : s.v.ownBlock = none
          · exact Or.inl h2
          · exact Or.inr (fun e3 => h2 (e3.trans e1))
        · exact Or.inr (fun e3 => e1 e3.symm)
      · exact h.ap j l s t es2 et2 hjl
/-- A row that a call made. -/
theorem Own.add {X X' : World} {B : Nat} {rows : List Rw} (h : Own X B rows) (hb : Below X.heap.size X X') (hB : B ≤ X.heap.size) {r : Rw} (ho : X'.ownsRow X.heap.size r.te r.k r.v r.n r.xs) : Own X' B (rows ++ [r]) := by
  have hlt : ∀ (j : Nat) (s : Rw), rows[j]? = some s → ∀ g, s.v.ownBlock = some g → g < X.heap.size := fun j s es g eg => ((h.own j s es).lt g eg).2
  have hge : ∀ g, r.v.ownBlock = some g → X.heap.size ≤ g := fun g eg => (ho.lt g eg).1
  have get : ∀ (j : Nat) (s : Rw), (rows ++ [r])[j]? = some s → rows[j]? = some s ∨ (j = rows.length ∧ s = r) := fun j s es => by
    by_cases hj : j < rows.length
    · rw [List.getElem?_append_left hj] at es; exact Or.inl es
    · rw [List.getElem?_append_right (by omega)] at es
      have hl := (List.getElem?_eq_some_iff.1 es).1
      simp at hl
      have : j - rows.length = 0 := by omega
      rw [this] at es
      simp at es
      exact Or.inr ⟨by omega, es.symm⟩
  refine ⟨fun j s es => ?_, fun j l s t es et hjl => ?_⟩
  · rcases get j s es with es | ⟨_, rfl⟩
    · exact own_below (h.own j s es) hb
    · exact own_base ho hB
  · rcases get j s es with es2 | ⟨rfl, rfl⟩
    · rcases get l t et with et2 | ⟨rfl, rfl⟩
      · exact h.ap j l s t es2 et2 hjl
      · by_cases h2 : s.v.ownBlock = none
        · exact Or.inl h2
        · refine Or.inr (fun e3 => ?_)
          obtain ⟨g, eg⟩ := Option.ne_none_iff_exists'.1 h2
          have h3 := hlt j s es2 g eg
          have h4 := hge g (by rw [← e3]; exact eg)
          omega
    · rcases get l t et with et2 | ⟨rfl, _⟩
      · by_cases h2 : s.v.ownBlock = none
        · exact Or.inl h2
        · refine Or.inr (fun e3 => ?_)
          obtain ⟨g, eg⟩ := Option.ne_none_iff_exists'.1 h2
          have h3 := hge g eg
          have h4 := hlt l t et2 g (by rw [← e3]; exact eg)
          omega
      · exact absurd rfl hjl
/-- A cell of another block is told. -/
theorem Own.aside {X : World} {B : Nat} {rows : List Rw} (h : Own X B rows) {q : Nat} (hq : ∀ (i : Nat) (r : Rw), rows[i]? = some r → r.v.ownBlock ≠ some q) (j : Nat) (u : Value) : Own (X.setCell ⟨q, j, none⟩ u) B rows :=
  ⟨fun i r e => (h.own i r e).kept (grown_setCell X ⟨q, j, none⟩ u) (Or.inr (hq i r e)), h.ap⟩
/-- A cell of a row is told. -/
theorem Own.cell {X : World} {B : Nat} {rows : List Rw} (h : Own X B rows) {i : Nat} {te : TypeId} {k g n cap : Nat} {xs : List Value} (e : rows[i]? = some ⟨te, k, .slice (some ⟨g, 0, none⟩) n cap, n, xs⟩) {j : Nat} (hj : j < n * k) (u : Value) : Own (X.setCell ⟨g, j, none⟩ u) B (rows.set i ⟨te, k, .slice (some ⟨g, 0, none⟩) n cap, n, xs.set j u⟩) :=
  h.grow e (grown_setCell X ⟨g, j, none⟩ u) (own_setk (h.own i _ e) hj u) (Or.inl rfl)
/-- A box, and rows of which none lies in it; all at B or above, and what was there ahead of B is as it was. -/
structure Held (w X : World) (B q n : Nat) (vs : List Value) (rows : List Rw) : Prop where
  box : BoxN X q n vs
  own : Own X B rows
  apart : ∀ (i : Nat) (r : Rw), rows[i]? = some r → r.v.ownBlock ≠ some q
  le : B ≤ q
  bel : Below B w X
theorem Held.below {w X X' : World} {B q n : Nat} {vs : List Value} {rows : List Rw} (h : Held w X B q n vs rows) (hb : Below X.heap.size X X') : Held w X' B q n vs rows :=
  ⟨h.box.below hb h.box.lt, h.own.below hb, h.apart, h.le, h.bel.trans (hb.mono (Nat.le_trans h.le (Nat.le_of_lt h.box.lt)))⟩
theorem Held.tell {w X : World} {B q n : Nat} {vs : List Value} {rows : List Rw} (h : Held w X B q n vs rows) (j : Nat) (hj : j < n) (u : Value) : Held w (X.setCell ⟨q, j, none⟩ u) B q n (vs.set j u) rows :=
  ⟨h.box.set j hj u, h.own.aside h.apart j u, h.apart, h.le, h.bel.setCell (p := ⟨q, j, none⟩) h.le u⟩
theorem Held.grow {w X X' : World} {B q n : Nat} {vs : List Value} {rows : List Rw} (h : Held w X B q n vs rows) {i : Nat} {r r' : Rw} (e : rows[i]? = some r) (hg : X.grownBy X' r.v.ownBlock) (ho : X'.ownsRow B r'.te r'.k r'.v r'.n r'.xs) (hat : r'.v.ownBlock = r.v.ownBlock ∨ r'.v.ownBlock = some X.heap.size) : Held w X' B q n vs (rows.set i r') := by
  have hne := h.apart i r e
  refine ⟨h.box.grown hg (fun e2 => hne e2.symm), h.own.grow e hg ho hat, fun j s es => ?_, h.le, ?_⟩
  · rcases set_get e es with ⟨_, rfl⟩ | ⟨_, es⟩
    · rcases hat with e1 | e1
      · rw [e1]; exact hne
      · rw [e1]; intro e2; have := h.box.lt; simp at e2; omega
    · exact h.apart j s es
  · exact h.bel.grown hg (Nat.le_trans h.le (Nat.le_of_lt h.box.lt)) (fun g eg => ((h.own.own i r e).lt g eg).1)
theorem Held.add {w X X' : World} {B q n : Nat} {vs : List Value} {rows : List Rw} (h : Held w X B q n vs rows) (hb : Below X.heap.size X X') {r : Rw} (ho : X'.ownsRow X.heap.size r.te r.k r.v r.n r.xs) : Held w X' B q n vs (rows ++ [r]) := by
  have h1 := h.below hb
  have hB : B ≤ X.heap.size := Nat.le_trans h.le (Nat.le_of_lt h.box.lt)
  refine ⟨h1.box, h.own.add hb hB ho, fun j s es => ?_, h.le, h1.bel⟩
  by_cases hj : j < rows.length
  · rw [List.getElem?_append_left hj] at es; exact h.apart j s es
  · rw [List.getElem?_append_right (by omega)] at es
    have hl := (List.getElem?_eq_some_iff.1 es).1
    simp at hl
    have : j - rows.length = 0 := by omega
    rw [this] at es
    simp at es
    subst es
    intro e2
    have := (ho.lt q e2).1
    have := h.box.lt
    omega
theorem Held.cell {w X : World} {B q n : Nat} {vs : List Value} {rows : List Rw} (h : Held w X B q n vs rows) {i : Nat} {te : TypeId} {k g m cap : Nat} {xs : List Value} (e : rows[i]? = some ⟨te, k, .slice (some ⟨g, 0, none⟩) m cap, m, xs⟩) {j : Nat} (hj : j < m * k) (u : Value) : Held w (X.setCell ⟨g, j, none⟩ u) B q n vs (rows.set i ⟨te, k, .slice (some ⟨g, 0, none⟩) m cap, m, xs.set j u⟩) :=
  h.grow e (grown_setCell X ⟨g, j, none⟩ u) (own_setk (h.own.own i _ e) hj u) (Or.inl rfl)
end Go.Proofs.Ytfhciplckjkflaa.Co
/- Numbers as bytes, the highest first, and back; bytes read off a front, one number behind the other: plain data, nothing of the program. -/
namespace Go.Proofs.Ytfhciplckjkflaa
open Go.ChangeShapes Go.WideShapes Go.ChangeAt Go.RowKit

def be (n : Int) : Nat → List Int
  | 0 => []
  | k + 1 => n / 256 ^ k % 256 :: be n k
def bval (bs : List Int) : Int := bs.foldl (fun a b => a * 256 + b) 0
def Byt (bs : List Int) : Prop := ∀ b ∈ bs, 0 ≤ b ∧ b < 256

theorem be_len (n : Int) (k : Nat) : (be n k).length = k := by
  induction k with
  | zero => rfl
  | succ k ih => simp [be, ih]
theorem be_byt (n : Int) (k : Nat) : Byt (be n k) := by
  induction k with
  | zero => intro b hb; simp [be] at hb
  | succ k ih =>
    intro b hb
    rcases List.mem_cons.1 hb with rfl | hb
    · exact ⟨Int.emod_nonneg _ (by decide), Int.emod_lt_of_pos _ (by decide)⟩
    · exact ih b hb
theorem be_snoc (n : Int) (k : Nat) : be n (k + 1) = be (n / 256) k ++ [n % 256] := by
  induction k with
  | zero => simp [be]
  | succ k ih =>
    rw [be, ih]
    conv => rhs; rw [be]
    rw [Int.ediv_ediv_of_nonneg (by decide), List.cons_append, Int.pow_succ, Int.mul_comm]
theorem bval_nil : bval [] = 0 := rfl
theorem bval_snoc (bs : List Int) (b : Int) : bval (bs ++ [b]) = bval bs * 256 + b := by simp [bval]
theorem bval_be : ∀ (k : Nat) (n : Int), 0 ≤ n → n < 256 ^ k → bval (be n k) = n := by
  intro k
  induction k with
  | zero => intro n h0 h1; simp at h1; simp [be, bval]; omega
  | succ k ih =>
    intro n h0 h1
    rw [be_snoc, bval_snoc, ih (n / 256) (by omega) (by rw [Int.pow_succ] at h1; omega)]
    omega
theorem bval_bd : ∀ (k : Nat) (bs : List Int), bs.length = k → Byt bs → 0 ≤ bval bs ∧ bval bs < 256 ^ k := by
  intro k
  induction k with
  | zero => intro bs h _; obtain rfl := List.length_eq_zero_iff.1 h; simp [bval]
  | succ k ih =>
    intro bs h hb
    have hne : bs ≠ [] := by intro e; rw [e] at h; simp at h
    obtain ⟨l, b, rfl⟩ : ∃ l b, bs = l ++ [b] := ⟨bs.dropLast, bs.getLast hne, (List.dropLast_concat_getLast hne).symm⟩
    have h1 := ih l (by simpa using h) (fun x hx => hb x (by simp [hx]))
    have h2 := hb b (by simp)
    rw [bval_snoc, Int.pow_succ]
    omega
theorem be_bval : ∀ (k : Nat) (bs : List Int), bs.length = k → Byt bs → be (bval bs) k = bs := by
  intro k
  induction k with
  | zero => intro bs h _; obtain rfl := List.length_eq_zero_iff.1 h; rfl
  | succ k ih =>
    intro bs h hb
    have hne : bs ≠ [] := by intro e; rw [e] at h; simp at h
    obtain ⟨l, b, rfl⟩ : ∃ l b, bs = l ++ [b] := ⟨bs.dropLast, bs.getLast hne, (List.dropLast_concat_getLast hne).symm⟩
    have h1 := ih l (by simpa using h) (fun x hx => hb x (by simp [hx]))
    have h2 := hb b (by simp)
    rw [bval_snoc, be_snoc, show (bval l * 256 + b) / 256 = bval l by omega, show (bval l * 256 + b) % 256 = b by omega, h1]
theorem bval_one (b : Int) : bval [b] = b := by simp [bval]
theorem be_one {n : Int} (h0 : 0 ≤ n) (h1 : n < 256) : be n 1 = [n] := by simp [be]; omega

theorem or_join {x y : Int} (hx0 : 0 ≤ x) (hx1 : x < 4294967296) (hy0 : 0 ≤ y) (hy1 : y < 256) : bits .or .i64 (x * 256) y = x * 256 + y :=
  bits_join .i64 63 (by decide) (fun n h0 h1 => by simp [IntKind.wrap, IntKind.bits, IntKind.signed]; omega) 8 (x * 256) y (by omega) (by omega) (by omega) hy0 (by omega) (by omega)

/-! ### Off a front -/
structure RS where
  rest : List Int
  wrong : Int

def RS.refuse (r : RS) (e : Int) : RS := if r.wrong = 0 then ⟨r.rest, e⟩ else r
def RS.short (r : RS) (k : Nat) : RS := if r.rest.length < k then r.refuse 5 else r
def RS.num (r : RS) (k : Nat) : Int × RS := if (r.short k).wrong = 0 then (bval (r.rest.take k), ⟨r.rest.drop k, 0⟩) else (0, r.short k)

theorem num_ok {r : RS} {k : Nat} (h : r.wrong = 0) (hk : k ≤ r.rest.length) : r.num k = (bval (r.rest.take k), ⟨r.rest.drop k, 0⟩) := by
  have : ¬ r.rest.length < k := by omega
  simp [RS.num, RS.short, this, h]
theorem num_short {r : RS} {k : Nat} (h : r.wrong = 0) (hk : r.rest.length < k) : r.num k = (0, ⟨r.rest, 5⟩) := by
  simp [RS.num, RS.short, RS.refuse, hk, h]
theorem num_wrong {r : RS} {k : Nat} (h : r.wrong ≠ 0) : r.num k = (0, r) := by
  unfold RS.num RS.short RS.refuse
  by_cases hk : r.rest.length < k <;> simp [hk, h]
theorem num_app {n : Int} {k : Nat} {t : List Int} (h0 : 0 ≤ n) (h1 : n < 256 ^ k) : (RS.mk (be n k ++ t) 0).num k = (n, ⟨t, 0⟩) := by
  rw [num_ok rfl (by simp [be_len])]
  simp [be_len, bval_be k n h0 h1]
end Go.Proofs.Ytfhciplckjkflaa
