/- Texts of this claim, one behind the other. -/
import Derived.Test.YtdjnaahkcnklhaaDoorM2HearTwice
import Derived.Test.YtdjnaahkcnklhaaDoorM5HearTwice
import Derived.Test.YtdjnaahkcnklhaaDoorProg
import Derived.WalkKit
import Derived.ProofKit
import Derived.Below
import Derived.Deep.QuietTactic
import Derived.BigQuiet
import Derived.LoopTactic
import Derived.WalkSmall
import Derived.Test.YtdjnaahkcnklhaaDoorA0HearTwice
/- A box of n cells in memory, and what leaves it alone. -/
namespace Go.Proofs.YtdjnaahkcnklhaaDoor.St
open Go.ChangeShapes Go.WideShapes Go.ChangeAt Go.RowKit
set_option linter.unusedVariables false

theorem set_ne {u : World} {b i j : Nat} {v : Value} (h : i ≠ j) : (u.setCell ⟨b, i, none⟩ v).cell? ⟨b, j, none⟩ = u.cell? ⟨b, j, none⟩ := by
  unfold World.setCell World.cell?
  simp only [Array.getElem?_modify]
  by_cases hb : b < u.heap.size
  · rw [Array.getElem?_eq_getElem hb]
    cases hc : u.heap[b] <;> simp [h]
  · rw [Array.getElem?_eq_none (by omega)]
    rfl
theorem set_frozen {u : World} {b i j : Nat} {v : Value} : (u.setCell ⟨b, i, none⟩ v).frozen? ⟨b, j, none⟩ = u.frozen? ⟨b, j, none⟩ := by
  unfold World.setCell World.frozen?
  simp only [Array.getElem?_modify]
  by_cases hb : b < u.heap.size
  · rw [Array.getElem?_eq_getElem hb]
    cases hc : u.heap[b] <;> simp
  · rw [Array.getElem?_eq_none (by omega)]
    rfl
/-- A box of n cells. -/
structure BoxN (u : World) (b n : Nat) (vs : List Value) : Prop where
  len : vs.length = n
  lt : b < u.heap.size
  c : ∀ i, i < n → u.cell? ⟨b, i, none⟩ = some (vs.getD i (.bool false)) ∧ u.frozen? ⟨b, i, none⟩ = false
theorem BoxN.set {u : World} {b n : Nat} {vs : List Value} (h : BoxN u b n vs) (k : Nat) (hk : k < n) (v : Value) : BoxN (u.setCell ⟨b, k, none⟩ v) b n (vs.set k v) := by
  refine ⟨by simp [h.len], by simpa using h.lt, fun i hi => ⟨?_, ?_⟩⟩
  · by_cases hik : k = i
    · subst hik
      rw [World.cell?_setCell_same u ⟨b, k, none⟩ _ (h.c k hk).1]
      simp [List.getD, h.len, hk]
    · rw [set_ne hik, (h.c i hi).1]
      simp [List.getD, hik]
  · rw [set_frozen]; exact (h.c i hi).2
theorem boxn_new (u : World) (cs : Array Value) (t : TypeId) (n : Nat) (hn : cs.size = n) : BoxN (u.alloc (.cells cs t)) u.heap.size n cs.toList := by
  refine ⟨by simpa using hn, by simp, fun i hi => ?_⟩
  have hb : (u.alloc (.cells cs t)).heap[u.heap.size]? = some (.cells cs t (0, 0)) := heap_alloc_new u _
  refine ⟨?_, ?_⟩
  · rw [cell_of_row _ u.heap.size i cs t (0, 0) hb]
    rw [Array.getElem?_eq_getElem (by omega)]
    simp [List.getD, show i < cs.size by omega]
  · simp only [World.frozen?, hb]
    simp
theorem BoxN.below {u u' : World} {b n B : Nat} {vs : List Value} (h : BoxN u b n vs) (hb : Below B u u') (hB : b < B) : BoxN u' b n vs := by
  have e := hb.block b hB
  refine ⟨h.len, Nat.lt_of_lt_of_le h.lt hb.size, fun i hi => ⟨?_, ?_⟩⟩
  · rw [World.cell?_of_block (a := ⟨b, i, none⟩) e]; exact (h.c i hi).1
  · rw [World.frozen?_of_block (a := ⟨b, i, none⟩) e]; exact (h.c i hi).2
theorem BoxN.grown {u u' : World} {b n : Nat} {vs : List Value} {row : Option Nat} (h : BoxN u b n vs) (hg : u.grownBy u' row) (hne : some b ≠ row) : BoxN u' b n vs := by
  have e := hg.block b h.lt hne
  refine ⟨h.len, Nat.lt_of_lt_of_le h.lt hg.size, fun i hi => ⟨?_, ?_⟩⟩
  · rw [World.cell?_of_block (a := ⟨b, i, none⟩) e]; exact (h.c i hi).1
  · rw [World.frozen?_of_block (a := ⟨b, i, none⟩) e]; exact (h.c i hi).2
theorem BoxN.far {u : World} {b n c k : Nat} {vs : List Value} {v : Value} (h : BoxN u b n vs) (hne : b ≠ c) : BoxN (u.setCell ⟨c, k, none⟩ v) b n vs := by
  have e : (u.setCell ⟨c, k, none⟩ v).heap[b]? = u.heap[b]? := Below.heap_setCell u _ _ b hne
  refine ⟨h.len, by simpa using h.lt, fun i hi => ⟨?_, ?_⟩⟩
  · rw [World.cell?_of_block (a := ⟨b, i, none⟩) e]; exact (h.c i hi).1
  · rw [World.frozen?_of_block (a := ⟨b, i, none⟩) e]; exact (h.c i hi).2
end Go.Proofs.YtdjnaahkcnklhaaDoor.St
/- Rows of the call's own, many of them: each lies in a block of its own; one may grow, be told a cell, or be made, and the others stay. A box beside them. -/
namespace Go.Proofs.YtdjnaahkcnklhaaDoor.Co
open Go.ChangeShapes Go.WideShapes Go.ChangeAt Go.RowKit
open Go.Proofs.YtdjnaahkcnklhaaDoor.St (BoxN boxn_new own_below grown_setCell own_setk)
set_option linter.unusedVariables false

/-- A row: the element's type, its cells, the slice, how many, and what the cells hold. -/
structure Rw where
  te : TypeId
  k : Nat
  v : Value
  n : Nat
  xs : List Value
structure Own (X : World) (B : Nat) (rows : List Rw) : Prop where
  own : ∀ (i : Nat) (r : Rw), rows[i]? = some r → X.ownsRow B r.te r.k r.v r.n r.xs
  ap : ∀ (i j : Nat) (r s : Rw), rows[i]? = some r → rows[j]? = some s → i ≠ j → r.v.ownBlock = none ∨ r.v.ownBlock ≠ s.v.ownBlock
theorem own_nil (X : World) (B : Nat) : Own X B [] := ⟨fun i r e => by simp at e, fun i j r s e => by simp at e⟩
theorem own_base {w : World} {B C : Nat} {te : TypeId} {k : Nat} {v : Value} {n : Nat} {xs : List Value} (h : w.ownsRow C te k v n xs) (hB : B ≤ C) : w.ownsRow B te k v n xs := by
  obtain ⟨h1, h2⟩ := h
  refine ⟨h1, ?_⟩
  rcases h2 with h2 | ⟨g, cap, cur, e, hb, r⟩
  · exact .inl h2
  · exact .inr ⟨g, cap, cur, e, Nat.le_trans hB hb, r⟩
theorem Own.base {X : World} {B C : Nat} {rows : List Rw} (h : Own X C rows) (hB : B ≤ C) : Own X B rows := ⟨fun i r e => own_base (h.own i r e) hB, h.ap⟩
theorem Own.below {X X' : World} {B : Nat} {rows : List Rw} (h : Own X B rows) (hb : Below X.heap.size X X') : Own X' B rows := ⟨fun i r e => own_below (h.own i r e) hb, h.ap⟩
theorem set_get {α : Type} {l : List α} {i j : Nat} {x y z : α} (e : l[i]? = some x) (h : (l.set i y)[j]? = some z) : (j = i ∧ z = y) ∨ (j ≠ i ∧ l[j]? = some z) := by
  by_cases hj : j = i
  · subst hj
    have hl : j < l.length := (List.getElem?_eq_some_iff.1 e).1
    rw [List.getElem?_set_self hl] at h
    exact Or.inl ⟨rfl, (Option.some.inj h).symm⟩
  · rw [List.getElem?_set_ne (fun e => hj e.symm)] at h
    exact Or.inr ⟨hj, h⟩
/-- One row grew, where it lay or in a new block. -/
theorem Own.grow {X X' : World} {B : Nat} {rows : List Rw} (h : Own X B rows) {i : Nat} {r r' : Rw} (e : rows[i]? = some r) (hg : X.grownBy X' r.v.ownBlock) (ho : X'.ownsRow B r'.te r'.k r'.v r'.n r'.xs) (hat : r'.v.ownBlock = r.v.ownBlock ∨ r'.v.ownBlock = some X.heap.size) : Own X' B (rows.set i r') := by
  have old : ∀ (j : Nat) (s : Rw), rows[j]? = some s → j ≠ i → r'.v.ownBlock = none ∨ r'.v.ownBlock ≠ s.v.ownBlock := fun j s es hj => by
    rcases hat with e1 | e1
    · rw [e1]; exact h.ap i j r s e es (fun e => hj e.symm)
    · refine Or.inr (fun e2 => ?_)
      have := ((h.own j s es).lt X.heap.size (by rw [← e2]; exact e1)).2
      omega
  refine ⟨fun j s es => ?_, fun j l s t es et hjl => ?_⟩
  · rcases set_get e es with ⟨rfl, rfl⟩ | ⟨hj, es⟩
    · exact ho
    · exact (h.own j s es).kept hg (h.ap j i s r es e hj)
  · rcases set_get e es with ⟨rfl, rfl⟩ | ⟨hj, es2⟩
    · rcases set_get e et with ⟨hl, _⟩ | ⟨hl, et2⟩
      · exact absurd hl.symm hjl
      · exact old l t et2 hl
    · rcases set_get e et with ⟨rfl, rfl⟩ | ⟨hl, et2⟩
      · rcases old j s es2 hj with e1 | e1
        · by_cases h2 : s.v.ownBlock = none
          · exact Or.inl h2
          · exact Or.inr (fun e3 => h2 (e3.trans e1))
        · exact Or.inr (fun e3 => e1 e3.symm)
      · exact h.ap j l s t es2 et2 hjl
/-- A row that a call made. -/
theorem Own.add {X X' : World} {B : Nat} {rows : List Rw} (h : Own X B rows) (hb : Below X.heap.size X X') (hB : B ≤ X.heap.size) {r : Rw} (ho : X'.ownsRow X.heap.size r.te r.k r.v r.n r.xs) : Own X' B (rows ++ [r]) := by
  have hlt : ∀ (j : Nat) (s : Rw), rows[j]? = some s → ∀ g, s.v.ownBlock = some g → g < X.heap.size := fun j s es g eg => ((h.own j s es).lt g eg).2
  have hge : ∀ g, r.v.ownBlock = some g → X.heap.size ≤ g := fun g eg => (ho.lt g eg).1
  have get : ∀ (j : Nat) (s : Rw), (rows ++ [r])[j]? = some s → rows[j]? = some s ∨ (j = rows.length ∧ s = r) := fun j s es => by
    by_cases hj : j < rows.length
    · rw [List.getElem?_append_left hj] at es; exact Or.inl es
    · rw [List.getElem?_append_right (by omega)] at es
      have hl := (List.getElem?_eq_some_iff.1 es).1
      simp at hl
      have : j - rows.length = 0 := by omega
      rw [this] at es
      simp at es
      exact Or.inr ⟨by omega, es.symm⟩
  refine ⟨fun j s es => ?_, fun j l s t es et hjl => ?_⟩
  · rcases get j s es with es | ⟨_, rfl⟩
    · exact own_below (h.own j s es) hb
    · exact own_base ho hB
  · rcases get j s es with es2 | ⟨rfl, rfl⟩
    · rcases get l t et with et2 | ⟨rfl, rfl⟩
      · exact h.ap j l s t es2 et2 hjl
      · by_cases h2 : s.v.ownBlock = none
        · exact Or.inl h2
        · refine Or.inr (fun e3 => ?_)
          obtain ⟨g, eg⟩ := Option.ne_none_iff_exists'.1 h2
          have h3 := hlt j s es2 g eg
          have h4 := hge g (by rw [← e3]; exact eg)
          omega
    · rcases get l t et with et2 | ⟨rfl, _⟩
      · by_cases h2 : s.v.ownBlock = none
        · exact Or.inl h2
        · refine Or.inr (fun e3 => ?_)
          obtain ⟨g, eg⟩ := Option.ne_none_iff_exists'.1 h2
          have h3 := hge g eg
          have h4 := hlt l t et2 g (by rw [← e3]; exact eg)
          omega
      · exact absurd rfl hjl
/-- A cell of another block is told. -/
theorem Own.aside {X : World} {B : Nat} {rows : List Rw} (h : Own X B rows) {q : Nat} (hq : ∀ (i : Nat) (r : Rw), rows[i]? = some r → r.v.ownBlock ≠ some q) (j : Nat) (u : Value) : Own (X.setCell ⟨q, j, none⟩ u) B rows :=
  ⟨fun i r e => (h.own i r e).kept (grown_setCell X ⟨q, j, none⟩ u) (Or.inr (hq i r e)), h.ap⟩
/-- A cell of a row is told. -/
theorem Own.cell {X : World} {B : Nat} {rows : List Rw} (h : Own X B rows) {i : Nat} {te : TypeId} {k g n cap : Nat} {xs : List Value} (e : rows[i]? = some ⟨te, k, .slice (some ⟨g, 0, none⟩) n cap, n, xs⟩) {j : Nat} (hj : j < n * k) (u : Value) : Own (X.setCell ⟨g, j, none⟩ u) B (rows.set i ⟨te, k, .slice (some ⟨g, 0, none⟩) n cap, n, xs.set j u⟩) :=
  h.grow e (grown_setCell X ⟨g, j, none⟩ u) (own_setk (h.own i _ e) hj u) (Or.inl rfl)
/-- A box, and rows of which none lies in it; all at B or above, and what was there ahead of B is as it was. -/
structure Held (w X : World) (B q n : Nat) (vs : List Value) (rows : List Rw) : Prop where
  box : BoxN X q n vs
  own : Own X B rows
  apart : ∀ (i : Nat) (r : Rw), rows[i]? = some r → r.v.ownBlock ≠ some q
  le : B ≤ q
  bel : Below B w X
theorem Held.below {w X X' : World} {B q n : Nat} {vs : List Value} {rows : List Rw} (h : Held w X B q n vs rows) (hb : Below X.heap.size X X') : Held w X' B q n vs rows :=
  ⟨h.box.below hb h.box.lt, h.own.below hb, h.apart, h.le, h.bel.trans (hb.mono (Nat.le_trans h.le (Nat.le_of_lt h.box.lt)))⟩
theorem Held.tell {w X : World} {B q n : Nat} {vs : List Value} {rows : List Rw} (h : Held w X B q n vs rows) (j : Nat) (hj : j < n) (u : Value) : Held w (X.setCell ⟨q, j, none⟩ u) B q n (vs.set j u) rows :=
  ⟨h.box.set j hj u, h.own.aside h.apart j u, h.apart, h.le, h.bel.setCell (p := ⟨q, j, none⟩) h.le u⟩
theorem Held.grow {w X X' : World} {B q n : Nat} {vs : List Value} {rows : List Rw} (h : Held w X B q n vs rows) {i : Nat} {r r' : Rw} (e : rows[i]? = some r) (hg : X.grownBy X' r.v.ownBlock) (ho : X'.ownsRow B r'.te r'.k r'.v r'.n r'.xs) (hat : r'.v.ownBlock = r.v.ownBlock ∨ r'.v.ownBlock = some X.heap.size) : Held w X' B q n vs (rows.set i r') := by
  have hne := h.apart i r e
  refine ⟨h.box.grown hg (fun e2 => hne e2.symm), h.own.grow e hg ho hat, fun j s es => ?_, h.le, ?_⟩
  · rcases set_get e es with ⟨_, rfl⟩ | ⟨_, es⟩
    · rcases hat with e1 | e1
      · rw [e1]; exact hne
      · rw [e1]; intro e2; have := h.box.lt; simp at e2; omega
    · exact h.apart j s es
  · exact h.bel.grown hg (Nat.le_trans h.le (Nat.le_of_lt h.box.lt)) (fun g eg => ((h.own.own i r e).lt g eg).1)
theorem Held.add {w X X' : World} {B q n : Nat} {vs : List Value} {rows : List Rw} (h : Held w X B q n vs rows) (hb : Below X.heap.size X X') {r : Rw} (ho : X'.ownsRow X.heap.size r.te r.k r.v r.n r.xs) : Held w X' B q n vs (rows ++ [r]) := by
  have h1 := h.below hb
  have hB : B ≤ X.heap.size := Nat.le_trans h.le (Nat.le_of_lt h.box.lt)
  refine ⟨h1.box, h.own.add hb hB ho, fun j s es => ?_, h.le, h1.bel⟩
  by_cases hj : j < rows.length
  · rw [List.getElem?_append_left hj] at es; exact h.apart j s es
  · rw [List.getElem?_append_right (by omega)] at es
    have hl := (List.getElem?_eq_some_iff.1 es).1
    simp at hl
    have : j - rows.length = 0 := by omega
    rw [this] at es
    simp at es
    subst es
    intro e2
    have := (ho.lt q e2).1
    have := h.box.lt
    omega
theorem Held.cell {w X : World} {B q n : Nat} {vs : List Value} {rows : List Rw} (h : Held w X B q n vs rows) {i : Nat} {te : TypeId} {k g m cap : Nat} {xs : List Value} (e : rows[i]? = some ⟨te, k, .slice (some ⟨g, 0, none⟩) m cap, m, xs⟩) {j : Nat} (hj : j < m * k) (u : Value) : Held w (X.setCell ⟨g, j, none⟩ u) B q n vs (rows.set i ⟨te, k, .slice (some ⟨g, 0, none⟩) m cap, m, xs.set j u⟩) :=
  h.grow e (grown_setCell X ⟨g, j, none⟩ u) (own_setk (h.own.own i _ e) hj u) (Or.inl rfl)
end Go.Proofs.YtdjnaahkcnklhaaDoor.Co
/- Contracts of slices.Index and slices.Contains at labels: Contains tells whether a label is among those of a slice; what was in memory stays. -/
namespace Go.Proofs.YtdjnaahkcnklhaaDoor
open Go.ChangeShapes Go.WideShapes Go.ChangeAt Go.RowKit

/-- Labels that lie in memory one behind the other. -/
def Labs (w : World) (b off : Nat) (ls : List (Int × Int)) : Prop :=
  b < w.heap.size ∧ ∀ i, i < ls.length → w.cell? ⟨b, off + i * 2, none⟩ = some (.int .i64 (ls.getD i (0, 0)).1) ∧ w.cell? ⟨b, off + i * 2 + 1, none⟩ = some (.int .i64 (ls.getD i (0, 0)).2)

theorem Labs.below {w w' : World} {b off : Nat} {ls : List (Int × Int)} (h : Labs w b off ls) (hb : Below w.heap.size w w') : Labs w' b off ls := by
  obtain ⟨hc, _⟩ := bcell hb
  refine ⟨Nat.lt_of_lt_of_le h.1 hb.size, fun i hi => ?_⟩
  rw [hc _ _ h.1, hc _ _ h.1]
  exact h.2 i hi

theorem Labs.take {w : World} {b off : Nat} {ls : List (Int × Int)} (h : Labs w b off ls) (k : Nat) : Labs w b off (ls.take k) := by
  refine ⟨h.1, fun i hi => ?_⟩
  have hi' : i < k ∧ i < ls.length := by simp at hi; omega
  have := h.2 i hi'.2
  simpa [List.getD, List.getElem?_take, hi'.1] using this

theorem not_take_succ {ls : List (Int × Int)} {k : Nat} {p : Int × Int} (hk : k < ls.length) (h : p ∉ ls.take k) (hne : ¬ (p.1 = (ls.getD k (0, 0)).1 ∧ p.2 = (ls.getD k (0, 0)).2)) : p ∉ ls.take (k + 1) := by
  rw [List.take_succ_eq_append_getElem hk]
  simp only [List.mem_append, List.mem_singleton, not_or]
  refine ⟨h, fun e => hne ?_⟩
  simp [List.getD, hk, e]

theorem mem_of_getD {ls : List (Int × Int)} {k : Nat} {p : Int × Int} (hk : k < ls.length) (h1 : p.1 = (ls.getD k (0, 0)).1) (h2 : p.2 = (ls.getD k (0, 0)).2) : p ∈ ls := by
  have : p = ls[k] := by
    simp [List.getD, hk] at h1 h2
    exact Prod.ext h1 h2
  rw [this]
  exact List.getElem_mem hk

set_option maxHeartbeats 1000000 in
theorem index_any (b off cap : Nat) (ls : List (Int × Int)) (x y : Int) (w : World) (hl : ls.length ≤ 100) (h : Labs w b off ls) :
    Calls Tryd.prog 66 #[.slice (some ⟨b, off, none⟩) ls.length cap, .agg #[.int .i64 x, .int .i64 y]] w fun e w' => ∃ r : Int, e = .returned (.int .i64 r) ∧ (0 ≤ r ↔ (x, y) ∈ ls) ∧ Below w.heap.size w w' := by
  go_enter Tryd.func66, Tryd.ntmps66
  go_wp2
  go_loopw [8] (fun i wr => ∃ k : Nat, k ≤ ls.length ∧ i = .int .i64 k ∧ (x, y) ∉ ls.take k ∧ Below (w.heap.size + 1) (w.alloc (.cells #[.int .i64 x, .int .i64 y] 63)) wr) (fun i _ => ls.length - (intOf i).toNat)
  case atStart => exact ⟨0, Nat.zero_le _, rfl, by simp, Below.refl _ _⟩
  case round =>
    obtain ⟨k, hk, rfl, hno, hb⟩ := hrel
    by_cases hlt : k < ls.length
    · have hbw : Below w.heap.size w wr := ((Below.refl _ _).alloc (Nat.le_refl _) _).trans (hb.mono (by omega))
      have hr := (h.below hbw).2 k hlt
      obtain ⟨p, hp⟩ : ∃ p, p = (ls.getD k (0, 0)).1 := ⟨_, rfl⟩
      obtain ⟨q, hq⟩ : ∃ q, q = (ls.getD k (0, 0)).2 := ⟨_, rfl⟩
      rw [← hp, ← hq] at hr
      obtain ⟨c0, c1⟩ := hr
      have c2 : wr.cell? ⟨w.heap.size, 0, none⟩ = some (.int .i64 x) := by
        rw [hb.cell (p := ⟨w.heap.size, 0, none⟩) (by simp)]; go_simp
      have c3 : wr.cell? ⟨w.heap.size, 1, none⟩ = some (.int .i64 y) := by
        rw [hb.cell (p := ⟨w.heap.size, 1, none⟩) (by simp)]; go_simp
      by_cases e1 : x = p
      · by_cases e2 : y = q
        · have hm : (x, y) ∈ ls := mem_of_getD hlt (by rw [e1, hp]) (by rw [e2, hq])
          clear hp hq
          subst e1 e2
          go_wp2
          go_quiet (fail)
          go_wp2
          go_ret
          exact ⟨k, rfl, by simp [hm], below_drewN hbw nq⟩
        · have hn := not_take_succ (p := (x, y)) hlt hno (by rw [← hp, ← hq]; simp [e2])
          have e3 : (y == q) = false := by simpa using e2
          clear hp hq
          subst e1
          go_wp2
          go_quiet (fail)
          go_wp2
          go_roundw
          case rel => exact ⟨k + 1, by omega, by go_num, hn, below_drewN hb nq⟩
          case measure => simp [intOf]; omega
      · have hn := not_take_succ (p := (x, y)) hlt hno (by rw [← hp, ← hq]; simp [e1])
        have e3 : (x == p) = false := by simpa using e1
        clear hp hq
        go_wp2
        go_quiet (fail)
        go_wp2
        go_roundw
        case rel => exact ⟨k + 1, by omega, by go_num, hn, below_drewN hb nq⟩
        case measure => simp [intOf]; omega
    · have he : k = ls.length := by omega
      subst he
      rw [List.take_length] at hno
      go_wp2
      go_ret
      exact ⟨-1, rfl, by simp [hno], ((Below.refl _ _).alloc (Nat.le_refl _) _).trans (hb.mono (by omega))⟩

theorem contains_any (b off n cap : Nat) (ls : List (Int × Int)) (x y : Int) (w : World) (hn : ls.length = n) (hl : n ≤ 100) (h : Labs w b off ls) :
    Calls Tryd.prog 39 #[.slice (some ⟨b, off, none⟩) n cap, .agg #[.int .i64 x, .int .i64 y]] w fun e w' => e = .returned (.bool (decide ((x, y) ∈ ls))) ∧ Below w.heap.size w w' := by
  subst hn
  have hA : Below w.heap.size w (w.alloc (.cells #[.int .i64 x, .int .i64 y] 63)) := (Below.refl _ _).alloc (Nat.le_refl _) _
  go_enter Tryd.func39, Tryd.ntmps39
  go_wp2_with (go_at_call 66; refine (index_any _ _ _ _ _ _ _ hl (h.below hA)).mono ?_; rintro e w1 ⟨r, rfl, hr, hb1⟩)
  go_ret
  exact ⟨rfl, hA.trans (hb1.mono (by simp))⟩
end Go.Proofs.YtdjnaahkcnklhaaDoor
