/- Rows that a call makes of its own: elements of several cells, one behind the other; append of one, and of all of a slice. -/
import Derived.Test.YtjihmhijnpjnoaaGreatDoorSBase
import Derived.Deep.AppendLies
import Derived.Laws.AppendOwnNone
namespace Go.Proofs.YtjihmhijnpjnoaaGreatDoor.St
open Go.ChangeShapes Go.WideShapes Go.ChangeAt Go.RowKit
set_option linter.unusedVariables false

theorem adr_add (b off i : Nat) : (⟨b, off, none⟩ : Addr).add i = ⟨b, off + i, none⟩ := by
  unfold Addr.add
  by_cases h : i = 0 <;> simp [h]
def flat {α : Type} (cells : α → List Value) (xs : List α) : List Value := xs.flatMap cells
theorem flat_append {α : Type} (cells : α → List Value) (xs ys : List α) : flat cells (xs ++ ys) = flat cells xs ++ flat cells ys := by simp [flat]
theorem flat_len {α : Type} {cells : α → List Value} {k : Nat} (hk : ∀ x, (cells x).length = k) (xs : List α) : (flat cells xs).length = xs.length * k := by
  induction xs with
  | nil => simp [flat]
  | cons x r ih =>
    simp only [flat, List.flatMap_cons, List.length_append, List.length_cons] at *
    rw [ih, hk]
    rw [Nat.add_mul]
    omega
theorem flat_get {α : Type} [Inhabited α] {cells : α → List Value} {k : Nat} (hk : ∀ x, (cells x).length = k) : ∀ (xs : List α) (i : Nat), i < xs.length → ∀ j, j < k → (flat cells xs)[i * k + j]? = (cells (xs.getD i default))[j]? := by
  intro xs
  induction xs with
  | nil => intro i hi; simp at hi
  | cons x r ih =>
    intro i hi j hj
    have e : flat cells (x :: r) = cells x ++ flat cells r := by simp [flat]
    rw [e]
    cases i with
    | zero =>
      rw [List.getElem?_append_left (by rw [hk]; omega)]
      simp
    | succ i =>
      rw [List.getElem?_append_right (by rw [hk, Nat.add_mul]; omega), hk]
      have : (i + 1) * k + j - k = i * k + j := by rw [Nat.add_mul]; omega
      rw [this, ih i (by simpa using hi) j hj]
      simp
theorem own_form {w : World} {B : Nat} {e : TypeId} {size : Nat} {v : Value} {n : Nat} {xs : List Value} (h : w.ownsRow B e size v n xs) : ∃ a cap, v = .slice a n cap ∧ n ≤ cap ∧ cap ≤ maxLen ∧ (a = none → cap = 0) := by
  rcases h.2 with ⟨rfl, rfl⟩ | ⟨g, cap, cur, rfl, _, _, h1, h2, _⟩
  · exact ⟨none, 0, rfl, Nat.le_refl _, Nat.zero_le _, fun _ => rfl⟩
  · exact ⟨_, cap, rfl, h1, h2, fun e => by simp at e⟩
theorem own_below {w w' : World} {base : Nat} {e : TypeId} {size : Nat} {v : Value} {n : Nat} {xs : List Value} (h : w.ownsRow base e size v n xs) (hb : Below w.heap.size w w') : w'.ownsRow base e size v n xs :=
  h.kept (row := none) ⟨hb.os, hb.tape, hb.output, hb.size, fun k hk _ => hb.block k hk⟩ (by cases hv : v.ownBlock <;> simp)
/-- What a call owns is there to be read. -/
theorem own_isRow {α : Type} [Inhabited α] {k : Nat} {cells : α → List Value} (hk : ∀ x, (cells x).length = k) {w : World} {B : Nat} {te : TypeId} {a : Option Addr} {n cap : Nat} {xs : List α} (h : w.ownsRow B te k (.slice a n cap) n (flat cells xs)) (hn : xs.length = n) :
    IsRow k cells w a n cap xs ∧ ∀ b off, a = some ⟨b, off, none⟩ → B ≤ b ∧ b < w.heap.size := by
  obtain ⟨a', cap', e, h1, h2, h3⟩ := own_form h
  simp at e
  obtain ⟨rfl, rfl⟩ := e
  refine ⟨⟨hn, h1, h2, h3, fun hp => ?_⟩, fun b off e => ?_⟩
  · rcases h.2 with ⟨_, h0⟩ | ⟨g, cap2, cur, hv, hb, hg, _⟩
    · omega
    · simp at hv
      obtain ⟨rfl, rfl⟩ := hv
      refine ⟨g, 0, rfl, (h.lt g rfl).2, fun i hi j hj => ?_⟩
      have hf := flat_get hk xs i (by omega) j hj
      have hc : j < (cells (xs.getD i default)).length := by rw [hk]; exact hj
      rw [List.getElem?_eq_getElem hc] at hf
      have := h.cells (g := g) rfl _ _ hf
      rw [adr_add, ← Nat.add_assoc] at this
      rw [this, List.getElem?_eq_getElem hc]
  · subst e
    rcases h.2 with ⟨hv, h0⟩ | ⟨g, cap2, cur, hv, hb, hg, _⟩
    · simp at hv
    · simp at hv
      obtain ⟨⟨rfl, rfl⟩, rfl⟩ := hv
      exact h.lt _ rfl
theorem news_at {W : World} {n : Nat} (cs : Array Value) (t : TypeId) (h : W.heap.size = n) : ∀ j u, cs.toList[j]? = some u → (W.alloc (.cells cs t)).cell? ((⟨n, 0, none⟩ : Addr).add j) = some u := by
  subst h
  exact World.news_of_block (heap_alloc_new W _)
theorem lk_len (x : LkV) : x.cells.length = 6 := rfl
theorem lk_one (y : LkV) : ∀ u ∈ y.cells, u.oneCell' = true := by
  intro u hu
  simp [LkV.cells] at hu
  rcases hu with h | h | h | h | h | h <;> subst h <;> rfl
theorem lkInfo : (Tryz.prog.info? 332).map (fun i => (i.zero, i.size, i.bytes)) = some (some (.agg #[.int .i64 0, .int .i64 0, .int .i64 0, .bool false, .int .i64 0, .int .i64 0]), 6, 48) := by kernel_rfl
end Go.Proofs.YtjihmhijnpjnoaaGreatDoor.St
