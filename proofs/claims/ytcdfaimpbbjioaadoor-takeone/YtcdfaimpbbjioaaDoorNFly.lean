/- What is on its way, in memory of the call's own: each list in a block of its own; one list put in another's place. -/
import Derived.Test.YtcdfaimpbbjioaaDoorNBase
import Derived.Laws.OwnMore
namespace Go.Proofs.YtcdfaimpbbjioaaDoor.Nt
open Go.ChangeShapes Go.WideShapes Go.ChangeAt Go.RowKit
set_option linter.unusedVariables false

def FL.val (f : FL) : Value := .slice f.a f.len f.cap
structure OwnFly (w : World) (B : Nat) (v : Value) (fs : List FL) : Prop where
  row : w.ownsRow B 28 1 v fs.length (flat FL.cells fs)
  each : ∀ i, i < fs.length → w.ownsRow B 40 12 (fs.getD i default).val (fs.getD i default).len (flat mcells (fs.getD i default).ms) ∧ (fs.getD i default).ms.length = (fs.getD i default).len
  apart : ∀ i j, i < fs.length → j < fs.length → i ≠ j → (fs.getD i default).val.ownBlock = none ∨ (fs.getD i default).val.ownBlock ≠ (fs.getD j default).val.ownBlock

theorem own_apart {w : World} {b b' : Nat} {e e' : TypeId} {size size' : Nat} {v v' : Value} {n n' : Nat} {xs xs' : List Value} (h : w.ownsRow b e size v n xs) (h' : w.ownsRow b' e' size' v' n' xs') (hne : e ≠ e') : v.ownBlock = none ∨ v.ownBlock ≠ v'.ownBlock := by
  rcases h.2 with ⟨rfl, _⟩ | ⟨g, cap, cur, rfl, _, hg, _⟩
  · exact .inl rfl
  · right
    intro he
    rcases h'.2 with ⟨rfl, _⟩ | ⟨g', cap', cur', rfl, _, hg', _⟩
    · simp [Value.ownBlock] at he
    · simp [Value.ownBlock] at he
      subst he
      rw [hg] at hg'
      simp at hg'
      exact hne hg'.2
theorem grown_setCell (w : World) (a : Addr) (u : Value) : w.grownBy (w.setCell a u) (some a.block) :=
  ⟨rfl, rfl, rfl, by simp, fun k _ hk => Below.heap_setCell w a u k (fun e => hk (by rw [e]))⟩
/-- One value stored into a row of one cell each. -/
theorem own_set {w : World} {base : Nat} {e : TypeId} {g n cap : Nat} {xs : List Value} (h : w.ownsRow base e 1 (.slice (some ⟨g, 0, none⟩) n cap) n xs) {k : Nat} (hk : k < n) (u : Value) :
    (w.setCell ⟨g, k, none⟩ u).ownsRow base e 1 (.slice (some ⟨g, 0, none⟩) n cap) n (xs.set k u) ∧ w.frozen? ⟨g, k, none⟩ = false ∧ (∃ v, w.cell? ⟨g, k, none⟩ = some v) := by
  obtain ⟨hl, h2⟩ := h
  rcases h2 with ⟨hv, hn⟩ | ⟨g', cap', cur, hv, hb, hg, h1, h3, hs, ht⟩
  · omega
  · simp at hv
    obtain ⟨rfl, rfl⟩ := hv
    have hkc : k < cur.size := by omega
    refine ⟨⟨by simpa using hl, .inr ⟨g, cap, cur.setIfInBounds k u, rfl, hb, heap_setCell_same w g k cur e u hg, h1, h3, by simpa using hs, ?_⟩⟩, by simp [World.frozen?, hg], ?_⟩
    · rw [← ht, Array.toList_setIfInBounds, List.take_set]
    · exact ⟨cur[k], by simp [World.cell?, hg, hkc]⟩
theorem flat_fl (fs : List FL) : flat FL.cells fs = fs.map FL.val := by
  induction fs with
  | nil => rfl
  | cons f r ih => simp only [flat, List.flatMap_cons, List.map_cons] at *; rw [ih]; rfl
theorem flat_fl_set (fs : List FL) (k : Nat) (f : FL) : flat FL.cells (fs.set k f) = (flat FL.cells fs).set k f.val := by
  rw [flat_fl, flat_fl, List.map_set]
theorem getD_set {α : Type} [Inhabited α] (xs : List α) (k i : Nat) (x : α) (hk : k < xs.length) : (xs.set k x).getD i default = if i = k then x else xs.getD i default := by
  by_cases h : i = k
  · subst h; simp [List.getD, hk]
  · simp [List.getD, h, Ne.symm h]
theorem tne : (28 : Nat) ≠ 40 := by decide
theorem OwnFly.below {w w' : World} {B : Nat} {v : Value} {fs : List FL} (h : OwnFly w B v fs) (hb : Below w.heap.size w w') : OwnFly w' B v fs :=
  ⟨own_below h.row hb, fun i hi => ⟨own_below (h.each i hi).1 hb, (h.each i hi).2⟩, h.apart⟩
theorem OwnFly.grown {w w' : World} {B : Nat} {v : Value} {fs : List FL} (h : OwnFly w B v fs) (hg : w.grownBy w' none) : OwnFly w' B v fs :=
  ⟨h.row.kept hg (by cases v.ownBlock <;> simp), fun i hi => ⟨(h.each i hi).1.kept hg (by cases (fs.getD i default).val.ownBlock <;> simp), (h.each i hi).2⟩, h.apart⟩
theorem OwnFly.base {w : World} {B C : Nat} {v : Value} {fs : List FL} (h : OwnFly w B v fs) (hc : C ≤ B) : OwnFly w C v fs :=
  ⟨own_base h.row hc, fun i hi => ⟨own_base (h.each i hi).1 hc, (h.each i hi).2⟩, h.apart⟩
/-- A list of the call's own in another list's place. -/
theorem OwnFly.put {w w2 : World} {B g oc n : Nat} {fs : List FL} {k : Nat} {f : FL} (h : OwnFly w B (.slice (some ⟨g, 0, none⟩) n oc) fs) (hk : k < fs.length) (hg : w.grownBy w2 (fs.getD k default).val.ownBlock)
    (hown : w2.ownsRow B 40 12 f.val f.len (flat mcells f.ms)) (hl : f.ms.length = f.len) (hnew : f.val.ownBlock = (fs.getD k default).val.ownBlock ∨ ∀ m, f.val.ownBlock = some m → w.heap.size ≤ m) :
    OwnFly (w2.setCell ⟨g, k, none⟩ f.val) B (.slice (some ⟨g, 0, none⟩) n oc) (fs.set k f) ∧ w2.frozen? ⟨g, k, none⟩ = false ∧ (∃ v, w2.cell? ⟨g, k, none⟩ = some v) ∧ B ≤ g ∧ g < w.heap.size := by
  have hrow := h.row
  have hgl := hrow.lt g rfl
  obtain ⟨_, _, eqn, _⟩ := own_form hrow
  simp at eqn
  have hn : n = fs.length := eqn.2.1
  subst hn
  have hgk : some g ≠ (fs.getD k default).val.ownBlock := by
    rcases own_apart hrow (h.each k hk).1 tne with h1 | h1
    · simp [Value.ownBlock] at h1
    · exact h1
  have row2 := hrow.kept hg (.inr hgk)
  have hgf : f.val.ownBlock ≠ some g := by
    rcases hnew with h1 | h1
    · rw [h1]; exact fun e => hgk e.symm
    · intro e; have := h1 g e; omega
  obtain ⟨s1, s2, s3⟩ := own_set row2 hk f.val
  have gs := grown_setCell w2 ⟨g, k, none⟩ f.val
  refine ⟨⟨?_, fun i hi => ?_, fun i j hi hj hij => ?_⟩, s2, s3, hgl.1, hgl.2⟩
  · rw [flat_fl_set]
    simpa using s1
  · have hi' : i < fs.length := by simpa using hi
    rw [getD_set _ _ _ _ hk]
    split
    · exact ⟨hown.kept gs (.inr hgf), hl⟩
    · rename_i hne
      refine ⟨((h.each i hi').1.kept hg ?_).kept gs ?_, (h.each i hi').2⟩
      · exact h.apart i k hi' hk hne
      · have := own_apart (h.each i hi').1 hrow (Ne.symm tne)
        simpa [Value.ownBlock] using this
  · have hi' : i < fs.length := by simpa using hi
    have hj' : j < fs.length := by simpa using hj
    rw [getD_set _ _ _ _ hk, getD_set _ _ _ _ hk]
    split
    · rename_i e
      subst e
      rw [if_neg (Ne.symm hij)]
      rcases hnew with h1 | h1
      · rw [h1]; exact h.apart i j hi' hj' hij
      · cases eb : f.val.ownBlock with
        | none => exact .inl rfl
        | some m =>
          right
          intro e
          have := (h.each j hj').1.lt m e.symm
          have := h1 m eb
          omega
    · rename_i hne
      split
      · rename_i e
        subst e
        rcases hnew with h1 | h1
        · rw [h1]; exact h.apart i j hi' hj' hij
        · cases eb : (fs.getD i default).val.ownBlock with
          | none => exact .inl rfl
          | some m =>
            right
            intro e
            have := (h.each i hi').1.lt m eb
            have := h1 m e.symm
            omega
      · exact h.apart i j hi' hj' hij
theorem OwnFly.isFly {w : World} {B : Nat} {a : Option Addr} {n cap : Nat} {fs : List FL} (h : OwnFly w B (.slice a n cap) fs) : n = fs.length ∧ IsFly w a n cap fs ∧ ∀ b off, a = some ⟨b, off, none⟩ → B ≤ b ∧ b < w.heap.size := by
  obtain ⟨_, _, eqn, _⟩ := own_form h.row
  simp at eqn
  have hn : n = fs.length := eqn.2.1
  subst hn
  obtain ⟨h1, h2⟩ := own_isRow fcells_len h.row rfl
  refine ⟨rfl, ⟨h1, fun f hf => ?_⟩, h2⟩
  obtain ⟨i, hi, rfl⟩ := List.getElem_of_mem hf
  have := h.each i hi
  rw [show fs.getD i default = fs[i] by simp [List.getD, hi]] at this
  exact (own_isRow mcells_len this.1 this.2).1
/-- New lists, all empty. -/
theorem ownFly_made {w : World} {B g n : Nat} (h : w.ownsRow B 28 1 (.slice (some ⟨g, 0, none⟩) n n) n (madeCells #[.slice none 0 0] (n * 1)).toList) : OwnFly w B (.slice (some ⟨g, 0, none⟩) n n) (List.replicate n default) := by
  have hd : ∀ i, (List.replicate n (default : FL)).getD i default = default := fun i => by
    by_cases hi : i < n <;> simp [List.getD, hi]
  refine ⟨?_, fun i hi => ?_, fun i j hi hj hij => ?_⟩
  · rw [flat_fl, List.map_replicate, List.length_replicate]
    rw [toList_madeCells_one, Nat.mul_one] at h
    exact h
  · rw [hd]
    exact ⟨World.ownsRow_nil _ _ _ _, rfl⟩
  · rw [hd]
    exact .inl rfl
theorem slInfo : (Tryd.prog.info? 28).map (fun i => (i.zero, i.size, i.bytes)) = some (some (.slice none 0 0), 1, 24) := by kernel_rfl
theorem msInfo : (Tryd.prog.info? 40).map (fun i => (i.zero, i.size, i.bytes)) = some (some (.agg #[.int .i64 0, .int .i64 0, .int .i64 0, .int .i64 0, .int .i64 0, .int .i64 0, .int .i64 0, .int .i64 0, .int .i64 0, .int .i64 0, .bool false, .int .i64 0]), 12, 96) := by kernel_rfl
theorem grownN {w w' : World} (h : w.grownBy w' none) : Below w.heap.size w w' := (Below.refl w.heap.size w).grown h (Nat.le_refl _) (fun k hk => by cases hk)

end Go.Proofs.YtcdfaimpbbjioaaDoor.Nt
