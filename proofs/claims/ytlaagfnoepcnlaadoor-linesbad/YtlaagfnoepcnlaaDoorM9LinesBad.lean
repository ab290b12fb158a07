/- Texts of this claim, one behind the other. -/
import Derived.Test.YtlaagfnoepcnlaaDoorM8LinesBad
import Derived.Test.YtlaagfnoepcnlaaDoorA5LinesBad
import Derived.OwnWalk
import Derived.Deep.QuietTactic
import Derived.BigQuiet
import Derived.Lib.QuietBelow
import Derived.OneCell
/- Acts as they lie in memory: twelve cells each, and the numbers that a Keep leads to; and what Purge makes of them, on plain data. -/
namespace Go.Proofs.YtlaagfnoepcnlaaDoor
open Go.ChangeShapes Go.WideShapes Go.ChangeAt Go.RowKit

/-- An act: its numbers, its Keep's header and numbers, its call, its line. -/
structure AV where
  kind : Int
  site : Int
  to : Int
  label : Int
  pick : Int
  ka : Option Addr
  kl : Nat
  kc : Nat
  c0 : Int
  c1 : Int
  c2 : Int
  c3 : Int
  c4 : Int
  line : ByteArray
  keep : List Int

instance : Inhabited AV := ⟨⟨0, 0, 0, 0, 0, none, 0, 0, 0, 0, 0, 0, 0, .empty, []⟩⟩

/-- The act, but for where its Keep lies. -/
def AV.bare (a : AV) : AV := { a with ka := none, kl := 0, kc := 0 }

def AV.cells (a : AV) : List Value :=
  [.int .i64 a.kind, .int .i64 a.site, .int .i64 a.to, .int .i64 a.label, .int .i64 a.pick, .slice a.ka a.kl a.kc, .int .i64 a.c0, .int .i64 a.c1, .int .i64 a.c2, .int .i64 a.c3, .int .i64 a.c4, .string a.line]
theorem AV.cells_len (a : AV) : a.cells.length = 12 := rfl

def flatActs (xs : List AV) : List Value := xs.flatMap AV.cells
theorem flatActs_len (xs : List AV) : (flatActs xs).length = xs.length * 12 := by
  unfold flatActs
  induction xs with
  | nil => rfl
  | cons a l ih => simp [AV.cells_len] at ih ⊢; omega
theorem flatActs_append (xs : List AV) (a : AV) : flatActs (xs ++ [a]) = flatActs xs ++ a.cells := by simp [flatActs]
theorem flatActs_get (xs : List AV) : ∀ i, i < xs.length → ∀ j, j < 12 → (flatActs xs)[i * 12 + j]? = (xs.getD i default).cells[j]? := by
  induction xs with
  | nil => intro i hi; simp at hi
  | cons a l ih =>
    intro i hi j hj
    cases i with
    | zero =>
      have : j < a.cells.length := by rw [AV.cells_len]; exact hj
      have e : flatActs (a :: l) = a.cells ++ flatActs l := by simp [flatActs]
      rw [e, Nat.zero_mul, Nat.zero_add, List.getElem?_append_left this]
      simp
    | succ i =>
      have e : flatActs (a :: l) = a.cells ++ flatActs l := by simp [flatActs]
      rw [e, List.getElem?_append_right (by rw [AV.cells_len]; omega), AV.cells_len, show (i + 1) * 12 + j - 12 = i * 12 + j by omega, ih i (by simpa using hi) j hj]
      simp

/-- Acts that lie in memory one behind the other, their Keeps wherever they are. -/
def ActsAt (w : World) (b off : Nat) (xs : List AV) : Prop :=
  b < w.heap.size ∧ ∀ i, i < xs.length → (∀ j, j < 12 → w.cell? ⟨b, off + i * 12 + j, none⟩ = (xs.getD i default).cells[j]?) ∧ IsInts w (xs.getD i default).ka (xs.getD i default).kl (xs.getD i default).kc (xs.getD i default).keep

theorem ActsAt.below {w w' : World} {b off : Nat} {xs : List AV} (h : ActsAt w b off xs) (hb : Below w.heap.size w w') : ActsAt w' b off xs := by
  refine ⟨Nat.lt_of_lt_of_le h.1 hb.size, fun i hi => ⟨fun j hj => ?_, ((h.2 i hi).2).below hb⟩⟩
  rw [hb.cell (p := ⟨b, off + i * 12 + j, none⟩) h.1]
  exact (h.2 i hi).1 j hj

def IsActs (w : World) (a : Option Addr) (len cap : Nat) (xs : List AV) : Prop :=
  xs.length = len ∧ len ≤ cap ∧ cap ≤ maxLen ∧ (0 < len → ∃ b off, a = some ⟨b, off, none⟩ ∧ ActsAt w b off xs)

theorem IsActs.below {w w' : World} {a : Option Addr} {len cap : Nat} {xs : List AV} (h : IsActs w a len cap xs) (hb : Below w.heap.size w w') : IsActs w' a len cap xs := by
  obtain ⟨h1, h2, h3, h4⟩ := h
  refine ⟨h1, h2, h3, fun hp => ?_⟩
  obtain ⟨b, off, e, hl⟩ := h4 hp
  exact ⟨b, off, e, hl.below hb⟩

/-! ### Purge, on plain data -/
/-- Is the label at a place one that the label at place l does not dominate? -/
def hid (ls : List (Int × Int)) (l place : Int) : Bool := plc place ls.length && !abv (labAtI ls l).1 (labAtI ls l).2 (labAtI ls place).1 (labAtI ls place).2
def hasLab (kind : Int) : Bool := decide (kind ≠ 5 ∧ kind ≠ 7 ∧ kind ≠ 6)
def keepOf (ls : List (Int × Int)) (l kind : Int) (keep : List Int) : List Int :=
  if kind = 6 then keep.zipIdx.map fun p => if hid ls l (p.2 : Int) then 0 else p.1 else keep
def purgeStep (ls : List (Int × Int)) (l : Int) (a : AV) : List AV := if hasLab a.kind && hid ls l a.label then [] else [{ a.bare with keep := keepOf ls l a.kind a.keep }]
def purgeF (ls : List (Int × Int)) (l : Int) (xs : List AV) : List AV := xs.flatMap (purgeStep ls l)

theorem purgeF_take {ls : List (Int × Int)} {l : Int} {xs : List AV} {k : Nat} (hk : k < xs.length) : purgeF ls l (xs.take (k + 1)) = purgeF ls l (xs.take k) ++ purgeStep ls l (xs.getD k default) := by
  unfold purgeF
  rw [List.take_succ_eq_append_getElem hk, List.flatMap_append]
  congr 1
  simp [List.getD, hk]
theorem keepOf_len (ls : List (Int × Int)) (l kind : Int) (keep : List Int) : (keepOf ls l kind keep).length = keep.length := by
  unfold keepOf
  split <;> simp
theorem purgeF_len (ls : List (Int × Int)) (l : Int) (xs : List AV) : (purgeF ls l xs).length ≤ xs.length := by
  unfold purgeF
  induction xs with
  | nil => simp
  | cons a r ih =>
    have : (purgeStep ls l a).length ≤ 1 := by unfold purgeStep; split <;> simp
    simp only [List.flatMap_cons, List.length_append, List.length_cons]
    omega
end Go.Proofs.YtlaagfnoepcnlaaDoor
/- Contracts of label.hasLabel and label.hides: whether an act of a kind is of a label, and whether a label's place is one that another one does not see. -/
namespace Go.Proofs.YtlaagfnoepcnlaaDoor
open Go.ChangeShapes Go.WideShapes Go.ChangeAt Go.RowKit
set_option linter.unusedVariables false

end Go.Proofs.YtlaagfnoepcnlaaDoor
/- A slice of the call's own, of integers: a number stored into it; and that it is a slice of integers as one that came in. -/
namespace Go.Proofs.YtlaagfnoepcnlaaDoor
open Go.ChangeShapes Go.WideShapes Go.ChangeAt Go.RowKit

theorem Below.toGrown' {w w' : World} (h : Below w.heap.size w w') : w.grownBy w' none := ⟨h.os, h.tape, h.output, h.size, fun k hk _ => h.block k hk⟩
theorem own_below' {w w' : World} {base : Nat} {e : TypeId} {size : Nat} {v : Value} {n : Nat} {xs : List Value} (h : w.ownsRow base e size v n xs) (hb : Below w.heap.size w w') : w'.ownsRow base e size v n xs :=
  h.kept (Below.toGrown' hb) (by cases hv : v.ownBlock <;> simp)

theorem own_base {w : World} {b c : Nat} {e : TypeId} {size : Nat} {v : Value} {n : Nat} {xs : List Value} (h : w.ownsRow b e size v n xs) (hc : c ≤ b) : w.ownsRow c e size v n xs := by
  refine ⟨h.1, ?_⟩
  rcases h.2 with h2 | ⟨g, cap, cur, hv, hb, r⟩
  · exact .inl h2
  · exact .inr ⟨g, cap, cur, hv, Nat.le_trans hc hb, r⟩

/-- Two rows of the call's own whose elements are of two types lie in two blocks. -/
theorem own_apart {w : World} {b b' : Nat} {e e' : TypeId} {size size' : Nat} {v v' : Value} {n n' : Nat} {xs xs' : List Value} (h : w.ownsRow b e size v n xs) (h' : w.ownsRow b' e' size' v' n' xs') (hne : e ≠ e') : v.ownBlock = none ∨ v.ownBlock ≠ v'.ownBlock := by
  rcases h.2 with ⟨rfl, _⟩ | ⟨g, cap, cur, rfl, _, hg, _⟩
  · exact .inl rfl
  · right
    intro he
    rcases h'.2 with ⟨rfl, _⟩ | ⟨g', cap', cur', rfl, _, hg', _⟩
    · simp [Value.ownBlock] at he
    · simp [Value.ownBlock] at he
      subst he
      rw [hg] at hg'
      simp at hg'
      exact hne hg'.2

theorem own_form {w : World} {base : Nat} {e : TypeId} {size : Nat} {v : Value} {n : Nat} {xs : List Value} (h : w.ownsRow base e size v n xs) : ∃ ao cp, v = .slice ao n cp ∧ n ≤ cp ∧ cp ≤ maxLen := by
  rcases h.2 with ⟨rfl, rfl⟩ | ⟨g, cap, cur, rfl, _, _, h1, h2, _⟩
  · exact ⟨none, 0, rfl, Nat.le_refl _, Nat.zero_le _⟩
  · exact ⟨_, _, rfl, h1, h2⟩

/-- One number stored into the row. -/
theorem own_set {w : World} {base : Nat} {e : TypeId} {g n cap : Nat} {xs : List Value} (h : w.ownsRow base e 1 (.slice (some ⟨g, 0, none⟩) n cap) n xs) {k : Nat} (hk : k < n) (u : Value) :
    (w.setCell ⟨g, k, none⟩ u).ownsRow base e 1 (.slice (some ⟨g, 0, none⟩) n cap) n (xs.set k u) ∧ w.frozen? ⟨g, k, none⟩ = false ∧ (∃ v, w.cell? ⟨g, k, none⟩ = some v) := by
  obtain ⟨hl, h2⟩ := h
  rcases h2 with ⟨hv, hn⟩ | ⟨g', cap', cur, hv, hb, hg, h1, h3, hs, ht⟩
  · omega
  · simp at hv
    obtain ⟨rfl, rfl⟩ := hv
    have hkc : k < cur.size := by omega
    refine ⟨⟨by simpa using hl, .inr ⟨g, cap, cur.setIfInBounds k u, rfl, hb, heap_setCell_same w g k cur e u hg, h1, h3, by simpa using hs, ?_⟩⟩, by simp [World.frozen?, hg], ?_⟩
    · rw [← ht, Array.toList_setIfInBounds, List.take_set]
    · exact ⟨cur[k], by simp [World.cell?, hg, hkc]⟩

/-- A row of the call's own holds its numbers as one that came in does. -/
theorem ints_of_own {w : World} {base : Nat} {ao : Option Addr} {n cp : Nat} {zs : List Int} (h : w.ownsRow base 3 1 (.slice ao n cp) n (zs.map (Value.int .i64))) (hz : ∀ i, -9223372036854775808 ≤ zs.getD i 0 ∧ zs.getD i 0 ≤ 9223372036854775807) : IsInts w ao n cp zs := by
  have hl : zs.length = n := by have := h.1; simpa using this
  obtain ⟨ao', cp', e, h1, h2⟩ := own_form h
  simp at e
  obtain ⟨rfl, rfl⟩ := e
  refine ⟨hl, h1, h2, hz, fun hp => ?_⟩
  rcases h.2 with ⟨hv, hn⟩ | ⟨g, cap, cur, hv, hb, hg, _⟩
  · omega
  · simp at hv
    obtain ⟨rfl, rfl⟩ := hv
    refine ⟨g, 0, rfl, (h.lt g rfl).2, fun i hi => ?_⟩
    have hi' : i < zs.length := by omega
    have := h.cells (g := g) rfl i (.int .i64 (zs.getD i 0)) (by simp [List.getD, hi'])
    have e : (⟨g, 0, none⟩ : Addr).add i = ⟨g, 0 + i, none⟩ := by
      unfold Addr.add
      by_cases hj : i = 0 <;> simp [hj]
    rwa [e] at this
end Go.Proofs.YtlaagfnoepcnlaaDoor
