/- Texts of this claim, one behind the other. -/
import Derived.Test.YtlaagfnoepcnlaaDoorM8LinesFixed
import Derived.Deep.QuietTactic
import Derived.BigQuiet
import Derived.Lib.QuietBelow
import Derived.Test.YtlaagfnoepcnlaaDoorA5LinesFixed
import Derived.OwnWalk
import Derived.OneCell
import Derived.LoopTactic
import Derived.WalkSmall
import Derived.Deep.AppendLies
/- Contracts of label.hasLabel and label.hides: whether an act of a kind is of a label, and whether a label's place is one that another one does not see. -/
namespace Go.Proofs.YtlaagfnoepcnlaaDoor
open Go.ChangeShapes Go.WideShapes Go.ChangeAt Go.RowKit
set_option linter.unusedVariables false

end Go.Proofs.YtlaagfnoepcnlaaDoor
/- A slice of the call's own, of integers: a number stored into it; and that it is a slice of integers as one that came in. -/
namespace Go.Proofs.YtlaagfnoepcnlaaDoor
open Go.ChangeShapes Go.WideShapes Go.ChangeAt Go.RowKit

theorem Below.toGrown' {w w' : World} (h : Below w.heap.size w w') : w.grownBy w' none := ⟨h.os, h.tape, h.output, h.size, fun k hk _ => h.block k hk⟩
theorem own_below' {w w' : World} {base : Nat} {e : TypeId} {size : Nat} {v : Value} {n : Nat} {xs : List Value} (h : w.ownsRow base e size v n xs) (hb : Below w.heap.size w w') : w'.ownsRow base e size v n xs :=
  h.kept (Below.toGrown' hb) (by cases hv : v.ownBlock <;> simp)

theorem own_base {w : World} {b c : Nat} {e : TypeId} {size : Nat} {v : Value} {n : Nat} {xs : List Value} (h : w.ownsRow b e size v n xs) (hc : c ≤ b) : w.ownsRow c e size v n xs := by
  refine ⟨h.1, ?_⟩
  rcases h.2 with h2 | ⟨g, cap, cur, hv, hb, r⟩
  · exact .inl h2
  · exact .inr ⟨g, cap, cur, hv, Nat.le_trans hc hb, r⟩

/-- Two rows of the call's own whose elements are of two types lie in two blocks. -/
theorem own_apart {w : World} {b b' : Nat} {e e' : TypeId} {size size' : Nat} {v v' : Value} {n n' : Nat} {xs xs' : List Value} (h : w.ownsRow b e size v n xs) (h' : w.ownsRow b' e' size' v' n' xs') (hne : e ≠ e') : v.ownBlock = none ∨ v.ownBlock ≠ v'.ownBlock := by
  rcases h.2 with ⟨rfl, _⟩ | ⟨g, cap, cur, rfl, _, hg, _⟩
  · exact .inl rfl
  · right
    intro he
    rcases h'.2 with ⟨rfl, _⟩ | ⟨g', cap', cur', rfl, _, hg', _⟩
    · simp [Value.ownBlock] at he
    · simp [Value.ownBlock] at he
      subst he
      rw [hg] at hg'
      simp at hg'
      exact hne hg'.2

theorem own_form {w : World} {base : Nat} {e : TypeId} {size : Nat} {v : Value} {n : Nat} {xs : List Value} (h : w.ownsRow base e size v n xs) : ∃ ao cp, v = .slice ao n cp ∧ n ≤ cp ∧ cp ≤ maxLen := by
  rcases h.2 with ⟨rfl, rfl⟩ | ⟨g, cap, cur, rfl, _, _, h1, h2, _⟩
  · exact ⟨none, 0, rfl, Nat.le_refl _, Nat.zero_le _⟩
  · exact ⟨_, _, rfl, h1, h2⟩

/-- One number stored into the row. -/
theorem own_set {w : World} {base : Nat} {e : TypeId} {g n cap : Nat} {xs : List Value} (h : w.ownsRow base e 1 (.slice (some ⟨g, 0, none⟩) n cap) n xs) {k : Nat} (hk : k < n) (u : Value) :
    (w.setCell ⟨g, k, none⟩ u).ownsRow base e 1 (.slice (some ⟨g, 0, none⟩) n cap) n (xs.set k u) ∧ w.frozen? ⟨g, k, none⟩ = false ∧ (∃ v, w.cell? ⟨g, k, none⟩ = some v) := by
  obtain ⟨hl, h2⟩ := h
  rcases h2 with ⟨hv, hn⟩ | ⟨g', cap', cur, hv, hb, hg, h1, h3, hs, ht⟩
  · omega
  · simp at hv
    obtain ⟨rfl, rfl⟩ := hv
    have hkc : k < cur.size := by omega
    refine ⟨⟨by simpa using hl, .inr ⟨g, cap, cur.setIfInBounds k u, rfl, hb, heap_setCell_same w g k cur e u hg, h1, h3, by simpa using hs, ?_⟩⟩, by simp [World.frozen?, hg], ?_⟩
    · rw [← ht, Array.toList_setIfInBounds, List.take_set]
    · exact ⟨cur[k], by simp [World.cell?, hg, hkc]⟩

/-- A row of the call's own holds its numbers as one that came in does. -/
theorem ints_of_own {w : World} {base : Nat} {ao : Option Addr} {n cp : Nat} {zs : List Int} (h : w.ownsRow base 3 1 (.slice ao n cp) n (zs.map (Value.int .i64))) (hz : ∀ i, -9223372036854775808 ≤ zs.getD i 0 ∧ zs.getD i 0 ≤ 9223372036854775807) : IsInts w ao n cp zs := by
  have hl : zs.length = n := by have := h.1; simpa using this
  obtain ⟨ao', cp', e, h1, h2⟩ := own_form h
  simp at e
  obtain ⟨rfl, rfl⟩ := e
  refine ⟨hl, h1, h2, hz, fun hp => ?_⟩
  rcases h.2 with ⟨hv, hn⟩ | ⟨g, cap, cur, hv, hb, hg, _⟩
  · omega
  · simp at hv
    obtain ⟨rfl, rfl⟩ := hv
    refine ⟨g, 0, rfl, (h.lt g rfl).2, fun i hi => ?_⟩
    have hi' : i < zs.length := by omega
    have := h.cells (g := g) rfl i (.int .i64 (zs.getD i 0)) (by simp [List.getD, hi'])
    have e : (⟨g, 0, none⟩ : Addr).add i = ⟨g, 0 + i, none⟩ := by
      unfold Addr.add
      by_cases hj : i = 0 <;> simp [hj]
    rwa [e] at this
end Go.Proofs.YtlaagfnoepcnlaaDoor
/- The contract of label.purgeKeep: a copy of an act's Keep, in a crash with 0 at the places of labels that are not seen; in memory of its own. -/
namespace Go.Proofs.YtlaagfnoepcnlaaDoor
open Go.ChangeShapes Go.WideShapes Go.ChangeAt Go.RowKit
set_option linter.unusedVariables false

theorem intInfo : (Tryd.prog.info? 3).map (fun i => (i.zero, i.size, i.bytes)) = some (some (.int .i64 0), 1, 8) := by kernel_rfl

def AV.val (a : AV) : Value := .agg #[.int .i64 a.kind, .int .i64 a.site, .int .i64 a.to, .int .i64 a.label, .int .i64 a.pick, .slice a.ka a.kl a.kc, .int .i64 a.c0, .int .i64 a.c1, .int .i64 a.c2, .int .i64 a.c3, .int .i64 a.c4, .string a.line]

/-- The Keep behind k rounds. -/
def keepAt (ls : List (Int × Int)) (l : Int) (keep : List Int) (k : Nat) : List Int := keep.zipIdx.map fun p => if p.2 < k ∧ hid ls l (p.2 : Int) = true then 0 else p.1
theorem keepAt_len (ls : List (Int × Int)) (l : Int) (keep : List Int) (k : Nat) : (keepAt ls l keep k).length = keep.length := by simp [keepAt]
theorem keepAt_zero (ls : List (Int × Int)) (l : Int) (keep : List Int) : keepAt ls l keep 0 = keep := by
  unfold keepAt
  apply List.ext_getElem (by simp)
  intro i h1 h2
  simp
theorem keepAt_end (ls : List (Int × Int)) (l : Int) (keep : List Int) : keepAt ls l keep keep.length = keepOf ls l 6 keep := by
  unfold keepAt keepOf
  rw [if_pos rfl]
  apply List.ext_getElem (by simp)
  intro i h1 h2
  have hi : i < keep.length := by simpa using h1
  simp [hi]
theorem keepAt_hid (ls : List (Int × Int)) (l : Int) (keep : List Int) (k : Nat) (hk : k < keep.length) (h : hid ls l (k : Int) = true) : keepAt ls l keep (k + 1) = (keepAt ls l keep k).set k 0 := by
  unfold keepAt
  apply List.ext_getElem (by simp)
  intro i h1 h2
  simp only [List.getElem_map, List.getElem_zipIdx, List.getElem_set, Nat.zero_add]
  by_cases e : k = i
  · subst e
    simp [h]
  · have : i < k + 1 ↔ i < k := by omega
    simp [e, this]
theorem keepAt_not (ls : List (Int × Int)) (l : Int) (keep : List Int) (k : Nat) (h : hid ls l (k : Int) = false) : keepAt ls l keep (k + 1) = keepAt ls l keep k := by
  unfold keepAt
  apply List.ext_getElem (by simp)
  intro i h1 h2
  simp only [List.getElem_map, List.getElem_zipIdx, Nat.zero_add]
  by_cases e : k = i
  · subst e
    simp [h]
  · have : i < k + 1 ↔ i < k := by omega
    simp [this]

theorem news_ints {w : World} {b off : Nat} {zs : List Int} (h : ∀ i, i < zs.length → w.cell? ⟨b, off + i, none⟩ = some (.int .i64 (zs.getD i 0))) : ∀ j u, (zs.map (Value.int .i64))[j]? = some u → w.cell? ((⟨b, off, none⟩ : Addr).add j) = some u := by
  intro j u hu
  have e : (⟨b, off, none⟩ : Addr).add j = ⟨b, off + j, none⟩ := by
    unfold Addr.add
    by_cases hj : j = 0 <;> simp [hj]
  have hj : j < zs.length := by
    have := (List.getElem?_eq_some_iff.1 hu).1
    simpa using this
  rw [e, h j hj, ← hu]
  simp [List.getD, hj]
theorem ints_one (zs : List Int) : ∀ u ∈ zs.map (Value.int .i64), u.oneCell' = true := by
  intro u hu
  simp at hu
  obtain ⟨_, _, rfl⟩ := hu
  rfl

end Go.Proofs.YtlaagfnoepcnlaaDoor
