/- Texts of this claim, one behind the other. -/
import Derived.Test.YtcfhhjnbkpgpeaaDoorM38RebuildDesk
import Derived.Test.YtcfhhjnbkpgpeaaDoorM36RebuildDesk
import Derived.Test.YtcfhhjnbkpgpeaaDoorM24RebuildDesk
import Derived.Test.YtcfhhjnbkpgpeaaDoorM9RebuildDesk
/- The table of widths, as the program lays it. -/
namespace Go.Proofs.YtcfhhjnbkpgpeaaDoor
open Go.ChangeShapes Go.WideShapes Go.ChangeAt Go.RowKit

section
variable {H : Type} {enc : TypeId × Value → H} {W : World} {base : Nat} {sp : Nat → Bool} {held : Bool}
end
end Go.Proofs.YtcfhhjnbkpgpeaaDoor
/- The contract of the reader's parts: the parts that there are, one by one. -/
namespace Go.Proofs.YtcfhhjnbkpgpeaaDoor
open Go.ChangeShapes Go.WideShapes Go.ChangeAt Go.RowKit
set_option linter.unusedVariables false

theorem rp_ne {u : World} {b i j : Nat} {v : Value} (h : i ≠ j) : (u.setCell ⟨b, i, none⟩ v).cell? ⟨b, j, none⟩ = u.cell? ⟨b, j, none⟩ := by
  unfold World.setCell World.cell?
  simp only [Array.getElem?_modify]
  by_cases hb : b < u.heap.size
  · rw [Array.getElem?_eq_getElem hb]
    cases hc : u.heap[b] <;> simp [h]
  · rw [Array.getElem?_eq_none (by omega)]
    rfl
theorem rp_frozen {u : World} {b i j : Nat} {v : Value} : (u.setCell ⟨b, i, none⟩ v).frozen? ⟨b, j, none⟩ = u.frozen? ⟨b, j, none⟩ := by
  unfold World.setCell World.frozen?
  simp only [Array.getElem?_modify]
  by_cases hb : b < u.heap.size
  · rw [Array.getElem?_eq_getElem hb]
    cases hc : u.heap[b] <;> simp
  · rw [Array.getElem?_eq_none (by omega)]
    rfl

/-- The boxes of a call of parts: which parts there are; the result; the parts so far. -/
structure PBox (u : World) (B : Nat) (hs : List Bool) (qs : List Int) : Prop where
  h : ∀ i, i < 8 → u.cell? ⟨B, i, none⟩ = some (.bool (hs.getD i false))
  r : ∀ i, i < 8 → u.cell? ⟨B + 1, i, none⟩ = some (.int .i64 0) ∧ u.frozen? ⟨B + 1, i, none⟩ = false
  q : ∀ i, i < 8 → u.cell? ⟨B + 2, i, none⟩ = some (.int .i64 (qs.getD i 0)) ∧ u.frozen? ⟨B + 2, i, none⟩ = false
  sz : B + 2 < u.heap.size

theorem PBox.grown {u u' : World} {B R : Nat} {hs : List Bool} {qs : List Int} (h : PBox u B hs qs) (hg : u.grownBy u' (some R)) (hR : R < B) : PBox u' B hs qs := by
  have e : ∀ c, B ≤ c → c ≤ B + 2 → u'.heap[c]? = u.heap[c]? := fun c h1 h2 => hg.block c (by have := h.sz; omega) (by simp; omega)
  refine ⟨fun i hi => ?_, fun i hi => ⟨?_, ?_⟩, fun i hi => ⟨?_, ?_⟩, Nat.lt_of_lt_of_le h.sz hg.size⟩
  · rw [World.cell?_of_block (a := ⟨B, i, none⟩) (e B (by omega) (by omega))]; exact h.h i hi
  · rw [World.cell?_of_block (a := ⟨B + 1, i, none⟩) (e (B + 1) (by omega) (by omega))]; exact (h.r i hi).1
  · rw [World.frozen?_of_block (a := ⟨B + 1, i, none⟩) (e (B + 1) (by omega) (by omega))]; exact (h.r i hi).2
  · rw [World.cell?_of_block (a := ⟨B + 2, i, none⟩) (e (B + 2) (by omega) (by omega))]; exact (h.q i hi).1
  · rw [World.frozen?_of_block (a := ⟨B + 2, i, none⟩) (e (B + 2) (by omega) (by omega))]; exact (h.q i hi).2
theorem PBox.set {u : World} {B : Nat} {hs : List Bool} {qs : List Int} (h : PBox u B hs qs) (k : Nat) (hk : k < 8) (hq : qs.length = 8) (n : Int) : PBox (u.setCell ⟨B + 2, k, none⟩ (.int .i64 n)) B hs (qs.set k n) := by
  have e : ∀ c, c < B + 2 → (u.setCell ⟨B + 2, k, none⟩ (.int .i64 n)).heap[c]? = u.heap[c]? := fun c h1 => Below.heap_setCell u _ _ c (by show c ≠ B + 2; omega)
  refine ⟨fun i hi => ?_, fun i hi => ⟨?_, ?_⟩, fun i hi => ⟨?_, ?_⟩, by simpa using h.sz⟩
  · rw [World.cell?_of_block (a := ⟨B, i, none⟩) (e B (by omega))]; exact h.h i hi
  · rw [World.cell?_of_block (a := ⟨B + 1, i, none⟩) (e (B + 1) (by omega))]; exact (h.r i hi).1
  · rw [World.frozen?_of_block (a := ⟨B + 1, i, none⟩) (e (B + 1) (by omega))]; exact (h.r i hi).2
  · by_cases hik : k = i
    · subst hik
      rw [World.cell?_setCell_same u ⟨B + 2, k, none⟩ _ (h.q k hk).1]
      simp [List.getD, hq, hk]
    · rw [rp_ne hik, (h.q i hi).1]
      simp [List.getD, hik]
  · rw [rp_frozen]; exact (h.q i hi).2

theorem eight_list {α : Type} {l : List α} (h : l.length = 8) : ∃ a b c d e f g i, l = [a, b, c, d, e, f, g, i] := by
  match l, h with
  | [a, b, c, d, e, f, g, i], _ => exact ⟨a, b, c, d, e, f, g, i, rfl⟩

def RPart (w w' : World) (R L : Nat) (v : Value) (d : List Int × RS) : Prop :=
  ∃ q0 q1 q2 q3 q4 q5 q6 q7, v = .agg #[.int .i64 q0, .int .i64 q1, .int .i64 q2, .int .i64 q3, .int .i64 q4, .int .i64 q5, .int .i64 q6, .int .i64 q7] ∧ d.1 = [q0, q1, q2, q3, q4, q5, q6, q7] ∧ RdTo w' R L d.2 ∧ w.grownBy w' (some R)

theorem dec_true {i : Nat} {hs : List Bool} {ks : List Nat} {r : RS} {k : Nat} : decParts i (true :: hs) (k :: ks) r = ((r.part i k).1 :: (decParts (i + 1) hs ks (r.part i k).2).1, (decParts (i + 1) hs ks (r.part i k).2).2) := by simp [decParts]
theorem dec_false {i : Nat} {hs : List Bool} {ks : List Nat} {r : RS} {k : Nat} : decParts i (false :: hs) (k :: ks) r = (0 :: (decParts (i + 1) hs ks r).1, (decParts (i + 1) hs ks r).2) := by simp [decParts]

end Go.Proofs.YtcfhhjnbkpgpeaaDoor
/- A message off bytes, on plain data. -/
namespace Go.Proofs.YtcfhhjnbkpgpeaaDoor
open Go.ChangeShapes Go.WideShapes Go.ChangeAt Go.RowKit

/-- A message off bytes: what readMessage gives, and what the reader is then. -/
def decMsgRS (r : RS) : MV × RS :=
  (⟨(r.kind 10).1, ((r.kind 10).2.num 1).1, (((r.kind 10).2.num 1).2.num 1).1, ((((r.kind 10).2.num 1).2.num 1).2.num 1).1, (((((r.kind 10).2.num 1).2.num 1).2.num 1).2.num 3).1,
    (decParts 0 (mHasOf (r.kind 10).1) widL (((((r.kind 10).2.num 1).2.num 1).2.num 1).2.num 3).2).1.getD 0 0,
    (decParts 0 (mHasOf (r.kind 10).1) widL (((((r.kind 10).2.num 1).2.num 1).2.num 1).2.num 3).2).1.getD 1 0,
    (decParts 0 (mHasOf (r.kind 10).1) widL (((((r.kind 10).2.num 1).2.num 1).2.num 1).2.num 3).2).1.getD 2 0,
    (decParts 0 (mHasOf (r.kind 10).1) widL (((((r.kind 10).2.num 1).2.num 1).2.num 1).2.num 3).2).1.getD 3 0,
    (decParts 0 (mHasOf (r.kind 10).1) widL (((((r.kind 10).2.num 1).2.num 1).2.num 1).2.num 3).2).1.getD 4 0,
    decide ((decParts 0 (mHasOf (r.kind 10).1) widL (((((r.kind 10).2.num 1).2.num 1).2.num 1).2.num 3).2).1.getD 5 0 = 1),
    (decParts 0 (mHasOf (r.kind 10).1) widL (((((r.kind 10).2.num 1).2.num 1).2.num 1).2.num 3).2).1.getD 6 0⟩,
   (decParts 0 (mHasOf (r.kind 10).1) widL (((((r.kind 10).2.num 1).2.num 1).2.num 1).2.num 3).2).2)

end Go.Proofs.YtcfhhjnbkpgpeaaDoor
