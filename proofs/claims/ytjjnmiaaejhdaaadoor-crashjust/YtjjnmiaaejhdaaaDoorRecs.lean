/- Records in a slice: in one of the call's own, one more; and as they lie. -/
import Derived.Test.YtjjnmiaaejhdaaaDoorKRec
import Derived.Test.YtjjnmiaaejhdaaaDoorOwnMore
import Derived.Test.YtjjnmiaaejhdaaaDoorIntsFar
import Derived.Test.YtjjnmiaaejhdaaaDoorRawsW
namespace Go.Proofs.YtjjnmiaaejhdaaaDoor
open Go.ChangeShapes Go.WideShapes Go.ChangeAt Go.RowKit
set_option linter.unusedVariables false

instance : Inhabited RcV := ⟨⟨0, 0, 0, 0, 0, 0, false, none, 0, 0, []⟩⟩
def RcV.cells (r : RcV) : List Value := [.int .i64 r.kind, .int .i64 r.site, .int .i64 r.num, .int .i64 r.key, .int .i64 r.value, .int .i64 r.ask, .bool r.yes, .slice r.sa r.sl r.sc]
theorem RcV.cells_len (r : RcV) : r.cells.length = 8 := rfl
def flatRecs (xs : List RcV) : List Value := xs.flatMap RcV.cells
theorem flatRecs_append (xs : List RcV) (a : RcV) : flatRecs (xs ++ [a]) = flatRecs xs ++ a.cells := by simp [flatRecs]
theorem flatRecs_get (xs : List RcV) : ∀ i, i < xs.length → ∀ j, j < 8 → (flatRecs xs)[i * 8 + j]? = (xs.getD i default).cells[j]? := by
  induction xs with
  | nil => intro i hi; simp at hi
  | cons a l ih =>
    intro i hi j hj
    have e : flatRecs (a :: l) = a.cells ++ flatRecs l := by simp [flatRecs]
    cases i with
    | zero =>
      have : j < a.cells.length := by rw [RcV.cells_len]; exact hj
      rw [e, Nat.zero_mul, Nat.zero_add, List.getElem?_append_left this]
      simp
    | succ i =>
      rw [e, List.getElem?_append_right (by rw [RcV.cells_len]; omega), RcV.cells_len, show (i + 1) * 8 + j - 8 = i * 8 + j by omega, ih i (by simpa using hi) j hj]
      simp

structure OwnRecs (w : World) (B : Nat) (v : Value) (ys : List RcV) : Prop where
  row : w.ownsRow B 53 8 v ys.length (flatRecs ys)
  sites : ∀ y ∈ ys, IsInts w y.sa y.sl y.sc y.sites ∧ ∀ b off, y.sa = some ⟨b, off, none⟩ → some b ≠ v.ownBlock ∧ b < w.heap.size
theorem ownRecs_nil (w : World) (B : Nat) : OwnRecs w B (.slice none 0 0) [] := ⟨World.ownsRow_nil _ _ _ _, by simp⟩
theorem OwnRecs.below {w w' : World} {B : Nat} {v : Value} {ys : List RcV} (h : OwnRecs w B v ys) (hb : Below w.heap.size w w') : OwnRecs w' B v ys :=
  ⟨own_below' h.row hb, fun y hy => ⟨(h.sites y hy).1.below hb, fun b off e => ⟨((h.sites y hy).2 b off e).1, Nat.lt_of_lt_of_le ((h.sites y hy).2 b off e).2 hb.size⟩⟩⟩
theorem OwnRecs.push {w w1 w2 : World} {B g cp' : Nat} {v : Value} {ys : List RcV} {y : RcV} (h : OwnRecs w B v ys) (hb : Below w.heap.size w w1)
    (hy : IsInts w1 y.sa y.sl y.sc y.sites) (hn : ∀ b off, y.sa = some ⟨b, off, none⟩ → w.heap.size ≤ b ∧ b < w1.heap.size)
    (hown : w2.ownsRow B 53 8 (.slice (some ⟨g, 0, none⟩) (ys.length + 1) cp') (ys.length + 1) (flatRecs ys ++ y.cells)) (hg : w1.grownBy w2 v.ownBlock) (hat : v.ownBlock = some g ∨ g = w1.heap.size) :
    OwnRecs w2 B (.slice (some ⟨g, 0, none⟩) (ys.length + 1) cp') (ys ++ [y]) := by
  have h1 := h.below hb
  have hvl : ∀ m, v.ownBlock = some m → m < w.heap.size := fun m hm => (h.row.lt m hm).2
  refine ⟨?_, fun z hz => ?_⟩
  · rw [flatRecs_append]
    simpa using hown
  · have key : IsInts w1 z.sa z.sl z.sc z.sites ∧ ∀ b off, z.sa = some ⟨b, off, none⟩ → some b ≠ v.ownBlock ∧ b < w1.heap.size := by
      rcases List.mem_append.1 hz with hz | hz
      · exact h1.sites z hz
      · simp at hz
        subst hz
        exact ⟨hy, fun b off e => ⟨fun e' => by have := hvl b e'.symm; have := (hn b off e).1; omega, (hn b off e).2⟩⟩
    refine ⟨isI_grown key.1 hg (fun b off e => (key.2 b off e).1), fun b off e => ⟨?_, Nat.lt_of_lt_of_le (key.2 b off e).2 hg.size⟩⟩
    obtain ⟨k1, k2⟩ := key.2 b off e
    intro e'
    simp [Value.ownBlock] at e'
    subst e'
    rcases hat with hat | hat
    · exact k1 hat.symm
    · omega

/-- Records that lie in memory one behind the other, their Sites wherever they are. -/
def IsRecs (w : World) (a : Option Addr) (len cap : Nat) (ys : List RcV) : Prop :=
  ys.length = len ∧ len ≤ cap ∧ cap ≤ maxLen ∧ (∀ y ∈ ys, IsInts w y.sa y.sl y.sc y.sites) ∧
    (0 < len → ∃ b off, a = some ⟨b, off, none⟩ ∧ b < w.heap.size ∧ ∀ i, i < len → ∀ j, j < 8 → w.cell? ⟨b, off + i * 8 + j, none⟩ = (ys.getD i default).cells[j]?)
theorem IsRecs.below {w w' : World} {a : Option Addr} {len cap : Nat} {ys : List RcV} (h : IsRecs w a len cap ys) (hb : Below w.heap.size w w') : IsRecs w' a len cap ys := by
  obtain ⟨h1, h2, h3, h4, h5⟩ := h
  refine ⟨h1, h2, h3, fun y hy => (h4 y hy).below hb, fun hp => ?_⟩
  obtain ⟨b, off, e, hl, hc⟩ := h5 hp
  refine ⟨b, off, e, Nat.lt_of_lt_of_le hl hb.size, fun i hi j hj => ?_⟩
  rw [hb.cell (p := ⟨b, off + i * 8 + j, none⟩) hl]
  exact hc i hi j hj
theorem OwnRecs.isRecs {w : World} {B : Nat} {ao : Option Addr} {n cp : Nat} {ys : List RcV} (h : OwnRecs w B (.slice ao n cp) ys) : n = ys.length ∧ IsRecs w ao n cp ys := by
  have hr := h.row
  obtain ⟨ao', cp', e, h1, h2⟩ := own_form hr
  simp at e
  obtain ⟨rfl, rfl, rfl⟩ := e
  refine ⟨rfl, rfl, h1, h2, fun y hy => (h.sites y hy).1, fun hp => ?_⟩
  rcases hr.2 with ⟨_, hn⟩ | ⟨g, cap, cur, hv, hb, hg, _⟩
  · omega
  · simp at hv
    obtain ⟨rfl, rfl⟩ := hv
    refine ⟨g, 0, rfl, (hr.lt g rfl).2, fun i hi j hj => ?_⟩
    have hf := flatRecs_get ys i hi j hj
    have hc : j < (ys.getD i default).cells.length := by rw [RcV.cells_len]; exact hj
    rw [List.getElem?_eq_getElem hc] at hf
    have := hr.cells (g := g) rfl _ _ hf
    have e : ∀ m, (⟨g, 0, none⟩ : Addr).add m = ⟨g, 0 + m, none⟩ := by
      intro m
      unfold Addr.add
      by_cases hm : m = 0 <;> simp [hm]
    rw [e, ← Nat.add_assoc] at this
    rw [this, List.getElem?_eq_getElem hc]
end Go.Proofs.YtjjnmiaaejhdaaaDoor
