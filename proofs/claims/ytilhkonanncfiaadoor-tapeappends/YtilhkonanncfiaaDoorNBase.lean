/- Rows of elements of several cells in memory, one behind the other; rows that a call makes of its own; and what is on its way: lists of messages. -/
import Derived.Test.YtilhkonanncfiaaDoorProg
import Derived.Test.YtilhkonanncfiaaDoorBase
import Derived.Test.YtilhkonanncfiaaDoorWMsg
import Derived.WalkKit
import Derived.ProofKit
import Derived.Below
import Derived.OwnWalk
import Derived.OpenShut
import Derived.Deep.QuietTactic
import Derived.BigQuiet
import Derived.BigRegion
import Derived.LoopTactic
import Derived.RegionTactic
import Derived.WalkSmall
import Derived.Deep.AppendLies
import Derived.Laws.AppendOwnNone
namespace Go.Proofs.YtilhkonanncfiaaDoor.Nt
open Go.ChangeShapes Go.WideShapes Go.ChangeAt Go.RowKit
set_option linter.unusedVariables false

/-- Elements of k cells each that lie one behind the other. -/
def IsRow {α : Type} [Inhabited α] (k : Nat) (cells : α → List Value) (w : World) (a : Option Addr) (len cap : Nat) (xs : List α) : Prop :=
  xs.length = len ∧ len ≤ cap ∧ cap ≤ maxLen ∧ (a = none → cap = 0) ∧
    (0 < len → ∃ b off, a = some ⟨b, off, none⟩ ∧ b < w.heap.size ∧ ∀ i, i < len → ∀ j, j < k → w.cell? ⟨b, off + i * k + j, none⟩ = (cells (xs.getD i default))[j]?)
theorem IsRow.below {α : Type} [Inhabited α] {k : Nat} {cells : α → List Value} {w w' : World} {a : Option Addr} {len cap : Nat} {xs : List α} (h : IsRow k cells w a len cap xs) (hb : Below w.heap.size w w') : IsRow k cells w' a len cap xs := by
  obtain ⟨h1, h2, h3, h4, h5⟩ := h
  refine ⟨h1, h2, h3, h4, fun hp => ?_⟩
  obtain ⟨b, off, e, hl, hc⟩ := h5 hp
  refine ⟨b, off, e, Nat.lt_of_lt_of_le hl hb.size, fun i hi j hj => ?_⟩
  rw [hb.cell (p := ⟨b, off + i * k + j, none⟩) hl]
  exact hc i hi j hj
theorem isRow_nil {α : Type} [Inhabited α] (k : Nat) (cells : α → List Value) (w : World) : IsRow k cells w none 0 0 ([] : List α) := ⟨rfl, Nat.le_refl _, Nat.zero_le _, fun _ => rfl, fun h => absurd h (by omega)⟩
/-- A row outside one block stays when that block alone changes, or the world grows. -/
theorem IsRow.grown {α : Type} [Inhabited α] {k : Nat} {cells : α → List Value} {w w' : World} {r : Option Nat} {a : Option Addr} {len cap : Nat} {xs : List α} (h : IsRow k cells w a len cap xs) (hg : w.grownBy w' r) (hn : ∀ b off, a = some ⟨b, off, none⟩ → some b ≠ r) : IsRow k cells w' a len cap xs := by
  obtain ⟨h1, h2, h3, h4, h5⟩ := h
  refine ⟨h1, h2, h3, h4, fun hp => ?_⟩
  obtain ⟨b, off, e, hl, hc⟩ := h5 hp
  refine ⟨b, off, e, Nat.lt_of_lt_of_le hl hg.size, fun i hi j hj => ?_⟩
  rw [World.cell?_of_block (a := ⟨b, off + i * k + j, none⟩) (hg.block b hl (hn b off e))]
  exact hc i hi j hj
theorem IsRow.set {α : Type} [Inhabited α] {k : Nat} {cells : α → List Value} {w : World} {a : Option Addr} {len cap : Nat} {xs : List α} {c o : Nat} {v : Value} (h : IsRow k cells w a len cap xs) (hn : ∀ b off, a = some ⟨b, off, none⟩ → b ≠ c) : IsRow k cells (w.setCell ⟨c, o, none⟩ v) a len cap xs := by
  obtain ⟨h1, h2, h3, h4, h5⟩ := h
  refine ⟨h1, h2, h3, h4, fun hp => ?_⟩
  obtain ⟨b, off, e, hl, hc⟩ := h5 hp
  refine ⟨b, off, e, by simpa using hl, fun i hi j hj => ?_⟩
  rw [World.cell?_of_block (a := ⟨b, off + i * k + j, none⟩) (Below.heap_setCell w ⟨c, o, none⟩ v b (hn b off e))]
  exact hc i hi j hj

theorem adr_add (b off i : Nat) : (⟨b, off, none⟩ : Addr).add i = ⟨b, off + i, none⟩ := by
  unfold Addr.add
  by_cases h : i = 0 <;> simp [h]
def flat {α : Type} (cells : α → List Value) (xs : List α) : List Value := xs.flatMap cells
theorem flat_append {α : Type} (cells : α → List Value) (xs ys : List α) : flat cells (xs ++ ys) = flat cells xs ++ flat cells ys := by simp [flat]
theorem flat_one {α : Type} (cells : α → List Value) (x : α) : flat cells [x] = cells x := by simp [flat]
theorem flat_len {α : Type} {cells : α → List Value} {k : Nat} (hk : ∀ x, (cells x).length = k) (xs : List α) : (flat cells xs).length = xs.length * k := by
  induction xs with
  | nil => simp [flat]
  | cons x r ih =>
    simp only [flat, List.flatMap_cons, List.length_append, List.length_cons] at *
    rw [ih, hk]
    rw [Nat.add_mul]
    omega
theorem flat_get {α : Type} [Inhabited α] {cells : α → List Value} {k : Nat} (hk : ∀ x, (cells x).length = k) : ∀ (xs : List α) (i : Nat), i < xs.length → ∀ j, j < k → (flat cells xs)[i * k + j]? = (cells (xs.getD i default))[j]? := by
  intro xs
  induction xs with
  | nil => intro i hi; simp at hi
  | cons x r ih =>
    intro i hi j hj
    have e : flat cells (x :: r) = cells x ++ flat cells r := by simp [flat]
    rw [e]
    cases i with
    | zero =>
      rw [List.getElem?_append_left (by rw [hk]; omega)]
      simp
    | succ i =>
      rw [List.getElem?_append_right (by rw [hk, Nat.add_mul]; omega), hk]
      have : (i + 1) * k + j - k = i * k + j := by rw [Nat.add_mul]; omega
      rw [this, ih i (by simpa using hi) j hj]
      simp
theorem own_form {w : World} {B : Nat} {e : TypeId} {size : Nat} {v : Value} {n : Nat} {xs : List Value} (h : w.ownsRow B e size v n xs) : ∃ a cap, v = .slice a n cap ∧ n ≤ cap ∧ cap ≤ maxLen ∧ (a = none → cap = 0) := by
  rcases h.2 with ⟨rfl, rfl⟩ | ⟨g, cap, cur, rfl, _, _, h1, h2, _⟩
  · exact ⟨none, 0, rfl, Nat.le_refl _, Nat.zero_le _, fun _ => rfl⟩
  · exact ⟨_, cap, rfl, h1, h2, fun e => by simp at e⟩
theorem own_below {w w' : World} {base : Nat} {e : TypeId} {size : Nat} {v : Value} {n : Nat} {xs : List Value} (h : w.ownsRow base e size v n xs) (hb : Below w.heap.size w w') : w'.ownsRow base e size v n xs :=
  h.kept (row := none) ⟨hb.os, hb.tape, hb.output, hb.size, fun k hk _ => hb.block k hk⟩ (by cases hv : v.ownBlock <;> simp)
theorem own_base {w : World} {b c : Nat} {e : TypeId} {size : Nat} {v : Value} {n : Nat} {xs : List Value} (h : w.ownsRow b e size v n xs) (hc : c ≤ b) : w.ownsRow c e size v n xs := by
  refine ⟨h.1, ?_⟩
  rcases h.2 with h2 | ⟨g, cap, cur, hv, hb, r⟩
  · exact .inl h2
  · exact .inr ⟨g, cap, cur, hv, Nat.le_trans hc hb, r⟩
/-- What a call owns is there to be read. -/
theorem own_isRow {α : Type} [Inhabited α] {k : Nat} {cells : α → List Value} (hk : ∀ x, (cells x).length = k) {w : World} {B : Nat} {te : TypeId} {a : Option Addr} {n cap : Nat} {xs : List α} (h : w.ownsRow B te k (.slice a n cap) n (flat cells xs)) (hn : xs.length = n) :
    IsRow k cells w a n cap xs ∧ ∀ b off, a = some ⟨b, off, none⟩ → B ≤ b ∧ b < w.heap.size := by
  obtain ⟨a', cap', e, h1, h2, h3⟩ := own_form h
  simp at e
  obtain ⟨rfl, rfl⟩ := e
  refine ⟨⟨hn, h1, h2, h3, fun hp => ?_⟩, fun b off e => ?_⟩
  · rcases h.2 with ⟨_, h0⟩ | ⟨g, cap2, cur, hv, hb, hg, _⟩
    · omega
    · simp at hv
      obtain ⟨rfl, rfl⟩ := hv
      refine ⟨g, 0, rfl, (h.lt g rfl).2, fun i hi j hj => ?_⟩
      have hf := flat_get hk xs i (by omega) j hj
      have hc : j < (cells (xs.getD i default)).length := by rw [hk]; exact hj
      rw [List.getElem?_eq_getElem hc] at hf
      have := h.cells (g := g) rfl _ _ hf
      rw [adr_add, ← Nat.add_assoc] at this
      rw [this, List.getElem?_eq_getElem hc]
  · subst e
    rcases h.2 with ⟨hv, h0⟩ | ⟨g, cap2, cur, hv, hb, hg, _⟩
    · simp at hv
    · simp at hv
      obtain ⟨⟨rfl, rfl⟩, rfl⟩ := hv
      exact h.lt _ rfl
theorem news_at {W : World} {n : Nat} (cs : Array Value) (t : TypeId) (h : W.heap.size = n) : ∀ j u, cs.toList[j]? = some u → (W.alloc (.cells cs t)).cell? ((⟨n, 0, none⟩ : Addr).add j) = some u := by
  subst h
  exact World.news_of_block (heap_alloc_new W _)

instance : Inhabited MV := ⟨⟨0, 0, 0, 0, 0, 0, 0, 0, 0, 0, false, 0⟩⟩
def mcells (m : MV) : List Value := [.int .i64 m.kind, .int .i64 m.frm, .int .i64 m.dst, .int .i64 m.site, .int .i64 m.num, .int .i64 m.label, .int .i64 m.key, .int .i64 m.value, .int .i64 m.version, .int .i64 m.ask, .bool m.yes, .int .i64 m.code]
theorem mcells_len (m : MV) : (mcells m).length = 12 := rfl
theorem mcells_one (y : MV) : ∀ u ∈ mcells y, u.oneCell' = true := by
  intro u hu
  simp [mcells] at hu
  rcases hu with h | h | h | h | h | h | h | h | h | h | h | h <;> subst h <;> rfl
abbrev IsMsgs := @IsRow MV _ 12 mcells
/-- A list of what is on its way, as it lies. -/
structure FL where
  a : Option Addr
  len : Nat
  cap : Nat
  ms : List MV
instance : Inhabited FL := ⟨⟨none, 0, 0, []⟩⟩
def FL.cells (f : FL) : List Value := [.slice f.a f.len f.cap]
theorem fcells_len (f : FL) : f.cells.length = 1 := rfl
theorem fcells_one (y : FL) : ∀ u ∈ y.cells, u.oneCell' = true := by
  intro u hu
  simp [FL.cells] at hu
  subst hu
  rfl
/-- What is on its way: a slice of slices of messages. -/
structure IsFly (w : World) (a : Option Addr) (len cap : Nat) (fs : List FL) : Prop where
  row : IsRow 1 FL.cells w a len cap fs
  each : ∀ f ∈ fs, IsMsgs w f.a f.len f.cap f.ms
theorem IsFly.below {w w' : World} {a : Option Addr} {len cap : Nat} {fs : List FL} (h : IsFly w a len cap fs) (hb : Below w.heap.size w w') : IsFly w' a len cap fs :=
  ⟨h.row.below hb, fun f hf => (h.each f hf).below hb⟩
theorem getD_mem {α : Type} [Inhabited α] {xs : List α} {i : Nat} (h : i < xs.length) : xs.getD i default ∈ xs := by
  simp [List.getD, h]
/-- One list of them. -/
theorem IsFly.at {w : World} {a : Option Addr} {len cap : Nat} {fs : List FL} (h : IsFly w a len cap fs) {i : Nat} (hi : i < len) : ∃ b off, a = some ⟨b, off, none⟩ ∧ b < w.heap.size ∧ w.cell? ⟨b, off + i, none⟩ = some (.slice (fs.getD i default).a (fs.getD i default).len (fs.getD i default).cap) ∧ IsMsgs w (fs.getD i default).a (fs.getD i default).len (fs.getD i default).cap (fs.getD i default).ms := by
  obtain ⟨b, off, e, hl, hc⟩ := h.row.2.2.2.2 (by omega)
  refine ⟨b, off, e, hl, ?_, h.each _ (getD_mem (by rw [h.row.1]; exact hi))⟩
  have := hc i hi 0 (by omega)
  simpa [FL.cells] using this

def flOK (s : Int) (ls : List (Int × Int)) (p : Int) (i : Nat) (ms : List MV) : Bool := decide (ms.length ≤ 30) && ms.all (fun m => msgFault s ls p m == 0 && m.frm * s + m.dst == (i : Int))
def flyOK (s : Int) (ls : List (Int × Int)) (p : Int) (fs : List FL) : Bool := (List.range fs.length).all fun i => flOK s ls p i (fs.getD i default).ms
def flyFault (s : Int) (ls : List (Int × Int)) (p : Int) (fs : List FL) : Int :=
  if cfgFault s ls p ≠ 0 then cfgFault s ls p else if (fs.length : Int) ≠ s * s then 9 else if flyOK s ls p fs then 0 else 9
theorem flyOK_true {s : Int} {ls : List (Int × Int)} {p : Int} {fs : List FL} (h : ∀ j, j < fs.length → flOK s ls p j (fs.getD j default).ms = true) : flyOK s ls p fs = true := by
  simp only [flyOK, List.all_eq_true, List.mem_range]
  exact h
theorem flyOK_false {s : Int} {ls : List (Int × Int)} {p : Int} {fs : List FL} {k : Nat} (hk : k < fs.length) (h : flOK s ls p k (fs.getD k default).ms = false) : flyOK s ls p fs = false := by
  rw [← Bool.not_eq_true]
  simp only [flyOK, List.all_eq_true, List.mem_range]
  intro hh
  rw [hh k hk] at h
  simp at h
theorem flOK_long {s : Int} {ls : List (Int × Int)} {p : Int} {i : Nat} {ms : List MV} (h : 30 < ms.length) : flOK s ls p i ms = false := by
  simp [flOK]
  omega
theorem flOK_bad {s : Int} {ls : List (Int × Int)} {p : Int} {i k : Nat} {ms : List MV} (hk : k < ms.length) (h : msgFault s ls p (ms.getD k default) ≠ 0 ∨ (ms.getD k default).frm * s + (ms.getD k default).dst ≠ (i : Int)) : flOK s ls p i ms = false := by
  simp only [flOK, Bool.and_eq_false_iff]
  right
  rw [← Bool.not_eq_true, List.all_eq_true]
  intro hh
  have := hh _ (getD_mem hk)
  simp at this
  rcases h with h | h
  · exact h this.1
  · exact h this.2
theorem flOK_good {s : Int} {ls : List (Int × Int)} {p : Int} {i : Nat} {ms : List MV} (hl : ms.length ≤ 30) (h : ∀ k, k < ms.length → msgFault s ls p (ms.getD k default) = 0 ∧ (ms.getD k default).frm * s + (ms.getD k default).dst = (i : Int)) : flOK s ls p i ms = true := by
  simp only [flOK, Bool.and_eq_true, decide_eq_true_eq, List.all_eq_true]
  refine ⟨hl, fun m hm => ?_⟩
  obtain ⟨k, hk, rfl⟩ := List.getElem_of_mem hm
  have := h k hk
  simpa [List.getD, hk] using this
theorem flOK_of {s : Int} {ls : List (Int × Int)} {p : Int} {i : Nat} {ms : List MV} (h : flOK s ls p i ms = true) : ms.length ≤ 30 ∧ ∀ m ∈ ms, msgFault s ls p m = 0 ∧ m.frm * s + m.dst = (i : Int) := by
  simpa only [flOK, Bool.and_eq_true, decide_eq_true_eq, List.all_eq_true, beq_iff_eq] using h
theorem flyFault_of {s : Int} {ls : List (Int × Int)} {p : Int} {fs : List FL} (h : flyFault s ls p fs = 0) : cfgFault s ls p = 0 ∧ (fs.length : Int) = s * s ∧ ∀ j, j < fs.length → (fs.getD j default).ms.length ≤ 30 ∧ ∀ m ∈ (fs.getD j default).ms, msgFault s ls p m = 0 ∧ m.frm * s + m.dst = (j : Int) := by
  unfold flyFault at h
  split at h
  · contradiction
  · rename_i h1
    split at h
    · simp at h
    · rename_i h2
      split at h
      · rename_i h3
        refine ⟨by simpa using h1, by simpa using h2, fun j hj => ?_⟩
        simp only [flyOK, List.all_eq_true, List.mem_range] at h3
        exact flOK_of (h3 j hj)
      · simp at h
theorem wrapI {n : Int} (h : -9223372036854775808 ≤ n ∧ n ≤ 9223372036854775807) : IntKind.i64.wrap n = n := by
  simp [IntKind.wrap, IntKind.bits, IntKind.signed]
  omega
theorem mul_bd {f s : Int} (h1 : 1 ≤ s) (h2 : s ≤ 4) (f0 : 0 ≤ f) (f1 : f ≤ s - 1) : 0 ≤ f * s ∧ f * s ≤ 12 ∧ f * s ≤ (s - 1) * s := by
  rcases (by omega : s = 1 ∨ s = 2 ∨ s = 3 ∨ s = 4) with rfl | rfl | rfl | rfl <;> omega
theorem sq_bd {s : Int} (h1 : 1 ≤ s) (h2 : s ≤ 4) : 1 ≤ s * s ∧ s * s ≤ 16 ∧ (s - 1) * s = s * s - s := by
  rcases (by omega : s = 1 ∨ s = 2 ∨ s = 3 ∨ s = 4) with rfl | rfl | rfl | rfl <;> omega
end Go.Proofs.YtilhkonanncfiaaDoor.Nt
