/- Texts of this claim, one behind the other. -/
import Derived.Test.YtgohpgollpjlnaaDoorProg
import Derived.Test.YtgohpgollpjlnaaDoorA0ConsoleShows
import Derived.WalkKit
import Derived.ProofKit
import Derived.Below
import Derived.OwnWalk
import Derived.OpenShut
import Derived.Deep.QuietTactic
import Derived.BigQuiet
import Derived.BigRegion
import Derived.LoopTactic
import Derived.RegionTactic
import Derived.WalkSmall
import Derived.Deep.AppendLies
import Derived.Laws.AppendOwnNone
/- What a store holds, on plain data, and rows of it in memory: items, locks, doubts, transactions; what a store that may be is. -/
namespace Go.Proofs.YtgohpgollpjlnaaDoor.St
open Go.ChangeShapes Go.WideShapes Go.ChangeAt Go.RowKit
set_option linter.unusedVariables false

structure ItV where
  key : Int
  value : Int
  version : Int
structure LkV where
  t : Int × Int
  key : Int
  write : Bool
  value : Int
  ask : Int
structure DbV where
  t : Int × Int
  age : Int
instance : Inhabited ItV := ⟨⟨0, 0, 0⟩⟩
instance : Inhabited LkV := ⟨⟨(0, 0), 0, false, 0, 0⟩⟩
instance : Inhabited DbV := ⟨⟨(0, 0), 0⟩⟩
def ItV.cells (x : ItV) : List Value := [.int .i64 x.key, .int .i64 x.value, .int .i64 x.version]
def LkV.cells (x : LkV) : List Value := [.int .i64 x.t.1, .int .i64 x.t.2, .int .i64 x.key, .bool x.write, .int .i64 x.value, .int .i64 x.ask]
def DbV.cells (x : DbV) : List Value := [.int .i64 x.t.1, .int .i64 x.t.2, .int .i64 x.age]
def txCells (t : Int × Int) : List Value := [.int .i64 t.1, .int .i64 t.2]
def ItV.val (x : ItV) : Value := .agg #[.int .i64 x.key, .int .i64 x.value, .int .i64 x.version]
def LkV.val (x : LkV) : Value := .agg #[.int .i64 x.t.1, .int .i64 x.t.2, .int .i64 x.key, .bool x.write, .int .i64 x.value, .int .i64 x.ask]
def DbV.val (x : DbV) : Value := .agg #[.int .i64 x.t.1, .int .i64 x.t.2, .int .i64 x.age]
def txVal (t : Int × Int) : Value := .agg #[.int .i64 t.1, .int .i64 t.2]

/-- Elements of k cells each that lie one behind the other. -/
def IsRow {α : Type} [Inhabited α] (k : Nat) (cells : α → List Value) (w : World) (a : Option Addr) (len cap : Nat) (xs : List α) : Prop :=
  xs.length = len ∧ len ≤ cap ∧ cap ≤ maxLen ∧ (a = none → cap = 0) ∧
    (0 < len → ∃ b off, a = some ⟨b, off, none⟩ ∧ b < w.heap.size ∧ ∀ i, i < len → ∀ j, j < k → w.cell? ⟨b, off + i * k + j, none⟩ = (cells (xs.getD i default))[j]?)
theorem IsRow.below {α : Type} [Inhabited α] {k : Nat} {cells : α → List Value} {w w' : World} {a : Option Addr} {len cap : Nat} {xs : List α} (h : IsRow k cells w a len cap xs) (hb : Below w.heap.size w w') : IsRow k cells w' a len cap xs := by
  obtain ⟨h1, h2, h3, h4, h5⟩ := h
  refine ⟨h1, h2, h3, h4, fun hp => ?_⟩
  obtain ⟨b, off, e, hl, hc⟩ := h5 hp
  refine ⟨b, off, e, Nat.lt_of_lt_of_le hl hb.size, fun i hi j hj => ?_⟩
  rw [hb.cell (p := ⟨b, off + i * k + j, none⟩) hl]
  exact hc i hi j hj
theorem IsRow.take {α : Type} [Inhabited α] {k : Nat} {cells : α → List Value} {w : World} {a : Option Addr} {len cap : Nat} {xs : List α} (h : IsRow k cells w a len cap xs) (n : Nat) (hn : n ≤ len) : IsRow k cells w a n cap (xs.take n) := by
  obtain ⟨h1, h2, h3, h4, h5⟩ := h
  refine ⟨by simp; omega, by omega, h3, h4, fun hp => ?_⟩
  obtain ⟨b, off, e, hl, hc⟩ := h5 (by omega)
  refine ⟨b, off, e, hl, fun i hi j hj => ?_⟩
  rw [hc i (by omega) j hj]
  simp [List.getD, hi]
theorem isRow_nil {α : Type} [Inhabited α] (k : Nat) (cells : α → List Value) (w : World) : IsRow k cells w none 0 0 ([] : List α) := ⟨rfl, Nat.le_refl _, Nat.zero_le _, fun _ => rfl, fun h => absurd h (by omega)⟩
abbrev IsItems := @IsRow ItV _ 3 ItV.cells
abbrev IsLocks := @IsRow LkV _ 6 LkV.cells
abbrev IsDoubts := @IsRow DbV _ 3 DbV.cells
abbrev IsTxns := @IsRow (Int × Int) _ 2 txCells

/-- A store as it comes: four slices. -/
structure SV where
  ia : Option Addr
  il : Nat
  ic : Nat
  la : Option Addr
  ll : Nat
  lc : Nat
  da : Option Addr
  dl : Nat
  dc : Nat
  oa : Option Addr
  ol : Nat
  oc : Nat
  items : List ItV
  locks : List LkV
  doubts : List DbV
  over : List (Int × Int)
def SV.val (s : SV) : Value := .agg #[.slice s.ia s.il s.ic, .slice s.la s.ll s.lc, .slice s.da s.dl s.dc, .slice s.oa s.ol s.oc]
structure IsStore (w : World) (s : SV) : Prop where
  items : IsItems w s.ia s.il s.ic s.items
  locks : IsLocks w s.la s.ll s.lc s.locks
  doubts : IsDoubts w s.da s.dl s.dc s.doubts
  over : IsTxns w s.oa s.ol s.oc s.over
theorem IsStore.below {w w' : World} {s : SV} (h : IsStore w s) (hb : Below w.heap.size w w') : IsStore w' s := ⟨h.items.below hb, h.locks.below hb, h.doubts.below hb, h.over.below hb⟩

def inR (n lo hi : Int) : Bool := decide (lo ≤ n ∧ n ≤ hi)
theorem inR_true {n lo hi : Int} (h1 : lo ≤ n) (h2 : n ≤ hi) : inR n lo hi = true := by simp [inR, h1, h2]
theorem inR_of {n lo hi : Int} (h : inR n lo hi = true) : lo ≤ n ∧ n ≤ hi := by simpa [inR] using h
theorem inR_not {n lo hi : Int} (h : inR n lo hi = false) : n < lo ∨ hi < n := by simp [inR] at h; omega
def txOK (t : Int × Int) : Bool := inR t.1 0 3 && inR t.2 1 1048576
def itemsOK : Int → List ItV → Bool
  | _, [] => true
  | lo, x :: r => inR x.key lo 7 && inR x.value 0 1073741824 && inR x.version 1 1048576 && itemsOK (x.key + 1) r
def lockOK (k : LkV) : Bool := txOK k.t && inR k.key 0 7 && inR k.value 0 1073741824 && inR k.ask 0 1048576 && (k.write || (decide (k.value = 0) && decide (k.ask = 0)))
def against (k o : LkV) : Bool := decide (o.key = k.key) && (decide (o.t = k.t) || o.write || k.write)
def locksGo : List LkV → List LkV → Bool
  | _, [] => true
  | seen, k :: r => lockOK k && !(seen.any (against k)) && locksGo (seen ++ [k]) r
def locksOK (l : List LkV) : Bool := decide (l.length ≤ 24) && locksGo [] l
def overGo : List (Int × Int) → List (Int × Int) → Bool
  | _, [] => true
  | seen, t :: r => !(decide (t ∈ seen)) && txOK t && overGo (seen ++ [t]) r
def ofT (t : Int × Int) (k : LkV) : Bool := decide (k.t = t)
def dbT (t : Int × Int) (d : DbV) : Bool := decide (d.t = t)
def doubtsGo (ls : List LkV) (ov : List (Int × Int)) : List DbV → List DbV → Bool
  | _, [] => true
  | seen, d :: r => inR d.age 0 1048576 && ls.any (ofT d.t) && !(seen.any (dbT d.t)) && !(decide (d.t ∈ ov)) && doubtsGo ls ov (seen ++ [d]) r
def doubtsOK (ds : List DbV) (ls : List LkV) (ov : List (Int × Int)) : Bool := doubtsGo ls ov [] ds && ls.all (fun k => ds.any (dbT k.t))
def storeOK (s : SV) : Bool := itemsOK 0 s.items && locksOK s.locks && overGo [] s.over && doubtsOK s.doubts s.locks s.over

theorem drop_at {α : Type} [Inhabited α] {l : List α} {k : Nat} (hk : k < l.length) : l.drop k = l.getD k default :: l.drop (k + 1) := by
  rw [List.drop_eq_getElem_cons hk]; simp [List.getD, hk]
theorem take_at {α : Type} [Inhabited α] {l : List α} {k : Nat} (hk : k < l.length) : l.take (k + 1) = l.take k ++ [l.getD k default] := by
  rw [List.take_succ_eq_append_getElem hk]; simp [List.getD, hk]

/-- The place of the first that is meant; -1: there is none. -/
def idxI {α : Type} (p : α → Bool) (l : List α) : Int := match l.findIdx? p with | some k => (k : Int) | none => -1
theorem idxI_hit {α : Type} [Inhabited α] {p : α → Bool} {l : List α} {k : Nat} (hk : k < l.length) (hn : ∀ i, i < k → p (l.getD i default) = false) (hp : p (l.getD k default) = true) : idxI p l = k := by
  have : l.findIdx? p = some k := by
    rw [List.findIdx?_eq_some_iff_getElem]
    refine ⟨hk, by simpa [List.getD, hk] using hp, fun j hj => ?_⟩
    have := hn j hj
    have hj' : j < l.length := by omega
    simpa [List.getD, hj'] using this
  simp [idxI, this]
theorem idxI_none {α : Type} [Inhabited α] {p : α → Bool} {l : List α} (hn : ∀ i, i < l.length → p (l.getD i default) = false) : idxI p l = -1 := by
  have : l.findIdx? p = none := by
    rw [List.findIdx?_eq_none_iff]
    intro x hx
    obtain ⟨i, hi, rfl⟩ := List.getElem_of_mem hx
    simpa [List.getD, hi] using hn i hi
  simp [idxI, this]
theorem idxI_any {α : Type} (p : α → Bool) (l : List α) : decide (0 ≤ idxI p l) = l.any p := by
  unfold idxI
  cases h : l.findIdx? p with
  | none =>
    rw [List.findIdx?_eq_none_iff] at h
    have : l.any p = false := by
      rw [List.any_eq_false]
      intro x hx
      simp [h x hx]
    simp [this]
  | some k =>
    rw [List.findIdx?_eq_some_iff_getElem] at h
    obtain ⟨hk, hp, _⟩ := h
    have : l.any p = true := List.any_eq_true.2 ⟨_, List.getElem_mem hk, hp⟩
    simp [this]
theorem idxI_lt {α : Type} {p : α → Bool} {l : List α} : idxI p l < l.length ∧ -1 ≤ idxI p l := by
  unfold idxI
  cases h : l.findIdx? p with
  | none => simp; omega
  | some k =>
    rw [List.findIdx?_eq_some_iff_getElem] at h
    obtain ⟨hk, _, _⟩ := h
    simp
    omega
end Go.Proofs.YtgohpgollpjlnaaDoor.St
/- A box of n cells in memory, and what leaves it alone. -/
namespace Go.Proofs.YtgohpgollpjlnaaDoor.St
open Go.ChangeShapes Go.WideShapes Go.ChangeAt Go.RowKit
set_option linter.unusedVariables false

theorem set_ne {u : World} {b i j : Nat} {v : Value} (h : i ≠ j) : (u.setCell ⟨b, i, none⟩ v).cell? ⟨b, j, none⟩ = u.cell? ⟨b, j, none⟩ := by
  unfold World.setCell World.cell?
  simp only [Array.getElem?_modify]
  by_cases hb : b < u.heap.size
  · rw [Array.getElem?_eq_getElem hb]
    cases hc : u.heap[b] <;> simp [h]
  · rw [Array.getElem?_eq_none (by omega)]
    rfl
theorem set_frozen {u : World} {b i j : Nat} {v : Value} : (u.setCell ⟨b, i, none⟩ v).frozen? ⟨b, j, none⟩ = u.frozen? ⟨b, j, none⟩ := by
  unfold World.setCell World.frozen?
  simp only [Array.getElem?_modify]
  by_cases hb : b < u.heap.size
  · rw [Array.getElem?_eq_getElem hb]
    cases hc : u.heap[b] <;> simp
  · rw [Array.getElem?_eq_none (by omega)]
    rfl
/-- A box of n cells. -/
structure BoxN (u : World) (b n : Nat) (vs : List Value) : Prop where
  len : vs.length = n
  lt : b < u.heap.size
  c : ∀ i, i < n → u.cell? ⟨b, i, none⟩ = some (vs.getD i (.bool false)) ∧ u.frozen? ⟨b, i, none⟩ = false
theorem BoxN.set {u : World} {b n : Nat} {vs : List Value} (h : BoxN u b n vs) (k : Nat) (hk : k < n) (v : Value) : BoxN (u.setCell ⟨b, k, none⟩ v) b n (vs.set k v) := by
  refine ⟨by simp [h.len], by simpa using h.lt, fun i hi => ⟨?_, ?_⟩⟩
  · by_cases hik : k = i
    · subst hik
      rw [World.cell?_setCell_same u ⟨b, k, none⟩ _ (h.c k hk).1]
      simp [List.getD, h.len, hk]
    · rw [set_ne hik, (h.c i hi).1]
      simp [List.getD, hik]
  · rw [set_frozen]; exact (h.c i hi).2
theorem boxn_new (u : World) (cs : Array Value) (t : TypeId) (n : Nat) (hn : cs.size = n) : BoxN (u.alloc (.cells cs t)) u.heap.size n cs.toList := by
  refine ⟨by simpa using hn, by simp, fun i hi => ?_⟩
  have hb : (u.alloc (.cells cs t)).heap[u.heap.size]? = some (.cells cs t (0, 0)) := heap_alloc_new u _
  refine ⟨?_, ?_⟩
  · rw [cell_of_row _ u.heap.size i cs t (0, 0) hb]
    rw [Array.getElem?_eq_getElem (by omega)]
    simp [List.getD, show i < cs.size by omega]
  · simp only [World.frozen?, hb]
    simp
theorem BoxN.below {u u' : World} {b n B : Nat} {vs : List Value} (h : BoxN u b n vs) (hb : Below B u u') (hB : b < B) : BoxN u' b n vs := by
  have e := hb.block b hB
  refine ⟨h.len, Nat.lt_of_lt_of_le h.lt hb.size, fun i hi => ⟨?_, ?_⟩⟩
  · rw [World.cell?_of_block (a := ⟨b, i, none⟩) e]; exact (h.c i hi).1
  · rw [World.frozen?_of_block (a := ⟨b, i, none⟩) e]; exact (h.c i hi).2
theorem BoxN.grown {u u' : World} {b n : Nat} {vs : List Value} {row : Option Nat} (h : BoxN u b n vs) (hg : u.grownBy u' row) (hne : some b ≠ row) : BoxN u' b n vs := by
  have e := hg.block b h.lt hne
  refine ⟨h.len, Nat.lt_of_lt_of_le h.lt hg.size, fun i hi => ⟨?_, ?_⟩⟩
  · rw [World.cell?_of_block (a := ⟨b, i, none⟩) e]; exact (h.c i hi).1
  · rw [World.frozen?_of_block (a := ⟨b, i, none⟩) e]; exact (h.c i hi).2
theorem BoxN.far {u : World} {b n c k : Nat} {vs : List Value} {v : Value} (h : BoxN u b n vs) (hne : b ≠ c) : BoxN (u.setCell ⟨c, k, none⟩ v) b n vs := by
  have e : (u.setCell ⟨c, k, none⟩ v).heap[b]? = u.heap[b]? := Below.heap_setCell u _ _ b hne
  refine ⟨h.len, by simpa using h.lt, fun i hi => ⟨?_, ?_⟩⟩
  · rw [World.cell?_of_block (a := ⟨b, i, none⟩) e]; exact (h.c i hi).1
  · rw [World.frozen?_of_block (a := ⟨b, i, none⟩) e]; exact (h.c i hi).2
end Go.Proofs.YtgohpgollpjlnaaDoor.St
/- Rows that a call makes of its own: elements of several cells, one behind the other; append of one, and of all of a slice. -/
namespace Go.Proofs.YtgohpgollpjlnaaDoor.St
open Go.ChangeShapes Go.WideShapes Go.ChangeAt Go.RowKit
set_option linter.unusedVariables false

theorem adr_add (b off i : Nat) : (⟨b, off, none⟩ : Addr).add i = ⟨b, off + i, none⟩ := by
  unfold Addr.add
  by_cases h : i = 0 <;> simp [h]
def flat {α : Type} (cells : α → List Value) (xs : List α) : List Value := xs.flatMap cells
theorem flat_append {α : Type} (cells : α → List Value) (xs ys : List α) : flat cells (xs ++ ys) = flat cells xs ++ flat cells ys := by simp [flat]
theorem flat_len {α : Type} {cells : α → List Value} {k : Nat} (hk : ∀ x, (cells x).length = k) (xs : List α) : (flat cells xs).length = xs.length * k := by
  induction xs with
  | nil => simp [flat]
  | cons x r ih =>
    simp only [flat, List.flatMap_cons, List.length_append, List.length_cons] at *
    rw [ih, hk]
    rw [Nat.add_mul]
    omega
theorem flat_get {α : Type} [Inhabited α] {cells : α → List Value} {k : Nat} (hk : ∀ x, (cells x).length = k) : ∀ (xs : List α) (i : Nat), i < xs.length → ∀ j, j < k → (flat cells xs)[i * k + j]? = (cells (xs.getD i default))[j]? := by
  intro xs
  induction xs with
  | nil => intro i hi; simp at hi
  | cons x r ih =>
    intro i hi j hj
    have e : flat cells (x :: r) = cells x ++ flat cells r := by simp [flat]
    rw [e]
    cases i with
    | zero =>
      rw [List.getElem?_append_left (by rw [hk]; omega)]
      simp
    | succ i =>
      rw [List.getElem?_append_right (by rw [hk, Nat.add_mul]; omega), hk]
      have : (i + 1) * k + j - k = i * k + j := by rw [Nat.add_mul]; omega
      rw [this, ih i (by simpa using hi) j hj]
      simp
theorem own_form {w : World} {B : Nat} {e : TypeId} {size : Nat} {v : Value} {n : Nat} {xs : List Value} (h : w.ownsRow B e size v n xs) : ∃ a cap, v = .slice a n cap ∧ n ≤ cap ∧ cap ≤ maxLen ∧ (a = none → cap = 0) := by
  rcases h.2 with ⟨rfl, rfl⟩ | ⟨g, cap, cur, rfl, _, _, h1, h2, _⟩
  · exact ⟨none, 0, rfl, Nat.le_refl _, Nat.zero_le _, fun _ => rfl⟩
  · exact ⟨_, cap, rfl, h1, h2, fun e => by simp at e⟩
theorem own_below {w w' : World} {base : Nat} {e : TypeId} {size : Nat} {v : Value} {n : Nat} {xs : List Value} (h : w.ownsRow base e size v n xs) (hb : Below w.heap.size w w') : w'.ownsRow base e size v n xs :=
  h.kept (row := none) ⟨hb.os, hb.tape, hb.output, hb.size, fun k hk _ => hb.block k hk⟩ (by cases hv : v.ownBlock <;> simp)
/-- What a call owns is there to be read. -/
theorem own_isRow {α : Type} [Inhabited α] {k : Nat} {cells : α → List Value} (hk : ∀ x, (cells x).length = k) {w : World} {B : Nat} {te : TypeId} {a : Option Addr} {n cap : Nat} {xs : List α} (h : w.ownsRow B te k (.slice a n cap) n (flat cells xs)) (hn : xs.length = n) :
    IsRow k cells w a n cap xs ∧ ∀ b off, a = some ⟨b, off, none⟩ → B ≤ b ∧ b < w.heap.size := by
  obtain ⟨a', cap', e, h1, h2, h3⟩ := own_form h
  simp at e
  obtain ⟨rfl, rfl⟩ := e
  refine ⟨⟨hn, h1, h2, h3, fun hp => ?_⟩, fun b off e => ?_⟩
  · rcases h.2 with ⟨_, h0⟩ | ⟨g, cap2, cur, hv, hb, hg, _⟩
    · omega
    · simp at hv
      obtain ⟨rfl, rfl⟩ := hv
      refine ⟨g, 0, rfl, (h.lt g rfl).2, fun i hi j hj => ?_⟩
      have hf := flat_get hk xs i (by omega) j hj
      have hc : j < (cells (xs.getD i default)).length := by rw [hk]; exact hj
      rw [List.getElem?_eq_getElem hc] at hf
      have := h.cells (g := g) rfl _ _ hf
      rw [adr_add, ← Nat.add_assoc] at this
      rw [this, List.getElem?_eq_getElem hc]
  · subst e
    rcases h.2 with ⟨hv, h0⟩ | ⟨g, cap2, cur, hv, hb, hg, _⟩
    · simp at hv
    · simp at hv
      obtain ⟨⟨rfl, rfl⟩, rfl⟩ := hv
      exact h.lt _ rfl
theorem news_at {W : World} {n : Nat} (cs : Array Value) (t : TypeId) (h : W.heap.size = n) : ∀ j u, cs.toList[j]? = some u → (W.alloc (.cells cs t)).cell? ((⟨n, 0, none⟩ : Addr).add j) = some u := by
  subst h
  exact World.news_of_block (heap_alloc_new W _)
theorem lk_len (x : LkV) : x.cells.length = 6 := rfl
theorem lk_one (y : LkV) : ∀ u ∈ y.cells, u.oneCell' = true := by
  intro u hu
  simp [LkV.cells] at hu
  rcases hu with h | h | h | h | h | h <;> subst h <;> rfl
theorem lkInfo : (Tryd.prog.info? 111).map (fun i => (i.zero, i.size, i.bytes)) = some (some (.agg #[.int .i64 0, .int .i64 0, .int .i64 0, .bool false, .int .i64 0, .int .i64 0]), 6, 48) := by kernel_rfl
end Go.Proofs.YtgohpgollpjlnaaDoor.St
