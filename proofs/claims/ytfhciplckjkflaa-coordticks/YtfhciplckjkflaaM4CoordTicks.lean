/- Texts of this claim, one behind the other. -/
import Derived.Test.YtfhciplckjkflaaProg
import Derived.Test.YtfhciplckjkflaaA0CoordTicks
import Derived.WalkKit
import Derived.ProofKit
import Derived.Below
import Derived.OwnWalk
import Derived.OpenShut
import Derived.Deep.QuietTactic
import Derived.BigQuiet
import Derived.BigRegion
import Derived.LoopTactic
import Derived.RegionTactic
import Derived.WalkSmall
import Derived.Test.YtfhciplckjkflaaM2CoordTicks
/- What a store holds, on plain data, and rows of it in memory: items, locks, doubts, transactions; what a store that may be is. -/
namespace Go.Proofs.Ytfhciplckjkflaa.St
open Go.ChangeShapes Go.WideShapes Go.ChangeAt Go.RowKit
set_option linter.unusedVariables false

structure ItV where
  key : Int
  value : Int
  version : Int
structure LkV where
  t : Int × Int
  key : Int
  write : Bool
  value : Int
  ask : Int
structure DbV where
  t : Int × Int
  age : Int
instance : Inhabited ItV := ⟨⟨0, 0, 0⟩⟩
instance : Inhabited LkV := ⟨⟨(0, 0), 0, false, 0, 0⟩⟩
instance : Inhabited DbV := ⟨⟨(0, 0), 0⟩⟩
def ItV.cells (x : ItV) : List Value := [.int .i64 x.key, .int .i64 x.value, .int .i64 x.version]
def LkV.cells (x : LkV) : List Value := [.int .i64 x.t.1, .int .i64 x.t.2, .int .i64 x.key, .bool x.write, .int .i64 x.value, .int .i64 x.ask]
def DbV.cells (x : DbV) : List Value := [.int .i64 x.t.1, .int .i64 x.t.2, .int .i64 x.age]
def txCells (t : Int × Int) : List Value := [.int .i64 t.1, .int .i64 t.2]
def ItV.val (x : ItV) : Value := .agg #[.int .i64 x.key, .int .i64 x.value, .int .i64 x.version]
def LkV.val (x : LkV) : Value := .agg #[.int .i64 x.t.1, .int .i64 x.t.2, .int .i64 x.key, .bool x.write, .int .i64 x.value, .int .i64 x.ask]
def DbV.val (x : DbV) : Value := .agg #[.int .i64 x.t.1, .int .i64 x.t.2, .int .i64 x.age]
def txVal (t : Int × Int) : Value := .agg #[.int .i64 t.1, .int .i64 t.2]

/-- Elements of k cells each that lie one behind the other. -/
def IsRow {α : Type} [Inhabited α] (k : Nat) (cells : α → List Value) (w : World) (a : Option Addr) (len cap : Nat) (xs : List α) : Prop :=
  xs.length = len ∧ len ≤ cap ∧ cap ≤ maxLen ∧ (a = none → cap = 0) ∧
    (0 < len → ∃ b off, a = some ⟨b, off, none⟩ ∧ b < w.heap.size ∧ ∀ i, i < len → ∀ j, j < k → w.cell? ⟨b, off + i * k + j, none⟩ = (cells (xs.getD i default))[j]?)
theorem IsRow.below {α : Type} [Inhabited α] {k : Nat} {cells : α → List Value} {w w' : World} {a : Option Addr} {len cap : Nat} {xs : List α} (h : IsRow k cells w a len cap xs) (hb : Below w.heap.size w w') : IsRow k cells w' a len cap xs := by
  obtain ⟨h1, h2, h3, h4, h5⟩ := h
  refine ⟨h1, h2, h3, h4, fun hp => ?_⟩
  obtain ⟨b, off, e, hl, hc⟩ := h5 hp
  refine ⟨b, off, e, Nat.lt_of_lt_of_le hl hb.size, fun i hi j hj => ?_⟩
  rw [hb.cell (p := ⟨b, off + i * k + j, none⟩) hl]
  exact hc i hi j hj
theorem IsRow.take {α : Type} [Inhabited α] {k : Nat} {cells : α → List Value} {w : World} {a : Option Addr} {len cap : Nat} {xs : List α} (h : IsRow k cells w a len cap xs) (n : Nat) (hn : n ≤ len) : IsRow k cells w a n cap (xs.take n) := by
  obtain ⟨h1, h2, h3, h4, h5⟩ := h
  refine ⟨by simp; omega, by omega, h3, h4, fun hp => ?_⟩
  obtain ⟨b, off, e, hl, hc⟩ := h5 (by omega)
  refine ⟨b, off, e, hl, fun i hi j hj => ?_⟩
  rw [hc i (by omega) j hj]
  simp [List.getD, hi]
theorem isRow_nil {α : Type} [Inhabited α] (k : Nat) (cells : α → List Value) (w : World) : IsRow k cells w none 0 0 ([] : List α) := ⟨rfl, Nat.le_refl _, Nat.zero_le _, fun _ => rfl, fun h => absurd h (by omega)⟩
abbrev IsItems := @IsRow ItV _ 3 ItV.cells
abbrev IsLocks := @IsRow LkV _ 6 LkV.cells
abbrev IsDoubts := @IsRow DbV _ 3 DbV.cells
abbrev IsTxns := @IsRow (Int × Int) _ 2 txCells

/-- A store as it comes: four slices. -/
structure SV where
  ia : Option Addr
  il : Nat
  ic : Nat
  la : Option Addr
  ll : Nat
  lc : Nat
  da : Option Addr
  dl : Nat
  dc : Nat
  oa : Option Addr
  ol : Nat
  oc : Nat
  items : List ItV
  locks : List LkV
  doubts : List DbV
  over : List (Int × Int)
def SV.val (s : SV) : Value := .agg #[.slice s.ia s.il s.ic, .slice s.la s.ll s.lc, .slice s.da s.dl s.dc, .slice s.oa s.ol s.oc]
structure IsStore (w : World) (s : SV) : Prop where
  items : IsItems w s.ia s.il s.ic s.items
  locks : IsLocks w s.la s.ll s.lc s.locks
  doubts : IsDoubts w s.da s.dl s.dc s.doubts
  over : IsTxns w s.oa s.ol s.oc s.over
theorem IsStore.below {w w' : World} {s : SV} (h : IsStore w s) (hb : Below w.heap.size w w') : IsStore w' s := ⟨h.items.below hb, h.locks.below hb, h.doubts.below hb, h.over.below hb⟩

def inR (n lo hi : Int) : Bool := decide (lo ≤ n ∧ n ≤ hi)
theorem inR_true {n lo hi : Int} (h1 : lo ≤ n) (h2 : n ≤ hi) : inR n lo hi = true := by simp [inR, h1, h2]
theorem inR_of {n lo hi : Int} (h : inR n lo hi = true) : lo ≤ n ∧ n ≤ hi := by simpa [inR] using h
theorem inR_not {n lo hi : Int} (h : inR n lo hi = false) : n < lo ∨ hi < n := by simp [inR] at h; omega
def txOK (t : Int × Int) : Bool := inR t.1 0 3 && inR t.2 1 1048576
def itemsOK : Int → List ItV → Bool
  | _, [] => true
  | lo, x :: r => inR x.key lo 7 && inR x.value 0 1073741824 && inR x.version 1 1048576 && itemsOK (x.key + 1) r
def lockOK (k : LkV) : Bool := txOK k.t && inR k.key 0 7 && inR k.value 0 1073741824 && inR k.ask 0 1048576 && (k.write || (decide (k.value = 0) && decide (k.ask = 0)))
def against (k o : LkV) : Bool := decide (o.key = k.key) && (decide (o.t = k.t) || o.write || k.write)
def locksGo : List LkV → List LkV → Bool
  | _, [] => true
  | seen, k :: r => lockOK k && !(seen.any (against k)) && locksGo (seen ++ [k]) r
def locksOK (l : List LkV) : Bool := decide (l.length ≤ 24) && locksGo [] l
def overGo : List (Int × Int) → List (Int × Int) → Bool
  | _, [] => true
  | seen, t :: r => !(decide (t ∈ seen)) && txOK t && overGo (seen ++ [t]) r
def ofT (t : Int × Int) (k : LkV) : Bool := decide (k.t = t)
def dbT (t : Int × Int) (d : DbV) : Bool := decide (d.t = t)
def doubtsGo (ls : List LkV) (ov : List (Int × Int)) : List DbV → List DbV → Bool
  | _, [] => true
  | seen, d :: r => inR d.age 0 1048576 && ls.any (ofT d.t) && !(seen.any (dbT d.t)) && !(decide (d.t ∈ ov)) && doubtsGo ls ov (seen ++ [d]) r
def doubtsOK (ds : List DbV) (ls : List LkV) (ov : List (Int × Int)) : Bool := doubtsGo ls ov [] ds && ls.all (fun k => ds.any (dbT k.t))
def storeOK (s : SV) : Bool := itemsOK 0 s.items && locksOK s.locks && overGo [] s.over && doubtsOK s.doubts s.locks s.over

theorem drop_at {α : Type} [Inhabited α] {l : List α} {k : Nat} (hk : k < l.length) : l.drop k = l.getD k default :: l.drop (k + 1) := by
  rw [List.drop_eq_getElem_cons hk]; simp [List.getD, hk]
theorem take_at {α : Type} [Inhabited α] {l : List α} {k : Nat} (hk : k < l.length) : l.take (k + 1) = l.take k ++ [l.getD k default] := by
  rw [List.take_succ_eq_append_getElem hk]; simp [List.getD, hk]

/-- The place of the first that is meant; -1: there is none. -/
def idxI {α : Type} (p : α → Bool) (l : List α) : Int := match l.findIdx? p with | some k => (k : Int) | none => -1
theorem idxI_hit {α : Type} [Inhabited α] {p : α → Bool} {l : List α} {k : Nat} (hk : k < l.length) (hn : ∀ i, i < k → p (l.getD i default) = false) (hp : p (l.getD k default) = true) : idxI p l = k := by
  have : l.findIdx? p = some k := by
    rw [List.findIdx?_eq_some_iff_getElem]
    refine ⟨hk, by simpa [List.getD, hk] using hp, fun j hj => ?_⟩
    have := hn j hj
    have hj' : j < l.length := by omega
    simpa [List.getD, hj'] using this
  simp [idxI, this]
theorem idxI_none {α : Type} [Inhabited α] {p : α → Bool} {l : List α} (hn : ∀ i, i < l.length → p (l.getD i default) = false) : idxI p l = -1 := by
  have : l.findIdx? p = none := by
    rw [List.findIdx?_eq_none_iff]
    intro x hx
    obtain ⟨i, hi, rfl⟩ := List.getElem_of_mem hx
    simpa [List.getD, hi] using hn i hi
  simp [idxI, this]
theorem idxI_any {α : Type} (p : α → Bool) (l : List α) : decide (0 ≤ idxI p l) = l.any p := by
  unfold idxI
  cases h : l.findIdx? p with
  | none =>
    rw [List.findIdx?_eq_none_iff] at h
    have : l.any p = false := by
      rw [List.any_eq_false]
      intro x hx
      simp [h x hx]
    simp [this]
  | some k =>
    rw [List.findIdx?_eq_some_iff_getElem] at h
    obtain ⟨hk, hp, _⟩ := h
    have : l.any p = true := List.any_eq_true.2 ⟨_, List.getElem_mem hk, hp⟩
    simp [this]
theorem idxI_lt {α : Type} {p : α → Bool} {l : List α} : idxI p l < l.length ∧ -1 ≤ idxI p l := by
  unfold idxI
  cases h : l.findIdx? p with
  | none => simp; omega
  | some k =>
    rw [List.findIdx?_eq_some_iff_getElem] at h
    obtain ⟨hk, _, _⟩ := h
    simp
    omega
end Go.Proofs.Ytfhciplckjkflaa.St
/- A box of n cells in memory, and what leaves it alone. -/
namespace Go.Proofs.Ytfhciplckjkflaa.St
open Go.ChangeShapes Go.WideShapes Go.ChangeAt Go.RowKit
set_option linter.unusedVariables false

theorem set_ne {u : World} {b i j : Nat} {v : Value} (h : i ≠ j) : (u.setCell ⟨b, i, none⟩ v).cell? ⟨b, j, none⟩ = u.cell? ⟨b, j, none⟩ := by
  unfold World.setCell World.cell?
  simp only [Array.getElem?_modify]
  by_cases hb : b < u.heap.size
  · rw [Array.getElem?_eq_getElem hb]
    cases hc : u.heap[b] <;> simp [h]
  · rw [Array.getElem?_eq_none (by omega)]
    rfl
theorem set_frozen {u : World} {b i j : Nat} {v : Value} : (u.setCell ⟨b, i, none⟩ v).frozen? ⟨b, j, none⟩ = u.frozen? ⟨b, j, none⟩ := by
  unfold World.setCell World.frozen?
  simp only [Array.getElem?_modify]
  by_cases hb : b < u.heap.size
  · rw [Array.getElem?_eq_getElem hb]
    cases hc : u.heap[b] <;> simp
  · rw [Array.getElem?_eq_none (by omega)]
    rfl
/-- A box of n cells. -/
structure BoxN (u : World) (b n : Nat) (vs : List Value) : Prop where
  len : vs.length = n
  lt : b < u.heap.size
  c : ∀ i, i < n → u.cell? ⟨b, i, none⟩ = some (vs.getD i (.bool false)) ∧ u.frozen? ⟨b, i, none⟩ = false
theorem BoxN.set {u : World} {b n : Nat} {vs : List Value} (h : BoxN u b n vs) (k : Nat) (hk : k < n) (v : Value) : BoxN (u.setCell ⟨b, k, none⟩ v) b n (vs.set k v) := by
  refine ⟨by simp [h.len], by simpa using h.lt, fun i hi => ⟨?_, ?_⟩⟩
  · by_cases hik : k = i
    · subst hik
      rw [World.cell?_setCell_same u ⟨b, k, none⟩ _ (h.c k hk).1]
      simp [List.getD, h.len, hk]
    · rw [set_ne hik, (h.c i hi).1]
      simp [List.getD, hik]
  · rw [set_frozen]; exact (h.c i hi).2
theorem boxn_new (u : World) (cs : Array Value) (t : TypeId) (n : Nat) (hn : cs.size = n) : BoxN (u.alloc (.cells cs t)) u.heap.size n cs.toList := by
  refine ⟨by simpa using hn, by simp, fun i hi => ?_⟩
  have hb : (u.alloc (.cells cs t)).heap[u.heap.size]? = some (.cells cs t (0, 0)) := heap_alloc_new u _
  refine ⟨?_, ?_⟩
  · rw [cell_of_row _ u.heap.size i cs t (0, 0) hb]
    rw [Array.getElem?_eq_getElem (by omega)]
    simp [List.getD, show i < cs.size by omega]
  · simp only [World.frozen?, hb]
    simp
theorem BoxN.below {u u' : World} {b n B : Nat} {vs : List Value} (h : BoxN u b n vs) (hb : Below B u u') (hB : b < B) : BoxN u' b n vs := by
  have e := hb.block b hB
  refine ⟨h.len, Nat.lt_of_lt_of_le h.lt hb.size, fun i hi => ⟨?_, ?_⟩⟩
  · rw [World.cell?_of_block (a := ⟨b, i, none⟩) e]; exact (h.c i hi).1
  · rw [World.frozen?_of_block (a := ⟨b, i, none⟩) e]; exact (h.c i hi).2
theorem BoxN.grown {u u' : World} {b n : Nat} {vs : List Value} {row : Option Nat} (h : BoxN u b n vs) (hg : u.grownBy u' row) (hne : some b ≠ row) : BoxN u' b n vs := by
  have e := hg.block b h.lt hne
  refine ⟨h.len, Nat.lt_of_lt_of_le h.lt hg.size, fun i hi => ⟨?_, ?_⟩⟩
  · rw [World.cell?_of_block (a := ⟨b, i, none⟩) e]; exact (h.c i hi).1
  · rw [World.frozen?_of_block (a := ⟨b, i, none⟩) e]; exact (h.c i hi).2
theorem BoxN.far {u : World} {b n c k : Nat} {vs : List Value} {v : Value} (h : BoxN u b n vs) (hne : b ≠ c) : BoxN (u.setCell ⟨c, k, none⟩ v) b n vs := by
  have e : (u.setCell ⟨c, k, none⟩ v).heap[b]? = u.heap[b]? := Below.heap_setCell u _ _ b hne
  refine ⟨h.len, by simpa using h.lt, fun i hi => ⟨?_, ?_⟩⟩
  · rw [World.cell?_of_block (a := ⟨b, i, none⟩) e]; exact (h.c i hi).1
  · rw [World.frozen?_of_block (a := ⟨b, i, none⟩) e]; exact (h.c i hi).2
end Go.Proofs.Ytfhciplckjkflaa.St
/- A desk's jobs and their tasks, on plain data, and in memory; what a desk that may be is. -/
namespace Go.Proofs.Ytfhciplckjkflaa.Co
open Go.ChangeShapes Go.WideShapes Go.ChangeAt Go.RowKit
open Go.Proofs.Ytfhciplckjkflaa.St (IsRow drop_at take_at BoxN boxn_new)
set_option linter.unusedVariables false

structure TkV where
  write : Bool
  label : Int
  key : Int
  value : Int
  version : Int
  ask : Int
  done : Bool
  sure : Bool
instance : Inhabited TkV := ⟨⟨false, 0, 0, 0, 0, 0, false, false⟩⟩
def TkV.cells (x : TkV) : List Value := [.bool x.write, .int .i64 x.label, .int .i64 x.key, .int .i64 x.value, .int .i64 x.version, .int .i64 x.ask, .bool x.done, .bool x.sure]
def TkV.val (x : TkV) : Value := .agg #[.bool x.write, .int .i64 x.label, .int .i64 x.key, .int .i64 x.value, .int .i64 x.version, .int .i64 x.ask, .bool x.done, .bool x.sure]
def inCell (n : Int) : List Value := [.int .i64 n]
structure JbV where
  n : Int
  state : Int
  ta : Option Addr
  tl : Nat
  tc : Nat
  aa : Option Addr
  al : Nat
  ac : Nat
  asks : Int
  age : Int
  tasks : List TkV
  asked : List Int
instance : Inhabited JbV := ⟨⟨0, 0, none, 0, 0, none, 0, 0, 0, 0, [], []⟩⟩
def JbV.cells (j : JbV) : List Value := [.int .i64 j.n, .int .i64 j.state, .slice j.ta j.tl j.tc, .slice j.aa j.al j.ac, .int .i64 j.asks, .int .i64 j.age]
def JbV.val (j : JbV) : Value := .agg #[.int .i64 j.n, .int .i64 j.state, .slice j.ta j.tl j.tc, .slice j.aa j.al j.ac, .int .i64 j.asks, .int .i64 j.age]
abbrev IsTasks := @IsRow TkV _ 8 TkV.cells
abbrev IsSites := @IsRow Int _ 1 inCell
structure IsJob (w : World) (j : JbV) : Prop where
  tasks : IsTasks w j.ta j.tl j.tc j.tasks
  asked : IsSites w j.aa j.al j.ac j.asked
theorem IsJob.below {w w' : World} {j : JbV} (h : IsJob w j) (hb : Below w.heap.size w w') : IsJob w' j := ⟨h.tasks.below hb, h.asked.below hb⟩
structure IsJobs (w : World) (a : Option Addr) (n c : Nat) (js : List JbV) : Prop where
  row : IsRow 6 JbV.cells w a n c js
  each : ∀ j ∈ js, IsJob w j
theorem IsJobs.below {w w' : World} {a : Option Addr} {n c : Nat} {js : List JbV} (h : IsJobs w a n c js) (hb : Below w.heap.size w w') : IsJobs w' a n c js := ⟨h.row.below hb, fun j hj => (h.each j hj).below hb⟩

/-- What a task may be by itself; nl: how many labels there are. -/
def tkOK (nl : Int) (t : TkV) : Bool := inR t.label 0 (nl - 1) && inR t.key 0 7 && inR t.value 0 1073741824 && inR t.version 0 1048576 && (t.done || (!t.sure && (t.write || (decide (t.value = 0) && decide (t.version = 0)))))
def tksGo (nl asks state : Int) : Int → List TkV → Bool
  | _, [] => true
  | low, t :: r => inR t.ask low asks && tkOK nl t && (t.done || (r.isEmpty && decide (state = 1))) && tksGo nl asks state (t.ask + 1) r
def tksOK (nl asks state : Int) (l : List TkV) : Bool := decide (l.length ≤ 10) && tksGo nl asks state 1 l
def rise (s : Int) : Int → List Int → Bool
  | _, [] => true
  | low, n :: r => inR n low (s - 1) && rise s (n + 1) r
def jbOK (s nl : Int) (j : JbV) : Bool := inR j.age 0 1048576 && inR j.state 1 3 && inR j.asks 0 1048576 && rise s 0 j.asked && (decide (j.state = 3) == decide (0 < j.asked.length)) && tksOK nl j.asks j.state j.tasks
def jbsGo (s nl next : Int) : Int → List JbV → Bool
  | _, [] => true
  | low, j :: r => inR j.n low (next - 1) && jbOK s nl j && jbsGo s nl next (j.n + 1) r
def jbsOK (s nl next : Int) (l : List JbV) : Bool := decide (l.length ≤ 6) && jbsGo s nl next 1 l
def dkErr (s : Int) (ls : List (Int × Int)) (p next : Int) (l : List JbV) : Int := if cfgFault s ls p = 0 then (if inR next 1 1048577 && jbsOK s ls.length next l then 0 else 9) else cfgFault s ls p
theorem mem_at {α : Type} [Inhabited α] {l : List α} {i : Nat} (h : i < l.length) : l.getD i default ∈ l := by
  simp [List.getD, h]
theorem tksGo_at {nl asks state low : Int} {l : List TkV} {k : Nat} (hk : k < l.length) : tksGo nl asks state low (l.drop k) = (inR (l.getD k default).ask low asks && tkOK nl (l.getD k default) && ((l.getD k default).done || (decide (k + 1 = l.length) && decide (state = 1))) && tksGo nl asks state ((l.getD k default).ask + 1) (l.drop (k + 1))) := by
  rw [drop_at hk, tksGo]
  have : (l.drop (k + 1)).isEmpty = decide (k + 1 = l.length) := by
    rw [Bool.eq_iff_iff, List.isEmpty_iff]
    simp
    omega
  rw [this]
theorem rise_at {s low : Int} {l : List Int} {k : Nat} (hk : k < l.length) : rise s low (l.drop k) = (inR (l.getD k default) low (s - 1) && rise s (l.getD k default + 1) (l.drop (k + 1))) := by
  rw [drop_at hk, rise]
theorem jbsGo_at {s nl next low : Int} {l : List JbV} {k : Nat} (hk : k < l.length) : jbsGo s nl next low (l.drop k) = (inR (l.getD k default).n low (next - 1) && jbOK s nl (l.getD k default) && jbsGo s nl next ((l.getD k default).n + 1) (l.drop (k + 1))) := by
  rw [drop_at hk, jbsGo]
end Go.Proofs.Ytfhciplckjkflaa.Co
