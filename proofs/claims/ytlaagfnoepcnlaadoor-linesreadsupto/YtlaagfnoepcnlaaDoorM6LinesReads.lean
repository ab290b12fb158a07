/- Texts of this claim, one behind the other. -/
import Derived.Test.YtlaagfnoepcnlaaDoorM4LinesReads
import Derived.Test.YtlaagfnoepcnlaaDoorA5LinesReads
import Derived.OwnWalk
import Derived.Test.YtlaagfnoepcnlaaDoorProg
import Derived.Test.YtlaagfnoepcnlaaDoorA0LinesReads
import Derived.WalkKit
import Derived.ProofKit
import Derived.Below
import Derived.OpenShut
import Derived.Deep.QuietTactic
import Derived.BigQuiet
import Derived.BigRegion
import Derived.LoopTactic
import Derived.RegionTactic
import Derived.WalkSmall
/- Acts as they lie in memory: twelve cells each, and the numbers that a Keep leads to; and what Purge makes of them, on plain data. -/
namespace Go.Proofs.YtlaagfnoepcnlaaDoor
open Go.ChangeShapes Go.WideShapes Go.ChangeAt Go.RowKit

/-- An act: its numbers, its Keep's header and numbers, its call, its line. -/
structure AV where
  kind : Int
  site : Int
  to : Int
  label : Int
  pick : Int
  ka : Option Addr
  kl : Nat
  kc : Nat
  c0 : Int
  c1 : Int
  c2 : Int
  c3 : Int
  c4 : Int
  line : ByteArray
  keep : List Int

instance : Inhabited AV := ⟨⟨0, 0, 0, 0, 0, none, 0, 0, 0, 0, 0, 0, 0, .empty, []⟩⟩

/-- The act, but for where its Keep lies. -/
def AV.bare (a : AV) : AV := { a with ka := none, kl := 0, kc := 0 }

def AV.cells (a : AV) : List Value :=
  [.int .i64 a.kind, .int .i64 a.site, .int .i64 a.to, .int .i64 a.label, .int .i64 a.pick, .slice a.ka a.kl a.kc, .int .i64 a.c0, .int .i64 a.c1, .int .i64 a.c2, .int .i64 a.c3, .int .i64 a.c4, .string a.line]
theorem AV.cells_len (a : AV) : a.cells.length = 12 := rfl

def flatActs (xs : List AV) : List Value := xs.flatMap AV.cells
theorem flatActs_len (xs : List AV) : (flatActs xs).length = xs.length * 12 := by
  unfold flatActs
  induction xs with
  | nil => rfl
  | cons a l ih => simp [AV.cells_len] at ih ⊢; omega
theorem flatActs_append (xs : List AV) (a : AV) : flatActs (xs ++ [a]) = flatActs xs ++ a.cells := by simp [flatActs]
theorem flatActs_get (xs : List AV) : ∀ i, i < xs.length → ∀ j, j < 12 → (flatActs xs)[i * 12 + j]? = (xs.getD i default).cells[j]? := by
  induction xs with
  | nil => intro i hi; simp at hi
  | cons a l ih =>
    intro i hi j hj
    cases i with
    | zero =>
      have : j < a.cells.length := by rw [AV.cells_len]; exact hj
      have e : flatActs (a :: l) = a.cells ++ flatActs l := by simp [flatActs]
      rw [e, Nat.zero_mul, Nat.zero_add, List.getElem?_append_left this]
      simp
    | succ i =>
      have e : flatActs (a :: l) = a.cells ++ flatActs l := by simp [flatActs]
      rw [e, List.getElem?_append_right (by rw [AV.cells_len]; omega), AV.cells_len, show (i + 1) * 12 + j - 12 = i * 12 + j by omega, ih i (by simpa using hi) j hj]
      simp

/-- Acts that lie in memory one behind the other, their Keeps wherever they are. -/
def ActsAt (w : World) (b off : Nat) (xs : List AV) : Prop :=
  b < w.heap.size ∧ ∀ i, i < xs.length → (∀ j, j < 12 → w.cell? ⟨b, off + i * 12 + j, none⟩ = (xs.getD i default).cells[j]?) ∧ IsInts w (xs.getD i default).ka (xs.getD i default).kl (xs.getD i default).kc (xs.getD i default).keep

theorem ActsAt.below {w w' : World} {b off : Nat} {xs : List AV} (h : ActsAt w b off xs) (hb : Below w.heap.size w w') : ActsAt w' b off xs := by
  refine ⟨Nat.lt_of_lt_of_le h.1 hb.size, fun i hi => ⟨fun j hj => ?_, ((h.2 i hi).2).below hb⟩⟩
  rw [hb.cell (p := ⟨b, off + i * 12 + j, none⟩) h.1]
  exact (h.2 i hi).1 j hj

def IsActs (w : World) (a : Option Addr) (len cap : Nat) (xs : List AV) : Prop :=
  xs.length = len ∧ len ≤ cap ∧ cap ≤ maxLen ∧ (0 < len → ∃ b off, a = some ⟨b, off, none⟩ ∧ ActsAt w b off xs)

theorem IsActs.below {w w' : World} {a : Option Addr} {len cap : Nat} {xs : List AV} (h : IsActs w a len cap xs) (hb : Below w.heap.size w w') : IsActs w' a len cap xs := by
  obtain ⟨h1, h2, h3, h4⟩ := h
  refine ⟨h1, h2, h3, fun hp => ?_⟩
  obtain ⟨b, off, e, hl⟩ := h4 hp
  exact ⟨b, off, e, hl.below hb⟩

/-! ### Purge, on plain data -/
/-- Is the label at a place one that the label at place l does not dominate? -/
def hid (ls : List (Int × Int)) (l place : Int) : Bool := plc place ls.length && !abv (labAtI ls l).1 (labAtI ls l).2 (labAtI ls place).1 (labAtI ls place).2
def hasLab (kind : Int) : Bool := decide (kind ≠ 5 ∧ kind ≠ 7 ∧ kind ≠ 6)
def keepOf (ls : List (Int × Int)) (l kind : Int) (keep : List Int) : List Int :=
  if kind = 6 then keep.zipIdx.map fun p => if hid ls l (p.2 : Int) then 0 else p.1 else keep
def purgeStep (ls : List (Int × Int)) (l : Int) (a : AV) : List AV := if hasLab a.kind && hid ls l a.label then [] else [{ a.bare with keep := keepOf ls l a.kind a.keep }]
def purgeF (ls : List (Int × Int)) (l : Int) (xs : List AV) : List AV := xs.flatMap (purgeStep ls l)

theorem purgeF_take {ls : List (Int × Int)} {l : Int} {xs : List AV} {k : Nat} (hk : k < xs.length) : purgeF ls l (xs.take (k + 1)) = purgeF ls l (xs.take k) ++ purgeStep ls l (xs.getD k default) := by
  unfold purgeF
  rw [List.take_succ_eq_append_getElem hk, List.flatMap_append]
  congr 1
  simp [List.getD, hk]
theorem keepOf_len (ls : List (Int × Int)) (l kind : Int) (keep : List Int) : (keepOf ls l kind keep).length = keep.length := by
  unfold keepOf
  split <;> simp
theorem purgeF_len (ls : List (Int × Int)) (l : Int) (xs : List AV) : (purgeF ls l xs).length ≤ xs.length := by
  unfold purgeF
  induction xs with
  | nil => simp
  | cons a r ih =>
    have : (purgeStep ls l a).length ≤ 1 := by unfold purgeStep; split <;> simp
    simp only [List.flatMap_cons, List.length_append, List.length_cons]
    omega
end Go.Proofs.YtlaagfnoepcnlaaDoor
/- What lines.Check tells of an act and of a call, on plain data. -/
namespace Go.Proofs.YtlaagfnoepcnlaaDoor.Ln
open Go.ChangeShapes Go.WideShapes Go.ChangeAt Go.RowKit

/-- Is all that is not 0 among what there is? -/
def only : List Bool → List Int → Bool
  | _, [] => true
  | [], _ :: _ => false
  | h :: hs, p :: ps => (h || p == 0) && only hs ps
/-- Which parts an act of a kind has: site, to, label, pick, keep, call, line. -/
def aHas : List (List Bool) :=
  [[false, false, false, false, false, false, false], [true, false, true, false, false, true, false], [true, true, true, true, false, false, false],
   [true, true, true, true, false, false, false], [true, true, true, true, false, false, false], [false, false, false, false, false, false, false],
   [true, false, false, false, true, false, false], [true, false, false, false, false, false, false], [true, false, true, false, false, false, true]]
/-- Which parts a call of a kind has: n, label, key, value. -/
def cHas : List (List Bool) :=
  [[false, false, false, false], [false, false, false, false], [true, true, true, false], [true, false, true, true], [true, false, false, false], [true, false, false, false]]
def cTops : List Int := [1048576, 5, 8, 1073741824]
def inTops : List Int → List Int → Bool
  | [], _ => true
  | _ :: _, [] => true
  | t :: ts, p :: ps => inR p 0 t && inTops ts ps
def one (b : Bool) : Int := if b then 1 else 0
def nz (c0 c1 c2 c3 c4 : Int) : Bool := !(c0 == 0 && c1 == 0 && c2 == 0 && c3 == 0 && c4 == 0)
def aParts (a : AV) : List Int := [a.site, a.to, a.label, a.pick, (a.kl : Int), one (nz a.c0 a.c1 a.c2 a.c3 a.c4), (a.line.size : Int)]
def callFault (c0 c1 c2 c3 c4 : Int) : Int :=
  if inR c0 1 5 = false then 3 else if inTops cTops [c1, c2, c3, c4] = false then 2 else if only (cHas.getD c0.toNat []) [c1, c2, c3, c4] = false then 4 else 0
def keepIn (zs : List Int) : Bool := zs.all fun z => inR z 0 6000
def actIn (s : Int) (n : Nat) (a : AV) : Bool :=
  decide (a.kl ≤ n) && keepIn a.keep && decide (a.line.size ≤ 60) && inR a.pick 0 1048576 && (inR a.site 0 (s - 1) && inR a.to 0 (s - 1) && plc a.label n)
def actFault (s : Int) (ls : List (Int × Int)) (p : Int) (a : AV) : Int :=
  if cfgFault s ls p ≠ 0 then cfgFault s ls p else if inR a.kind 1 8 = false then 3 else if actIn s ls.length a = false then 2
  else if only (aHas.getD a.kind.toNat []) (aParts a) = false then 4 else if a.kind = 1 then callFault a.c0 a.c1 a.c2 a.c3 a.c4 else 0

theorem only_at {hs : List Bool} {ps : List Int} {k : Nat} (h1 : k < hs.length) (h2 : k < ps.length) : only (hs.drop k) (ps.drop k) = ((hs.getD k false || ps.getD k 0 == 0) && only (hs.drop (k + 1)) (ps.drop (k + 1))) := by
  rw [List.drop_eq_getElem_cons h1, List.drop_eq_getElem_cons h2]
  simp [only, List.getD, h1, h2]
theorem only_end {hs : List Bool} {ps : List Int} {k : Nat} (h2 : ps.length ≤ k) : only (hs.drop k) (ps.drop k) = true := by
  rw [List.drop_eq_nil_of_le h2]
  cases hs.drop k <;> rfl
theorem inTops_at {ts ps : List Int} {k : Nat} (h1 : k < ts.length) (h2 : k < ps.length) : inTops (ts.drop k) (ps.drop k) = (inR (ps.getD k 0) 0 (ts.getD k 0) && inTops (ts.drop (k + 1)) (ps.drop (k + 1))) := by
  rw [List.drop_eq_getElem_cons h1, List.drop_eq_getElem_cons h2]
  simp [inTops, List.getD, h1, h2]

def Bools (w : World) (b : Nat) (hs : List Bool) : Prop := b < w.heap.size ∧ ∀ i, i < hs.length → w.cell? ⟨b, i, none⟩ = some (.bool (hs.getD i false))
def Nms (w : World) (b : Nat) (ps : List Int) : Prop := b < w.heap.size ∧ ∀ i, i < ps.length → w.cell? ⟨b, i, none⟩ = some (.int .i64 (ps.getD i 0))
theorem Bools.below {w w' : World} {b B : Nat} {hs : List Bool} (h : Bools w b hs) (hb : Below B w w') (hB : b < B) : Bools w' b hs :=
  ⟨Nat.lt_of_lt_of_le h.1 hb.size, fun i hi => (hb.cell (p := ⟨b, i, none⟩) hB).trans (h.2 i hi)⟩
theorem Nms.below {w w' : World} {b B : Nat} {ps : List Int} (h : Nms w b ps) (hb : Below B w w') (hB : b < B) : Nms w' b ps :=
  ⟨Nat.lt_of_lt_of_le h.1 hb.size, fun i hi => (hb.cell (p := ⟨b, i, none⟩) hB).trans (h.2 i hi)⟩
end Go.Proofs.YtlaagfnoepcnlaaDoor.Ln
/- What a store holds, on plain data, and rows of it in memory: items, locks, doubts, transactions; what a store that may be is. -/
namespace Go.Proofs.YtlaagfnoepcnlaaDoor.St
open Go.ChangeShapes Go.WideShapes Go.ChangeAt Go.RowKit
set_option linter.unusedVariables false

structure ItV where
  key : Int
  value : Int
  version : Int
structure LkV where
  t : Int × Int
  key : Int
  write : Bool
  value : Int
  ask : Int
structure DbV where
  t : Int × Int
  age : Int
instance : Inhabited ItV := ⟨⟨0, 0, 0⟩⟩
instance : Inhabited LkV := ⟨⟨(0, 0), 0, false, 0, 0⟩⟩
instance : Inhabited DbV := ⟨⟨(0, 0), 0⟩⟩
def ItV.cells (x : ItV) : List Value := [.int .i64 x.key, .int .i64 x.value, .int .i64 x.version]
def LkV.cells (x : LkV) : List Value := [.int .i64 x.t.1, .int .i64 x.t.2, .int .i64 x.key, .bool x.write, .int .i64 x.value, .int .i64 x.ask]
def DbV.cells (x : DbV) : List Value := [.int .i64 x.t.1, .int .i64 x.t.2, .int .i64 x.age]
def txCells (t : Int × Int) : List Value := [.int .i64 t.1, .int .i64 t.2]
def ItV.val (x : ItV) : Value := .agg #[.int .i64 x.key, .int .i64 x.value, .int .i64 x.version]
def LkV.val (x : LkV) : Value := .agg #[.int .i64 x.t.1, .int .i64 x.t.2, .int .i64 x.key, .bool x.write, .int .i64 x.value, .int .i64 x.ask]
def DbV.val (x : DbV) : Value := .agg #[.int .i64 x.t.1, .int .i64 x.t.2, .int .i64 x.age]
def txVal (t : Int × Int) : Value := .agg #[.int .i64 t.1, .int .i64 t.2]

/-- Elements of k cells each that lie one behind the other. -/
def IsRow {α : Type} [Inhabited α] (k : Nat) (cells : α → List Value) (w : World) (a : Option Addr) (len cap : Nat) (xs : List α) : Prop :=
  xs.length = len ∧ len ≤ cap ∧ cap ≤ maxLen ∧ (a = none → cap = 0) ∧
    (0 < len → ∃ b off, a = some ⟨b, off, none⟩ ∧ b < w.heap.size ∧ ∀ i, i < len → ∀ j, j < k → w.cell? ⟨b, off + i * k + j, none⟩ = (cells (xs.getD i default))[j]?)
theorem IsRow.below {α : Type} [Inhabited α] {k : Nat} {cells : α → List Value} {w w' : World} {a : Option Addr} {len cap : Nat} {xs : List α} (h : IsRow k cells w a len cap xs) (hb : Below w.heap.size w w') : IsRow k cells w' a len cap xs := by
  obtain ⟨h1, h2, h3, h4, h5⟩ := h
  refine ⟨h1, h2, h3, h4, fun hp => ?_⟩
  obtain ⟨b, off, e, hl, hc⟩ := h5 hp
  refine ⟨b, off, e, Nat.lt_of_lt_of_le hl hb.size, fun i hi j hj => ?_⟩
  rw [hb.cell (p := ⟨b, off + i * k + j, none⟩) hl]
  exact hc i hi j hj
theorem IsRow.take {α : Type} [Inhabited α] {k : Nat} {cells : α → List Value} {w : World} {a : Option Addr} {len cap : Nat} {xs : List α} (h : IsRow k cells w a len cap xs) (n : Nat) (hn : n ≤ len) : IsRow k cells w a n cap (xs.take n) := by
  obtain ⟨h1, h2, h3, h4, h5⟩ := h
  refine ⟨by simp; omega, by omega, h3, h4, fun hp => ?_⟩
  obtain ⟨b, off, e, hl, hc⟩ := h5 (by omega)
  refine ⟨b, off, e, hl, fun i hi j hj => ?_⟩
  rw [hc i (by omega) j hj]
  simp [List.getD, hi]
theorem isRow_nil {α : Type} [Inhabited α] (k : Nat) (cells : α → List Value) (w : World) : IsRow k cells w none 0 0 ([] : List α) := ⟨rfl, Nat.le_refl _, Nat.zero_le _, fun _ => rfl, fun h => absurd h (by omega)⟩
abbrev IsItems := @IsRow ItV _ 3 ItV.cells
abbrev IsLocks := @IsRow LkV _ 6 LkV.cells
abbrev IsDoubts := @IsRow DbV _ 3 DbV.cells
abbrev IsTxns := @IsRow (Int × Int) _ 2 txCells

/-- A store as it comes: four slices. -/
structure SV where
  ia : Option Addr
  il : Nat
  ic : Nat
  la : Option Addr
  ll : Nat
  lc : Nat
  da : Option Addr
  dl : Nat
  dc : Nat
  oa : Option Addr
  ol : Nat
  oc : Nat
  items : List ItV
  locks : List LkV
  doubts : List DbV
  over : List (Int × Int)
def SV.val (s : SV) : Value := .agg #[.slice s.ia s.il s.ic, .slice s.la s.ll s.lc, .slice s.da s.dl s.dc, .slice s.oa s.ol s.oc]
structure IsStore (w : World) (s : SV) : Prop where
  items : IsItems w s.ia s.il s.ic s.items
  locks : IsLocks w s.la s.ll s.lc s.locks
  doubts : IsDoubts w s.da s.dl s.dc s.doubts
  over : IsTxns w s.oa s.ol s.oc s.over
theorem IsStore.below {w w' : World} {s : SV} (h : IsStore w s) (hb : Below w.heap.size w w') : IsStore w' s := ⟨h.items.below hb, h.locks.below hb, h.doubts.below hb, h.over.below hb⟩

def inR (n lo hi : Int) : Bool := decide (lo ≤ n ∧ n ≤ hi)
theorem inR_true {n lo hi : Int} (h1 : lo ≤ n) (h2 : n ≤ hi) : inR n lo hi = true := by simp [inR, h1, h2]
theorem inR_of {n lo hi : Int} (h : inR n lo hi = true) : lo ≤ n ∧ n ≤ hi := by simpa [inR] using h
theorem inR_not {n lo hi : Int} (h : inR n lo hi = false) : n < lo ∨ hi < n := by simp [inR] at h; omega
def txOK (t : Int × Int) : Bool := inR t.1 0 3 && inR t.2 1 1048576
def itemsOK : Int → List ItV → Bool
  | _, [] => true
  | lo, x :: r => inR x.key lo 7 && inR x.value 0 1073741824 && inR x.version 1 1048576 && itemsOK (x.key + 1) r
def lockOK (k : LkV) : Bool := txOK k.t && inR k.key 0 7 && inR k.value 0 1073741824 && inR k.ask 0 1048576 && (k.write || (decide (k.value = 0) && decide (k.ask = 0)))
def against (k o : LkV) : Bool := decide (o.key = k.key) && (decide (o.t = k.t) || o.write || k.write)
def locksGo : List LkV → List LkV → Bool
  | _, [] => true
  | seen, k :: r => lockOK k && !(seen.any (against k)) && locksGo (seen ++ [k]) r
def locksOK (l : List LkV) : Bool := decide (l.length ≤ 24) && locksGo [] l
def overGo : List (Int × Int) → List (Int × Int) → Bool
  | _, [] => true
  | seen, t :: r => !(decide (t ∈ seen)) && txOK t && overGo (seen ++ [t]) r
def ofT (t : Int × Int) (k : LkV) : Bool := decide (k.t = t)
def dbT (t : Int × Int) (d : DbV) : Bool := decide (d.t = t)
def doubtsGo (ls : List LkV) (ov : List (Int × Int)) : List DbV → List DbV → Bool
  | _, [] => true
  | seen, d :: r => inR d.age 0 1048576 && ls.any (ofT d.t) && !(seen.any (dbT d.t)) && !(decide (d.t ∈ ov)) && doubtsGo ls ov (seen ++ [d]) r
def doubtsOK (ds : List DbV) (ls : List LkV) (ov : List (Int × Int)) : Bool := doubtsGo ls ov [] ds && ls.all (fun k => ds.any (dbT k.t))
def storeOK (s : SV) : Bool := itemsOK 0 s.items && locksOK s.locks && overGo [] s.over && doubtsOK s.doubts s.locks s.over

theorem drop_at {α : Type} [Inhabited α] {l : List α} {k : Nat} (hk : k < l.length) : l.drop k = l.getD k default :: l.drop (k + 1) := by
  rw [List.drop_eq_getElem_cons hk]; simp [List.getD, hk]
theorem take_at {α : Type} [Inhabited α] {l : List α} {k : Nat} (hk : k < l.length) : l.take (k + 1) = l.take k ++ [l.getD k default] := by
  rw [List.take_succ_eq_append_getElem hk]; simp [List.getD, hk]

/-- The place of the first that is meant; -1: there is none. -/
def idxI {α : Type} (p : α → Bool) (l : List α) : Int := match l.findIdx? p with | some k => (k : Int) | none => -1
theorem idxI_hit {α : Type} [Inhabited α] {p : α → Bool} {l : List α} {k : Nat} (hk : k < l.length) (hn : ∀ i, i < k → p (l.getD i default) = false) (hp : p (l.getD k default) = true) : idxI p l = k := by
  have : l.findIdx? p = some k := by
    rw [List.findIdx?_eq_some_iff_getElem]
    refine ⟨hk, by simpa [List.getD, hk] using hp, fun j hj => ?_⟩
    have := hn j hj
    have hj' : j < l.length := by omega
    simpa [List.getD, hj'] using this
  simp [idxI, this]
theorem idxI_none {α : Type} [Inhabited α] {p : α → Bool} {l : List α} (hn : ∀ i, i < l.length → p (l.getD i default) = false) : idxI p l = -1 := by
  have : l.findIdx? p = none := by
    rw [List.findIdx?_eq_none_iff]
    intro x hx
    obtain ⟨i, hi, rfl⟩ := List.getElem_of_mem hx
    simpa [List.getD, hi] using hn i hi
  simp [idxI, this]
theorem idxI_any {α : Type} (p : α → Bool) (l : List α) : decide (0 ≤ idxI p l) = l.any p := by
  unfold idxI
  cases h : l.findIdx? p with
  | none =>
    rw [List.findIdx?_eq_none_iff] at h
    have : l.any p = false := by
      rw [List.any_eq_false]
      intro x hx
      simp [h x hx]
    simp [this]
  | some k =>
    rw [List.findIdx?_eq_some_iff_getElem] at h
    obtain ⟨hk, hp, _⟩ := h
    have : l.any p = true := List.any_eq_true.2 ⟨_, List.getElem_mem hk, hp⟩
    simp [this]
theorem idxI_lt {α : Type} {p : α → Bool} {l : List α} : idxI p l < l.length ∧ -1 ≤ idxI p l := by
  unfold idxI
  cases h : l.findIdx? p with
  | none => simp; omega
  | some k =>
    rw [List.findIdx?_eq_some_iff_getElem] at h
    obtain ⟨hk, _, _⟩ := h
    simp
    omega
end Go.Proofs.YtlaagfnoepcnlaaDoor.St
