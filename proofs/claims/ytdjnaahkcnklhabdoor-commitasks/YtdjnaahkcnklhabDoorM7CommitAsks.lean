/- Texts of this claim, one behind the other. -/
import Derived.Test.YtdjnaahkcnklhabDoorM6CommitAsks
import Derived.Test.YtdjnaahkcnklhabDoorM2CommitAsks
import Derived.Test.YtdjnaahkcnklhabDoorM5CommitAsks
import Derived.Test.YtdjnaahkcnklhabDoorA0CommitAsks
import Derived.Laws.BitsLemmas
/- Rows of the call's own, many of them: each lies in a block of its own; one may grow, be told a cell, or be made, and the others stay. A box beside them. -/
namespace Go.Proofs.YtdjnaahkcnklhabDoor.Co
open Go.ChangeShapes Go.WideShapes Go.ChangeAt Go.RowKit
open Go.Proofs.YtdjnaahkcnklhabDoor.St (BoxN boxn_new own_below grown_setCell own_setk)
set_option linter.unusedVariables false

/-- A row: the element's type, its cells, the slice, how many, and what the cells hold. -/
structure Rw where
  te : TypeId
  k : Nat
  v : Value
  n : Nat
  xs : List Value
structure Own (X : World) (B : Nat) (rows : List Rw) : Prop where
  own : ∀ (i : Nat) (r : Rw), rows[i]? = some r → X.ownsRow B r.te r.k r.v r.n r.xs
  ap : ∀ (i j : Nat) (r s : Rw), rows[i]? = some r → rows[j]? = some s → i ≠ j → r.v.ownBlock = none ∨ r.v.ownBlock ≠ s.v.ownBlock
theorem own_nil (X : World) (B : Nat) : Own X B [] := ⟨fun i r e => by simp at e, fun i j r s e => by simp at e⟩
theorem own_base {w : World} {B C : Nat} {te : TypeId} {k : Nat} {v : Value} {n : Nat} {xs : List Value} (h : w.ownsRow C te k v n xs) (hB : B ≤ C) : w.ownsRow B te k v n xs := by
  obtain ⟨h1, h2⟩ := h
  refine ⟨h1, ?_⟩
  rcases h2 with h2 | ⟨g, cap, cur, e, hb, r⟩
  · exact .inl h2
  · exact .inr ⟨g, cap, cur, e, Nat.le_trans hB hb, r⟩
theorem Own.base {X : World} {B C : Nat} {rows : List Rw} (h : Own X C rows) (hB : B ≤ C) : Own X B rows := ⟨fun i r e => own_base (h.own i r e) hB, h.ap⟩
theorem Own.below {X X' : World} {B : Nat} {rows : List Rw} (h : Own X B rows) (hb : Below X.heap.size X X') : Own X' B rows := ⟨fun i r e => own_below (h.own i r e) hb, h.ap⟩
theorem set_get {α : Type} {l : List α} {i j : Nat} {x y z : α} (e : l[i]? = some x) (h : (l.set i y)[j]? = some z) : (j = i ∧ z = y) ∨ (j ≠ i ∧ l[j]? = some z) := by
  by_cases hj : j = i
  · subst hj
    have hl : j < l.length := (List.getElem?_eq_some_iff.1 e).1
    rw [List.getElem?_set_self hl] at h
    exact Or.inl ⟨rfl, (Option.some.inj h).symm⟩
  · rw [List.getElem?_set_ne (fun e => hj e.symm)] at h
    exact Or.inr ⟨hj, h⟩
/-- One row grew, where it lay or in a new block. -/
theorem Own.grow {X X' : World} {B : Nat} {rows : List Rw} (h : Own X B rows) {i : Nat} {r r' : Rw} (e : rows[i]? = some r) (hg : X.grownBy X' r.v.ownBlock) (ho : X'.ownsRow B r'.te r'.k r'.v r'.n r'.xs) (hat : r'.v.ownBlock = r.v.ownBlock ∨ r'.v.ownBlock = some X.heap.size) : Own X' B (rows.set i r') := by
  have old : ∀ (j : Nat) (s : Rw), rows[j]? = some s → j ≠ i → r'.v.ownBlock = none ∨ r'.v.ownBlock ≠ s.v.ownBlock := fun j s es hj => by
    rcases hat with e1 | e1
    · rw [e1]; exact h.ap i j r s e es (fun e => hj e.symm)
    · refine Or.inr (fun e2 => ?_)
      have := ((h.own j s es).lt X.heap.size (by rw [← e2]; exact e1)).2
      omega
  refine ⟨fun j s es => ?_, fun j l s t es et hjl => ?_⟩
  · rcases set_get e es with ⟨rfl, rfl⟩ | ⟨hj, es⟩
    · exact ho
    · exact (h.own j s es).kept hg (h.ap j i s r es e hj)
  · rcases set_get e es with ⟨rfl, rfl⟩ | ⟨hj, es2⟩
    · rcases set_get e et with ⟨hl, _⟩ | ⟨hl, et2⟩
      · exact absurd hl.symm hjl
      · exact old l t et2 hl
    · rcases set_get e et with ⟨rfl, rfl⟩ | ⟨hl, et2⟩
      · rcases old j s es2 hj with e1 | e1
        · by_cases h2 : s.v.ownBlock = none
          · exact Or.inl h2
          · exact Or.inr (fun e3 => h2 (e3.trans e1))
        · exact Or.inr (fun e3 => e1 e3.symm)
      · exact h.ap j l s t es2 et2 hjl
/-- A row that a call made. -/
theorem Own.add {X X' : World} {B : Nat} {rows : List Rw} (h : Own X B rows) (hb : Below X.heap.size X X') (hB : B ≤ X.heap.size) {r : Rw} (ho : X'.ownsRow X.heap.size r.te r.k r.v r.n r.xs) : Own X' B (rows ++ [r]) := by
  have hlt : ∀ (j : Nat) (s : Rw), rows[j]? = some s → ∀ g, s.v.ownBlock = some g → g < X.heap.size := fun j s es g eg => ((h.own j s es).lt g eg).2
  have hge : ∀ g, r.v.ownBlock = some g → X.heap.size ≤ g := fun g eg => (ho.lt g eg).1
  have get : ∀ (j : Nat) (s : Rw), (rows ++ [r])[j]? = some s → rows[j]? = some s ∨ (j = rows.length ∧ s = r) := fun j s es => by
    by_cases hj : j < rows.length
    · rw [List.getElem?_append_left hj] at es; exact Or.inl es
    · rw [List.getElem?_append_right (by omega)] at es
      have hl := (List.getElem?_eq_some_iff.1 es).1
      simp at hl
      have : j - rows.length = 0 := by omega
      rw [this] at es
      simp at es
      exact Or.inr ⟨by omega, es.symm⟩
  refine ⟨fun j s es => ?_, fun j l s t es et hjl => ?_⟩
  · rcases get j s es with es | ⟨_, rfl⟩
    · exact own_below (h.own j s es) hb
    · exact own_base ho hB
  · rcases get j s es with es2 | ⟨rfl, rfl⟩
    · rcases get l t et with et2 | ⟨rfl, rfl⟩
      · exact h.ap j l s t es2 et2 hjl
      · by_cases h2 : s.v.ownBlock = none
        · exact Or.inl h2
        · refine Or.inr (fun e3 => ?_)
          obtain ⟨g, eg⟩ := Option.ne_none_iff_exists'.1 h2
          have h3 := hlt j s es2 g eg
          have h4 := hge g (by rw [← e3]; exact eg)
          omega
    · rcases get l t et with et2 | ⟨rfl, _⟩
      · by_cases h2 : s.v.ownBlock = none
        · exact Or.inl h2
        · refine Or.inr (fun e3 => ?_)
          obtain ⟨g, eg⟩ := Option.ne_none_iff_exists'.1 h2
          have h3 := hge g eg
          have h4 := hlt l t et2 g (by rw [← e3]; exact eg)
          omega
      · exact absurd rfl hjl
/-- A cell of another block is told. -/
theorem Own.aside {X : World} {B : Nat} {rows : List Rw} (h : Own X B rows) {q : Nat} (hq : ∀ (i : Nat) (r : Rw), rows[i]? = some r → r.v.ownBlock ≠ some q) (j : Nat) (u : Value) : Own (X.setCell ⟨q, j, none⟩ u) B rows :=
  ⟨fun i r e => (h.own i r e).kept (grown_setCell X ⟨q, j, none⟩ u) (Or.inr (hq i r e)), h.ap⟩
/-- A cell of a row is told. -/
theorem Own.cell {X : World} {B : Nat} {rows : List Rw} (h : Own X B rows) {i : Nat} {te : TypeId} {k g n cap : Nat} {xs : List Value} (e : rows[i]? = some ⟨te, k, .slice (some ⟨g, 0, none⟩) n cap, n, xs⟩) {j : Nat} (hj : j < n * k) (u : Value) : Own (X.setCell ⟨g, j, none⟩ u) B (rows.set i ⟨te, k, .slice (some ⟨g, 0, none⟩) n cap, n, xs.set j u⟩) :=
  h.grow e (grown_setCell X ⟨g, j, none⟩ u) (own_setk (h.own i _ e) hj u) (Or.inl rfl)
/-- A box, and rows of which none lies in it; all at B or above, and what was there ahead of B is as it was. -/
structure Held (w X : World) (B q n : Nat) (vs : List Value) (rows : List Rw) : Prop where
  box : BoxN X q n vs
  own : Own X B rows
  apart : ∀ (i : Nat) (r : Rw), rows[i]? = some r → r.v.ownBlock ≠ some q
  le : B ≤ q
  bel : Below B w X
theorem Held.below {w X X' : World} {B q n : Nat} {vs : List Value} {rows : List Rw} (h : Held w X B q n vs rows) (hb : Below X.heap.size X X') : Held w X' B q n vs rows :=
  ⟨h.box.below hb h.box.lt, h.own.below hb, h.apart, h.le, h.bel.trans (hb.mono (Nat.le_trans h.le (Nat.le_of_lt h.box.lt)))⟩
theorem Held.tell {w X : World} {B q n : Nat} {vs : List Value} {rows : List Rw} (h : Held w X B q n vs rows) (j : Nat) (hj : j < n) (u : Value) : Held w (X.setCell ⟨q, j, none⟩ u) B q n (vs.set j u) rows :=
  ⟨h.box.set j hj u, h.own.aside h.apart j u, h.apart, h.le, h.bel.setCell (p := ⟨q, j, none⟩) h.le u⟩
theorem Held.grow {w X X' : World} {B q n : Nat} {vs : List Value} {rows : List Rw} (h : Held w X B q n vs rows) {i : Nat} {r r' : Rw} (e : rows[i]? = some r) (hg : X.grownBy X' r.v.ownBlock) (ho : X'.ownsRow B r'.te r'.k r'.v r'.n r'.xs) (hat : r'.v.ownBlock = r.v.ownBlock ∨ r'.v.ownBlock = some X.heap.size) : Held w X' B q n vs (rows.set i r') := by
  have hne := h.apart i r e
  refine ⟨h.box.grown hg (fun e2 => hne e2.symm), h.own.grow e hg ho hat, fun j s es => ?_, h.le, ?_⟩
  · rcases set_get e es with ⟨_, rfl⟩ | ⟨_, es⟩
    · rcases hat with e1 | e1
      · rw [e1]; exact hne
      · rw [e1]; intro e2; have := h.box.lt; simp at e2; omega
    · exact h.apart j s es
  · exact h.bel.grown hg (Nat.le_trans h.le (Nat.le_of_lt h.box.lt)) (fun g eg => ((h.own.own i r e).lt g eg).1)
theorem Held.add {w X X' : World} {B q n : Nat} {vs : List Value} {rows : List Rw} (h : Held w X B q n vs rows) (hb : Below X.heap.size X X') {r : Rw} (ho : X'.ownsRow X.heap.size r.te r.k r.v r.n r.xs) : Held w X' B q n vs (rows ++ [r]) := by
  have h1 := h.below hb
  have hB : B ≤ X.heap.size := Nat.le_trans h.le (Nat.le_of_lt h.box.lt)
  refine ⟨h1.box, h.own.add hb hB ho, fun j s es => ?_, h.le, h1.bel⟩
  by_cases hj : j < rows.length
  · rw [List.getElem?_append_left hj] at es; exact h.apart j s es
  · rw [List.getElem?_append_right (by omega)] at es
    have hl := (List.getElem?_eq_some_iff.1 es).1
    simp at hl
    have : j - rows.length = 0 := by omega
    rw [this] at es
    simp at es
    subst es
    intro e2
    have := (ho.lt q e2).1
    have := h.box.lt
    omega
theorem Held.cell {w X : World} {B q n : Nat} {vs : List Value} {rows : List Rw} (h : Held w X B q n vs rows) {i : Nat} {te : TypeId} {k g m cap : Nat} {xs : List Value} (e : rows[i]? = some ⟨te, k, .slice (some ⟨g, 0, none⟩) m cap, m, xs⟩) {j : Nat} (hj : j < m * k) (u : Value) : Held w (X.setCell ⟨g, j, none⟩ u) B q n vs (rows.set i ⟨te, k, .slice (some ⟨g, 0, none⟩) m cap, m, xs.set j u⟩) :=
  h.grow e (grown_setCell X ⟨g, j, none⟩ u) (own_setk (h.own.own i _ e) hj u) (Or.inl rfl)
end Go.Proofs.YtdjnaahkcnklhabDoor.Co
/- A desk's jobs and their tasks, on plain data, and in memory; what a desk that may be is. -/
namespace Go.Proofs.YtdjnaahkcnklhabDoor.Co
open Go.ChangeShapes Go.WideShapes Go.ChangeAt Go.RowKit
open Go.Proofs.YtdjnaahkcnklhabDoor.St (IsRow drop_at take_at BoxN boxn_new)
set_option linter.unusedVariables false

structure TkV where
  write : Bool
  label : Int
  key : Int
  value : Int
  version : Int
  ask : Int
  done : Bool
  sure : Bool
instance : Inhabited TkV := ⟨⟨false, 0, 0, 0, 0, 0, false, false⟩⟩
def TkV.cells (x : TkV) : List Value := [.bool x.write, .int .i64 x.label, .int .i64 x.key, .int .i64 x.value, .int .i64 x.version, .int .i64 x.ask, .bool x.done, .bool x.sure]
def TkV.val (x : TkV) : Value := .agg #[.bool x.write, .int .i64 x.label, .int .i64 x.key, .int .i64 x.value, .int .i64 x.version, .int .i64 x.ask, .bool x.done, .bool x.sure]
def inCell (n : Int) : List Value := [.int .i64 n]
structure JbV where
  n : Int
  state : Int
  ta : Option Addr
  tl : Nat
  tc : Nat
  aa : Option Addr
  al : Nat
  ac : Nat
  asks : Int
  age : Int
  tasks : List TkV
  asked : List Int
instance : Inhabited JbV := ⟨⟨0, 0, none, 0, 0, none, 0, 0, 0, 0, [], []⟩⟩
def JbV.cells (j : JbV) : List Value := [.int .i64 j.n, .int .i64 j.state, .slice j.ta j.tl j.tc, .slice j.aa j.al j.ac, .int .i64 j.asks, .int .i64 j.age]
def JbV.val (j : JbV) : Value := .agg #[.int .i64 j.n, .int .i64 j.state, .slice j.ta j.tl j.tc, .slice j.aa j.al j.ac, .int .i64 j.asks, .int .i64 j.age]
abbrev IsTasks := @IsRow TkV _ 8 TkV.cells
abbrev IsSites := @IsRow Int _ 1 inCell
structure IsJob (w : World) (j : JbV) : Prop where
  tasks : IsTasks w j.ta j.tl j.tc j.tasks
  asked : IsSites w j.aa j.al j.ac j.asked
theorem IsJob.below {w w' : World} {j : JbV} (h : IsJob w j) (hb : Below w.heap.size w w') : IsJob w' j := ⟨h.tasks.below hb, h.asked.below hb⟩
structure IsJobs (w : World) (a : Option Addr) (n c : Nat) (js : List JbV) : Prop where
  row : IsRow 6 JbV.cells w a n c js
  each : ∀ j ∈ js, IsJob w j
theorem IsJobs.below {w w' : World} {a : Option Addr} {n c : Nat} {js : List JbV} (h : IsJobs w a n c js) (hb : Below w.heap.size w w') : IsJobs w' a n c js := ⟨h.row.below hb, fun j hj => (h.each j hj).below hb⟩

/-- What a task may be by itself; nl: how many labels there are. -/
def tkOK (nl : Int) (t : TkV) : Bool := inR t.label 0 (nl - 1) && inR t.key 0 7 && inR t.value 0 1073741824 && inR t.version 0 1048576 && (t.done || (!t.sure && (t.write || (decide (t.value = 0) && decide (t.version = 0)))))
def tksGo (nl asks state : Int) : Int → List TkV → Bool
  | _, [] => true
  | low, t :: r => inR t.ask low asks && tkOK nl t && (t.done || (r.isEmpty && decide (state = 1))) && tksGo nl asks state (t.ask + 1) r
def tksOK (nl asks state : Int) (l : List TkV) : Bool := decide (l.length ≤ 10) && tksGo nl asks state 1 l
def rise (s : Int) : Int → List Int → Bool
  | _, [] => true
  | low, n :: r => inR n low (s - 1) && rise s (n + 1) r
def jbOK (s nl : Int) (j : JbV) : Bool := inR j.age 0 1048576 && inR j.state 1 3 && inR j.asks 0 1048576 && rise s 0 j.asked && (decide (j.state = 3) == decide (0 < j.asked.length)) && tksOK nl j.asks j.state j.tasks
def jbsGo (s nl next : Int) : Int → List JbV → Bool
  | _, [] => true
  | low, j :: r => inR j.n low (next - 1) && jbOK s nl j && jbsGo s nl next (j.n + 1) r
def jbsOK (s nl next : Int) (l : List JbV) : Bool := decide (l.length ≤ 6) && jbsGo s nl next 1 l
def dkErr (s : Int) (ls : List (Int × Int)) (p next : Int) (l : List JbV) : Int := if cfgFault s ls p = 0 then (if inR next 1 1048577 && jbsOK s ls.length next l then 0 else 9) else cfgFault s ls p
theorem mem_at {α : Type} [Inhabited α] {l : List α} {i : Nat} (h : i < l.length) : l.getD i default ∈ l := by
  simp [List.getD, h]
theorem tksGo_at {nl asks state low : Int} {l : List TkV} {k : Nat} (hk : k < l.length) : tksGo nl asks state low (l.drop k) = (inR (l.getD k default).ask low asks && tkOK nl (l.getD k default) && ((l.getD k default).done || (decide (k + 1 = l.length) && decide (state = 1))) && tksGo nl asks state ((l.getD k default).ask + 1) (l.drop (k + 1))) := by
  rw [drop_at hk, tksGo]
  have : (l.drop (k + 1)).isEmpty = decide (k + 1 = l.length) := by
    rw [Bool.eq_iff_iff, List.isEmpty_iff]
    simp
    omega
  rw [this]
theorem rise_at {s low : Int} {l : List Int} {k : Nat} (hk : k < l.length) : rise s low (l.drop k) = (inR (l.getD k default) low (s - 1) && rise s (l.getD k default + 1) (l.drop (k + 1))) := by
  rw [drop_at hk, rise]
theorem jbsGo_at {s nl next low : Int} {l : List JbV} {k : Nat} (hk : k < l.length) : jbsGo s nl next low (l.drop k) = (inR (l.getD k default).n low (next - 1) && jbOK s nl (l.getD k default) && jbsGo s nl next ((l.getD k default).n + 1) (l.drop (k + 1))) := by
  rw [drop_at hk, jbsGo]
end Go.Proofs.YtdjnaahkcnklhabDoor.Co
/- Numbers as bytes, the highest first, and back; bytes read off a front, one number behind the other: plain data, nothing of the program. -/
namespace Go.Proofs.YtdjnaahkcnklhabDoor
open Go.ChangeShapes Go.WideShapes Go.ChangeAt Go.RowKit

def be (n : Int) : Nat → List Int
  | 0 => []
  | k + 1 => n / 256 ^ k % 256 :: be n k
def bval (bs : List Int) : Int := bs.foldl (fun a b => a * 256 + b) 0
def Byt (bs : List Int) : Prop := ∀ b ∈ bs, 0 ≤ b ∧ b < 256

theorem be_len (n : Int) (k : Nat) : (be n k).length = k := by
  induction k with
  | zero => rfl
  | succ k ih => simp [be, ih]
theorem be_byt (n : Int) (k : Nat) : Byt (be n k) := by
  induction k with
  | zero => intro b hb; simp [be] at hb
  | succ k ih =>
    intro b hb
    rcases List.mem_cons.1 hb with rfl | hb
    · exact ⟨Int.emod_nonneg _ (by decide), Int.emod_lt_of_pos _ (by decide)⟩
    · exact ih b hb
theorem be_snoc (n : Int) (k : Nat) : be n (k + 1) = be (n / 256) k ++ [n % 256] := by
  induction k with
  | zero => simp [be]
  | succ k ih =>
    rw [be, ih]
    conv => rhs; rw [be]
    rw [Int.ediv_ediv_of_nonneg (by decide), List.cons_append, Int.pow_succ, Int.mul_comm]
theorem bval_nil : bval [] = 0 := rfl
theorem bval_snoc (bs : List Int) (b : Int) : bval (bs ++ [b]) = bval bs * 256 + b := by simp [bval]
theorem bval_be : ∀ (k : Nat) (n : Int), 0 ≤ n → n < 256 ^ k → bval (be n k) = n := by
  intro k
  induction k with
  | zero => intro n h0 h1; simp at h1; simp [be, bval]; omega
  | succ k ih =>
    intro n h0 h1
    rw [be_snoc, bval_snoc, ih (n / 256) (by omega) (by rw [Int.pow_succ] at h1; omega)]
    omega
theorem bval_bd : ∀ (k : Nat) (bs : List Int), bs.length = k → Byt bs → 0 ≤ bval bs ∧ bval bs < 256 ^ k := by
  intro k
  induction k with
  | zero => intro bs h _; obtain rfl := List.length_eq_zero_iff.1 h; simp [bval]
  | succ k ih =>
    intro bs h hb
    have hne : bs ≠ [] := by intro e; rw [e] at h; simp at h
    obtain ⟨l, b, rfl⟩ : ∃ l b, bs = l ++ [b] := ⟨bs.dropLast, bs.getLast hne, (List.dropLast_concat_getLast hne).symm⟩
    have h1 := ih l (by simpa using h) (fun x hx => hb x (by simp [hx]))
    have h2 := hb b (by simp)
    rw [bval_snoc, Int.pow_succ]
    omega
theorem be_bval : ∀ (k : Nat) (bs : List Int), bs.length = k → Byt bs → be (bval bs) k = bs := by
  intro k
  induction k with
  | zero => intro bs h _; obtain rfl := List.length_eq_zero_iff.1 h; rfl
  | succ k ih =>
    intro bs h hb
    have hne : bs ≠ [] := by intro e; rw [e] at h; simp at h
    obtain ⟨l, b, rfl⟩ : ∃ l b, bs = l ++ [b] := ⟨bs.dropLast, bs.getLast hne, (List.dropLast_concat_getLast hne).symm⟩
    have h1 := ih l (by simpa using h) (fun x hx => hb x (by simp [hx]))
    have h2 := hb b (by simp)
    rw [bval_snoc, be_snoc, show (bval l * 256 + b) / 256 = bval l by omega, show (bval l * 256 + b) % 256 = b by omega, h1]
theorem bval_one (b : Int) : bval [b] = b := by simp [bval]
theorem be_one {n : Int} (h0 : 0 ≤ n) (h1 : n < 256) : be n 1 = [n] := by simp [be]; omega

theorem or_join {x y : Int} (hx0 : 0 ≤ x) (hx1 : x < 4294967296) (hy0 : 0 ≤ y) (hy1 : y < 256) : bits .or .i64 (x * 256) y = x * 256 + y :=
  bits_join .i64 63 (by decide) (fun n h0 h1 => by simp [IntKind.wrap, IntKind.bits, IntKind.signed]; omega) 8 (x * 256) y (by omega) (by omega) (by omega) hy0 (by omega) (by omega)

/-! ### Off a front -/
structure RS where
  rest : List Int
  wrong : Int

def RS.refuse (r : RS) (e : Int) : RS := if r.wrong = 0 then ⟨r.rest, e⟩ else r
def RS.short (r : RS) (k : Nat) : RS := if r.rest.length < k then r.refuse 5 else r
def RS.num (r : RS) (k : Nat) : Int × RS := if (r.short k).wrong = 0 then (bval (r.rest.take k), ⟨r.rest.drop k, 0⟩) else (0, r.short k)

theorem num_ok {r : RS} {k : Nat} (h : r.wrong = 0) (hk : k ≤ r.rest.length) : r.num k = (bval (r.rest.take k), ⟨r.rest.drop k, 0⟩) := by
  have : ¬ r.rest.length < k := by omega
  simp [RS.num, RS.short, this, h]
theorem num_short {r : RS} {k : Nat} (h : r.wrong = 0) (hk : r.rest.length < k) : r.num k = (0, ⟨r.rest, 5⟩) := by
  simp [RS.num, RS.short, RS.refuse, hk, h]
theorem num_wrong {r : RS} {k : Nat} (h : r.wrong ≠ 0) : r.num k = (0, r) := by
  unfold RS.num RS.short RS.refuse
  by_cases hk : r.rest.length < k <;> simp [hk, h]
theorem num_app {n : Int} {k : Nat} {t : List Int} (h0 : 0 ≤ n) (h1 : n < 256 ^ k) : (RS.mk (be n k ++ t) 0).num k = (n, ⟨t, 0⟩) := by
  rw [num_ok rfl (by simp [be_len])]
  simp [be_len, bval_be k n h0 h1]
end Go.Proofs.YtdjnaahkcnklhabDoor
