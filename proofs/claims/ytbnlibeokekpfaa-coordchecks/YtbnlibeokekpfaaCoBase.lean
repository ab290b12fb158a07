/- A desk's jobs and their tasks, on plain data, and in memory; what a desk that may be is. -/
import Derived.Test.YtbnlibeokekpfaaSBase
import Derived.Test.YtbnlibeokekpfaaSBox
import Derived.Test.YtbnlibeokekpfaaCheck
namespace Go.Proofs.Ytbnlibeokekpfaa.Co
open Go.ChangeShapes Go.WideShapes Go.ChangeAt Go.RowKit
open Go.Proofs.Ytbnlibeokekpfaa.St (IsRow drop_at take_at BoxN boxn_new)
set_option linter.unusedVariables false

structure TkV where
  write : Bool
  label : Int
  key : Int
  value : Int
  version : Int
  ask : Int
  done : Bool
  sure : Bool
instance : Inhabited TkV := ⟨⟨false, 0, 0, 0, 0, 0, false, false⟩⟩
def TkV.cells (x : TkV) : List Value := [.bool x.write, .int .i64 x.label, .int .i64 x.key, .int .i64 x.value, .int .i64 x.version, .int .i64 x.ask, .bool x.done, .bool x.sure]
def TkV.val (x : TkV) : Value := .agg #[.bool x.write, .int .i64 x.label, .int .i64 x.key, .int .i64 x.value, .int .i64 x.version, .int .i64 x.ask, .bool x.done, .bool x.sure]
def inCell (n : Int) : List Value := [.int .i64 n]
structure JbV where
  n : Int
  state : Int
  ta : Option Addr
  tl : Nat
  tc : Nat
  aa : Option Addr
  al : Nat
  ac : Nat
  asks : Int
  age : Int
  tasks : List TkV
  asked : List Int
instance : Inhabited JbV := ⟨⟨0, 0, none, 0, 0, none, 0, 0, 0, 0, [], []⟩⟩
def JbV.cells (j : JbV) : List Value := [.int .i64 j.n, .int .i64 j.state, .slice j.ta j.tl j.tc, .slice j.aa j.al j.ac, .int .i64 j.asks, .int .i64 j.age]
def JbV.val (j : JbV) : Value := .agg #[.int .i64 j.n, .int .i64 j.state, .slice j.ta j.tl j.tc, .slice j.aa j.al j.ac, .int .i64 j.asks, .int .i64 j.age]
abbrev IsTasks := @IsRow TkV _ 8 TkV.cells
abbrev IsSites := @IsRow Int _ 1 inCell
structure IsJob (w : World) (j : JbV) : Prop where
  tasks : IsTasks w j.ta j.tl j.tc j.tasks
  asked : IsSites w j.aa j.al j.ac j.asked
theorem IsJob.below {w w' : World} {j : JbV} (h : IsJob w j) (hb : Below w.heap.size w w') : IsJob w' j := ⟨h.tasks.below hb, h.asked.below hb⟩
structure IsJobs (w : World) (a : Option Addr) (n c : Nat) (js : List JbV) : Prop where
  row : IsRow 6 JbV.cells w a n c js
  each : ∀ j ∈ js, IsJob w j
theorem IsJobs.below {w w' : World} {a : Option Addr} {n c : Nat} {js : List JbV} (h : IsJobs w a n c js) (hb : Below w.heap.size w w') : IsJobs w' a n c js := ⟨h.row.below hb, fun j hj => (h.each j hj).below hb⟩

/-- What a task may be by itself; nl: how many labels there are. -/
def tkOK (nl : Int) (t : TkV) : Bool := inR t.label 0 (nl - 1) && inR t.key 0 7 && inR t.value 0 1073741824 && inR t.version 0 1048576 && (t.done || (!t.sure && (t.write || (decide (t.value = 0) && decide (t.version = 0)))))
def tksGo (nl asks state : Int) : Int → List TkV → Bool
  | _, [] => true
  | low, t :: r => inR t.ask low asks && tkOK nl t && (t.done || (r.isEmpty && decide (state = 1))) && tksGo nl asks state (t.ask + 1) r
def tksOK (nl asks state : Int) (l : List TkV) : Bool := decide (l.length ≤ 10) && tksGo nl asks state 1 l
def rise (s : Int) : Int → List Int → Bool
  | _, [] => true
  | low, n :: r => inR n low (s - 1) && rise s (n + 1) r
def jbOK (s nl : Int) (j : JbV) : Bool := inR j.age 0 1048576 && inR j.state 1 3 && inR j.asks 0 1048576 && rise s 0 j.asked && (decide (j.state = 3) == decide (0 < j.asked.length)) && tksOK nl j.asks j.state j.tasks
def jbsGo (s nl next : Int) : Int → List JbV → Bool
  | _, [] => true
  | low, j :: r => inR j.n low (next - 1) && jbOK s nl j && jbsGo s nl next (j.n + 1) r
def jbsOK (s nl next : Int) (l : List JbV) : Bool := decide (l.length ≤ 6) && jbsGo s nl next 1 l
def dkErr (s : Int) (ls : List (Int × Int)) (p next : Int) (l : List JbV) : Int := if cfgFault s ls p = 0 then (if inR next 1 1048577 && jbsOK s ls.length next l then 0 else 9) else cfgFault s ls p
theorem mem_at {α : Type} [Inhabited α] {l : List α} {i : Nat} (h : i < l.length) : l.getD i default ∈ l := by
  simp [List.getD, h]
theorem tksGo_at {nl asks state low : Int} {l : List TkV} {k : Nat} (hk : k < l.length) : tksGo nl asks state low (l.drop k) = (inR (l.getD k default).ask low asks && tkOK nl (l.getD k default) && ((l.getD k default).done || (decide (k + 1 = l.length) && decide (state = 1))) && tksGo nl asks state ((l.getD k default).ask + 1) (l.drop (k + 1))) := by
  rw [drop_at hk, tksGo]
  have : (l.drop (k + 1)).isEmpty = decide (k + 1 = l.length) := by
    rw [Bool.eq_iff_iff, List.isEmpty_iff]
    simp
    omega
  rw [this]
theorem rise_at {s low : Int} {l : List Int} {k : Nat} (hk : k < l.length) : rise s low (l.drop k) = (inR (l.getD k default) low (s - 1) && rise s (l.getD k default + 1) (l.drop (k + 1))) := by
  rw [drop_at hk, rise]
theorem jbsGo_at {s nl next low : Int} {l : List JbV} {k : Nat} (hk : k < l.length) : jbsGo s nl next low (l.drop k) = (inR (l.getD k default).n low (next - 1) && jbOK s nl (l.getD k default) && jbsGo s nl next ((l.getD k default).n + 1) (l.drop (k + 1))) := by
  rw [drop_at hk, jbsGo]
end Go.Proofs.Ytbnlibeokekpfaa.Co
