/- How rows of raw numbers, and one of them, come in as arguments, beside a store. -/
import Derived.Test.YtdjnaahkcnklhaaA2TaskTwice
set_option maxRecDepth 10000
namespace Go.Proofs.Ytdjnaahkcnklhaa.St
open Go.ChangeShapes Go.WideShapes Go.ChangeAt Go.RowKit Go.Joins Go.Deep
set_option linter.unusedVariables false

structure RV where
  kd : Int
  ra : Int
  rb : Int
  rc : Int
  rd : Int
  re : Int
instance : Inhabited RV := ⟨⟨0, 0, 0, 0, 0, 0⟩⟩
def Bd (n : Int) : Prop := -9223372036854775808 ≤ n ∧ n ≤ 9223372036854775807
def RV.ok (r : RV) : Prop := Bd r.kd ∧ Bd r.ra ∧ Bd r.rb ∧ Bd r.rc ∧ Bd r.rd ∧ Bd r.re
def RV.val (r : RV) : Value := .agg #[.int .i64 r.kd, .int .i64 r.ra, .int .i64 r.rb, .int .i64 r.rc, .int .i64 r.rd, .int .i64 r.re]
def RV.cells (r : RV) : List Value := [.int .i64 r.kd, .int .i64 r.ra, .int .i64 r.rb, .int .i64 r.rc, .int .i64 r.rd, .int .i64 r.re]
structure IsRaws (w : World) (a : Option Addr) (len cap : Nat) (rs : List RV) : Prop where
  row : IsRow 6 RV.cells w a len cap rs
  ok : ∀ r ∈ rs, r.ok
theorem IsRaws.below {w w' : World} {a : Option Addr} {len cap : Nat} {rs : List RV} (h : IsRaws w a len cap rs) (hb : Below w.heap.size w w') : IsRaws w' a len cap rs := ⟨h.row.below hb, h.ok⟩
theorem bd_of {n : Int} (h : (Lit.int .i64 n).wf = true) : Bd n := by
  have := bounds_i64 h
  unfold Bd
  omega

variable {H : Type} {enc : TypeId × Value → H} {W : World} {base : Nat}
theorem op_bool {v : Value} {d : DataW H} {p : List MemPlace} (hv : Value.okWide Try.prog W .any base 4 v) (h : DataW.Trod enc Try.prog W 0 (fun _ => true) true 4 v d p) : ∃ b : Bool, v = .bool b := by
  obtain ⟨b, h1, _⟩ := open_bool Try.underlying4 hv h
  exact ⟨b, h1⟩
end Go.Proofs.Ytdjnaahkcnklhaa.St
