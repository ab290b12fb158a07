/- How an integer comes in as an argument. -/
import Derived.Test.YtofijgoffjdjmaaProg
import Derived.WalkKit
import Derived.ProofKit
import Derived.OpenShut
import Derived.Below
import Derived.Lib.SmallJoins
import Derived.Deep.Slices
import Derived.Test.YtofijgoffjdjmaaBase
namespace Go.Proofs.Ytofijgoffjdjmaa
open Go.ChangeShapes Go.WideShapes Go.ChangeAt Go.RowKit Go.Joins

variable {H : Type} {enc : TypeId × Value → H} {W : World} {base : Nat}

theorem op_int {v : Value} {d : DataW H} {p : List MemPlace} (hv : Value.okWide Try.prog W .any base 3 v) (h : DataW.Trod enc Try.prog W 0 (fun _ => true) true 3 v d p) :
    ∃ n : Int, v = .int .i64 n ∧ (Lit.int .i64 n).wf = true := by
  obtain ⟨a, h1, h2, h3, wa⟩ := open_int Try.underlying3 hv h
  exact ⟨a, h1, wa⟩
end Go.Proofs.Ytofijgoffjdjmaa
