/- How arguments of this seat's types come in: an integer, a label; each as the value that the walk meets, with what is known of its numbers. -/
import Derived.Test.YtekglahigjblkaaGreatDoorProg
import Derived.WalkKit
import Derived.ProofKit
import Derived.OpenShut
import Derived.Below
import Derived.Lib.SmallJoins
import Derived.Deep.Slices
import Derived.Test.YtekglahigjblkaaGreatDoorA0RecoverRebuilds
set_option maxRecDepth 10000
namespace Go.Proofs.YtekglahigjblkaaGreatDoor
open Go.ChangeShapes Go.WideShapes Go.ChangeAt Go.RowKit Go.Joins

variable {H : Type} {enc : TypeId × Value → H} {W : World} {base : Nat}

theorem op_int {v : Value} {d : DataW H} {p : List MemPlace} (hv : Value.okWide Tryz.prog W .any base 3 v) (h : DataW.Trod enc Tryz.prog W 0 (fun _ => true) true 3 v d p) :
    ∃ n : Int, v = .int .i64 n ∧ (Lit.int .i64 n).wf = true := by
  obtain ⟨a, h1, h2, h3, wa⟩ := open_int Tryz.underlying3 hv h
  exact ⟨a, h1, wa⟩

theorem cells87 : Tryz.prog.cellsOf 87 = 2 := by kernel_rfl

theorem op_label {v : Value} {d : DataW H} {p : List MemPlace} (hv : Value.okWide Tryz.prog W .any base 87 v) (h : DataW.Trod enc Tryz.prog W 0 (fun _ => true) true 87 v d p) :
    ∃ l c : Int, v = .agg #[.int .i64 l, .int .i64 c] ∧ (Lit.int .i64 l).wf = true ∧ (Lit.int .i64 c).wf = true := by
  obtain ⟨c0, c1, y0, y1, m, rfl, rfl, rfl, hy0, hy1⟩ := open_agg2 Tryz.underlying87 (by kernel_rfl) cells87 hv h
  obtain ⟨a, e0, rfl, wa⟩ := DataW.trod_int Tryz.underlying3 hy0
  obtain ⟨b, e1, rfl, wb⟩ := DataW.trod_int Tryz.underlying3 hy1
  simp at e0 e1
  subst e0 e1
  exact ⟨a, b, rfl, wa, wb⟩
end Go.Proofs.YtekglahigjblkaaGreatDoor
