/- How a tape comes in as an argument: its bytes and how many of them are synced. -/
import Derived.Test.YtflfcjbgkpfgkaaDoorA5TapeRecovers
set_option maxRecDepth 10000
namespace Go.Proofs.YtflfcjbgkpfgkaaDoor
open Go.ChangeShapes Go.WideShapes Go.ChangeAt Go.RowKit Go.Joins Go.Deep

variable {H : Type} {enc : TypeId × Value → H} {W : World} {base : Nat}

theorem cellsTape : Tryd.prog.cellsOf 36 = 2 := by kernel_rfl
theorem cellsIntT : Tryd.prog.cellsOf 3 = 1 := by kernel_rfl

theorem op_tape {v : Value} {d : DataW H} {p : List MemPlace} (hv : Value.okWide Tryd.prog W .any base 36 v) (h : DataW.Trod enc Tryd.prog W 0 (fun _ => true) true 36 v d p) :
    ∃ (a : Option Addr) (len cap : Nat) (bs : List Int) (y : Int), v = .agg #[.slice a len cap, .int .i64 y] ∧ IsB W a len cap bs ∧ (-9223372036854775808 ≤ y ∧ y ≤ 9223372036854775807) ∧ (LightB 36 d → len ≤ 140737488351232) := by
  obtain ⟨c0, c1, y0, y1, m, rfl, rfl, rfl, hy0, hy1⟩ := open_agg2 Tryd.underlying36 (by kernel_rfl) cellsTape hv h
  obtain ⟨a, len, cap, bs, e0, hB, hL⟩ := trod_bytes hy0
  obtain ⟨b, e1, rfl, wb⟩ := DataW.trod_int Tryd.underlying3 hy1
  simp at e0 e1
  subst e0 e1
  refine ⟨a, len, cap, bs, b, rfl, hB, bounds_i64 wb, fun hA => hL fun k hk => hA k ?_⟩
  simp only [DataW.weights, Tryd.underlying36]
  exact DataW.weights_mem_each (j := 0) (t := 25) (d := y0.1) rfl rfl k hk
end Go.Proofs.YtflfcjbgkpfgkaaDoor
