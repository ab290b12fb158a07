/- How one row of raw numbers comes in as an argument. -/
import Derived.Test.YtcfhhjnbkpgpeaaDoorA32RebuildDesk
set_option maxRecDepth 10000
namespace Go.Proofs.YtcfhhjnbkpgpeaaDoor
open Go.ChangeShapes Go.WideShapes Go.ChangeAt Go.RowKit Go.Joins Go.Deep

structure RV where
  kd : Int
  ra : Int
  rb : Int
  rc : Int
  rd : Int
  re : Int
def Bd (n : Int) : Prop := -9223372036854775808 ≤ n ∧ n ≤ 9223372036854775807
def RV.ok (r : RV) : Prop := Bd r.kd ∧ Bd r.ra ∧ Bd r.rb ∧ Bd r.rc ∧ Bd r.rd ∧ Bd r.re
def RV.val (r : RV) : Value := .agg #[.int .i64 r.kd, .int .i64 r.ra, .int .i64 r.rb, .int .i64 r.rc, .int .i64 r.rd, .int .i64 r.re]

variable {H : Type} {enc : TypeId × Value → H} {W : World} {base : Nat}

theorem cellsRaw : Tryd.prog.cellsOf 57 = 6 := by kernel_rfl
theorem six_of {α : Type} {l : List α} (h : l.length = 6) : ∃ a b c d e f, l = [a, b, c, d, e, f] := by
  match l, h with
  | [a, b, c, d, e, f], _ => exact ⟨a, b, c, d, e, f, rfl⟩
theorem bd_of {n : Int} (h : (Lit.int .i64 n).wf = true) : Bd n := by
  have := bounds_i64 h
  unfold Bd
  omega

theorem op_raw {v : Value} {d : DataW H} {p : List MemPlace} (hv : Value.okWide Tryd.prog W .any base 57 v) (h : DataW.Trod enc Tryd.prog W 0 (fun _ => true) true 57 v d p) :
    ∃ r : RV, v = r.val ∧ r.ok := by
  obtain ⟨cs, rfl, hsz⟩ := okWide_struct Tryd.underlying57 hv
  obtain ⟨fuel, hf⟩ := h
  obtain ⟨ys, m, _, hx, hlen, hyl, hfl⟩ := DataW.trod_struct Tryd.underlying57 hf
  rw [cellsRaw] at hlen
  have hl : cs.toList.length = 6 := by simpa [Value.cells] using hlen
  obtain ⟨v0, v1, v2, v3, v4, v5, hcs⟩ := six_of hl
  obtain rfl : cs = #[v0, v1, v2, v3, v4, v5] := by
    cases cs
    simpa using hcs
  have hy6 : ys.length = 6 := by simpa using hyl
  have hE : ∀ i, i < 6 → ∃ y, ys[i]? = some y := fun i hi => ⟨ys[i]'(by omega), List.getElem?_eq_getElem _⟩
  obtain ⟨y0, z0⟩ := hE 0 (by omega)
  obtain ⟨y1, z1⟩ := hE 1 (by omega)
  obtain ⟨y2, z2⟩ := hE 2 (by omega)
  obtain ⟨y3, z3⟩ := hE 3 (by omega)
  obtain ⟨y4, z4⟩ := hE 4 (by omega)
  obtain ⟨y5, z5⟩ := hE 5 (by omega)
  have e0 := hfl 0 _ rfl
  have e1 := hfl 1 _ rfl
  have e2 := hfl 2 _ rfl
  have e3 := hfl 3 _ rfl
  have e4 := hfl 4 _ rfl
  have e5 := hfl 5 _ rfl
  rw [z0] at e0
  rw [z1] at e1
  rw [z2] at e2
  rw [z3] at e3
  rw [z4] at e4
  rw [z5] at e5
  simp [cells3, Value.cells] at e0 e1 e2 e3 e4 e5
  obtain ⟨a0, r0, _, q0⟩ := DataW.trod_int Tryd.underlying3 e0
  obtain ⟨a1, r1, _, q1⟩ := DataW.trod_int Tryd.underlying3 e1
  obtain ⟨a2, r2, _, q2⟩ := DataW.trod_int Tryd.underlying3 e2
  obtain ⟨a3, r3, _, q3⟩ := DataW.trod_int Tryd.underlying3 e3
  obtain ⟨a4, r4, _, q4⟩ := DataW.trod_int Tryd.underlying3 e4
  obtain ⟨a5, r5, _, q5⟩ := DataW.trod_int Tryd.underlying3 e5
  simp at r0 r1 r2 r3 r4 r5
  refine ⟨⟨a0, a1, a2, a3, a4, a5⟩, ?_, bd_of q0, bd_of q1, bd_of q2, bd_of q3, bd_of q4, bd_of q5⟩
  simp [RV.val, r0, r1, r2, r3, r4, r5]
end Go.Proofs.YtcfhhjnbkpgpeaaDoor
