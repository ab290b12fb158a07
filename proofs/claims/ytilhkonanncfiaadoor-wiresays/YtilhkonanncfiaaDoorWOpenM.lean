/- How a message comes in as an argument. -/
import Derived.Test.YtilhkonanncfiaaDoorOpenC
import Derived.Test.YtilhkonanncfiaaDoorWMsg
namespace Go.Proofs.YtilhkonanncfiaaDoor
open Go.ChangeShapes Go.WideShapes Go.ChangeAt Go.RowKit Go.Joins Go.Deep

variable {H : Type} {enc : TypeId × Value → H} {W : World} {base : Nat}

theorem cellsM : Tryd.prog.cellsOf 29 = 12 := by kernel_rfl
theorem cellsB : Tryd.prog.cellsOf 4 = 1 := by kernel_rfl
theorem cellsT : Tryd.prog.cellsOf 26 = 2 := by kernel_rfl
theorem cellsE : Tryd.prog.cellsOf 27 = 1 := by kernel_rfl

theorem twelve_of {α : Type} {l : List α} (h : l.length = 12) : ∃ a b c d e f g i j k m n, l = [a, b, c, d, e, f, g, i, j, k, m, n] := by
  match l, h with
  | [a, b, c, d, e, f, g, i, j, k, m, n], _ => exact ⟨a, b, c, d, e, f, g, i, j, k, m, n, rfl⟩

theorem trod_txn {n : Nat} {cs : List Value} {x : DataW H × List MemPlace} (h : DataW.trod enc Tryd.prog W 0 (fun _ => true) true n 26 cs = some x) :
    ∃ a b : Int, cs = [.int .i64 a, .int .i64 b] := by
  obtain ⟨y0, y1, m, _, hlen, h0, h1⟩ := trod_struct2 Tryd.underlying26 h
  rw [cellsT] at hlen
  obtain ⟨v0, v1, rfl⟩ := two_of hlen
  rw [cells3] at h0 h1
  obtain ⟨a, e0, _, wa⟩ := DataW.trod_int Tryd.underlying3 h0
  obtain ⟨b, e1, _, wb⟩ := DataW.trod_int Tryd.underlying3 h1
  simp at e0 e1
  subst e0 e1
  exact ⟨a, b, rfl⟩

theorem op_message {v : Value} {d : DataW H} {p : List MemPlace} (hv : Value.okWide Tryd.prog W .any base 29 v) (h : DataW.Trod enc Tryd.prog W 0 (fun _ => true) true 29 v d p) :
    ∃ m : MV, v = m.val := by
  obtain ⟨cs, rfl, hsz⟩ := okWide_struct Tryd.underlying29 hv
  obtain ⟨fuel, hf⟩ := h
  obtain ⟨ys, m, _, hx, hlen, hyl, hfl⟩ := DataW.trod_struct Tryd.underlying29 hf
  rw [cellsM] at hlen
  have hl : cs.toList.length = 12 := by simpa [Value.cells] using hlen
  obtain ⟨v0, v1, v2, v3, v4, v5, v6, v7, v8, v9, v10, v11, hcs⟩ := twelve_of hl
  obtain rfl : cs = #[v0, v1, v2, v3, v4, v5, v6, v7, v8, v9, v10, v11] := by
    cases cs
    simpa using hcs
  have hy11 : ys.length = 11 := by simpa using hyl
  have hE : ∀ i, i < 11 → ∃ y, ys[i]? = some y := fun i hi => ⟨ys[i]'(by omega), List.getElem?_eq_getElem _⟩
  obtain ⟨y0, z0⟩ := hE 0 (by omega)
  obtain ⟨y1, z1⟩ := hE 1 (by omega)
  obtain ⟨y2, z2⟩ := hE 2 (by omega)
  obtain ⟨y3, z3⟩ := hE 3 (by omega)
  obtain ⟨y4, z4⟩ := hE 4 (by omega)
  obtain ⟨y5, z5⟩ := hE 5 (by omega)
  obtain ⟨y6, z6⟩ := hE 6 (by omega)
  obtain ⟨y7, z7⟩ := hE 7 (by omega)
  obtain ⟨y8, z8⟩ := hE 8 (by omega)
  obtain ⟨y9, z9⟩ := hE 9 (by omega)
  obtain ⟨y10, z10⟩ := hE 10 (by omega)
  have e0 := hfl 0 _ rfl
  have e1 := hfl 1 _ rfl
  have e2 := hfl 2 _ rfl
  have e3 := hfl 3 _ rfl
  have e4 := hfl 4 _ rfl
  have e5 := hfl 5 _ rfl
  have e6 := hfl 6 _ rfl
  have e7 := hfl 7 _ rfl
  have e8 := hfl 8 _ rfl
  have e9 := hfl 9 _ rfl
  have e10 := hfl 10 _ rfl
  rw [z0] at e0
  rw [z1] at e1
  rw [z2] at e2
  rw [z3] at e3
  rw [z4] at e4
  rw [z5] at e5
  rw [z6] at e6
  rw [z7] at e7
  rw [z8] at e8
  rw [z9] at e9
  rw [z10] at e10
  simp [cells3, Value.cells] at e0 e1 e2 e4 e5 e6 e7 e8
  simp [cellsT, Value.cells] at e3
  simp [cellsB, Value.cells] at e9
  simp [cellsE, Value.cells] at e10
  obtain ⟨a0, r0, _⟩ := DataW.trod_int Tryd.underlying3 e0
  obtain ⟨a1, r1, _⟩ := DataW.trod_int Tryd.underlying3 e1
  obtain ⟨a2, r2, _⟩ := DataW.trod_int Tryd.underlying3 e2
  obtain ⟨a3, a4, r3⟩ := trod_txn e3
  obtain ⟨a5, r5, _⟩ := DataW.trod_int Tryd.underlying3 e4
  obtain ⟨a6, r6, _⟩ := DataW.trod_int Tryd.underlying3 e5
  obtain ⟨a7, r7, _⟩ := DataW.trod_int Tryd.underlying3 e6
  obtain ⟨a8, r8, _⟩ := DataW.trod_int Tryd.underlying3 e7
  obtain ⟨a9, r9, _⟩ := DataW.trod_int Tryd.underlying3 e8
  obtain ⟨a10, r10, _⟩ := DataW.trod_bool Tryd.underlying4 e9
  obtain ⟨a11, r11, _⟩ := DataW.trod_int Tryd.underlying27 e10
  simp at r0 r1 r2 r3 r5 r6 r7 r8 r9 r10 r11
  refine ⟨⟨a0, a1, a2, a3, a4, a5, a6, a7, a8, a9, a10, a11⟩, ?_⟩
  simp [MV.val, r0, r1, r2, r3, r5, r6, r7, r8, r9, r10, r11]
end Go.Proofs.YtilhkonanncfiaaDoor
