/- How notes come in as an argument, with their number. -/
import Derived.Test.YtgohpgollpjlnaaDoorA20ConsoleShows
import Derived.Test.YtgohpgollpjlnaaDoorM13ConsoleShows
set_option maxRecDepth 10000
namespace Go.Proofs.YtgohpgollpjlnaaDoor.Pt
open Go.ChangeShapes Go.WideShapes Go.ChangeAt Go.RowKit Go.Joins Go.Deep
open Go.Proofs.YtgohpgollpjlnaaDoor.St (IsRow LightN row_light)
set_option linter.unusedVariables false

variable {H : Type} {enc : TypeId × Value → H} {W : World} {base : Nat}
theorem cNt : Tryd.prog.cellsOf 48 = 4 := by kernel_rfl
theorem bNt : Tryd.prog.bytesOf 48 = 24 := by kernel_rfl
theorem cNx : Tryd.prog.cellsOf 23 = 2 := by kernel_rfl
theorem cNb : Tryd.prog.cellsOf 4 = 1 := by kernel_rfl
theorem l3 {α : Type} {l : List α} (h : l.length = 3) : ∃ a b c, l = [a, b, c] := by match l, h with | [a, b, c], _ => exact ⟨a, b, c, rfl⟩
theorem trod_note {n : Nat} {cs : List Value} {x : DataW H × List MemPlace} (h : DataW.trod enc Tryd.prog W 0 (fun _ => true) true n 48 cs = some x) : ∃ t : NV, cs = t.cells ∧ True ∧ (LightN 48 x.1 → True) := by
  obtain ⟨ys, m, _, _, hlen, hyl, hf⟩ := DataW.trod_struct Tryd.underlying48 h
  rw [cNt] at hlen
  obtain ⟨v0, v1, v2, v3, rfl⟩ := l4 hlen
  obtain ⟨y0, y1, y2, rfl⟩ := l3 (l := ys) (by simpa using hyl)
  have e0 := hf 0 _ rfl
  have e1 := hf 1 _ rfl
  have e2 := hf 2 _ rfl
  simp [cNx, cNb] at e0 e1 e2
  obtain ⟨t, r0, _⟩ := St.trod_txn e0
  obtain ⟨a1, r1, _⟩ := DataW.trod_bool Tryd.underlying4 e1
  obtain ⟨a2, r2, _⟩ := DataW.trod_bool Tryd.underlying4 e2
  simp [St.txCells] at r0 r1 r2
  exact ⟨⟨t.1, t.2, a1, a2⟩, by rw [r0.1, r0.2, r1, r2]; rfl, trivial, fun _ => trivial⟩
theorem op_notes {v : Value} {d : DataW H} {p : List MemPlace} (hv : Value.okWide Tryd.prog W .any base 49 v) (h : DataW.Trod enc Tryd.prog W 0 (fun _ => true) true 49 v d p) :
    ∃ (a : Option Addr) (n cap : Nat) (ns : List NV), v = .slice a n cap ∧ IsNotes W a n cap ns ∧ (LightN 49 d → n * 24 ≤ 140737488351232) := by
  obtain ⟨a, n, cap, rfl⟩ := okWide_slice Tryd.underlying49 hv
  obtain ⟨fuel, hf⟩ := h
  obtain ⟨a', n', cap', ns, e, hr, _, hlt⟩ := row_light (cells := NV.cells) (fun _ => True) (fun _ => True) Tryd.underlying49 cNt bNt (by omega) (fun y => ⟨_, rfl⟩) (fun h => trod_note h) hf
  simp [Value.cells] at e
  obtain ⟨rfl, rfl, rfl⟩ := e
  exact ⟨a, n, cap, ns, rfl, hr, fun hL => (hlt hL).1⟩
end Go.Proofs.YtgohpgollpjlnaaDoor.Pt
