/- How a record comes in as an argument. -/
import Derived.Test.YtilhkonanncfiaaDoorWOpenM
import Derived.Test.YtilhkonanncfiaaDoorWRec
namespace Go.Proofs.YtilhkonanncfiaaDoor
open Go.ChangeShapes Go.WideShapes Go.ChangeAt Go.RowKit Go.Joins Go.Deep

variable {H : Type} {enc : TypeId × Value → H} {W : World} {base : Nat}

theorem cellsR : Tryd.prog.cellsOf 36 = 8 := by kernel_rfl
theorem cellsS : Tryd.prog.cellsOf 34 = 1 := by kernel_rfl

theorem eight_of {α : Type} {l : List α} (h : l.length = 8) : ∃ a b c d e f g i, l = [a, b, c, d, e, f, g, i] := by
  match l, h with
  | [a, b, c, d, e, f, g, i], _ => exact ⟨a, b, c, d, e, f, g, i, rfl⟩

theorem trod_intsR {n : Nat} {cs : List Value} {x : DataW H × List MemPlace} (h : DataW.trod enc Tryd.prog W 0 (fun _ => true) true n 34 cs = some x) :
    ∃ (a : Option Addr) (len cap : Nat) (zs : List Int), cs = [.slice a len cap] ∧ IsInts W a len cap zs := by
  rcases open_ints Tryd.underlying34 Tryd.underlying3 cells3 h with ⟨hcs, _⟩ | ⟨x, len, cap, zs, hcs, _, hl, hm, hz, hx, hcell, hwz⟩
  · subst hcs
    exact ⟨none, 0, 0, [], rfl, ⟨rfl, Nat.le_refl _, Nat.zero_le _, fun i => by simp, fun h => absurd h (by omega)⟩⟩
  · subst hcs
    have hz' : zs.length = cap := by simpa using hz
    refine ⟨some x, len, cap, zs.take len, rfl, ⟨by simp; omega, hl, hm, fun i => ?_, fun hp => ?_⟩⟩
    · by_cases hi : i < len
      · have hi' : i < zs.length := by omega
        have := bounds_i64 (hwz zs[i] (List.getElem_mem hi'))
        simpa [List.getD, hi, hi'] using this
      · simp [List.getD, List.getElem?_take, hi]
    · obtain ⟨b, off, spot⟩ := x
      have h0 := hcell 0 (by omega)
      have hspot : spot = none := by simpa [Addr.add] using World.cell?_spot h0
      subst hspot
      have ad : ∀ i, (⟨b, off, none⟩ : Addr).add i = ⟨b, off + i, none⟩ := by
        intro i
        unfold Addr.add
        by_cases h : i = 0 <;> simp [h]
      rw [ad] at h0
      refine ⟨b, off, rfl, World.block_lt_of_cell? W _ h0, fun i hi => ?_⟩
      have := hcell i (by omega)
      rw [ad] at this
      rw [this]
      simp [List.getD, hi]

theorem op_record {v : Value} {d : DataW H} {p : List MemPlace} (hv : Value.okWide Tryd.prog W .any base 36 v) (h : DataW.Trod enc Tryd.prog W 0 (fun _ => true) true 36 v d p) :
    ∃ r : RcV, v = r.val ∧ IsInts W r.sa r.sl r.sc r.sites := by
  obtain ⟨cs, rfl, hsz⟩ := okWide_struct Tryd.underlying36 hv
  obtain ⟨fuel, hf⟩ := h
  obtain ⟨ys, m, _, hx, hlen, hyl, hfl⟩ := DataW.trod_struct Tryd.underlying36 hf
  rw [cellsR] at hlen
  have hl : cs.toList.length = 8 := by simpa [Value.cells] using hlen
  obtain ⟨v0, v1, v2, v3, v4, v5, v6, v7, hcs⟩ := eight_of hl
  obtain rfl : cs = #[v0, v1, v2, v3, v4, v5, v6, v7] := by
    cases cs
    simpa using hcs
  have hy7 : ys.length = 7 := by simpa using hyl
  have hE : ∀ i, i < 7 → ∃ y, ys[i]? = some y := fun i hi => ⟨ys[i]'(by omega), List.getElem?_eq_getElem _⟩
  obtain ⟨y0, z0⟩ := hE 0 (by omega)
  obtain ⟨y1, z1⟩ := hE 1 (by omega)
  obtain ⟨y2, z2⟩ := hE 2 (by omega)
  obtain ⟨y3, z3⟩ := hE 3 (by omega)
  obtain ⟨y4, z4⟩ := hE 4 (by omega)
  obtain ⟨y5, z5⟩ := hE 5 (by omega)
  obtain ⟨y6, z6⟩ := hE 6 (by omega)
  have e0 := hfl 0 _ rfl
  have e1 := hfl 1 _ rfl
  have e2 := hfl 2 _ rfl
  have e3 := hfl 3 _ rfl
  have e4 := hfl 4 _ rfl
  have e5 := hfl 5 _ rfl
  have e6 := hfl 6 _ rfl
  rw [z0] at e0
  rw [z1] at e1
  rw [z2] at e2
  rw [z3] at e3
  rw [z4] at e4
  rw [z5] at e5
  rw [z6] at e6
  simp [cells3, Value.cells] at e0 e2 e3 e4
  simp [cellsT, Value.cells] at e1
  simp [cellsB, Value.cells] at e5
  simp [cellsS, Value.cells] at e6
  obtain ⟨a0, r0, _⟩ := DataW.trod_int Tryd.underlying3 e0
  obtain ⟨a1, a2, r1⟩ := trod_txn e1
  obtain ⟨a3, r3, _⟩ := DataW.trod_int Tryd.underlying3 e2
  obtain ⟨a4, r4, _⟩ := DataW.trod_int Tryd.underlying3 e3
  obtain ⟨a5, r5, _⟩ := DataW.trod_int Tryd.underlying3 e4
  obtain ⟨a6, r6, _⟩ := DataW.trod_bool Tryd.underlying4 e5
  obtain ⟨sa, sl, sc, zs, r7, hz⟩ := trod_intsR e6
  simp at r0 r1 r3 r4 r5 r6 r7
  refine ⟨⟨a0, a1, a2, a3, a4, a5, a6, sa, sl, sc, zs⟩, ?_, hz⟩
  simp [RcV.val, r0, r1, r3, r4, r5, r6, r7]
end Go.Proofs.YtilhkonanncfiaaDoor
