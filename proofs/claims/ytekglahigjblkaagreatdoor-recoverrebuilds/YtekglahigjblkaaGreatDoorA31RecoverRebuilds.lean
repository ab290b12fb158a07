/- How records come in as an argument: one behind the other, the sites of each wherever they are; the row within the reach. -/
import Derived.Test.YtekglahigjblkaaGreatDoorA6RecoverRebuilds
import Derived.Test.YtekglahigjblkaaGreatDoorA30RecoverRebuilds
import Derived.Lib.SmallJoins
import Derived.Deep.Slices
set_option maxRecDepth 10000
namespace Go.Proofs.YtekglahigjblkaaGreatDoor.Rb
open Go.ChangeShapes Go.WideShapes Go.ChangeAt Go.RowKit Go.Joins Go.Deep
open Go.Proofs.YtekglahigjblkaaGreatDoor.St (IsRow LightN row_light RcM)
set_option linter.unusedVariables false

variable {H : Type} {enc : TypeId × Value → H} {W : World} {base : Nat}
theorem cIq : Tryz.prog.cellsOf 3 = 1 := by kernel_rfl
theorem cBq : Tryz.prog.cellsOf 4 = 1 := by kernel_rfl
theorem cTq : Tryz.prog.cellsOf 51 = 2 := by kernel_rfl
theorem cSq : Tryz.prog.cellsOf 52 = 1 := by kernel_rfl
theorem cRq : Tryz.prog.cellsOf 54 = 8 := by kernel_rfl
theorem bRq : Tryz.prog.bytesOf 54 = 80 := by kernel_rfl
theorem l2q {α : Type} {l : List α} (h : l.length = 2) : ∃ a b, l = [a, b] := by match l, h with | [a, b], _ => exact ⟨a, b, rfl⟩
theorem l8q {α : Type} {l : List α} (h : l.length = 8) : ∃ a b c d e f g i, l = [a, b, c, d, e, f, g, i] := by match l, h with | [a, b, c, d, e, f, g, i], _ => exact ⟨a, b, c, d, e, f, g, i, rfl⟩
theorem trod_txnQ {n : Nat} {cs : List Value} {x : DataW H × List MemPlace} (h : DataW.trod enc Tryz.prog W 0 (fun _ => true) true n 51 cs = some x) : ∃ a b : Int, cs = [.int .i64 a, .int .i64 b] := by
  obtain ⟨ys, m, _, _, hlen, hyl, hf⟩ := DataW.trod_struct Tryz.underlying51 h
  rw [cTq] at hlen
  obtain ⟨v0, v1, rfl⟩ := l2q hlen
  obtain ⟨y0, y1, rfl⟩ := l2q (l := ys) (by simpa using hyl)
  have e0 := hf 0 _ rfl
  have e1 := hf 1 _ rfl
  simp [cIq] at e0 e1
  obtain ⟨a0, r0, _⟩ := DataW.trod_int Tryz.underlying3 e0
  obtain ⟨a1, r1, _⟩ := DataW.trod_int Tryz.underlying3 e1
  simp at r0 r1
  exact ⟨a0, a1, by rw [r0, r1]⟩
theorem trod_intsQ {n : Nat} {cs : List Value} {x : DataW H × List MemPlace} (h : DataW.trod enc Tryz.prog W 0 (fun _ => true) true n 52 cs = some x) :
    ∃ (a : Option Addr) (len cap : Nat) (zs : List Int), cs = [.slice a len cap] ∧ IsInts W a len cap zs := by
  rcases open_ints Tryz.underlying52 Tryz.underlying3 cIq h with ⟨hcs, _⟩ | ⟨x, len, cap, zs, hcs, _, hl, hm, hz, hx, hcell, hwz⟩
  · subst hcs
    exact ⟨none, 0, 0, [], rfl, ⟨rfl, Nat.le_refl _, Nat.zero_le _, fun i => by simp, fun h => absurd h (by omega)⟩⟩
  · subst hcs
    have hz' : zs.length = cap := by simpa using hz
    refine ⟨some x, len, cap, zs.take len, rfl, ⟨by simp; omega, hl, hm, fun i => ?_, fun hp => ?_⟩⟩
    · by_cases hi : i < len
      · have hi' : i < zs.length := by omega
        have := bounds_i64 (hwz zs[i] (List.getElem_mem hi'))
        simpa [List.getD, hi, hi'] using this
      · simp [List.getD, List.getElem?_take, hi]
    · obtain ⟨b, off, spot⟩ := x
      have h0 := hcell 0 (by omega)
      have hspot : spot = none := by simpa [Addr.add] using World.cell?_spot h0
      subst hspot
      have ad : ∀ i, (⟨b, off, none⟩ : Addr).add i = ⟨b, off + i, none⟩ := by
        intro i
        unfold Addr.add
        by_cases h : i = 0 <;> simp [h]
      rw [ad] at h0
      refine ⟨b, off, rfl, World.block_lt_of_cell? W _ h0, fun i hi => ?_⟩
      have := hcell i (by omega)
      rw [ad] at this
      rw [this]
      simp [List.getD, hi]

theorem trod_recQ {n : Nat} {cs : List Value} {x : DataW H × List MemPlace} (h : DataW.trod enc Tryz.prog W 0 (fun _ => true) true n 54 cs = some x) :
    ∃ m : RcM, cs = m.cells ∧ IsInts W m.sa m.sl m.sc m.p.zs := by
  obtain ⟨ys, m, _, hx, hlen, hyl, hfl⟩ := DataW.trod_struct Tryz.underlying54 h
  rw [cRq] at hlen
  obtain ⟨v0, v1, v2, v3, v4, v5, v6, v7, rfl⟩ := l8q hlen
  have hy7 : ys.length = 7 := by simpa using hyl
  have hE : ∀ i, i < 7 → ∃ y, ys[i]? = some y := fun i hi => ⟨ys[i]'(by omega), List.getElem?_eq_getElem _⟩
  obtain ⟨y0, z0⟩ := hE 0 (by omega)
  obtain ⟨y1, z1⟩ := hE 1 (by omega)
  obtain ⟨y2, z2⟩ := hE 2 (by omega)
  obtain ⟨y3, z3⟩ := hE 3 (by omega)
  obtain ⟨y4, z4⟩ := hE 4 (by omega)
  obtain ⟨y5, z5⟩ := hE 5 (by omega)
  obtain ⟨y6, z6⟩ := hE 6 (by omega)
  have e0 := hfl 0 _ rfl
  have e1 := hfl 1 _ rfl
  have e2 := hfl 2 _ rfl
  have e3 := hfl 3 _ rfl
  have e4 := hfl 4 _ rfl
  have e5 := hfl 5 _ rfl
  have e6 := hfl 6 _ rfl
  rw [z0] at e0
  rw [z1] at e1
  rw [z2] at e2
  rw [z3] at e3
  rw [z4] at e4
  rw [z5] at e5
  rw [z6] at e6
  simp [cIq] at e0 e2 e3 e4
  simp [cTq] at e1
  simp [cBq] at e5
  simp [cSq] at e6
  obtain ⟨a0, r0, _⟩ := DataW.trod_int Tryz.underlying3 e0
  obtain ⟨a1, a2, r1⟩ := trod_txnQ e1
  obtain ⟨a3, r3, _⟩ := DataW.trod_int Tryz.underlying3 e2
  obtain ⟨a4, r4, _⟩ := DataW.trod_int Tryz.underlying3 e3
  obtain ⟨a5, r5, _⟩ := DataW.trod_int Tryz.underlying3 e4
  obtain ⟨a6, r6, _⟩ := DataW.trod_bool Tryz.underlying4 e5
  obtain ⟨sa, sl, sc, zs, r7, hz⟩ := trod_intsQ e6
  simp at r0 r1 r3 r4 r5 r6 r7
  refine ⟨⟨⟨a0, a1, a2, a3, a4, a5, a6, zs⟩, sa, sl, sc⟩, ?_, hz⟩
  simp [RcM.cells, r0, r1, r3, r4, r5, r6, r7]
theorem op_recs {v : Value} {d : DataW H} {p : List MemPlace} (hv : Value.okWide Tryz.prog W .any base 25 v) (h : DataW.Trod enc Tryz.prog W 0 (fun _ => true) true 25 v d p) :
    ∃ (a : Option Addr) (n cap : Nat) (rs : List RcM), v = .slice a n cap ∧ RecsAt W a n cap rs ∧ (LightN 25 d → n * 80 ≤ 140737488351232) := by
  obtain ⟨a, n, cap, rfl⟩ := okWide_slice Tryz.underlying25 hv
  obtain ⟨fuel, hf⟩ := h
  obtain ⟨a', n', cap', rs, e, h1, h2, h3⟩ := row_light (cells := RcM.cells) (fun m => IsInts W m.sa m.sl m.sc m.p.zs) (fun _ => True) Tryz.underlying25 cRq bRq (by decide) (fun y => ⟨_, rfl⟩) (fun h => by obtain ⟨m, h1, h2⟩ := trod_recQ h; exact ⟨m, h1, h2, fun _ => trivial⟩) hf
  simp [Value.cells] at e
  obtain ⟨rfl, rfl, rfl⟩ := e
  exact ⟨a, n, cap, rs, rfl, ⟨h1, h2⟩, fun hL => (h3 hL).1⟩
end Go.Proofs.YtekglahigjblkaaGreatDoor.Rb
