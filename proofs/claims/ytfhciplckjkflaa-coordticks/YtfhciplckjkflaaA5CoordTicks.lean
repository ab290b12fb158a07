/- How a desk comes in as an argument. -/
import Derived.Test.YtfhciplckjkflaaM4CoordTicks
import Derived.WalkKit
import Derived.ProofKit
import Derived.OpenShut
import Derived.Lib.SmallJoins
import Derived.Deep.Slices
set_option maxRecDepth 10000
namespace Go.Proofs.Ytfhciplckjkflaa.Co
open Go.ChangeShapes Go.WideShapes Go.ChangeAt Go.RowKit Go.Joins Go.Deep
open Go.Proofs.Ytfhciplckjkflaa.St (IsRow isRow_nil)
set_option linter.unusedVariables false

variable {H : Type} {enc : TypeId × Value → H} {W : World} {base : Nat}
theorem cI : Try.prog.cellsOf 3 = 1 := by kernel_rfl
theorem cB : Try.prog.cellsOf 4 = 1 := by kernel_rfl
theorem cTk : Try.prog.cellsOf 73 = 8 := by kernel_rfl
theorem cJb : Try.prog.cellsOf 47 = 6 := by kernel_rfl
theorem cSt : Try.prog.cellsOf 44 = 1 := by kernel_rfl
theorem cSi : Try.prog.cellsOf 45 = 1 := by kernel_rfl
theorem l6 {α : Type} {l : List α} (h : l.length = 6) : ∃ a b c d e f, l = [a, b, c, d, e, f] := by match l, h with | [a, b, c, d, e, f], _ => exact ⟨a, b, c, d, e, f, rfl⟩
theorem l8 {α : Type} {l : List α} (h : l.length = 8) : ∃ a b c d e f g i, l = [a, b, c, d, e, f, g, i] := by match l, h with | [a, b, c, d, e, f, g, i], _ => exact ⟨a, b, c, d, e, f, g, i, rfl⟩
theorem trod_num {n : Nat} {cs : List Value} {x : DataW H × List MemPlace} (h : DataW.trod enc Try.prog W 0 (fun _ => true) true n 3 cs = some x) : ∃ t : Int, cs = inCell t ∧ True := by
  obtain ⟨a0, r0, _, b0⟩ := DataW.trod_int Try.underlying3 h
  exact ⟨a0, r0, trivial⟩
theorem trod_task {n : Nat} {cs : List Value} {x : DataW H × List MemPlace} (h : DataW.trod enc Try.prog W 0 (fun _ => true) true n 73 cs = some x) : ∃ t : TkV, cs = t.cells ∧ True := by
  obtain ⟨ys, m, _, _, hlen, hyl, hf⟩ := DataW.trod_struct Try.underlying73 h
  rw [cTk] at hlen
  obtain ⟨v0, v1, v2, v3, v4, v5, v6, v7, rfl⟩ := l8 hlen
  obtain ⟨y0, y1, y2, y3, y4, y5, y6, y7, rfl⟩ := l8 (l := ys) (by simpa using hyl)
  have e0 := hf 0 _ rfl
  have e1 := hf 1 _ rfl
  have e2 := hf 2 _ rfl
  have e3 := hf 3 _ rfl
  have e4 := hf 4 _ rfl
  have e5 := hf 5 _ rfl
  have e6 := hf 6 _ rfl
  have e7 := hf 7 _ rfl
  simp [cI, cB] at e0 e1 e2 e3 e4 e5 e6 e7
  obtain ⟨a0, r0, _⟩ := DataW.trod_bool Try.underlying4 e0
  obtain ⟨a1, r1, _⟩ := DataW.trod_int Try.underlying3 e1
  obtain ⟨a2, r2, _⟩ := DataW.trod_int Try.underlying3 e2
  obtain ⟨a3, r3, _⟩ := DataW.trod_int Try.underlying3 e3
  obtain ⟨a4, r4, _⟩ := DataW.trod_int Try.underlying3 e4
  obtain ⟨a5, r5, _⟩ := DataW.trod_int Try.underlying3 e5
  obtain ⟨a6, r6, _⟩ := DataW.trod_bool Try.underlying4 e6
  obtain ⟨a7, r7, _⟩ := DataW.trod_bool Try.underlying4 e7
  simp at r0 r1 r2 r3 r4 r5 r6 r7
  exact ⟨⟨a0, a1, a2, a3, a4, a5, a6, a7⟩, by rw [r0, r1, r2, r3, r4, r5, r6, r7]; rfl, trivial⟩
theorem row_of {α : Type} [Inhabited α] {k : Nat} {cells : α → List Value} (ok : α → Prop) {te tsl : TypeId} (hu : Try.prog.underlying tsl = some (.slice te)) (hk : Try.prog.cellsOf te = k) (hk0 : 0 < k) (hne : ∀ y : α, ∃ v, (cells y)[0]? = some v)
    (hel : ∀ {n : Nat} {cs : List Value} {x : DataW H × List MemPlace}, DataW.trod enc Try.prog W 0 (fun _ => true) true n te cs = some x → ∃ y : α, cs = cells y ∧ ok y)
    {n : Nat} {cs : List Value} {x : DataW H × List MemPlace} (h : DataW.trod enc Try.prog W 0 (fun _ => true) true n tsl cs = some x) :
    ∃ (a : Option Addr) (len cap : Nat) (xs : List α), cs = [.slice a len cap] ∧ IsRow k cells W a len cap xs ∧ ∀ y ∈ xs, ok y := by
  rcases open_slice hu h with ⟨rfl, _⟩ | ⟨a, len, cap, m, n, D, Pl, rfl, _, hl, hm, hmm, _, hx⟩
  · exact ⟨none, 0, 0, [], rfl, isRow_nil _ _ _, by simp⟩
  · have hmc : m = cap := by simpa using hmm
    subst hmc
    rw [hk] at hx
    have hy : ∀ i, i < m → ∃ y : α, W.cells? 0 (a.add (i * k)) k = some (cells y) ∧ ok y := by
      intro i hi
      obtain ⟨cs', h1, h2⟩ := hx i hi
      obtain ⟨y, rfl, h3⟩ := hel h2
      exact ⟨y, h1, h3⟩
    obtain ⟨f, hf⟩ := choose_lt hy
    refine ⟨some a, len, m, (List.range len).map f, rfl, ⟨by simp, hl, hm, fun e => by simp at e, fun hp => ?_⟩, fun y hy => ?_⟩
    · obtain ⟨b, off, spot⟩ := a
      obtain ⟨q, h00⟩ := hne (f 0)
      have hc0 := (World.cells?_some (hf 0 (by omega)).1).2.2 0 hk0
      have h0 : W.cell? (((⟨b, off, spot⟩ : Addr).add (0 * k)).add 0) = some q := by rw [hc0]; exact h00
      have hspot : spot = none := by simpa [Addr.add] using World.cell?_spot h0
      subst hspot
      have hb0 : W.cell? ⟨b, off, none⟩ = some q := by simpa [Addr.add] using h0
      refine ⟨b, off, rfl, World.block_lt_of_cell? W _ hb0, fun i hi j hj => ?_⟩
      have hc := (World.cells?_some (hf i (by omega)).1).2.2 j hj
      have ad : ∀ o i, (⟨b, o, none⟩ : Addr).add i = ⟨b, o + i, none⟩ := by
        intro o i
        unfold Addr.add
        by_cases h : i = 0 <;> simp [h]
      rw [ad, ad] at hc
      rw [hc]
      simp [List.getD, hi]
    · obtain ⟨i, hi, rfl⟩ := List.getElem_of_mem hy
      simp at hi
      simpa using (hf i (by omega)).2
theorem trod_job {n : Nat} {cs : List Value} {x : DataW H × List MemPlace} (h : DataW.trod enc Try.prog W 0 (fun _ => true) true n 47 cs = some x) : ∃ j : JbV, cs = j.cells ∧ IsJob W j := by
  obtain ⟨ys, m, _, _, hlen, hyl, hf⟩ := DataW.trod_struct Try.underlying47 h
  rw [cJb] at hlen
  obtain ⟨v0, v1, v2, v3, v4, v5, rfl⟩ := l6 hlen
  obtain ⟨y0, y1, y2, y3, y4, y5, rfl⟩ := l6 (l := ys) (by simpa using hyl)
  have e0 := hf 0 _ rfl
  have e1 := hf 1 _ rfl
  have e2 := hf 2 _ rfl
  have e3 := hf 3 _ rfl
  have e4 := hf 4 _ rfl
  have e5 := hf 5 _ rfl
  simp [cI, cSt, cSi] at e0 e1 e2 e3 e4 e5
  obtain ⟨a0, r0, _⟩ := DataW.trod_int Try.underlying3 e0
  obtain ⟨a1, r1, _⟩ := DataW.trod_int Try.underlying3 e1
  obtain ⟨ta, tl, tc, tasks, r2, ht, _⟩ := row_of (cells := TkV.cells) (fun _ => True) Try.underlying44 cTk (by omega) (fun y => ⟨_, rfl⟩) trod_task e2
  obtain ⟨aa, al, ac, asked, r3, ha, _⟩ := row_of (cells := inCell) (fun _ => True) Try.underlying45 cI (by omega) (fun y => ⟨_, rfl⟩) trod_num e3
  obtain ⟨a4, r4, _⟩ := DataW.trod_int Try.underlying3 e4
  obtain ⟨a5, r5, _⟩ := DataW.trod_int Try.underlying3 e5
  simp at r0 r1 r2 r3 r4 r5
  exact ⟨⟨a0, a1, ta, tl, tc, aa, al, ac, a4, a5, tasks, asked⟩, by rw [r0, r1, r2, r3, r4, r5]; rfl, ht, ha⟩
theorem op_desk {v : Value} {d : DataW H} {p : List MemPlace} (hv : Value.okWide Try.prog W .any base 27 v) (h : DataW.Trod enc Try.prog W 0 (fun _ => true) true 27 v d p) :
    ∃ (nx : Int) (a : Option Addr) (len cap : Nat) (js : List JbV), v = .agg #[.int .i64 nx, .slice a len cap] ∧ IsJobs W a len cap js := by
  obtain ⟨c0, c1, y0, y1, m, rfl, rfl, rfl, hy0, hy1⟩ := open_agg2 Try.underlying27 (by kernel_rfl) (by kernel_rfl) hv h
  obtain ⟨nx, e0, _, wa⟩ := DataW.trod_int Try.underlying3 hy0
  obtain ⟨a, len, cap, js, e1, hr, hj⟩ := row_of (cells := JbV.cells) (IsJob W) Try.underlying25 cJb (by omega) (fun y => ⟨_, rfl⟩) trod_job hy1
  simp at e0 e1
  subst e0 e1
  exact ⟨nx, a, len, cap, js, rfl, hr, hj⟩
end Go.Proofs.Ytfhciplckjkflaa.Co
