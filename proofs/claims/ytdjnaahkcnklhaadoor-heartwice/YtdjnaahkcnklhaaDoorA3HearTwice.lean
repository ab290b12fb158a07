/- How a store, a transaction, a number and a yes or no come in as arguments. -/
import Derived.Test.YtdjnaahkcnklhaaDoorProg
import Derived.WalkKit
import Derived.ProofKit
import Derived.OpenShut
import Derived.Below
import Derived.Lib.SmallJoins
import Derived.Deep.Slices
import Derived.Test.YtdjnaahkcnklhaaDoorM2HearTwice
set_option maxRecDepth 10000
namespace Go.Proofs.YtdjnaahkcnklhaaDoor.St
open Go.ChangeShapes Go.WideShapes Go.ChangeAt Go.RowKit Go.Joins Go.Deep
set_option linter.unusedVariables false

variable {H : Type} {enc : TypeId × Value → H} {W : World} {base : Nat}
theorem cI : Tryd.prog.cellsOf 3 = 1 := by kernel_rfl
theorem cB : Tryd.prog.cellsOf 4 = 1 := by kernel_rfl
theorem cT : Tryd.prog.cellsOf 48 = 2 := by kernel_rfl
theorem l2 {α : Type} {l : List α} (h : l.length = 2) : ∃ a b, l = [a, b] := by match l, h with | [a, b], _ => exact ⟨a, b, rfl⟩
theorem l3 {α : Type} {l : List α} (h : l.length = 3) : ∃ a b c, l = [a, b, c] := by match l, h with | [a, b, c], _ => exact ⟨a, b, c, rfl⟩
theorem l5 {α : Type} {l : List α} (h : l.length = 5) : ∃ a b c d e, l = [a, b, c, d, e] := by match l, h with | [a, b, c, d, e], _ => exact ⟨a, b, c, d, e, rfl⟩
theorem l6 {α : Type} {l : List α} (h : l.length = 6) : ∃ a b c d e f, l = [a, b, c, d, e, f] := by match l, h with | [a, b, c, d, e, f], _ => exact ⟨a, b, c, d, e, f, rfl⟩

theorem trod_txn {n : Nat} {cs : List Value} {x : DataW H × List MemPlace} (h : DataW.trod enc Tryd.prog W 0 (fun _ => true) true n 48 cs = some x) : ∃ t : Int × Int, cs = txCells t ∧ TxWf t := by
  obtain ⟨ys, m, _, _, hlen, hyl, hf⟩ := DataW.trod_struct Tryd.underlying48 h
  rw [cT] at hlen
  obtain ⟨v0, v1, rfl⟩ := l2 hlen
  obtain ⟨y0, y1, rfl⟩ := l2 (l := ys) (by simpa using hyl)
  have e0 := hf 0 _ rfl
  have e1 := hf 1 _ rfl
  simp [cI] at e0 e1
  obtain ⟨a0, r0, _, b0⟩ := DataW.trod_int Tryd.underlying3 e0
  obtain ⟨a1, r1, _, b1⟩ := DataW.trod_int Tryd.underlying3 e1
  simp at r0 r1
  exact ⟨(a0, a1), by rw [r0, r1]; rfl, b0, b1⟩
theorem row_of {α : Type} [Inhabited α] {k : Nat} {cells : α → List Value} (ok : α → Prop) {te tsl : TypeId} (hu : Tryd.prog.underlying tsl = some (.slice te)) (hk : Tryd.prog.cellsOf te = k) (hk0 : 0 < k) (hlen : ∀ y, (cells y).length = k) (hne : ∀ y, ∃ q n, (cells y)[0]? = some (.int q n))
    (hel : ∀ {n : Nat} {cs : List Value} {x : DataW H × List MemPlace}, DataW.trod enc Tryd.prog W 0 (fun _ => true) true n te cs = some x → ∃ y : α, cs = cells y ∧ ok y)
    {n : Nat} {cs : List Value} {x : DataW H × List MemPlace} (h : DataW.trod enc Tryd.prog W 0 (fun _ => true) true n tsl cs = some x) :
    ∃ (a : Option Addr) (len cap : Nat) (xs : List α), cs = [.slice a len cap] ∧ IsRow k cells W a len cap xs ∧ ∀ y ∈ xs, ok y := by
  rcases open_slice hu h with ⟨rfl, _⟩ | ⟨a, len, cap, m, n, D, Pl, rfl, _, hl, hm, hmm, _, hx⟩
  · exact ⟨none, 0, 0, [], rfl, isRow_nil _ _ _, by simp⟩
  · have hmc : m = cap := by simpa using hmm
    subst hmc
    rw [hk] at hx
    have hy : ∀ i, i < m → ∃ y : α, W.cells? 0 (a.add (i * k)) k = some (cells y) ∧ ok y := by
      intro i hi
      obtain ⟨cs', h1, h2⟩ := hx i hi
      obtain ⟨y, rfl, h3⟩ := hel h2
      exact ⟨y, h1, h3⟩
    obtain ⟨f, hf⟩ := choose_lt hy
    refine ⟨some a, len, m, (List.range len).map f, rfl, ⟨by simp, hl, hm, fun e => by simp at e, fun hp => ?_⟩, fun y hy => ?_⟩
    · obtain ⟨b, off, spot⟩ := a
      obtain ⟨q, nn, h00⟩ := hne (f 0)
      have hc0 := (World.cells?_some (hf 0 (by omega)).1).2.2 0 hk0
      have h0 : W.cell? (((⟨b, off, spot⟩ : Addr).add (0 * k)).add 0) = some (.int q nn) := by rw [hc0]; exact h00
      have hspot : spot = none := by simpa [Addr.add] using World.cell?_spot h0
      subst hspot
      have hb0 : W.cell? ⟨b, off, none⟩ = some (.int q nn) := by simpa [Addr.add] using h0
      refine ⟨b, off, rfl, World.block_lt_of_cell? W _ hb0, fun i hi j hj => ?_⟩
      have hc := (World.cells?_some (hf i (by omega)).1).2.2 j hj
      have ad : ∀ o i, (⟨b, o, none⟩ : Addr).add i = ⟨b, o + i, none⟩ := by
        intro o i
        unfold Addr.add
        by_cases h : i = 0 <;> simp [h]
      rw [ad, ad] at hc
      rw [hc]
      simp [List.getD, hi]
    · obtain ⟨i, hi, rfl⟩ := List.getElem_of_mem hy
      simp at hi
      simpa using (hf i (by omega)).2

theorem op_txn {v : Value} {d : DataW H} {p : List MemPlace} (hv : Value.okWide Tryd.prog W .any base 48 v) (h : DataW.Trod enc Tryd.prog W 0 (fun _ => true) true 48 v d p) :
    ∃ t : Int × Int, v = .agg #[.int .i64 t.1, .int .i64 t.2] ∧ TxWf t := by
  obtain ⟨c0, c1, y0, y1, m, rfl, rfl, rfl, hy0, hy1⟩ := open_agg2 Tryd.underlying48 (by kernel_rfl) (by kernel_rfl) hv h
  obtain ⟨a, e0, _, wa⟩ := DataW.trod_int Tryd.underlying3 hy0
  obtain ⟨b, e1, _, wb⟩ := DataW.trod_int Tryd.underlying3 hy1
  simp at e0 e1
  subst e0 e1
  exact ⟨(a, b), rfl, wa, wb⟩
theorem op_int {v : Value} {d : DataW H} {p : List MemPlace} (hv : Value.okWide Tryd.prog W .any base 3 v) (h : DataW.Trod enc Tryd.prog W 0 (fun _ => true) true 3 v d p) :
    ∃ n : Int, v = .int .i64 n ∧ (Lit.int .i64 n).wf = true := by
  obtain ⟨a, h1, h2, h3, wa⟩ := open_int Tryd.underlying3 hv h
  exact ⟨a, h1, wa⟩
end Go.Proofs.YtdjnaahkcnklhaaDoor.St
