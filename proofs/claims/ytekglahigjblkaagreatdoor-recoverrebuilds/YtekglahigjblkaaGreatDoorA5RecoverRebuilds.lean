/- How a store, a transaction, a number and a yes or no come in as arguments. -/
import Derived.Test.YtekglahigjblkaaGreatDoorProg
import Derived.WalkKit
import Derived.ProofKit
import Derived.OpenShut
import Derived.Below
import Derived.Lib.SmallJoins
import Derived.Deep.Slices
import Derived.Test.YtekglahigjblkaaGreatDoorM4RecoverRebuilds
set_option maxRecDepth 10000
namespace Go.Proofs.YtekglahigjblkaaGreatDoor.St
open Go.ChangeShapes Go.WideShapes Go.ChangeAt Go.RowKit Go.Joins Go.Deep
set_option linter.unusedVariables false

variable {H : Type} {enc : TypeId × Value → H} {W : World} {base : Nat}
theorem cI : Tryz.prog.cellsOf 3 = 1 := by kernel_rfl
theorem cB : Tryz.prog.cellsOf 4 = 1 := by kernel_rfl
theorem cT : Tryz.prog.cellsOf 51 = 2 := by kernel_rfl
theorem cIt : Tryz.prog.cellsOf 68 = 3 := by kernel_rfl
theorem cLk : Tryz.prog.cellsOf 70 = 6 := by kernel_rfl
theorem cDb : Tryz.prog.cellsOf 72 = 3 := by kernel_rfl
theorem l2 {α : Type} {l : List α} (h : l.length = 2) : ∃ a b, l = [a, b] := by match l, h with | [a, b], _ => exact ⟨a, b, rfl⟩
theorem l3 {α : Type} {l : List α} (h : l.length = 3) : ∃ a b c, l = [a, b, c] := by match l, h with | [a, b, c], _ => exact ⟨a, b, c, rfl⟩
theorem l5 {α : Type} {l : List α} (h : l.length = 5) : ∃ a b c d e, l = [a, b, c, d, e] := by match l, h with | [a, b, c, d, e], _ => exact ⟨a, b, c, d, e, rfl⟩
theorem l6 {α : Type} {l : List α} (h : l.length = 6) : ∃ a b c d e f, l = [a, b, c, d, e, f] := by match l, h with | [a, b, c, d, e, f], _ => exact ⟨a, b, c, d, e, f, rfl⟩

theorem trod_txn {n : Nat} {cs : List Value} {x : DataW H × List MemPlace} (h : DataW.trod enc Tryz.prog W 0 (fun _ => true) true n 51 cs = some x) : ∃ t : Int × Int, cs = txCells t ∧ TxWf t := by
  obtain ⟨ys, m, _, _, hlen, hyl, hf⟩ := DataW.trod_struct Tryz.underlying51 h
  rw [cT] at hlen
  obtain ⟨v0, v1, rfl⟩ := l2 hlen
  obtain ⟨y0, y1, rfl⟩ := l2 (l := ys) (by simpa using hyl)
  have e0 := hf 0 _ rfl
  have e1 := hf 1 _ rfl
  simp [cI] at e0 e1
  obtain ⟨a0, r0, _, b0⟩ := DataW.trod_int Tryz.underlying3 e0
  obtain ⟨a1, r1, _, b1⟩ := DataW.trod_int Tryz.underlying3 e1
  simp at r0 r1
  exact ⟨(a0, a1), by rw [r0, r1]; rfl, b0, b1⟩
theorem trod_item {n : Nat} {cs : List Value} {x : DataW H × List MemPlace} (h : DataW.trod enc Tryz.prog W 0 (fun _ => true) true n 68 cs = some x) : ∃ t : ItV, cs = t.cells ∧ True := by
  obtain ⟨ys, m, _, _, hlen, hyl, hf⟩ := DataW.trod_struct Tryz.underlying68 h
  rw [cIt] at hlen
  obtain ⟨v0, v1, v2, rfl⟩ := l3 hlen
  obtain ⟨y0, y1, y2, rfl⟩ := l3 (l := ys) (by simpa using hyl)
  have e0 := hf 0 _ rfl
  have e1 := hf 1 _ rfl
  have e2 := hf 2 _ rfl
  simp [cI] at e0 e1 e2
  obtain ⟨a0, r0, _, b0⟩ := DataW.trod_int Tryz.underlying3 e0
  obtain ⟨a1, r1, _, b1⟩ := DataW.trod_int Tryz.underlying3 e1
  obtain ⟨a2, r2, _, b2⟩ := DataW.trod_int Tryz.underlying3 e2
  simp at r0 r1 r2
  exact ⟨⟨a0, a1, a2⟩, by rw [r0, r1, r2]; rfl, trivial⟩
theorem trod_doubt {n : Nat} {cs : List Value} {x : DataW H × List MemPlace} (h : DataW.trod enc Tryz.prog W 0 (fun _ => true) true n 72 cs = some x) : ∃ t : DbV, cs = t.cells ∧ True := by
  obtain ⟨ys, m, _, _, hlen, hyl, hf⟩ := DataW.trod_struct Tryz.underlying72 h
  rw [cDb] at hlen
  obtain ⟨v0, v1, v2, rfl⟩ := l3 hlen
  obtain ⟨y0, y1, rfl⟩ := l2 (l := ys) (by simpa using hyl)
  have e0 := hf 0 _ rfl
  have e1 := hf 1 _ rfl
  simp [cI, cT] at e0 e1
  obtain ⟨t, r0, b0⟩ := trod_txn e0
  obtain ⟨a1, r1, _, b1⟩ := DataW.trod_int Tryz.underlying3 e1
  simp [txCells] at r0 r1
  exact ⟨⟨t, a1⟩, by rw [r0.1, r0.2, r1]; rfl, trivial⟩
theorem trod_lock {n : Nat} {cs : List Value} {x : DataW H × List MemPlace} (h : DataW.trod enc Tryz.prog W 0 (fun _ => true) true n 70 cs = some x) : ∃ t : LkV, cs = t.cells ∧ True := by
  obtain ⟨ys, m, _, _, hlen, hyl, hf⟩ := DataW.trod_struct Tryz.underlying70 h
  rw [cLk] at hlen
  obtain ⟨v0, v1, v2, v3, v4, v5, rfl⟩ := l6 hlen
  obtain ⟨y0, y1, y2, y3, y4, rfl⟩ := l5 (l := ys) (by simpa using hyl)
  have e0 := hf 0 _ rfl
  have e1 := hf 1 _ rfl
  have e2 := hf 2 _ rfl
  have e3 := hf 3 _ rfl
  have e4 := hf 4 _ rfl
  simp [cI, cT, cB] at e0 e1 e2 e3 e4
  obtain ⟨t, r0, b0⟩ := trod_txn e0
  obtain ⟨a1, r1, _, b1⟩ := DataW.trod_int Tryz.underlying3 e1
  obtain ⟨a2, r2, _⟩ := DataW.trod_bool Tryz.underlying4 e2
  obtain ⟨a3, r3, _, b3⟩ := DataW.trod_int Tryz.underlying3 e3
  obtain ⟨a4, r4, _, b4⟩ := DataW.trod_int Tryz.underlying3 e4
  simp [txCells] at r0 r1 r2 r3 r4
  exact ⟨⟨t, a1, a2, a3, a4⟩, by rw [r0.1, r0.2, r1, r2, r3, r4]; rfl, trivial⟩

theorem row_of {α : Type} [Inhabited α] {k : Nat} {cells : α → List Value} (ok : α → Prop) {te tsl : TypeId} (hu : Tryz.prog.underlying tsl = some (.slice te)) (hk : Tryz.prog.cellsOf te = k) (hk0 : 0 < k) (hlen : ∀ y, (cells y).length = k) (hne : ∀ y, ∃ q n, (cells y)[0]? = some (.int q n))
    (hel : ∀ {n : Nat} {cs : List Value} {x : DataW H × List MemPlace}, DataW.trod enc Tryz.prog W 0 (fun _ => true) true n te cs = some x → ∃ y : α, cs = cells y ∧ ok y)
    {n : Nat} {cs : List Value} {x : DataW H × List MemPlace} (h : DataW.trod enc Tryz.prog W 0 (fun _ => true) true n tsl cs = some x) :
    ∃ (a : Option Addr) (len cap : Nat) (xs : List α), cs = [.slice a len cap] ∧ IsRow k cells W a len cap xs ∧ ∀ y ∈ xs, ok y := by
  rcases open_slice hu h with ⟨rfl, _⟩ | ⟨a, len, cap, m, n, D, Pl, rfl, _, hl, hm, hmm, _, hx⟩
  · exact ⟨none, 0, 0, [], rfl, isRow_nil _ _ _, by simp⟩
  · have hmc : m = cap := by simpa using hmm
    subst hmc
    rw [hk] at hx
    have hy : ∀ i, i < m → ∃ y : α, W.cells? 0 (a.add (i * k)) k = some (cells y) ∧ ok y := by
      intro i hi
      obtain ⟨cs', h1, h2⟩ := hx i hi
      obtain ⟨y, rfl, h3⟩ := hel h2
      exact ⟨y, h1, h3⟩
    obtain ⟨f, hf⟩ := choose_lt hy
    refine ⟨some a, len, m, (List.range len).map f, rfl, ⟨by simp, hl, hm, fun e => by simp at e, fun hp => ?_⟩, fun y hy => ?_⟩
    · obtain ⟨b, off, spot⟩ := a
      obtain ⟨q, nn, h00⟩ := hne (f 0)
      have hc0 := (World.cells?_some (hf 0 (by omega)).1).2.2 0 hk0
      have h0 : W.cell? (((⟨b, off, spot⟩ : Addr).add (0 * k)).add 0) = some (.int q nn) := by rw [hc0]; exact h00
      have hspot : spot = none := by simpa [Addr.add] using World.cell?_spot h0
      subst hspot
      have hb0 : W.cell? ⟨b, off, none⟩ = some (.int q nn) := by simpa [Addr.add] using h0
      refine ⟨b, off, rfl, World.block_lt_of_cell? W _ hb0, fun i hi j hj => ?_⟩
      have hc := (World.cells?_some (hf i (by omega)).1).2.2 j hj
      have ad : ∀ o i, (⟨b, o, none⟩ : Addr).add i = ⟨b, o + i, none⟩ := by
        intro o i
        unfold Addr.add
        by_cases h : i = 0 <;> simp [h]
      rw [ad, ad] at hc
      rw [hc]
      simp [List.getD, hi]
    · obtain ⟨i, hi, rfl⟩ := List.getElem_of_mem hy
      simp at hi
      simpa using (hf i (by omega)).2

theorem op_store {v : Value} {d : DataW H} {p : List MemPlace} (hv : Value.okWide Tryz.prog W .any base 31 v) (h : DataW.Trod enc Tryz.prog W 0 (fun _ => true) true 31 v d p) :
    ∃ s : SV, v = s.val ∧ IsStore W s ∧ ∀ t ∈ s.over, TxWf t := by
  obtain ⟨c0, c1, c2, c3, y0, y1, y2, y3, m, rfl, rfl, rfl, hy0, hy1, hy2, hy3⟩ := open_agg4 Tryz.underlying31 (by kernel_rfl) (by kernel_rfl) hv h
  obtain ⟨ia, il, ic, items, e0, hi, _⟩ := row_of (cells := ItV.cells) (fun _ => True) Tryz.underlying26 cIt (by omega) (fun _ => rfl) (fun y => ⟨_, _, rfl⟩) trod_item hy0
  obtain ⟨la, ll, lc, locks, e1, hl, _⟩ := row_of (cells := LkV.cells) (fun _ => True) Tryz.underlying27 cLk (by omega) (fun _ => rfl) (fun y => ⟨_, _, rfl⟩) trod_lock hy1
  obtain ⟨da, dl, dc, doubts, e2, hd, _⟩ := row_of (cells := DbV.cells) (fun _ => True) Tryz.underlying28 cDb (by omega) (fun _ => rfl) (fun y => ⟨_, _, rfl⟩) trod_doubt hy2
  obtain ⟨oa, ol, oc, over, e3, ho, hw⟩ := row_of (cells := txCells) TxWf Tryz.underlying29 cT (by omega) (fun _ => rfl) (fun y => ⟨_, _, rfl⟩) trod_txn hy3
  simp at e0 e1 e2 e3
  subst e0 e1 e2 e3
  exact ⟨⟨ia, il, ic, la, ll, lc, da, dl, dc, oa, ol, oc, items, locks, doubts, over⟩, rfl, ⟨hi, hl, hd, ho⟩, hw⟩
theorem op_txn {v : Value} {d : DataW H} {p : List MemPlace} (hv : Value.okWide Tryz.prog W .any base 51 v) (h : DataW.Trod enc Tryz.prog W 0 (fun _ => true) true 51 v d p) :
    ∃ t : Int × Int, v = .agg #[.int .i64 t.1, .int .i64 t.2] ∧ TxWf t := by
  obtain ⟨c0, c1, y0, y1, m, rfl, rfl, rfl, hy0, hy1⟩ := open_agg2 Tryz.underlying51 (by kernel_rfl) (by kernel_rfl) hv h
  obtain ⟨a, e0, _, wa⟩ := DataW.trod_int Tryz.underlying3 hy0
  obtain ⟨b, e1, _, wb⟩ := DataW.trod_int Tryz.underlying3 hy1
  simp at e0 e1
  subst e0 e1
  exact ⟨(a, b), rfl, wa, wb⟩
theorem op_int {v : Value} {d : DataW H} {p : List MemPlace} (hv : Value.okWide Tryz.prog W .any base 3 v) (h : DataW.Trod enc Tryz.prog W 0 (fun _ => true) true 3 v d p) :
    ∃ n : Int, v = .int .i64 n ∧ (Lit.int .i64 n).wf = true := by
  obtain ⟨a, h1, h2, h3, wa⟩ := open_int Tryz.underlying3 hv h
  exact ⟨a, h1, wa⟩
end Go.Proofs.YtekglahigjblkaaGreatDoor.St
