/- How lists of notes, and a command, come in as arguments; of a small bulk. -/
import Derived.Test.YtgohpgollpjlnaaDoorA21ConsoleShows
import Derived.Test.YtgohpgollpjlnaaDoorM24ConsoleShows
import Derived.Test.YtgohpgollpjlnaaDoorRows
set_option maxRecDepth 10000
namespace Go.Proofs.YtgohpgollpjlnaaDoor.Cn
open Go.ChangeShapes Go.WideShapes Go.ChangeAt Go.RowKit Go.Joins Go.Deep
open Go.Proofs.YtgohpgollpjlnaaDoor.St (IsRow LightN isRow_nil)
open Go.Proofs.YtgohpgollpjlnaaDoor.Pt (NV IsNotes trod_note cNt bNt)
set_option linter.unusedVariables false

variable {H : Type} {enc : TypeId × Value → H} {W : World} {base : Nat}
theorem bulk_pos (d : DataW H) : 1 ≤ Rows.uptoBulk d := by
  cases d with
  | lit l => cases l <;> simp [Rows.uptoBulk]
  | _ => simp [Rows.uptoBulk]
theorem bulk_mem : ∀ {l : List (DataW H)} {d : DataW H}, d ∈ l → Rows.uptoBulk d ≤ Rows.uptoBulkAll l
  | a :: r, d, hd => by
    simp only [Rows.uptoBulkAll]
    rcases List.mem_cons.1 hd with rfl | hd
    · omega
    · have := bulk_mem hd; omega
theorem bulk_len : ∀ (l : List (DataW H)), l.length ≤ Rows.uptoBulkAll l
  | [] => by simp [Rows.uptoBulkAll]
  | a :: r => by
    have := bulk_len r
    have := bulk_pos a
    simp only [Rows.uptoBulkAll, List.length_cons]
    omega
theorem row_bulk {α : Type} [Inhabited α] {k bytes B : Nat} {cells : α → List Value} (ok lt : α → Prop) {te tsl : TypeId} (hu : Tryd.prog.underlying tsl = some (.slice te)) (hk : Tryd.prog.cellsOf te = k) (hb : Tryd.prog.bytesOf te = bytes) (hk0 : 0 < k) (hne : ∀ y, ∃ v, (cells y)[0]? = some v)
    (hel : ∀ {n : Nat} {cs : List Value} {x : DataW H × List MemPlace}, DataW.trod enc Tryd.prog W 0 (fun _ => true) true n te cs = some x → ∃ y : α, cs = cells y ∧ ok y ∧ (Rows.uptoBulk x.1 ≤ B → lt y))
    {n : Nat} {cs : List Value} {x : DataW H × List MemPlace} (h : DataW.trod enc Tryd.prog W 0 (fun _ => true) true n tsl cs = some x) :
    ∃ (a : Option Addr) (len cap : Nat) (xs : List α), cs = [.slice a len cap] ∧ IsRow k cells W a len cap xs ∧ (∀ y ∈ xs, ok y) ∧ (LightN tsl x.1 → len * bytes ≤ 140737488351232) ∧ (Rows.uptoBulk x.1 ≤ B → len ≤ B ∧ ∀ y ∈ xs, lt y) := by
  rcases open_slice hu h with ⟨rfl, _⟩ | ⟨a, len, cap, m, n, D, Pl, rfl, _, hl, hm, hmm, hxd, hx⟩
  · exact ⟨none, 0, 0, [], rfl, isRow_nil _ _ _, by simp, fun _ => by simp, fun _ => ⟨by simp, by simp⟩⟩
  · have hmc : m = cap := by simpa using hmm
    subst hmc
    rw [hk] at hx
    have hy : ∀ i, i < m → ∃ y : α, W.cells? 0 (a.add (i * k)) k = some (cells y) ∧ ok y ∧ (Rows.uptoBulk (D i) ≤ B → lt y) := by
      intro i hi
      obtain ⟨cs', h1, h2⟩ := hx i hi
      obtain ⟨y, rfl, h3, h4⟩ := hel h2
      exact ⟨y, h1, h3, h4⟩
    obtain ⟨f, hf⟩ := choose_lt hy
    refine ⟨some a, len, m, (List.range len).map f, rfl, ⟨by simp, hl, hm, fun e => by simp at e, fun hp => ?_⟩, fun y hy => ?_, fun hL => ?_, fun hB => ⟨?_, fun y hy => ?_⟩⟩
    · obtain ⟨b, off, spot⟩ := a
      obtain ⟨vv, h00⟩ := hne (f 0)
      have hc0 := (World.cells?_some (hf 0 (by omega)).1).2.2 0 hk0
      have h0 : W.cell? (((⟨b, off, spot⟩ : Addr).add (0 * k)).add 0) = some vv := by rw [hc0]; exact h00
      have hspot : spot = none := by simpa [Addr.add] using World.cell?_spot h0
      subst hspot
      have hb0 : W.cell? ⟨b, off, none⟩ = some vv := by simpa [Addr.add] using h0
      refine ⟨b, off, rfl, World.block_lt_of_cell? W _ hb0, fun i hi j hj => ?_⟩
      have hc := (World.cells?_some (hf i (by omega)).1).2.2 j hj
      have ad : ∀ o i, (⟨b, o, none⟩ : Addr).add i = ⟨b, o + i, none⟩ := by
        intro o i
        unfold Addr.add
        by_cases h : i = 0 <;> simp [h]
      rw [ad, ad] at hc
      rw [hc]
      simp [List.getD, hi]
    · obtain ⟨i, hi, rfl⟩ := List.getElem_of_mem hy
      simp at hi
      simpa using (hf i (by omega)).2.1
    · rw [hxd] at hL
      have := hL _ (by simp only [DataW.weights, hu]; exact List.mem_cons_self ..)
      rw [hb] at this
      simp only [List.length_map, List.length_range, reachBytes] at this
      exact Nat.le_trans (Nat.mul_le_mul_right _ (Nat.le_add_right _ _)) this
    · rw [hxd] at hB
      simp only [Rows.uptoBulk] at hB
      have := bulk_len ((List.range len).map D)
      simp only [List.length_map, List.length_range] at this
      omega
    · obtain ⟨i, hi, rfl⟩ := List.getElem_of_mem hy
      have hi' : i < len := by simpa using hi
      have h3 := (hf i (by omega)).2.2 (by
        rw [hxd] at hB
        simp only [Rows.uptoBulk] at hB
        have := bulk_mem (l := (List.range len).map D) (d := D i) (by simp; exact ⟨i, hi', rfl⟩)
        omega)
      simpa using h3
theorem cNs : Tryd.prog.cellsOf 49 = 1 := by kernel_rfl
theorem bNs : Tryd.prog.bytesOf 49 = 24 := by kernel_rfl
theorem trod_nl {n : Nat} {cs : List Value} {x : DataW H × List MemPlace} (h : DataW.trod enc Tryd.prog W 0 (fun _ => true) true n 49 cs = some x) : ∃ y : NL, cs = nlC y ∧ IsNotes W y.a y.n y.c y.ns ∧ (Rows.uptoBulk x.1 ≤ 1048576 → y.n ≤ 1048576) := by
  obtain ⟨a, len, cap, xs, rfl, h1, _, _, h3⟩ := row_bulk (B := 1048576) (cells := NV.cells) (fun _ => True) (fun _ => True) Tryd.underlying49 cNt bNt (by omega) (fun y => ⟨_, rfl⟩) (fun h => by obtain ⟨t, h1, h2, _⟩ := trod_note h; exact ⟨t, h1, h2, fun _ => trivial⟩) h
  exact ⟨⟨a, len, cap, xs⟩, rfl, h1, fun hB => (h3 hB).1⟩
theorem op_nls {v : Value} {d : DataW H} {p : List MemPlace} (hv : Value.okWide Tryd.prog W .any base 34 v) (h : DataW.Trod enc Tryd.prog W 0 (fun _ => true) true 34 v d p) :
    ∃ (a : Option Addr) (n cap : Nat) (nl : List NL), v = .slice a n cap ∧ IsNLs W a n cap nl ∧ (LightN 34 d → n * 24 ≤ 140737488351232) ∧ (Rows.uptoBulk d ≤ 1048576 → ∀ y ∈ nl, y.n ≤ 1048576) := by
  obtain ⟨a, n, cap, rfl⟩ := okWide_slice Tryd.underlying34 hv
  obtain ⟨fuel, hf⟩ := h
  obtain ⟨a', n', cap', nl, e, hr, hok, hl, hB⟩ := row_bulk (B := 1048576) (cells := nlC) (fun y => IsNotes W y.a y.n y.c y.ns) (fun y => y.n ≤ 1048576) Tryd.underlying34 cNs bNs (by omega) (fun y => ⟨_, rfl⟩) (fun h => trod_nl h) hf
  simp [Value.cells] at e
  obtain ⟨rfl, rfl, rfl⟩ := e
  refine ⟨a, n, cap, nl, rfl, ⟨hr, fun i hi => hok _ ?_⟩, hl, fun h => (hB h).2⟩
  have : i < nl.length := by rw [hr.1]; exact hi
  simp [List.getD, this]
theorem cI1 : Tryd.prog.cellsOf 3 = 1 := by kernel_rfl
theorem cCm : Tryd.prog.cellsOf 25 = 5 := by kernel_rfl
theorem cTx2 : Tryd.prog.cellsOf 23 = 2 := by kernel_rfl
theorem cBo : Tryd.prog.cellsOf 4 = 1 := by kernel_rfl
theorem l4' {α : Type} {l : List α} (h : l.length = 4) : ∃ a b c d, l = [a, b, c, d] := by match l, h with | [a, b, c, d], _ => exact ⟨a, b, c, d, rfl⟩
theorem l5' {α : Type} {l : List α} (h : l.length = 5) : ∃ a b c d e, l = [a, b, c, d, e] := by match l, h with | [a, b, c, d, e], _ => exact ⟨a, b, c, d, e, rfl⟩
theorem op_command {v : Value} {d : DataW H} {p : List MemPlace} (hv : Value.okWide Tryd.prog W .any base 25 v) (h : DataW.Trod enc Tryd.prog W 0 (fun _ => true) true 25 v d p) :
    ∃ (k l s n : Int) (y : Bool), v = .agg #[.int .i64 k, .int .i64 l, .int .i64 s, .int .i64 n, .bool y] := by
  obtain ⟨cs, rfl, hsz⟩ := okWide_struct Tryd.underlying25 hv
  obtain ⟨fuel, hf⟩ := h
  obtain ⟨ys, m, _, hx, hlen, hyl, hfl⟩ := DataW.trod_struct Tryd.underlying25 hf
  rw [cCm] at hlen
  have hl : cs.toList.length = 5 := by simpa [Value.cells] using hlen
  obtain ⟨v0, v1, v2, v3, v4, hcs⟩ := l5' hl
  obtain rfl : cs = #[v0, v1, v2, v3, v4] := by
    cases cs
    simpa using hcs
  obtain ⟨y0, y1, y2, y3, rfl⟩ := l4' (l := ys) (by simpa using hyl)
  have e0 := hfl 0 _ rfl
  have e1 := hfl 1 _ rfl
  have e2 := hfl 2 _ rfl
  have e3 := hfl 3 _ rfl
  simp [cI1, cTx2, cBo, Value.cells] at e0 e1 e2 e3
  obtain ⟨a0, r0, _⟩ := DataW.trod_int Tryd.underlying3 e0
  obtain ⟨a1, r1, _⟩ := DataW.trod_int Tryd.underlying3 e1
  obtain ⟨t, r2, _⟩ := St.trod_txn e2
  obtain ⟨a4, r4, _⟩ := DataW.trod_bool Tryd.underlying4 e3
  simp [St.txCells] at r0 r1 r2 r4
  exact ⟨a0, a1, t.1, t.2, a4, by rw [r0, r1, r2.1, r2.2, r4]⟩
end Go.Proofs.YtgohpgollpjlnaaDoor.Cn
