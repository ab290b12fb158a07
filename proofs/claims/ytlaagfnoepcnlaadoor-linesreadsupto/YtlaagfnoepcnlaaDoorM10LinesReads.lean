/- Texts of this claim, one behind the other. -/
import Derived.Test.YtlaagfnoepcnlaaDoorM9LinesReads
import Derived.LoopTactic
import Derived.WalkSmall
import Derived.Deep.AppendLies
import Derived.Test.YtlaagfnoepcnlaaDoorA1LinesReads
import Derived.SizedLaws
/- The contract of label.purgeKeep: a copy of an act's Keep, in a crash with 0 at the places of labels that are not seen; in memory of its own. -/
namespace Go.Proofs.YtlaagfnoepcnlaaDoor
open Go.ChangeShapes Go.WideShapes Go.ChangeAt Go.RowKit
set_option linter.unusedVariables false

theorem intInfo : (Tryd.prog.info? 3).map (fun i => (i.zero, i.size, i.bytes)) = some (some (.int .i64 0), 1, 8) := by kernel_rfl

def AV.val (a : AV) : Value := .agg #[.int .i64 a.kind, .int .i64 a.site, .int .i64 a.to, .int .i64 a.label, .int .i64 a.pick, .slice a.ka a.kl a.kc, .int .i64 a.c0, .int .i64 a.c1, .int .i64 a.c2, .int .i64 a.c3, .int .i64 a.c4, .string a.line]

/-- The Keep behind k rounds. -/
def keepAt (ls : List (Int × Int)) (l : Int) (keep : List Int) (k : Nat) : List Int := keep.zipIdx.map fun p => if p.2 < k ∧ hid ls l (p.2 : Int) = true then 0 else p.1
theorem keepAt_len (ls : List (Int × Int)) (l : Int) (keep : List Int) (k : Nat) : (keepAt ls l keep k).length = keep.length := by simp [keepAt]
theorem keepAt_zero (ls : List (Int × Int)) (l : Int) (keep : List Int) : keepAt ls l keep 0 = keep := by
  unfold keepAt
  apply List.ext_getElem (by simp)
  intro i h1 h2
  simp
theorem keepAt_end (ls : List (Int × Int)) (l : Int) (keep : List Int) : keepAt ls l keep keep.length = keepOf ls l 6 keep := by
  unfold keepAt keepOf
  rw [if_pos rfl]
  apply List.ext_getElem (by simp)
  intro i h1 h2
  have hi : i < keep.length := by simpa using h1
  simp [hi]
theorem keepAt_hid (ls : List (Int × Int)) (l : Int) (keep : List Int) (k : Nat) (hk : k < keep.length) (h : hid ls l (k : Int) = true) : keepAt ls l keep (k + 1) = (keepAt ls l keep k).set k 0 := by
  unfold keepAt
  apply List.ext_getElem (by simp)
  intro i h1 h2
  simp only [List.getElem_map, List.getElem_zipIdx, List.getElem_set, Nat.zero_add]
  by_cases e : k = i
  · subst e
    simp [h]
  · have : i < k + 1 ↔ i < k := by omega
    simp [e, this]
theorem keepAt_not (ls : List (Int × Int)) (l : Int) (keep : List Int) (k : Nat) (h : hid ls l (k : Int) = false) : keepAt ls l keep (k + 1) = keepAt ls l keep k := by
  unfold keepAt
  apply List.ext_getElem (by simp)
  intro i h1 h2
  simp only [List.getElem_map, List.getElem_zipIdx, Nat.zero_add]
  by_cases e : k = i
  · subst e
    simp [h]
  · have : i < k + 1 ↔ i < k := by omega
    simp [this]

theorem news_ints {w : World} {b off : Nat} {zs : List Int} (h : ∀ i, i < zs.length → w.cell? ⟨b, off + i, none⟩ = some (.int .i64 (zs.getD i 0))) : ∀ j u, (zs.map (Value.int .i64))[j]? = some u → w.cell? ((⟨b, off, none⟩ : Addr).add j) = some u := by
  intro j u hu
  have e : (⟨b, off, none⟩ : Addr).add j = ⟨b, off + j, none⟩ := by
    unfold Addr.add
    by_cases hj : j = 0 <;> simp [hj]
  have hj : j < zs.length := by
    have := (List.getElem?_eq_some_iff.1 hu).1
    simpa using this
  rw [e, h j hj, ← hu]
  simp [List.getD, hj]
theorem ints_one (zs : List Int) : ∀ u ∈ zs.map (Value.int .i64), u.oneCell' = true := by
  intro u hu
  simp at hu
  obtain ⟨_, _, rfl⟩ := hu
  rfl

end Go.Proofs.YtlaagfnoepcnlaaDoor
/- Acts in a slice of the call's own, each with a Keep of the call's own: one more act; and that they lie as acts that came in do. -/
namespace Go.Proofs.YtlaagfnoepcnlaaDoor
open Go.ChangeShapes Go.WideShapes Go.ChangeAt Go.RowKit

def Num (n : Int) : Prop := -9223372036854775808 ≤ n ∧ n ≤ 9223372036854775807
def Nums (zs : List Int) : Prop := ∀ i, -9223372036854775808 ≤ zs.getD i 0 ∧ zs.getD i 0 ≤ 9223372036854775807

structure OwnActs (w : World) (B : Nat) (v : Value) (ys : List AV) : Prop where
  row : w.ownsRow B 41 12 v ys.length (flatActs ys)
  keeps : ∀ y ∈ ys, w.ownsRow B 3 1 (.slice y.ka y.kl y.kc) y.kl (y.keep.map (Value.int .i64)) ∧ Nums y.keep

theorem ownActs_nil (w : World) (B : Nat) : OwnActs w B (.slice none 0 0) [] := ⟨World.ownsRow_nil _ _ _ _, by simp⟩

theorem OwnActs.below {w w' : World} {B : Nat} {v : Value} {ys : List AV} (h : OwnActs w B v ys) (hb : Below w.heap.size w w') : OwnActs w' B v ys :=
  ⟨own_below' h.row hb, fun y hy => ⟨own_below' (h.keeps y hy).1 hb, (h.keeps y hy).2⟩⟩

theorem OwnActs.setBelow {w : World} {B : Nat} {v : Value} {ys : List AV} (h : OwnActs w B v ys) {a : Addr} (ha : v.ownBlock ≠ some a.block) (hk : ∀ y ∈ ys, (Value.slice y.ka y.kl y.kc).ownBlock ≠ some a.block) (u : Value) : OwnActs (w.setCell a u) B v ys :=
  ⟨ownsRow_setCell_other h.row ha u, fun y hy => ⟨ownsRow_setCell_other (h.keeps y hy).1 (hk y hy) u, (h.keeps y hy).2⟩⟩

/-- A new block's cell is none of theirs. -/
theorem OwnActs.setNew {w w' : World} {B : Nat} {v : Value} {ys : List AV} (h : OwnActs w B v ys) (hb : Below w.heap.size w w') {a : Addr} (ha : w.heap.size ≤ a.block) (u : Value) : OwnActs (w'.setCell a u) B v ys := by
  refine (h.below hb).setBelow (fun e => ?_) (fun y hy e => ?_) u
  · have := (h.row.lt _ e).2
    omega
  · have := ((h.keeps y hy).1.lt _ e).2
    omega

theorem OwnActs.push {w w1 w2 : World} {B : Nat} {v v' : Value} {ys : List AV} {y : AV} (h : OwnActs w B v ys) (hb : Below w.heap.size w w1)
    (hk : w1.ownsRow B 3 1 (.slice y.ka y.kl y.kc) y.kl (y.keep.map (Value.int .i64))) (hn : Nums y.keep)
    (hown : w2.ownsRow B 41 12 v' (ys.length + 1) (flatActs ys ++ y.cells)) (hg : w1.grownBy w2 v.ownBlock) : OwnActs w2 B v' (ys ++ [y]) := by
  have h1 := h.below hb
  refine ⟨?_, fun z hz => ?_⟩
  · rw [flatActs_append]
    simpa using hown
  · rcases List.mem_append.1 hz with hz | hz
    · exact ⟨(h1.keeps z hz).1.kept hg (own_apart (h1.keeps z hz).1 h1.row (by decide)), (h1.keeps z hz).2⟩
    · simp at hz
      subst hz
      exact ⟨hk.kept hg (own_apart hk h1.row (by decide)), hn⟩

theorem OwnActs.isActs {w : World} {B : Nat} {ao : Option Addr} {n cp : Nat} {ys : List AV} (h : OwnActs w B (.slice ao n cp) ys) : n = ys.length ∧ IsActs w ao n cp ys := by
  have hr := h.row
  obtain ⟨ao', cp', e, h1, h2⟩ := own_form hr
  simp at e
  obtain ⟨rfl, rfl, rfl⟩ := e
  refine ⟨rfl, rfl, h1, h2, fun hp => ?_⟩
  rcases hr.2 with ⟨_, hn⟩ | ⟨g, cap, cur, hv, hb, hg, _⟩
  · omega
  · simp at hv
    obtain ⟨rfl, rfl⟩ := hv
    refine ⟨g, 0, rfl, (hr.lt g rfl).2, fun i hi => ⟨fun j hj => ?_, ?_⟩⟩
    · have hf := flatActs_get ys i hi j hj
      have hc : j < (ys.getD i default).cells.length := by rw [AV.cells_len]; exact hj
      rw [List.getElem?_eq_getElem hc] at hf
      have := hr.cells (g := g) rfl _ _ hf
      have e : ∀ m, (⟨g, 0, none⟩ : Addr).add m = ⟨g, 0 + m, none⟩ := by
        intro m
        unfold Addr.add
        by_cases hm : m = 0 <;> simp [hm]
      rw [e, ← Nat.add_assoc] at this
      rw [this, List.getElem?_eq_getElem hc]
    · have hm : ys.getD i default ∈ ys := by simp [List.getD, hi]
      exact ints_of_own (h.keeps _ hm).1 (h.keeps _ hm).2
end Go.Proofs.YtlaagfnoepcnlaaDoor
/- How a slice of acts comes in as an argument: the acts one behind the other, their Keeps wherever they are; each slice within the reach. -/
namespace Go.Proofs.YtlaagfnoepcnlaaDoor
set_option maxRecDepth 10000
open Go.ChangeShapes Go.WideShapes Go.ChangeAt Go.RowKit Go.Joins Go.Deep

variable {H : Type} {enc : TypeId × Value → H} {W : World} {base : Nat}

theorem cellsI : Tryd.prog.cellsOf 3 = 1 := by kernel_rfl
theorem cellsK : Tryd.prog.cellsOf 34 = 1 := by kernel_rfl
theorem cellsC : Tryd.prog.cellsOf 39 = 5 := by kernel_rfl
theorem cellsS : Tryd.prog.cellsOf 9 = 1 := by kernel_rfl
theorem cellsA : Tryd.prog.cellsOf 41 = 12 := by kernel_rfl
theorem bytesI : Tryd.prog.bytesOf 3 = 8 := by kernel_rfl
theorem bytesA : Tryd.prog.bytesOf 41 = 120 := by kernel_rfl

/-- All weights of a datum are within the reach. -/
def Light (t : TypeId) (d : DataW H) : Prop := ∀ n ∈ d.weights Tryd.prog t, n ≤ reachBytes

theorem mem_weightsAll {P : Program} {e : TypeId} : ∀ {l : List (DataW H)} {d : DataW H} {n : Nat}, d ∈ l → n ∈ d.weights P e → n ∈ DataW.weightsAll P e l
  | a :: r, d, n, hd, hn => by
    simp only [DataW.weightsAll, List.mem_append]
    rcases List.mem_cons.1 hd with rfl | hd
    · exact .inl hn
    · exact .inr (mem_weightsAll hd hn)

theorem trod_ints {n : Nat} {cs : List Value} {x : DataW H × List MemPlace} (h : DataW.trod enc Tryd.prog W 0 (fun _ => true) true n 34 cs = some x) :
    ∃ (a : Option Addr) (len cap : Nat) (zs : List Int), cs = [.slice a len cap] ∧ IsInts W a len cap zs ∧ (Light 34 x.1 → zs.length * 8 ≤ 140737488355328) := by
  rcases open_ints Tryd.underlying34 Tryd.underlying3 cellsI h with ⟨hcs, _⟩ | ⟨x, len, cap, zs, hcs, _, hl, hm, hz, hx, hcell, hwz⟩
  · subst hcs
    exact ⟨none, 0, 0, [], rfl, ⟨rfl, Nat.le_refl _, Nat.zero_le _, fun i => by simp, fun h => absurd h (by omega)⟩, fun _ => by simp⟩
  · subst hcs
    have hz' : zs.length = cap := by simpa using hz
    refine ⟨some x, len, cap, zs.take len, rfl, ⟨by simp; omega, hl, hm, fun i => ?_, fun hp => ?_⟩, fun hL => ?_⟩
    · by_cases hi : i < len
      · have hi' : i < zs.length := by omega
        have := bounds_i64 (hwz zs[i] (List.getElem_mem hi'))
        simpa [List.getD, hi, hi'] using this
      · simp [List.getD, List.getElem?_take, hi]
    · obtain ⟨b, off, spot⟩ := x
      have h0 := hcell 0 (by omega)
      have hspot : spot = none := by simpa [Addr.add] using World.cell?_spot h0
      subst hspot
      have ad : ∀ i, (⟨b, off, none⟩ : Addr).add i = ⟨b, off + i, none⟩ := by
        intro i
        unfold Addr.add
        by_cases h : i = 0 <;> simp [h]
      rw [ad] at h0
      refine ⟨b, off, rfl, World.block_lt_of_cell? W _ h0, fun i hi => ?_⟩
      have := hcell i (by omega)
      rw [ad] at this
      rw [this]
      simp [List.getD, hi]
    · rw [hx] at hL
      have := hL _ (by simp only [DataW.weights, Tryd.underlying34]; exact List.mem_cons_self ..)
      rw [bytesI] at this
      simp only [lits, List.length_map, List.length_take, List.length_drop, reachBytes] at this
      simp
      omega

theorem five_of {α : Type} {l : List α} (h : l.length = 5) : ∃ a b c d e, l = [a, b, c, d, e] := by
  match l, h with
  | [a, b, c, d, e], _ => exact ⟨a, b, c, d, e, rfl⟩
theorem eight_of {α : Type} {l : List α} (h : l.length = 8) : ∃ a b c d e f g i, l = [a, b, c, d, e, f, g, i] := by
  match l, h with
  | [a, b, c, d, e, f, g, i], _ => exact ⟨a, b, c, d, e, f, g, i, rfl⟩
theorem twelve_of {α : Type} {l : List α} (h : l.length = 12) : ∃ a b c d e f g i j k m n, l = [a, b, c, d, e, f, g, i, j, k, m, n] := by
  match l, h with
  | [a, b, c, d, e, f, g, i, j, k, m, n], _ => exact ⟨a, b, c, d, e, f, g, i, j, k, m, n, rfl⟩

theorem trod_call {n : Nat} {cs : List Value} {x : DataW H × List MemPlace} (h : DataW.trod enc Tryd.prog W 0 (fun _ => true) true n 39 cs = some x) :
    ∃ c0 c1 c2 c3 c4 : Int, cs = [.int .i64 c0, .int .i64 c1, .int .i64 c2, .int .i64 c3, .int .i64 c4] := by
  obtain ⟨ys, m, _, _, hlen, hyl, hf⟩ := DataW.trod_struct Tryd.underlying39 h
  rw [cellsC] at hlen
  obtain ⟨v0, v1, v2, v3, v4, rfl⟩ := five_of hlen
  obtain ⟨y0, y1, y2, y3, y4, rfl⟩ := five_of (l := ys) (by simpa using hyl)
  have e0 := hf 0 _ rfl
  have e1 := hf 1 _ rfl
  have e2 := hf 2 _ rfl
  have e3 := hf 3 _ rfl
  have e4 := hf 4 _ rfl
  simp [cellsI] at e0 e1 e2 e3 e4
  obtain ⟨a0, r0, _⟩ := DataW.trod_int Tryd.underlying3 e0
  obtain ⟨a1, r1, _⟩ := DataW.trod_int Tryd.underlying3 e1
  obtain ⟨a2, r2, _⟩ := DataW.trod_int Tryd.underlying3 e2
  obtain ⟨a3, r3, _⟩ := DataW.trod_int Tryd.underlying3 e3
  obtain ⟨a4, r4, _⟩ := DataW.trod_int Tryd.underlying3 e4
  simp at r0 r1 r2 r3 r4
  exact ⟨a0, a1, a2, a3, a4, by rw [r0, r1, r2, r3, r4]⟩

theorem trod_act {n : Nat} {cs : List Value} {x : DataW H × List MemPlace} (h : DataW.trod enc Tryd.prog W 0 (fun _ => true) true n 41 cs = some x) :
    ∃ a : AV, cs = a.cells ∧ IsInts W a.ka a.kl a.kc a.keep ∧ (Light 41 x.1 → a.keep.length * 8 ≤ 140737488355328) := by
  obtain ⟨ys, m, _, hx, hlen, hyl, hf⟩ := DataW.trod_struct Tryd.underlying41 h
  rw [cellsA] at hlen
  obtain ⟨v0, v1, v2, v3, v4, v5, v6, v7, v8, v9, v10, v11, rfl⟩ := twelve_of hlen
  obtain ⟨y0, y1, y2, y3, y4, y5, y6, y7, rfl⟩ := eight_of (l := ys) (by simpa using hyl)
  have e0 := hf 0 _ rfl
  have e1 := hf 1 _ rfl
  have e2 := hf 2 _ rfl
  have e3 := hf 3 _ rfl
  have e4 := hf 4 _ rfl
  have e5 := hf 5 _ rfl
  have e6 := hf 6 _ rfl
  have e7 := hf 7 _ rfl
  simp [cellsI] at e0 e1 e2 e3 e4
  simp [cellsK] at e5
  simp [cellsC] at e6
  simp [cellsS] at e7
  obtain ⟨a0, r0, _⟩ := DataW.trod_int Tryd.underlying3 e0
  obtain ⟨a1, r1, _⟩ := DataW.trod_int Tryd.underlying3 e1
  obtain ⟨a2, r2, _⟩ := DataW.trod_int Tryd.underlying3 e2
  obtain ⟨a3, r3, _⟩ := DataW.trod_int Tryd.underlying3 e3
  obtain ⟨a4, r4, _⟩ := DataW.trod_int Tryd.underlying3 e4
  obtain ⟨ka, kl, kc, keep, r5, hI, hL⟩ := trod_ints e5
  obtain ⟨c0, c1, c2, c3, c4, r6⟩ := trod_call e6
  obtain ⟨line, r7, _⟩ := DataW.trod_string Tryd.underlying9 e7
  simp at r0 r1 r2 r3 r4 r5 r6 r7
  obtain ⟨s0, s1, s2, s3, s4⟩ := r6
  refine ⟨⟨a0, a1, a2, a3, a4, ka, kl, kc, c0, c1, c2, c3, c4, line, keep⟩, by rw [r0, r1, r2, r3, r4, r5, s0, s1, s2, s3, s4, r7]; rfl, hI, fun hA => hL fun k hk => hA k ?_⟩
  rw [hx]
  simp only [DataW.weights, Tryd.underlying41]
  exact DataW.weights_mem_each (j := 5) (t := 34) (d := y5.1) rfl rfl k hk

theorem op_acts {v : Value} {d : DataW H} {p : List MemPlace} (hv : Value.okWide Tryd.prog W .any base 25 v) (h : DataW.Trod enc Tryd.prog W 0 (fun _ => true) true 25 v d p) :
    ∃ (a : Option Addr) (len cap : Nat) (xs : List AV), v = .slice a len cap ∧ IsActs W a len cap xs ∧ (Light 25 d → len * 120 ≤ 140737488355328 ∧ ∀ i, (xs.getD i default).keep.length * 8 ≤ 140737488355328) := by
  obtain ⟨a, len, cap, rfl⟩ := okWide_slice Tryd.underlying25 hv
  obtain ⟨fuel, hf⟩ := h
  rcases open_slice Tryd.underlying25 hf with ⟨hcs, _⟩ | ⟨a, len, cap, m, n, D, Pl, hcs, _, hl, hm, hmm, hxd, hx⟩
  · simp [Value.cells] at hcs
    obtain ⟨rfl, rfl, rfl⟩ := hcs
    exact ⟨none, 0, 0, [], rfl, ⟨rfl, Nat.le_refl _, Nat.zero_le _, fun h => absurd h (by omega)⟩, fun _ => ⟨by omega, fun i => by simp [List.getD, default]⟩⟩
  · simp [Value.cells] at hcs
    obtain ⟨rfl, rfl, rfl⟩ := hcs
    have hmc : m = cap := by simpa using hmm
    subst hmc
    rw [cellsA] at hx
    have hy : ∀ i, i < m → ∃ y : AV, W.cells? 0 (a.add (i * 12)) 12 = some y.cells ∧ IsInts W y.ka y.kl y.kc y.keep ∧ (Light 41 (D i) → y.keep.length * 8 ≤ 140737488355328) := by
      intro i hi
      obtain ⟨cs', h1, h2⟩ := hx i hi
      obtain ⟨y, rfl, h3, h4⟩ := trod_act h2
      exact ⟨y, h1, h3, h4⟩
    obtain ⟨f, hf⟩ := choose_lt hy
    simp only [Prod.mk.injEq] at hxd
    refine ⟨some a, len, m, (List.range len).map f, rfl, ⟨by simp, hl, hm, fun hp => ?_⟩, fun hL => ⟨?_, fun i => ?_⟩⟩
    · obtain ⟨b, off, spot⟩ := a
      have hc0 := (World.cells?_some (hf 0 (by omega)).1).2.2 0 (by decide)
      have h0 : W.cell? (((⟨b, off, spot⟩ : Addr).add (0 * 12)).add 0) = some (.int .i64 (f 0).kind) := by rw [hc0]; rfl
      have hspot : spot = none := by simpa [Addr.add] using World.cell?_spot h0
      subst hspot
      have ad : ∀ i, (⟨b, off, none⟩ : Addr).add i = ⟨b, off + i, none⟩ := by
        intro i
        unfold Addr.add
        by_cases h : i = 0 <;> simp [h]
      have hb0 : W.cell? ⟨b, off, none⟩ = some (.int .i64 (f 0).kind) := by simpa [Addr.add] using h0
      refine ⟨b, off, rfl, World.block_lt_of_cell? W _ hb0, fun i hi => ⟨fun j hj => ?_, ?_⟩⟩
      · have hi' : i < len := by simpa using hi
        have hc := (World.cells?_some (hf i (by omega)).1).2.2 j hj
        rw [ad] at hc
        have ad2 : (⟨b, off + i * 12, none⟩ : Addr).add j = ⟨b, off + i * 12 + j, none⟩ := by
          unfold Addr.add
          by_cases h : j = 0 <;> simp [h]
        rw [ad2] at hc
        rw [hc]
        simp [List.getD, hi']
      · have hi' : i < len := by simpa using hi
        have := (hf i (by omega)).2.1
        simpa [List.getD, hi'] using this
    · rw [hxd.1] at hL
      have := hL _ (by simp only [DataW.weights, Tryd.underlying25]; exact List.mem_cons_self ..)
      rw [bytesA] at this
      simp only [List.length_map, List.length_range, reachBytes] at this
      omega
    · by_cases hi : i < len
      · have h3 := (hf i (by omega)).2.2 (fun k hk => ?_)
        · simpa [List.getD, hi] using h3
        · rw [hxd.1] at hL
          refine hL k ?_
          simp only [DataW.weights, Tryd.underlying25]
          refine List.mem_cons_of_mem _ (List.mem_append_left _ (mem_weightsAll (d := D i) ?_ hk))
          simp
          exact ⟨i, hi, rfl⟩
      · simp [List.getD, hi, default]
end Go.Proofs.YtlaagfnoepcnlaaDoor
