/- How messages, and what is on its way, come in as arguments; each slice within the reach. -/
import Derived.Test.YtpkbklhjpaaiiaaDoorProg
import Derived.WalkKit
import Derived.ProofKit
import Derived.OpenShut
import Derived.Below
import Derived.Lib.SmallJoins
import Derived.Deep.Slices
import Derived.SizedLaws
import Derived.Test.YtpkbklhjpaaiiaaDoorNBase
set_option maxRecDepth 10000
namespace Go.Proofs.YtpkbklhjpaaiiaaDoor.Nt
open Go.ChangeShapes Go.WideShapes Go.ChangeAt Go.RowKit Go.Joins Go.Deep
set_option linter.unusedVariables false

variable {H : Type} {enc : TypeId × Value → H} {W : World} {base : Nat}
theorem cI : Tryd.prog.cellsOf 3 = 1 := by kernel_rfl
theorem cB : Tryd.prog.cellsOf 4 = 1 := by kernel_rfl
theorem cT : Tryd.prog.cellsOf 36 = 2 := by kernel_rfl
theorem cE : Tryd.prog.cellsOf 26 = 1 := by kernel_rfl
theorem cM : Tryd.prog.cellsOf 38 = 12 := by kernel_rfl
theorem cL : Tryd.prog.cellsOf 29 = 1 := by kernel_rfl
theorem bM : Tryd.prog.bytesOf 38 = 96 := by kernel_rfl
theorem bL : Tryd.prog.bytesOf 29 = 24 := by kernel_rfl
theorem l2 {α : Type} {l : List α} (h : l.length = 2) : ∃ a b, l = [a, b] := by match l, h with | [a, b], _ => exact ⟨a, b, rfl⟩
theorem l11 {α : Type} {l : List α} (h : l.length = 11) : ∃ a b c d e f g i j k m, l = [a, b, c, d, e, f, g, i, j, k, m] := by match l, h with | [a, b, c, d, e, f, g, i, j, k, m], _ => exact ⟨a, b, c, d, e, f, g, i, j, k, m, rfl⟩
theorem l12 {α : Type} {l : List α} (h : l.length = 12) : ∃ a b c d e f g i j k m n, l = [a, b, c, d, e, f, g, i, j, k, m, n] := by match l, h with | [a, b, c, d, e, f, g, i, j, k, m, n], _ => exact ⟨a, b, c, d, e, f, g, i, j, k, m, n, rfl⟩

/-- All weights of a datum are within the reach. -/
def LightN (t : TypeId) (d : DataW H) : Prop := ∀ n ∈ d.weights Tryd.prog t, n ≤ reachBytes
theorem mem_weightsAll {P : Program} {e : TypeId} : ∀ {l : List (DataW H)} {d : DataW H} {n : Nat}, d ∈ l → n ∈ d.weights P e → n ∈ DataW.weightsAll P e l
  | a :: r, d, n, hd, hn => by
    simp only [DataW.weightsAll, List.mem_append]
    rcases List.mem_cons.1 hd with rfl | hd
    · exact .inl hn
    · exact .inr (mem_weightsAll hd hn)
theorem trod_txn {n : Nat} {cs : List Value} {x : DataW H × List MemPlace} (h : DataW.trod enc Tryd.prog W 0 (fun _ => true) true n 36 cs = some x) : ∃ a b : Int, cs = [.int .i64 a, .int .i64 b] := by
  obtain ⟨ys, m, _, _, hlen, hyl, hf⟩ := DataW.trod_struct Tryd.underlying36 h
  rw [cT] at hlen
  obtain ⟨v0, v1, rfl⟩ := l2 hlen
  obtain ⟨y0, y1, rfl⟩ := l2 (l := ys) (by simpa using hyl)
  have e0 := hf 0 _ rfl
  have e1 := hf 1 _ rfl
  simp [cI] at e0 e1
  obtain ⟨a0, r0, _⟩ := DataW.trod_int Tryd.underlying3 e0
  obtain ⟨a1, r1, _⟩ := DataW.trod_int Tryd.underlying3 e1
  simp at r0 r1
  exact ⟨a0, a1, by rw [r0, r1]⟩
theorem trod_message {n : Nat} {cs : List Value} {x : DataW H × List MemPlace} (h : DataW.trod enc Tryd.prog W 0 (fun _ => true) true n 38 cs = some x) : ∃ m : MV, cs = mcells m := by
  obtain ⟨ys, m, _, _, hlen, hyl, hf⟩ := DataW.trod_struct Tryd.underlying38 h
  rw [cM] at hlen
  obtain ⟨v0, v1, v2, v3, v4, v5, v6, v7, v8, v9, v10, v11, rfl⟩ := l12 hlen
  obtain ⟨y0, y1, y2, y3, y4, y5, y6, y7, y8, y9, y10, rfl⟩ := l11 (l := ys) (by simpa using hyl)
  have e0 := hf 0 _ rfl
  have e1 := hf 1 _ rfl
  have e2 := hf 2 _ rfl
  have e3 := hf 3 _ rfl
  have e4 := hf 4 _ rfl
  have e5 := hf 5 _ rfl
  have e6 := hf 6 _ rfl
  have e7 := hf 7 _ rfl
  have e8 := hf 8 _ rfl
  have e9 := hf 9 _ rfl
  have e10 := hf 10 _ rfl
  simp [cI] at e0 e1 e2 e4 e5 e6 e7 e8
  simp [cT] at e3
  simp [cB] at e9
  simp [cE] at e10
  obtain ⟨a0, r0, _⟩ := DataW.trod_int Tryd.underlying3 e0
  obtain ⟨a1, r1, _⟩ := DataW.trod_int Tryd.underlying3 e1
  obtain ⟨a2, r2, _⟩ := DataW.trod_int Tryd.underlying3 e2
  obtain ⟨a3, a4, r3⟩ := trod_txn e3
  obtain ⟨a5, r5, _⟩ := DataW.trod_int Tryd.underlying3 e4
  obtain ⟨a6, r6, _⟩ := DataW.trod_int Tryd.underlying3 e5
  obtain ⟨a7, r7, _⟩ := DataW.trod_int Tryd.underlying3 e6
  obtain ⟨a8, r8, _⟩ := DataW.trod_int Tryd.underlying3 e7
  obtain ⟨a9, r9, _⟩ := DataW.trod_int Tryd.underlying3 e8
  obtain ⟨a10, r10, _⟩ := DataW.trod_bool Tryd.underlying4 e9
  obtain ⟨a11, r11, _⟩ := DataW.trod_int Tryd.underlying26 e10
  simp at r0 r1 r2 r3 r5 r6 r7 r8 r9 r10 r11
  refine ⟨⟨a0, a1, a2, a3, a4, a5, a6, a7, a8, a9, a10, a11⟩, ?_⟩
  simp [mcells, r0, r1, r2, r3, r5, r6, r7, r8, r9, r10, r11]

theorem row_light {α : Type} [Inhabited α] {k bytes : Nat} {cells : α → List Value} (ok lt : α → Prop) {te tsl : TypeId} (hu : Tryd.prog.underlying tsl = some (.slice te)) (hk : Tryd.prog.cellsOf te = k) (hb : Tryd.prog.bytesOf te = bytes) (hk0 : 0 < k) (hne : ∀ y, ∃ v, (cells y)[0]? = some v)
    (hel : ∀ {n : Nat} {cs : List Value} {x : DataW H × List MemPlace}, DataW.trod enc Tryd.prog W 0 (fun _ => true) true n te cs = some x → ∃ y : α, cs = cells y ∧ ok y ∧ (LightN te x.1 → lt y))
    {n : Nat} {cs : List Value} {x : DataW H × List MemPlace} (h : DataW.trod enc Tryd.prog W 0 (fun _ => true) true n tsl cs = some x) :
    ∃ (a : Option Addr) (len cap : Nat) (xs : List α), cs = [.slice a len cap] ∧ IsRow k cells W a len cap xs ∧ (∀ y ∈ xs, ok y) ∧ (LightN tsl x.1 → len * bytes ≤ 140737488351232 ∧ ∀ y ∈ xs, lt y) := by
  rcases open_slice hu h with ⟨rfl, _⟩ | ⟨a, len, cap, m, n, D, Pl, rfl, _, hl, hm, hmm, hxd, hx⟩
  · exact ⟨none, 0, 0, [], rfl, isRow_nil _ _ _, by simp, fun _ => ⟨by simp, by simp⟩⟩
  · have hmc : m = cap := by simpa using hmm
    subst hmc
    rw [hk] at hx
    have hy : ∀ i, i < m → ∃ y : α, W.cells? 0 (a.add (i * k)) k = some (cells y) ∧ ok y ∧ (LightN te (D i) → lt y) := by
      intro i hi
      obtain ⟨cs', h1, h2⟩ := hx i hi
      obtain ⟨y, rfl, h3, h4⟩ := hel h2
      exact ⟨y, h1, h3, h4⟩
    obtain ⟨f, hf⟩ := choose_lt hy
    refine ⟨some a, len, m, (List.range len).map f, rfl, ⟨by simp, hl, hm, fun e => by simp at e, fun hp => ?_⟩, fun y hy => ?_, fun hL => ⟨?_, fun y hy => ?_⟩⟩
    · obtain ⟨b, off, spot⟩ := a
      obtain ⟨vv, h00⟩ := hne (f 0)
      have hc0 := (World.cells?_some (hf 0 (by omega)).1).2.2 0 hk0
      have h0 : W.cell? (((⟨b, off, spot⟩ : Addr).add (0 * k)).add 0) = some vv := by rw [hc0]; exact h00
      have hspot : spot = none := by simpa [Addr.add] using World.cell?_spot h0
      subst hspot
      have hb0 : W.cell? ⟨b, off, none⟩ = some vv := by simpa [Addr.add] using h0
      refine ⟨b, off, rfl, World.block_lt_of_cell? W _ hb0, fun i hi j hj => ?_⟩
      have hc := (World.cells?_some (hf i (by omega)).1).2.2 j hj
      have ad : ∀ o i, (⟨b, o, none⟩ : Addr).add i = ⟨b, o + i, none⟩ := by
        intro o i
        unfold Addr.add
        by_cases h : i = 0 <;> simp [h]
      rw [ad, ad] at hc
      rw [hc]
      simp [List.getD, hi]
    · obtain ⟨i, hi, rfl⟩ := List.getElem_of_mem hy
      simp at hi
      simpa using (hf i (by omega)).2.1
    · rw [hxd] at hL
      have := hL _ (by simp only [DataW.weights, hu]; exact List.mem_cons_self ..)
      rw [hb] at this
      simp only [List.length_map, List.length_range, reachBytes] at this
      exact Nat.le_trans (Nat.mul_le_mul_right _ (Nat.le_add_right _ _)) this
    · obtain ⟨i, hi, rfl⟩ := List.getElem_of_mem hy
      have hi' : i < len := by simpa using hi
      have h3 := (hf i (by omega)).2.2 (fun q hq => ?_)
      · simpa using h3
      · rw [hxd] at hL
        refine hL q ?_
        simp only [DataW.weights, hu]
        refine List.mem_cons_of_mem _ (List.mem_append_left _ (mem_weightsAll (d := D i) ?_ hq))
        simp
        exact ⟨i, hi', rfl⟩

theorem trod_msgs {n : Nat} {cs : List Value} {x : DataW H × List MemPlace} (h : DataW.trod enc Tryd.prog W 0 (fun _ => true) true n 29 cs = some x) :
    ∃ y : FL, cs = y.cells ∧ IsMsgs W y.a y.len y.cap y.ms ∧ (LightN 29 x.1 → y.len * 96 ≤ 140737488351232) := by
  obtain ⟨a, len, cap, xs, rfl, h1, _, h2⟩ := row_light (cells := mcells) (fun _ => True) (fun _ => True) Tryd.underlying29 cM bM (by decide) (fun y => ⟨_, rfl⟩) (fun h => by obtain ⟨m, rfl⟩ := trod_message h; exact ⟨m, rfl, trivial, fun _ => trivial⟩) h
  exact ⟨⟨a, len, cap, xs⟩, rfl, h1, fun hL => (h2 hL).1⟩
theorem op_msgs {v : Value} {d : DataW H} {p : List MemPlace} (hv : Value.okWide Tryd.prog W .any base 29 v) (h : DataW.Trod enc Tryd.prog W 0 (fun _ => true) true 29 v d p) :
    ∃ (a : Option Addr) (len cap : Nat) (ms : List MV), v = .slice a len cap ∧ IsMsgs W a len cap ms ∧ (LightN 29 d → len * 96 ≤ 140737488351232) := by
  obtain ⟨a, len, cap, rfl⟩ := okWide_slice Tryd.underlying29 hv
  obtain ⟨fuel, hf⟩ := h
  obtain ⟨⟨a', len', cap', ms⟩, e, h1, h2⟩ := trod_msgs hf
  simp [Value.cells, FL.cells] at e
  obtain ⟨rfl, rfl, rfl⟩ := e
  exact ⟨a, len, cap, ms, rfl, h1, h2⟩
theorem op_fly {v : Value} {d : DataW H} {p : List MemPlace} (hv : Value.okWide Tryd.prog W .any base 25 v) (h : DataW.Trod enc Tryd.prog W 0 (fun _ => true) true 25 v d p) :
    ∃ (a : Option Addr) (len cap : Nat) (fs : List FL), v = .slice a len cap ∧ IsFly W a len cap fs ∧ (LightN 25 d → len * 24 ≤ 140737488351232 ∧ ∀ f ∈ fs, f.len * 96 ≤ 140737488351232) := by
  obtain ⟨a, len, cap, rfl⟩ := okWide_slice Tryd.underlying25 hv
  obtain ⟨fuel, hf⟩ := h
  obtain ⟨a', len', cap', fs, e, h1, h2, h3⟩ := row_light (cells := FL.cells) (fun f => IsMsgs W f.a f.len f.cap f.ms) (fun f => f.len * 96 ≤ 140737488351232) Tryd.underlying25 cL bL (by decide) (fun y => ⟨_, rfl⟩) trod_msgs hf
  simp [Value.cells] at e
  obtain ⟨rfl, rfl, rfl⟩ := e
  exact ⟨a, len, cap, fs, rfl, ⟨h1, h2⟩, h3⟩
theorem op_int {v : Value} {d : DataW H} {p : List MemPlace} (hv : Value.okWide Tryd.prog W .any base 3 v) (h : DataW.Trod enc Tryd.prog W 0 (fun _ => true) true 3 v d p) :
    ∃ n : Int, v = .int .i64 n ∧ (Lit.int .i64 n).wf = true := by
  obtain ⟨a, h1, h2, h3, wa⟩ := open_int Tryd.underlying3 hv h
  exact ⟨a, h1, wa⟩
end Go.Proofs.YtpkbklhjpaaiiaaDoor.Nt
