/- How stores come in as an argument, with the sizes of their lists. -/
import Derived.Test.YtgohpgollpjlnaaDoorA19ConsoleShows
import Derived.Test.YtgohpgollpjlnaaDoorM11ConsoleShows
set_option maxRecDepth 10000
namespace Go.Proofs.YtgohpgollpjlnaaDoor.Pt
open Go.ChangeShapes Go.WideShapes Go.ChangeAt Go.RowKit Go.Joins Go.Deep
open Go.Proofs.YtgohpgollpjlnaaDoor.St (SV IsStore IsRow TxWf LightN SLight row_light ItV LkV DbV txCells)
set_option linter.unusedVariables false

variable {H : Type} {enc : TypeId × Value → H} {W : World} {base : Nat}
theorem cSto : Tryd.prog.cellsOf 55 = 4 := by kernel_rfl
theorem bSto : Tryd.prog.bytesOf 55 = 96 := by kernel_rfl
theorem cS0 : Tryd.prog.cellsOf 50 = 1 := by kernel_rfl
theorem cS1 : Tryd.prog.cellsOf 51 = 1 := by kernel_rfl
theorem cS2 : Tryd.prog.cellsOf 52 = 1 := by kernel_rfl
theorem cS3 : Tryd.prog.cellsOf 53 = 1 := by kernel_rfl
theorem l4 {α : Type} {l : List α} (h : l.length = 4) : ∃ a b c d, l = [a, b, c, d] := by match l, h with | [a, b, c, d], _ => exact ⟨a, b, c, d, rfl⟩
theorem trod_store {n : Nat} {cs : List Value} {x : DataW H × List MemPlace} (h : DataW.trod enc Tryd.prog W 0 (fun _ => true) true n 55 cs = some x) :
    ∃ s : SV, cs = s.box ∧ (IsStore W s ∧ ∀ t ∈ s.over, TxWf t) ∧ (LightN 55 x.1 → SLight s) := by
  obtain ⟨ys, m, _, rfl, hlen, hyl, hf⟩ := DataW.trod_struct Tryd.underlying55 h
  rw [cSto] at hlen
  obtain ⟨v0, v1, v2, v3, rfl⟩ := l4 hlen
  obtain ⟨y0, y1, y2, y3, rfl⟩ := l4 (l := ys) (by simpa using hyl)
  have hy0 := hf 0 _ rfl
  have hy1 := hf 1 _ rfl
  have hy2 := hf 2 _ rfl
  have hy3 := hf 3 _ rfl
  simp [cS0, cS1, cS2, cS3] at hy0 hy1 hy2 hy3
  obtain ⟨ia, il, ic, items, e0, hi, _, Li⟩ := row_light (cells := ItV.cells) (fun _ => True) (fun _ => True) Tryd.underlying50 St.cIt St.bIt (by omega) (fun y => ⟨_, rfl⟩) (fun h => by obtain ⟨m, h1, h2⟩ := St.trod_item h; exact ⟨m, h1, h2, fun _ => trivial⟩) hy0
  obtain ⟨la, ll, lc, locks, e1, hl, _, Ll⟩ := row_light (cells := LkV.cells) (fun _ => True) (fun _ => True) Tryd.underlying51 St.cLk St.bLk (by omega) (fun y => ⟨_, rfl⟩) (fun h => by obtain ⟨m, h1, h2⟩ := St.trod_lock h; exact ⟨m, h1, h2, fun _ => trivial⟩) hy1
  obtain ⟨da, dl, dc, doubts, e2, hd, _, Ld⟩ := row_light (cells := DbV.cells) (fun _ => True) (fun _ => True) Tryd.underlying52 St.cDb St.bDb (by omega) (fun y => ⟨_, rfl⟩) (fun h => by obtain ⟨m, h1, h2⟩ := St.trod_doubt h; exact ⟨m, h1, h2, fun _ => trivial⟩) hy2
  obtain ⟨oa, ol, oc, over, e3, ho, hw, Lo⟩ := row_light (cells := txCells) TxWf (fun _ => True) Tryd.underlying53 St.cT St.bTx (by omega) (fun y => ⟨_, rfl⟩) (fun h => by obtain ⟨m, h1, h2⟩ := St.trod_txn h; exact ⟨m, h1, h2, fun _ => trivial⟩) hy3
  simp at e0 e1 e2 e3
  subst e0 e1 e2 e3
  refine ⟨⟨ia, il, ic, la, ll, lc, da, dl, dc, oa, ol, oc, items, locks, doubts, over⟩, rfl, ⟨⟨hi, hl, hd, ho⟩, hw⟩, fun hA => ⟨?_, ?_, ?_, ?_⟩⟩
  · refine (Li fun k hk => hA k ?_).1
    simp only [DataW.weights, Tryd.underlying55]
    exact DataW.weights_mem_each (j := 0) (t := 50) (d := y0.1) rfl rfl k hk
  · refine (Ll fun k hk => hA k ?_).1
    simp only [DataW.weights, Tryd.underlying55]
    exact DataW.weights_mem_each (j := 1) (t := 51) (d := y1.1) rfl rfl k hk
  · refine (Ld fun k hk => hA k ?_).1
    simp only [DataW.weights, Tryd.underlying55]
    exact DataW.weights_mem_each (j := 2) (t := 52) (d := y2.1) rfl rfl k hk
  · refine (Lo fun k hk => hA k ?_).1
    simp only [DataW.weights, Tryd.underlying55]
    exact DataW.weights_mem_each (j := 3) (t := 53) (d := y3.1) rfl rfl k hk
/-- The stores are light enough to be copied. -/
def SSLight (n : Nat) (ss : List SV) : Prop := n * 96 ≤ 140737488351232 ∧ ∀ i, i < n → SLight (ss.getD i default)
theorem op_stores {v : Value} {d : DataW H} {p : List MemPlace} (hv : Value.okWide Tryd.prog W .any base 33 v) (h : DataW.Trod enc Tryd.prog W 0 (fun _ => true) true 33 v d p) :
    ∃ (a : Option Addr) (n cap : Nat) (ss : List SV), v = .slice a n cap ∧ IsStores W a n cap ss ∧ (LightN 33 d → SSLight n ss) := by
  obtain ⟨a, n, cap, rfl⟩ := okWide_slice Tryd.underlying33 hv
  obtain ⟨fuel, hf⟩ := h
  obtain ⟨a', n', cap', ss, e, hr, hok, hlt⟩ := row_light (cells := SV.box) (fun s => IsStore W s ∧ ∀ t ∈ s.over, TxWf t) SLight Tryd.underlying33 cSto bSto (by omega) (fun y => ⟨_, rfl⟩) (fun h => trod_store h) hf
  simp [Value.cells] at e
  obtain ⟨rfl, rfl, rfl⟩ := e
  have hm : ∀ i, i < n → ss.getD i default ∈ ss := by
    intro i hi
    have : i < ss.length := by rw [hr.1]; exact hi
    simp [List.getD, this]
  exact ⟨a, n, cap, ss, rfl, ⟨hr, fun i hi => hok _ (hm i hi)⟩, fun hL => ⟨(hlt hL).1, fun i hi => (hlt hL).2 _ (hm i hi)⟩⟩
end Go.Proofs.YtgohpgollpjlnaaDoor.Pt
