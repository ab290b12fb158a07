/- What the listed tables of package lines hold, cell by cell, out of their reading as data; and how an act comes in as an argument. -/
import Derived.Test.YtjihmhijnpjnoaaGreatDoorLnCall
import Derived.Test.YtjihmhijnpjnoaaGreatDoorOpenA
import Derived.Test.YtjihmhijnpjnoaaGreatDoorOpenC
import Derived.Lib.LaidTab
import Derived.OpenShut
namespace Go.Proofs.YtjihmhijnpjnoaaGreatDoor.Ln
set_option maxRecDepth 10000
open Go.ChangeShapes Go.WideShapes Go.ChangeAt Go.RowKit Go.Joins Go.Deep

def bRow {H : Type} (bs : List Bool) : DataW H := .agg (bs.map fun b => .lit (.bool b))
def bTab {H : Type} (tb : List (List Bool)) : DataW H := .agg (tb.map bRow)

section
variable {H : Type} {enc : TypeId × Value → H} {W : World} {base : Nat} {sp : Nat → Bool} {held : Bool}

theorem c1b : Tryz.prog.cellsOf 4 = 1 := by kernel_rfl

theorem row_of {fuel N : Nat} {tr : TypeId} {cs : List Value} {bs : List Bool} {p : List MemPlace} (hr : Tryz.prog.underlying tr = some (.array N 4)) (hb : bs.length = N) (h : DataW.trod enc Tryz.prog W base sp held fuel tr cs = some (bRow bs, p)) (j : Nat) (hj : j < N) : cs[j]? = some (.bool (bs.getD j false)) := by
  obtain ⟨xs, m, rfl, hx, hl, hn, hel⟩ := DataW.trod_array hr h
  have hxs : xs.map (·.1) = bs.map fun b => (DataW.lit (.bool b) : DataW H) := by
    have := congrArg Prod.fst hx
    simpa [bRow] using this.symm
  have h1 := hel j hj
  rw [c1b, List.getElem?_eq_getElem (by omega)] at h1
  obtain ⟨b, hc, hx1⟩ := DataW.trod_bool Tryz.underlying4 h1
  have e1 : cs[j]? = some (.bool b) := by
    have := congrArg (·[0]?) hc
    simpa [List.getElem?_take, List.getElem?_drop] using this
  have e2 : (xs.map (·.1))[j]? = some (DataW.lit (.bool b) : DataW H) := by
    rw [List.getElem?_map, List.getElem?_eq_getElem (by omega), hx1]; rfl
  rw [hxs] at e2
  have hjb : j < bs.length := by omega
  simp [hjb] at e2
  rw [e1]
  simp [List.getD, hjb, e2]

theorem tab_of {fuel n N : Nat} {t tr : TypeId} {cs : List Value} {tb : List (List Bool)} {p : List MemPlace} (ht : Tryz.prog.underlying t = some (.array n tr)) (hr : Tryz.prog.underlying tr = some (.array N 4)) (hcr : Tryz.prog.cellsOf tr = N) (hn : tb.length = n) (hb : ∀ i, i < n → (tb.getD i []).length = N) (h : DataW.trod enc Tryz.prog W base sp held fuel t cs = some (bTab tb, p)) (i j : Nat) (hi : i < n) (hj : j < N) : cs[i * N + j]? = some (.bool ((tb.getD i []).getD j false)) := by
  obtain ⟨xs, m, rfl, hx, hl, hlen, hel⟩ := DataW.trod_array ht h
  have hxs : xs.map (·.1) = tb.map bRow := by
    have := congrArg Prod.fst hx
    simpa [bTab] using this.symm
  have h1 := hel i hi
  rw [hcr, List.getElem?_eq_getElem (by omega)] at h1
  have e2 : (xs.map (·.1))[i]? = (tb.map (bRow (H := H)))[i]? := by rw [hxs]
  have hit : i < tb.length := by omega
  have hix : i < xs.length := by omega
  simp [hix, hit] at e2
  obtain ⟨d, q, hxi⟩ : ∃ d q, xs[i] = (d, q) := ⟨_, _, rfl⟩
  have e3 : d = bRow (tb.getD i []) := by
    rw [hxi] at e2
    simp [List.getD, hit]
    exact e2
  rw [hxi, e3] at h1
  have := row_of hr (hb i hi) h1 j hj
  rw [List.getElem?_take, if_pos hj, List.getElem?_drop] at this
  exact this

theorem has_of {fuel n N g : Nat} {t tr : TypeId} {cs : Array Value} {tb : List (List Bool)} {p : List MemPlace} {name : String} (hg : Tryz.prog.globalNamed name = some g) (hv : W.var? Tryz.prog name = some cs) (ht : Tryz.prog.underlying t = some (.array n tr)) (hr : Tryz.prog.underlying tr = some (.array N 4)) (hcr : Tryz.prog.cellsOf tr = N) (hn : tb.length = n) (hb : ∀ i, i < n → (tb.getD i []).length = N)
    (h : DataW.trod enc Tryz.prog W base sp held fuel t cs.toList = some (bTab tb, p)) : Tab W g N tb := by
  intro i j hi hj
  rw [World.var?_cell hg hv, ← Array.getElem?_toList]
  exact tab_of ht hr hcr hn hb h i j (by omega) hj

theorem aHas_rows : ∀ i, i < 9 → (aHas.getD i []).length = 7 := by decide
theorem cHas_rows : ∀ i, i < 6 → (cHas.getD i []).length = 4 := by decide
theorem cells7b : Tryz.prog.cellsOf 100 = 7 := by kernel_rfl
theorem cells4b : Tryz.prog.cellsOf 142 = 4 := by kernel_rfl

theorem tops_of {fuel : Nat} {cs : Array Value} {p : List MemPlace} {name : String} (hg : Tryz.prog.globalNamed name = some 2) (hv : W.var? Tryz.prog name = some cs)
    (h : DataW.trod enc Tryz.prog W base sp held fuel 144 cs.toList = some (Lib.tabData .i64 cTops, p)) : CTops W := by
  have e := Lib.cells_of_tab Tryz.underlying144 Tryz.underlying3 (by kernel_rfl) (by kernel_rfl) h
  have c : ∀ i, W.cell? ⟨2, i, none⟩ = (cTops.map fun z => Value.int .i64 z)[i]? := by
    intro i
    rw [World.var?_cell hg hv, ← Array.getElem?_toList, e]
  refine ⟨World.block_lt_of_cell? W _ (c 0), fun i hi => ?_⟩
  rw [c i]
  simp [List.getD, hi]
end
section
variable {H : Type} {enc : TypeId × Value → H} {W : World} {base : Nat}
theorem op_act {v : Value} {d : DataW H} {p : List MemPlace} (hv : Value.okWide Tryz.prog W .any base 34 v) (h : DataW.Trod enc Tryz.prog W 0 (fun _ => true) true 34 v d p) :
    ∃ a : AV, v = .agg a.cells.toArray ∧ IsInts W a.ka a.kl a.kc a.keep := by
  obtain ⟨cs, rfl, hsz⟩ := okWide_struct Tryz.underlying34 hv
  obtain ⟨fuel, hf⟩ := h
  obtain ⟨a, hc, hI, _⟩ := trod_act hf
  refine ⟨a, ?_, hI⟩
  have : cs.toList = a.cells := by simpa [Value.cells] using hc
  rw [← this]
end
end Go.Proofs.YtjihmhijnpjnoaaGreatDoor.Ln
