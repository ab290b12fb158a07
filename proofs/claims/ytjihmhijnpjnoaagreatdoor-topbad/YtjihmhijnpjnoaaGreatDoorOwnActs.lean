/- Acts in a slice of the call's own, each with a Keep of the call's own: one more act; and that they lie as acts that came in do. -/
import Derived.Test.YtjihmhijnpjnoaaGreatDoorPurgeKeep
namespace Go.Proofs.YtjihmhijnpjnoaaGreatDoor
open Go.ChangeShapes Go.WideShapes Go.ChangeAt Go.RowKit

def Num (n : Int) : Prop := -9223372036854775808 ≤ n ∧ n ≤ 9223372036854775807
def Nums (zs : List Int) : Prop := ∀ i, -9223372036854775808 ≤ zs.getD i 0 ∧ zs.getD i 0 ≤ 9223372036854775807

structure OwnActs (w : World) (B : Nat) (v : Value) (ys : List AV) : Prop where
  row : w.ownsRow B 34 12 v ys.length (flatActs ys)
  keeps : ∀ y ∈ ys, w.ownsRow B 3 1 (.slice y.ka y.kl y.kc) y.kl (y.keep.map (Value.int .i64)) ∧ Nums y.keep

theorem ownActs_nil (w : World) (B : Nat) : OwnActs w B (.slice none 0 0) [] := ⟨World.ownsRow_nil _ _ _ _, by simp⟩

theorem OwnActs.below {w w' : World} {B : Nat} {v : Value} {ys : List AV} (h : OwnActs w B v ys) (hb : Below w.heap.size w w') : OwnActs w' B v ys :=
  ⟨own_below' h.row hb, fun y hy => ⟨own_below' (h.keeps y hy).1 hb, (h.keeps y hy).2⟩⟩

theorem OwnActs.setBelow {w : World} {B : Nat} {v : Value} {ys : List AV} (h : OwnActs w B v ys) {a : Addr} (ha : v.ownBlock ≠ some a.block) (hk : ∀ y ∈ ys, (Value.slice y.ka y.kl y.kc).ownBlock ≠ some a.block) (u : Value) : OwnActs (w.setCell a u) B v ys :=
  ⟨ownsRow_setCell_other h.row ha u, fun y hy => ⟨ownsRow_setCell_other (h.keeps y hy).1 (hk y hy) u, (h.keeps y hy).2⟩⟩

/-- A new block's cell is none of theirs. -/
theorem OwnActs.setNew {w w' : World} {B : Nat} {v : Value} {ys : List AV} (h : OwnActs w B v ys) (hb : Below w.heap.size w w') {a : Addr} (ha : w.heap.size ≤ a.block) (u : Value) : OwnActs (w'.setCell a u) B v ys := by
  refine (h.below hb).setBelow (fun e => ?_) (fun y hy e => ?_) u
  · have := (h.row.lt _ e).2
    omega
  · have := ((h.keeps y hy).1.lt _ e).2
    omega

theorem OwnActs.push {w w1 w2 : World} {B : Nat} {v v' : Value} {ys : List AV} {y : AV} (h : OwnActs w B v ys) (hb : Below w.heap.size w w1)
    (hk : w1.ownsRow B 3 1 (.slice y.ka y.kl y.kc) y.kl (y.keep.map (Value.int .i64))) (hn : Nums y.keep)
    (hown : w2.ownsRow B 34 12 v' (ys.length + 1) (flatActs ys ++ y.cells)) (hg : w1.grownBy w2 v.ownBlock) : OwnActs w2 B v' (ys ++ [y]) := by
  have h1 := h.below hb
  refine ⟨?_, fun z hz => ?_⟩
  · rw [flatActs_append]
    simpa using hown
  · rcases List.mem_append.1 hz with hz | hz
    · exact ⟨(h1.keeps z hz).1.kept hg (own_apart (h1.keeps z hz).1 h1.row (by decide)), (h1.keeps z hz).2⟩
    · simp at hz
      subst hz
      exact ⟨hk.kept hg (own_apart hk h1.row (by decide)), hn⟩

theorem OwnActs.isActs {w : World} {B : Nat} {ao : Option Addr} {n cp : Nat} {ys : List AV} (h : OwnActs w B (.slice ao n cp) ys) : n = ys.length ∧ IsActs w ao n cp ys := by
  have hr := h.row
  obtain ⟨ao', cp', e, h1, h2⟩ := own_form hr
  simp at e
  obtain ⟨rfl, rfl, rfl⟩ := e
  refine ⟨rfl, rfl, h1, h2, fun hp => ?_⟩
  rcases hr.2 with ⟨_, hn⟩ | ⟨g, cap, cur, hv, hb, hg, _⟩
  · omega
  · simp at hv
    obtain ⟨rfl, rfl⟩ := hv
    refine ⟨g, 0, rfl, (hr.lt g rfl).2, fun i hi => ⟨fun j hj => ?_, ?_⟩⟩
    · have hf := flatActs_get ys i hi j hj
      have hc : j < (ys.getD i default).cells.length := by rw [AV.cells_len]; exact hj
      rw [List.getElem?_eq_getElem hc] at hf
      have := hr.cells (g := g) rfl _ _ hf
      have e : ∀ m, (⟨g, 0, none⟩ : Addr).add m = ⟨g, 0 + m, none⟩ := by
        intro m
        unfold Addr.add
        by_cases hm : m = 0 <;> simp [hm]
      rw [e, ← Nat.add_assoc] at this
      rw [this, List.getElem?_eq_getElem hc]
    · have hm : ys.getD i default ∈ ys := by simp [List.getD, hi]
      exact ints_of_own (h.keeps _ hm).1 (h.keeps _ hm).2
end Go.Proofs.YtjihmhijnpjnoaaGreatDoor
