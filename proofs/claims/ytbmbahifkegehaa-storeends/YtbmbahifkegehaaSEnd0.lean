/- What store.End makes of a store, on plain data; a list of items put in another's place, wherever it lies. -/
import Derived.Test.YtbmbahifkegehaaSPut
import Derived.Test.YtbmbahifkegehaaSForget0
import Derived.Test.YtbmbahifkegehaaSWritesOf
import Derived.Test.YtbmbahifkegehaaSDoubtOf
import Derived.Deep.RegionWith
namespace Go.Proofs.Ytbmbahifkegehaa.St
open Go.ChangeShapes Go.WideShapes Go.ChangeAt Go.RowKit
set_option linter.unusedVariables false

def putAll (its : List ItV) (l : List LkV) : List ItV := l.foldl (fun a k => putI k.key k.value a) its
def endErr (s : SV) (t : Int × Int) (yes : Bool) : Int := if storeOK s then (if txOK t then 0 else 2) else 9
def endData (s : SV) (t : Int × Int) (yes : Bool) : PS := if endErr s t yes = 0 then ⟨if yes then putAll s.items (s.locks.filter (wOf t)) else s.items, keep (ofT t) s.locks, keep (dbT t) s.doubts, if t ∈ s.over then s.over else s.over ++ [t]⟩ else PS.nil
theorem put_bd (key value : Int) {v : Int} (h0 : 1 ≤ v) : ∀ (xs : List ItV), (∀ y ∈ xs, 0 ≤ y.version ∧ y.version ≤ v) → (putI key value xs).length ≤ xs.length + 1 ∧ ∀ y ∈ putI key value xs, 0 ≤ y.version ∧ y.version ≤ v + 1
  | [], _ => by simp [putI]; omega
  | x :: r, h => by
    have hx := h x (by simp)
    have hr : ∀ y ∈ r, 0 ≤ y.version ∧ y.version ≤ v := fun y hy => h y (by simp [hy])
    rw [putI]
    split
    · refine ⟨by simp, fun y hy => ?_⟩
      rcases List.mem_cons.1 hy with rfl | hy
      · simp; omega
      · have := hr y hy; omega
    · split
      · refine ⟨by simp, fun y hy => ?_⟩
        rcases List.mem_cons.1 hy with rfl | hy
        · simp; omega
        · rcases List.mem_cons.1 hy with rfl | hy
          · omega
          · have := hr y hy; omega
      · obtain ⟨q1, q2⟩ := put_bd key value h0 r hr
        refine ⟨by simp only [List.length_cons]; omega, fun y hy => ?_⟩
        rcases List.mem_cons.1 hy with rfl | hy
        · omega
        · exact q2 y hy
theorem putAll_at {its : List ItV} {l : List LkV} {k : Nat} (hk : k < l.length) : putAll its (l.take (k + 1)) = putI (l.getD k default).key (l.getD k default).value (putAll its (l.take k)) := by
  unfold putAll
  rw [take_at hk, List.foldl_append]
  rfl
/-- Another list of items, wherever it lies. -/
theorem Made.putg_items {W w w5 : World} {C m : Nat} {r : SV} (h : Made W w C m r) {a : Option Addr} {n c : Nat} {xs : List ItV} (hg : w.grownBy w5 (Value.slice r.ia r.il r.ic).ownBlock) (hown : w5.ownsRow C 59 3 (.slice a n c) n (flat ItV.cells xs))
    (hat : ∀ q, (Value.slice a n c).ownBlock = some q → (Value.slice r.ia r.il r.ic).ownBlock = some q ∨ w.heap.size ≤ q) :
    w5.cell? ⟨m, 0, none⟩ = some (Value.slice r.ia r.il r.ic) ∧ w5.frozen? ⟨m, 0, none⟩ = false ∧ Made W (w5.setCell ⟨m, 0, none⟩ (.slice a n c)) C m { r with ia := a, il := n, ic := c, items := xs } := by
  have hb5 : BoxN w5 m 4 r.box := h.box.grown hg (fun e => h.far_i e.symm)
  have o5 := h.own.put_items hg hown hat
  have hfar : (Value.slice a n c).ownBlock ≠ some m := by
    intro e
    rcases hat m e with e2 | e2
    · exact h.far_i e2
    · have := h.box.lt; omega
  have bel5 : Below C W w5 := h.bel.grown hg h.sz (fun q hq => (h.own.items.lt q hq).1)
  have gs := grown_setCell w5 ⟨m, 0, none⟩ (.slice a n c)
  refine ⟨(hb5.c 0 (by decide)).1, (hb5.c 0 (by decide)).2, ?_⟩
  exact ⟨⟨o5.items.kept gs (.inr hfar), o5.locks.kept gs (.inr h.far_l), o5.doubts.kept gs (.inr h.far_d), o5.over.kept gs (.inr h.far_o), o5.ap_il, o5.ap_id, o5.ap_io, o5.ap_ld, o5.ap_lo, o5.ap_do⟩, hb5.set 0 (by decide) _, hfar, h.far_l, h.far_d, h.far_o, h.le, bel5.setCell (p := ⟨m, 0, none⟩) h.le _⟩
end Go.Proofs.Ytbmbahifkegehaa.St
