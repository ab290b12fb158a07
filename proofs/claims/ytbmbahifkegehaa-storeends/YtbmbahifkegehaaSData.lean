/- A store's plain data; what a call owns of a store is a store; one list put in another's place. -/
import Derived.Test.YtbmbahifkegehaaSRows
import Derived.Test.YtbmbahifkegehaaSBox
import Derived.Test.YtbmbahifkegehaaSStoreOwn
namespace Go.Proofs.Ytbmbahifkegehaa.St
open Go.ChangeShapes Go.WideShapes Go.ChangeAt Go.RowKit
set_option linter.unusedVariables false

structure PS where
  items : List ItV
  locks : List LkV
  doubts : List DbV
  over : List (Int × Int)
def SV.data (s : SV) : PS := ⟨s.items, s.locks, s.doubts, s.over⟩
def SV.nil : SV := ⟨none, 0, 0, none, 0, 0, none, 0, 0, none, 0, 0, [], [], [], []⟩
theorem isStore_nil (w : World) : IsStore w SV.nil := ⟨isRow_nil _ _ _, isRow_nil _ _ _, isRow_nil _ _ _, isRow_nil _ _ _⟩
theorem same_data {s r : SV} (h : s.same r) : r.data = s.data := by
  obtain ⟨h1, h2, h3, h4, _⟩ := h
  simp [SV.data, h1, h2, h3, h4]
theorem own_len {α : Type} {cells : α → List Value} {k : Nat} (hk : ∀ x, (cells x).length = k) (hp : 0 < k) {w : World} {B : Nat} {te : TypeId} {v : Value} {n : Nat} {xs : List α} (h : w.ownsRow B te k v n (flat cells xs)) : xs.length = n := by
  have h1 := h.1
  rw [flat_len hk] at h1
  exact Nat.eq_of_mul_eq_mul_right hp h1
theorem ownStore_nil (w : World) (B : Nat) : OwnStore w B SV.nil := by
  refine ⟨World.ownsRow_nil _ _ _ _, World.ownsRow_nil _ _ _ _, World.ownsRow_nil _ _ _ _, World.ownsRow_nil _ _ _ _, ?_, ?_, ?_, ?_, ?_, ?_⟩ <;> (intro m h; simp [SV.nil, Value.ownBlock] at h)
theorem OwnStore.isStore {w : World} {B : Nat} {s : SV} (h : OwnStore w B s) : IsStore w s :=
  ⟨(own_isRow it_len h.items (own_len it_len (by decide) h.items)).1, (own_isRow lk_len h.locks (own_len lk_len (by decide) h.locks)).1, (own_isRow db_len h.doubts (own_len db_len (by decide) h.doubts)).1, (own_isRow tx_len h.over (own_len tx_len (by decide) h.over)).1⟩
theorem OwnStore.below {w w' : World} {B : Nat} {s : SV} (h : OwnStore w B s) (hb : Below w.heap.size w w') : OwnStore w' B s :=
  ⟨own_below h.items hb, own_below h.locks hb, own_below h.doubts hb, own_below h.over hb, h.ap_il, h.ap_id, h.ap_io, h.ap_ld, h.ap_lo, h.ap_do⟩
theorem OwnStore.base {w : World} {B C : Nat} {s : SV} (h : OwnStore w B s) (hc : C ≤ B) : OwnStore w C s :=
  ⟨own_base h.items hc, own_base h.locks hc, own_base h.doubts hc, own_base h.over hc, h.ap_il, h.ap_id, h.ap_io, h.ap_ld, h.ap_lo, h.ap_do⟩
theorem OwnStore.box {w : World} {B : Nat} {s : SV} (h : OwnStore w B s) {p : Addr} (hp : p.block < B) (v : Value) : OwnStore (w.setCell p v) B s :=
  ⟨ownsRow_setCell_below h.items hp v, ownsRow_setCell_below h.locks hp v, ownsRow_setCell_below h.doubts hp v, ownsRow_setCell_below h.over hp v, h.ap_il, h.ap_id, h.ap_io, h.ap_ld, h.ap_lo, h.ap_do⟩
theorem apart_l {x y : Value} (h : Apart x y) : x.ownBlock = none ∨ x.ownBlock ≠ y.ownBlock := by
  cases e : x.ownBlock with
  | none => exact .inl rfl
  | some m => exact .inr fun e2 => h m e e2.symm
theorem apart_r {x y : Value} (h : Apart x y) : y.ownBlock = none ∨ y.ownBlock ≠ x.ownBlock := apart_l h.symm
theorem apart_new {w : World} {B : Nat} {te : TypeId} {k n : Nat} {x x' y : Value} {ys : List Value} (h : Apart x y) (hy : w.ownsRow B te k y n ys) (hat : ∀ m, x'.ownBlock = some m → x.ownBlock = some m ∨ w.heap.size ≤ m) : Apart x' y := by
  intro m h1 h2
  rcases hat m h1 with h3 | h3
  · exact h m h3 h2
  · have := (hy.lt m h2).2
    omega
theorem at_of {w : World} {x x' : Value} {n : Nat} (h : x'.ownBlock = x.ownBlock ∨ x'.ownBlock = some n) (hn : w.heap.size ≤ n) : ∀ m, x'.ownBlock = some m → x.ownBlock = some m ∨ w.heap.size ≤ m := by
  intro m hm
  rcases h with h1 | h1
  · exact .inl (h1 ▸ hm)
  · rw [h1] at hm
    simp at hm
    exact .inr (by omega)
/-- Another list of items. -/
theorem OwnStore.put_items {w w' : World} {B : Nat} {s : SV} (h : OwnStore w B s) {a : Option Addr} {n c : Nat} {xs : List ItV} (hg : w.grownBy w' (Value.slice s.ia s.il s.ic).ownBlock) (hown : w'.ownsRow B 59 3 (.slice a n c) n (flat ItV.cells xs))
    (hat : ∀ m, (Value.slice a n c).ownBlock = some m → (Value.slice s.ia s.il s.ic).ownBlock = some m ∨ w.heap.size ≤ m) : OwnStore w' B { s with ia := a, il := n, ic := c, items := xs } :=
  ⟨hown, h.locks.kept hg (apart_l (h.ap_il.symm)), h.doubts.kept hg (apart_l (h.ap_id.symm)), h.over.kept hg (apart_l (h.ap_io.symm)), apart_new h.ap_il h.locks hat, apart_new h.ap_id h.doubts hat, apart_new h.ap_io h.over hat, h.ap_ld, h.ap_lo, h.ap_do⟩
/-- Another list of locks. -/
theorem OwnStore.put_locks {w w' : World} {B : Nat} {s : SV} (h : OwnStore w B s) {a : Option Addr} {n c : Nat} {xs : List LkV} (hg : w.grownBy w' (Value.slice s.la s.ll s.lc).ownBlock) (hown : w'.ownsRow B 52 6 (.slice a n c) n (flat LkV.cells xs))
    (hat : ∀ m, (Value.slice a n c).ownBlock = some m → (Value.slice s.la s.ll s.lc).ownBlock = some m ∨ w.heap.size ≤ m) : OwnStore w' B { s with la := a, ll := n, lc := c, locks := xs } :=
  ⟨h.items.kept hg (apart_l (h.ap_il)), hown, h.doubts.kept hg (apart_l (h.ap_ld.symm)), h.over.kept hg (apart_l (h.ap_lo.symm)), (apart_new (h.ap_il.symm) h.items hat).symm, h.ap_id, h.ap_io, apart_new h.ap_ld h.doubts hat, apart_new h.ap_lo h.over hat, h.ap_do⟩
/-- Another list of doubts. -/
theorem OwnStore.put_doubts {w w' : World} {B : Nat} {s : SV} (h : OwnStore w B s) {a : Option Addr} {n c : Nat} {xs : List DbV} (hg : w.grownBy w' (Value.slice s.da s.dl s.dc).ownBlock) (hown : w'.ownsRow B 61 3 (.slice a n c) n (flat DbV.cells xs))
    (hat : ∀ m, (Value.slice a n c).ownBlock = some m → (Value.slice s.da s.dl s.dc).ownBlock = some m ∨ w.heap.size ≤ m) : OwnStore w' B { s with da := a, dl := n, dc := c, doubts := xs } :=
  ⟨h.items.kept hg (apart_l (h.ap_id)), h.locks.kept hg (apart_l (h.ap_ld)), hown, h.over.kept hg (apart_l (h.ap_do.symm)), h.ap_il, (apart_new (h.ap_id.symm) h.items hat).symm, h.ap_io, (apart_new (h.ap_ld.symm) h.locks hat).symm, h.ap_lo, apart_new h.ap_do h.over hat⟩
/-- Another list of over. -/
theorem OwnStore.put_over {w w' : World} {B : Nat} {s : SV} (h : OwnStore w B s) {a : Option Addr} {n c : Nat} {xs : List (Int × Int)} (hg : w.grownBy w' (Value.slice s.oa s.ol s.oc).ownBlock) (hown : w'.ownsRow B 29 2 (.slice a n c) n (flat txCells xs))
    (hat : ∀ m, (Value.slice a n c).ownBlock = some m → (Value.slice s.oa s.ol s.oc).ownBlock = some m ∨ w.heap.size ≤ m) : OwnStore w' B { s with oa := a, ol := n, oc := c, over := xs } :=
  ⟨h.items.kept hg (apart_l (h.ap_io)), h.locks.kept hg (apart_l (h.ap_lo)), h.doubts.kept hg (apart_l (h.ap_do)), hown, h.ap_il, h.ap_id, (apart_new (h.ap_io.symm) h.items hat).symm, h.ap_ld, (apart_new (h.ap_lo.symm) h.locks hat).symm, (apart_new (h.ap_do.symm) h.doubts hat).symm⟩
end Go.Proofs.Ytbmbahifkegehaa.St
