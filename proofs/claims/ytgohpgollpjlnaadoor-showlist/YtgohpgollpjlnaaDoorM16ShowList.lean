/- Texts of this claim, one behind the other. -/
import Derived.Test.YtgohpgollpjlnaaDoorM15ShowList
import Derived.Test.YtgohpgollpjlnaaDoorM2ShowList
import Derived.Deep.Cut
import Derived.Lib.QuietBelow
/- A store that a call makes in a box of its own: its rows are the call's own, and apart from the box. -/
namespace Go.Proofs.YtgohpgollpjlnaaDoor.St
open Go.ChangeShapes Go.WideShapes Go.ChangeAt Go.RowKit
set_option linter.unusedVariables false

theorem nD {W V : World} (h : Below W.heap.size W V) : Below W.heap.size W V.drew := h.drew
theorem nA {W V : World} (h : Below W.heap.size W V) (o : Obj) : Below W.heap.size W (V.alloc o) := h.alloc h.size o
theorem isOne {α : Type} [Inhabited α] {k : Nat} {cells : α → List Value} (u : World) (cs : Array Value) (t : TypeId) (x : α) (hc : cs.toList = cells x) (hk : cs.size = k) : IsRow k cells (u.alloc (.cells cs t)) (some ⟨u.heap.size, 0, none⟩) 1 1 [x] := by
  refine ⟨rfl, Nat.le_refl _, by unfold maxLen; omega, fun e => by simp at e, fun _ => ⟨u.heap.size, 0, rfl, by simp, fun i hi j hj => ?_⟩⟩
  obtain rfl : i = 0 := by omega
  have hb : (u.alloc (.cells cs t)).heap[u.heap.size]? = some (.cells cs t (0, 0)) := heap_alloc_new u _
  rw [Nat.zero_mul, Nat.zero_add, cell_of_row _ u.heap.size j cs t (0, 0) hb]
  simp only [List.getD_cons_zero]
  rw [← hc, Array.getElem?_toList]
def SV.box (s : SV) : List Value := [.slice s.ia s.il s.ic, .slice s.la s.ll s.lc, .slice s.da s.dl s.dc, .slice s.oa s.ol s.oc]
structure Made (W w : World) (C m : Nat) (r : SV) : Prop where
  own : OwnStore w C r
  box : BoxN w m 4 r.box
  far_i : (Value.slice r.ia r.il r.ic).ownBlock ≠ some m
  far_l : (Value.slice r.la r.ll r.lc).ownBlock ≠ some m
  far_d : (Value.slice r.da r.dl r.dc).ownBlock ≠ some m
  far_o : (Value.slice r.oa r.ol r.oc).ownBlock ≠ some m
  le : C ≤ m
  bel : Below C W w
theorem Made.sz {W w : World} {C m : Nat} {r : SV} (h : Made W w C m r) : C ≤ w.heap.size := Nat.le_trans h.le (Nat.le_of_lt h.box.lt)
theorem Made.cells {W w : World} {C m : Nat} {r : SV} (h : Made W w C m r) : m < w.heap.size ∧ w.cell? ⟨m, 0, none⟩ = some (.slice r.ia r.il r.ic) ∧ w.cell? ⟨m, 1, none⟩ = some (.slice r.la r.ll r.lc) ∧ w.cell? ⟨m, 2, none⟩ = some (.slice r.da r.dl r.dc) ∧ w.cell? ⟨m, 3, none⟩ = some (.slice r.oa r.ol r.oc) ∧ w.frozen? ⟨m, 0, none⟩ = false ∧ w.frozen? ⟨m, 1, none⟩ = false ∧ w.frozen? ⟨m, 2, none⟩ = false ∧ w.frozen? ⟨m, 3, none⟩ = false :=
  ⟨h.box.lt, (h.box.c 0 (by decide)).1, (h.box.c 1 (by decide)).1, (h.box.c 2 (by decide)).1, (h.box.c 3 (by decide)).1, (h.box.c 0 (by decide)).2, (h.box.c 1 (by decide)).2, (h.box.c 2 (by decide)).2, (h.box.c 3 (by decide)).2⟩
theorem Made.below {W w w' : World} {C m : Nat} {r : SV} (h : Made W w C m r) (hb : Below w.heap.size w w') : Made W w' C m r :=
  ⟨h.own.below hb, h.box.below hb h.box.lt, h.far_i, h.far_l, h.far_d, h.far_o, h.le, h.bel.trans (hb.mono h.sz)⟩
/-- A store of the call's own goes into a new box. -/
theorem Made.new {W w w' : World} {C m : Nat} {r : SV} (h : OwnStore w C r) (hb : Below C W w) (hw : Below w.heap.size w w') (hm : w.heap.size ≤ m) (hbox : BoxN w' m 4 r.box) (hC : C ≤ w.heap.size) : Made W w' C m r := by
  have fi : (Value.slice r.ia r.il r.ic).ownBlock ≠ some m := fun e => by have := (h.items.lt m e).2; omega
  have fl : (Value.slice r.la r.ll r.lc).ownBlock ≠ some m := fun e => by have := (h.locks.lt m e).2; omega
  have fd : (Value.slice r.da r.dl r.dc).ownBlock ≠ some m := fun e => by have := (h.doubts.lt m e).2; omega
  have fo : (Value.slice r.oa r.ol r.oc).ownBlock ≠ some m := fun e => by have := (h.over.lt m e).2; omega
  exact ⟨h.below hw, hbox, fi, fl, fd, fo, Nat.le_trans hC hm, hb.trans (hw.mono hC)⟩
/-- Another list of items, and the box is told. -/
theorem Made.put_items {W w V w5 : World} {C m : Nat} {r : SV} (h : Made W w C m r) (hV : Below w.heap.size w V) {a : Option Addr} {n c : Nat} {xs : List ItV} (hg : V.grownBy w5 (Value.slice r.ia r.il r.ic).ownBlock) (hown : w5.ownsRow C 109 3 (.slice a n c) n (flat ItV.cells xs))
    (hat : (Value.slice a n c).ownBlock = (Value.slice r.ia r.il r.ic).ownBlock ∨ (Value.slice a n c).ownBlock = some V.heap.size) :
    w5.cell? ⟨m, 0, none⟩ = some (Value.slice r.ia r.il r.ic) ∧ w5.frozen? ⟨m, 0, none⟩ = false ∧ Made W (w5.setCell ⟨m, 0, none⟩ (.slice a n c)) C m { r with ia := a, il := n, ic := c, items := xs } := by
  have h1 := h.below hV
  have hb5 : BoxN w5 m 4 r.box := h1.box.grown hg (fun e => h.far_i e.symm)
  have o5 := h1.own.put_items hg hown (at_of hat (Nat.le_refl _))
  have hfar : (Value.slice a n c).ownBlock ≠ some m := by
    rcases hat with e | e <;> rw [e]
    · exact h.far_i
    · intro e2; simp at e2; have := h1.box.lt; omega
  have bel5 : Below C W w5 := h1.bel.grown hg h1.sz (fun q hq => (h1.own.items.lt q hq).1)
  have gs := grown_setCell w5 ⟨m, 0, none⟩ (.slice a n c)
  refine ⟨(hb5.c 0 (by decide)).1, (hb5.c 0 (by decide)).2, ?_⟩
  exact ⟨⟨o5.items.kept gs (.inr hfar), o5.locks.kept gs (.inr h.far_l), o5.doubts.kept gs (.inr h.far_d), o5.over.kept gs (.inr h.far_o), o5.ap_il, o5.ap_id, o5.ap_io, o5.ap_ld, o5.ap_lo, o5.ap_do⟩, hb5.set 0 (by decide) _, hfar, h.far_l, h.far_d, h.far_o, h.le, bel5.setCell (p := ⟨m, 0, none⟩) h.le _⟩
/-- The same row, with other elements in it. -/
theorem Made.set_items {W w w5 : World} {C m : Nat} {r : SV} (h : Made W w C m r) {xs : List ItV} (hg : w.grownBy w5 (Value.slice r.ia r.il r.ic).ownBlock) (hown : w5.ownsRow C 109 3 (Value.slice r.ia r.il r.ic) r.il (flat ItV.cells xs)) : Made W w5 C m { r with items := xs } := by
  have o5 := h.own.put_items hg hown (fun q hq => .inl hq)
  exact ⟨o5, h.box.grown hg (fun e => h.far_i e.symm), h.far_i, h.far_l, h.far_d, h.far_o, h.le, h.bel.grown hg h.sz (fun q hq => (h.own.items.lt q hq).1)⟩
theorem Made.one_items {W w : World} {C m : Nat} {r : SV} (h : Made W w C m r) {g off : Nat} (e : r.ia = some ⟨g, off, none⟩) {i : Nat} (hi : i < r.il) (y : ItV) :
    off = 0 ∧ C ≤ g ∧ g < w.heap.size ∧ g ≠ m ∧ (∀ j, j < 3 → w.frozen? ⟨g, i * 3 + j, none⟩ = false ∧ (w.cell? ⟨g, i * 3 + j, none⟩).isSome = true ∧ w.cell? ⟨g, i * 3 + j, none⟩ = (ItV.cells (r.items.getD i default))[j]?) ∧ Made W (w.setCells g (i * 3) (ItV.cells y)) C m { r with items := r.items.set i y } := by
  have hl := own_len it_len (by decide) h.own.items
  obtain ⟨hr, _⟩ := own_isRow it_len h.own.items hl
  have ho := h.own.items
  rw [e] at ho hr
  have hoff : off = 0 := by
    rcases ho.2 with ⟨hv, _⟩ | ⟨g', cap', cur, hv, _⟩
    · simp at hv
    · simp at hv; exact hv.1.2
  subst hoff
  have hne : g ≠ m := fun e2 => h.far_i (by rw [e, e2]; rfl)
  have hlt := ho.lt g rfl
  refine ⟨rfl, hlt.1, hlt.2, hne, fun j hj => ?_, ?_⟩
  · have hk : i * 3 + j < r.il * 3 := by omega
    obtain ⟨t1, t2⟩ := own_there ho hk
    refine ⟨t2, t1, ?_⟩
    obtain ⟨b', off', e', _, hc⟩ := hr.2.2.2.2 (by omega)
    simp at e'
    obtain ⟨rfl, rfl⟩ := e'
    have := hc i hi j hj
    rw [Nat.zero_add] at this
    exact this
  · have h1 := own_setCells (ItV.cells y) (i * 3) w _ ho (by rw [it_len]; omega)
    rw [flat_setL it_len _ _ (by omega)] at h1
    refine h.set_items ?_ ?_
    · rw [e]; exact grown_setCells g _ _ _
    · rw [e]; exact h1
/-- Another list of locks, and the box is told. -/
theorem Made.put_locks {W w V w5 : World} {C m : Nat} {r : SV} (h : Made W w C m r) (hV : Below w.heap.size w V) {a : Option Addr} {n c : Nat} {xs : List LkV} (hg : V.grownBy w5 (Value.slice r.la r.ll r.lc).ownBlock) (hown : w5.ownsRow C 111 6 (.slice a n c) n (flat LkV.cells xs))
    (hat : (Value.slice a n c).ownBlock = (Value.slice r.la r.ll r.lc).ownBlock ∨ (Value.slice a n c).ownBlock = some V.heap.size) :
    w5.cell? ⟨m, 1, none⟩ = some (Value.slice r.la r.ll r.lc) ∧ w5.frozen? ⟨m, 1, none⟩ = false ∧ Made W (w5.setCell ⟨m, 1, none⟩ (.slice a n c)) C m { r with la := a, ll := n, lc := c, locks := xs } := by
  have h1 := h.below hV
  have hb5 : BoxN w5 m 4 r.box := h1.box.grown hg (fun e => h.far_l e.symm)
  have o5 := h1.own.put_locks hg hown (at_of hat (Nat.le_refl _))
  have hfar : (Value.slice a n c).ownBlock ≠ some m := by
    rcases hat with e | e <;> rw [e]
    · exact h.far_l
    · intro e2; simp at e2; have := h1.box.lt; omega
  have bel5 : Below C W w5 := h1.bel.grown hg h1.sz (fun q hq => (h1.own.locks.lt q hq).1)
  have gs := grown_setCell w5 ⟨m, 1, none⟩ (.slice a n c)
  refine ⟨(hb5.c 1 (by decide)).1, (hb5.c 1 (by decide)).2, ?_⟩
  exact ⟨⟨o5.items.kept gs (.inr h.far_i), o5.locks.kept gs (.inr hfar), o5.doubts.kept gs (.inr h.far_d), o5.over.kept gs (.inr h.far_o), o5.ap_il, o5.ap_id, o5.ap_io, o5.ap_ld, o5.ap_lo, o5.ap_do⟩, hb5.set 1 (by decide) _, h.far_i, hfar, h.far_d, h.far_o, h.le, bel5.setCell (p := ⟨m, 1, none⟩) h.le _⟩
/-- The same row, with other elements in it. -/
theorem Made.set_locks {W w w5 : World} {C m : Nat} {r : SV} (h : Made W w C m r) {xs : List LkV} (hg : w.grownBy w5 (Value.slice r.la r.ll r.lc).ownBlock) (hown : w5.ownsRow C 111 6 (Value.slice r.la r.ll r.lc) r.ll (flat LkV.cells xs)) : Made W w5 C m { r with locks := xs } := by
  have o5 := h.own.put_locks hg hown (fun q hq => .inl hq)
  exact ⟨o5, h.box.grown hg (fun e => h.far_l e.symm), h.far_i, h.far_l, h.far_d, h.far_o, h.le, h.bel.grown hg h.sz (fun q hq => (h.own.locks.lt q hq).1)⟩
theorem Made.one_locks {W w : World} {C m : Nat} {r : SV} (h : Made W w C m r) {g off : Nat} (e : r.la = some ⟨g, off, none⟩) {i : Nat} (hi : i < r.ll) (y : LkV) :
    off = 0 ∧ C ≤ g ∧ g < w.heap.size ∧ g ≠ m ∧ (∀ j, j < 6 → w.frozen? ⟨g, i * 6 + j, none⟩ = false ∧ (w.cell? ⟨g, i * 6 + j, none⟩).isSome = true ∧ w.cell? ⟨g, i * 6 + j, none⟩ = (LkV.cells (r.locks.getD i default))[j]?) ∧ Made W (w.setCells g (i * 6) (LkV.cells y)) C m { r with locks := r.locks.set i y } := by
  have hl := own_len lk_len (by decide) h.own.locks
  obtain ⟨hr, _⟩ := own_isRow lk_len h.own.locks hl
  have ho := h.own.locks
  rw [e] at ho hr
  have hoff : off = 0 := by
    rcases ho.2 with ⟨hv, _⟩ | ⟨g', cap', cur, hv, _⟩
    · simp at hv
    · simp at hv; exact hv.1.2
  subst hoff
  have hne : g ≠ m := fun e2 => h.far_l (by rw [e, e2]; rfl)
  have hlt := ho.lt g rfl
  refine ⟨rfl, hlt.1, hlt.2, hne, fun j hj => ?_, ?_⟩
  · have hk : i * 6 + j < r.ll * 6 := by omega
    obtain ⟨t1, t2⟩ := own_there ho hk
    refine ⟨t2, t1, ?_⟩
    obtain ⟨b', off', e', _, hc⟩ := hr.2.2.2.2 (by omega)
    simp at e'
    obtain ⟨rfl, rfl⟩ := e'
    have := hc i hi j hj
    rw [Nat.zero_add] at this
    exact this
  · have h1 := own_setCells (LkV.cells y) (i * 6) w _ ho (by rw [lk_len]; omega)
    rw [flat_setL lk_len _ _ (by omega)] at h1
    refine h.set_locks ?_ ?_
    · rw [e]; exact grown_setCells g _ _ _
    · rw [e]; exact h1
/-- Another list of doubts, and the box is told. -/
theorem Made.put_doubts {W w V w5 : World} {C m : Nat} {r : SV} (h : Made W w C m r) (hV : Below w.heap.size w V) {a : Option Addr} {n c : Nat} {xs : List DbV} (hg : V.grownBy w5 (Value.slice r.da r.dl r.dc).ownBlock) (hown : w5.ownsRow C 60 3 (.slice a n c) n (flat DbV.cells xs))
    (hat : (Value.slice a n c).ownBlock = (Value.slice r.da r.dl r.dc).ownBlock ∨ (Value.slice a n c).ownBlock = some V.heap.size) :
    w5.cell? ⟨m, 2, none⟩ = some (Value.slice r.da r.dl r.dc) ∧ w5.frozen? ⟨m, 2, none⟩ = false ∧ Made W (w5.setCell ⟨m, 2, none⟩ (.slice a n c)) C m { r with da := a, dl := n, dc := c, doubts := xs } := by
  have h1 := h.below hV
  have hb5 : BoxN w5 m 4 r.box := h1.box.grown hg (fun e => h.far_d e.symm)
  have o5 := h1.own.put_doubts hg hown (at_of hat (Nat.le_refl _))
  have hfar : (Value.slice a n c).ownBlock ≠ some m := by
    rcases hat with e | e <;> rw [e]
    · exact h.far_d
    · intro e2; simp at e2; have := h1.box.lt; omega
  have bel5 : Below C W w5 := h1.bel.grown hg h1.sz (fun q hq => (h1.own.doubts.lt q hq).1)
  have gs := grown_setCell w5 ⟨m, 2, none⟩ (.slice a n c)
  refine ⟨(hb5.c 2 (by decide)).1, (hb5.c 2 (by decide)).2, ?_⟩
  exact ⟨⟨o5.items.kept gs (.inr h.far_i), o5.locks.kept gs (.inr h.far_l), o5.doubts.kept gs (.inr hfar), o5.over.kept gs (.inr h.far_o), o5.ap_il, o5.ap_id, o5.ap_io, o5.ap_ld, o5.ap_lo, o5.ap_do⟩, hb5.set 2 (by decide) _, h.far_i, h.far_l, hfar, h.far_o, h.le, bel5.setCell (p := ⟨m, 2, none⟩) h.le _⟩
/-- The same row, with other elements in it. -/
theorem Made.set_doubts {W w w5 : World} {C m : Nat} {r : SV} (h : Made W w C m r) {xs : List DbV} (hg : w.grownBy w5 (Value.slice r.da r.dl r.dc).ownBlock) (hown : w5.ownsRow C 60 3 (Value.slice r.da r.dl r.dc) r.dl (flat DbV.cells xs)) : Made W w5 C m { r with doubts := xs } := by
  have o5 := h.own.put_doubts hg hown (fun q hq => .inl hq)
  exact ⟨o5, h.box.grown hg (fun e => h.far_d e.symm), h.far_i, h.far_l, h.far_d, h.far_o, h.le, h.bel.grown hg h.sz (fun q hq => (h.own.doubts.lt q hq).1)⟩
theorem Made.one_doubts {W w : World} {C m : Nat} {r : SV} (h : Made W w C m r) {g off : Nat} (e : r.da = some ⟨g, off, none⟩) {i : Nat} (hi : i < r.dl) (y : DbV) :
    off = 0 ∧ C ≤ g ∧ g < w.heap.size ∧ g ≠ m ∧ (∀ j, j < 3 → w.frozen? ⟨g, i * 3 + j, none⟩ = false ∧ (w.cell? ⟨g, i * 3 + j, none⟩).isSome = true ∧ w.cell? ⟨g, i * 3 + j, none⟩ = (DbV.cells (r.doubts.getD i default))[j]?) ∧ Made W (w.setCells g (i * 3) (DbV.cells y)) C m { r with doubts := r.doubts.set i y } := by
  have hl := own_len db_len (by decide) h.own.doubts
  obtain ⟨hr, _⟩ := own_isRow db_len h.own.doubts hl
  have ho := h.own.doubts
  rw [e] at ho hr
  have hoff : off = 0 := by
    rcases ho.2 with ⟨hv, _⟩ | ⟨g', cap', cur, hv, _⟩
    · simp at hv
    · simp at hv; exact hv.1.2
  subst hoff
  have hne : g ≠ m := fun e2 => h.far_d (by rw [e, e2]; rfl)
  have hlt := ho.lt g rfl
  refine ⟨rfl, hlt.1, hlt.2, hne, fun j hj => ?_, ?_⟩
  · have hk : i * 3 + j < r.dl * 3 := by omega
    obtain ⟨t1, t2⟩ := own_there ho hk
    refine ⟨t2, t1, ?_⟩
    obtain ⟨b', off', e', _, hc⟩ := hr.2.2.2.2 (by omega)
    simp at e'
    obtain ⟨rfl, rfl⟩ := e'
    have := hc i hi j hj
    rw [Nat.zero_add] at this
    exact this
  · have h1 := own_setCells (DbV.cells y) (i * 3) w _ ho (by rw [db_len]; omega)
    rw [flat_setL db_len _ _ (by omega)] at h1
    refine h.set_doubts ?_ ?_
    · rw [e]; exact grown_setCells g _ _ _
    · rw [e]; exact h1
/-- Another list of over, and the box is told. -/
theorem Made.put_over {W w V w5 : World} {C m : Nat} {r : SV} (h : Made W w C m r) (hV : Below w.heap.size w V) {a : Option Addr} {n c : Nat} {xs : List (Int × Int)} (hg : V.grownBy w5 (Value.slice r.oa r.ol r.oc).ownBlock) (hown : w5.ownsRow C 23 2 (.slice a n c) n (flat txCells xs))
    (hat : (Value.slice a n c).ownBlock = (Value.slice r.oa r.ol r.oc).ownBlock ∨ (Value.slice a n c).ownBlock = some V.heap.size) :
    w5.cell? ⟨m, 3, none⟩ = some (Value.slice r.oa r.ol r.oc) ∧ w5.frozen? ⟨m, 3, none⟩ = false ∧ Made W (w5.setCell ⟨m, 3, none⟩ (.slice a n c)) C m { r with oa := a, ol := n, oc := c, over := xs } := by
  have h1 := h.below hV
  have hb5 : BoxN w5 m 4 r.box := h1.box.grown hg (fun e => h.far_o e.symm)
  have o5 := h1.own.put_over hg hown (at_of hat (Nat.le_refl _))
  have hfar : (Value.slice a n c).ownBlock ≠ some m := by
    rcases hat with e | e <;> rw [e]
    · exact h.far_o
    · intro e2; simp at e2; have := h1.box.lt; omega
  have bel5 : Below C W w5 := h1.bel.grown hg h1.sz (fun q hq => (h1.own.over.lt q hq).1)
  have gs := grown_setCell w5 ⟨m, 3, none⟩ (.slice a n c)
  refine ⟨(hb5.c 3 (by decide)).1, (hb5.c 3 (by decide)).2, ?_⟩
  exact ⟨⟨o5.items.kept gs (.inr h.far_i), o5.locks.kept gs (.inr h.far_l), o5.doubts.kept gs (.inr h.far_d), o5.over.kept gs (.inr hfar), o5.ap_il, o5.ap_id, o5.ap_io, o5.ap_ld, o5.ap_lo, o5.ap_do⟩, hb5.set 3 (by decide) _, h.far_i, h.far_l, h.far_d, hfar, h.le, bel5.setCell (p := ⟨m, 3, none⟩) h.le _⟩
/-- The same row, with other elements in it. -/
theorem Made.set_over {W w w5 : World} {C m : Nat} {r : SV} (h : Made W w C m r) {xs : List (Int × Int)} (hg : w.grownBy w5 (Value.slice r.oa r.ol r.oc).ownBlock) (hown : w5.ownsRow C 23 2 (Value.slice r.oa r.ol r.oc) r.ol (flat txCells xs)) : Made W w5 C m { r with over := xs } := by
  have o5 := h.own.put_over hg hown (fun q hq => .inl hq)
  exact ⟨o5, h.box.grown hg (fun e => h.far_o e.symm), h.far_i, h.far_l, h.far_d, h.far_o, h.le, h.bel.grown hg h.sz (fun q hq => (h.own.over.lt q hq).1)⟩
theorem Made.one_over {W w : World} {C m : Nat} {r : SV} (h : Made W w C m r) {g off : Nat} (e : r.oa = some ⟨g, off, none⟩) {i : Nat} (hi : i < r.ol) (y : (Int × Int)) :
    off = 0 ∧ C ≤ g ∧ g < w.heap.size ∧ g ≠ m ∧ (∀ j, j < 2 → w.frozen? ⟨g, i * 2 + j, none⟩ = false ∧ (w.cell? ⟨g, i * 2 + j, none⟩).isSome = true ∧ w.cell? ⟨g, i * 2 + j, none⟩ = (txCells (r.over.getD i default))[j]?) ∧ Made W (w.setCells g (i * 2) (txCells y)) C m { r with over := r.over.set i y } := by
  have hl := own_len tx_len (by decide) h.own.over
  obtain ⟨hr, _⟩ := own_isRow tx_len h.own.over hl
  have ho := h.own.over
  rw [e] at ho hr
  have hoff : off = 0 := by
    rcases ho.2 with ⟨hv, _⟩ | ⟨g', cap', cur, hv, _⟩
    · simp at hv
    · simp at hv; exact hv.1.2
  subst hoff
  have hne : g ≠ m := fun e2 => h.far_o (by rw [e, e2]; rfl)
  have hlt := ho.lt g rfl
  refine ⟨rfl, hlt.1, hlt.2, hne, fun j hj => ?_, ?_⟩
  · have hk : i * 2 + j < r.ol * 2 := by omega
    obtain ⟨t1, t2⟩ := own_there ho hk
    refine ⟨t2, t1, ?_⟩
    obtain ⟨b', off', e', _, hc⟩ := hr.2.2.2.2 (by omega)
    simp at e'
    obtain ⟨rfl, rfl⟩ := e'
    have := hc i hi j hj
    rw [Nat.zero_add] at this
    exact this
  · have h1 := own_setCells (txCells y) (i * 2) w _ ho (by rw [tx_len]; omega)
    rw [flat_setL tx_len _ _ (by omega)] at h1
    refine h.set_over ?_ ?_
    · rw [e]; exact grown_setCells g _ _ _
    · rw [e]; exact h1
/-- One cell of one of the items. -/
theorem Made.cell_items {W w : World} {C m : Nat} {r : SV} (h : Made W w C m r) {g off : Nat} (e : r.ia = some ⟨g, off, none⟩) {i j : Nat} (hi : i < r.il) (hj : j < 3) (u : Value) (y : ItV) (hy : ItV.cells y = (ItV.cells (r.items.getD i default)).set j u) : Made W (w.setCell ⟨g, i * 3 + j, none⟩ u) C m { r with items := r.items.set i y } := by
  have hl := own_len it_len (by decide) h.own.items
  have ho := h.own.items
  rw [e] at ho
  have hoff : off = 0 := by
    rcases ho.2 with ⟨hv, _⟩ | ⟨g', cap', cur, hv, _⟩
    · simp at hv
    · simp at hv; exact hv.1.2
  subst hoff
  have h1 := own_setk ho (k := i * 3 + j) (by omega) u
  rw [flat_set it_len _ _ _ _ y (by omega) hj hy] at h1
  refine h.set_items ?_ ?_
  · rw [e]; exact grown_setCell w ⟨g, i * 3 + j, none⟩ u
  · rw [e]; exact h1
/-- One cell of one of the locks. -/
theorem Made.cell_locks {W w : World} {C m : Nat} {r : SV} (h : Made W w C m r) {g off : Nat} (e : r.la = some ⟨g, off, none⟩) {i j : Nat} (hi : i < r.ll) (hj : j < 6) (u : Value) (y : LkV) (hy : LkV.cells y = (LkV.cells (r.locks.getD i default)).set j u) : Made W (w.setCell ⟨g, i * 6 + j, none⟩ u) C m { r with locks := r.locks.set i y } := by
  have hl := own_len lk_len (by decide) h.own.locks
  have ho := h.own.locks
  rw [e] at ho
  have hoff : off = 0 := by
    rcases ho.2 with ⟨hv, _⟩ | ⟨g', cap', cur, hv, _⟩
    · simp at hv
    · simp at hv; exact hv.1.2
  subst hoff
  have h1 := own_setk ho (k := i * 6 + j) (by omega) u
  rw [flat_set lk_len _ _ _ _ y (by omega) hj hy] at h1
  refine h.set_locks ?_ ?_
  · rw [e]; exact grown_setCell w ⟨g, i * 6 + j, none⟩ u
  · rw [e]; exact h1
/-- One cell of one of the doubts. -/
theorem Made.cell_doubts {W w : World} {C m : Nat} {r : SV} (h : Made W w C m r) {g off : Nat} (e : r.da = some ⟨g, off, none⟩) {i j : Nat} (hi : i < r.dl) (hj : j < 3) (u : Value) (y : DbV) (hy : DbV.cells y = (DbV.cells (r.doubts.getD i default)).set j u) : Made W (w.setCell ⟨g, i * 3 + j, none⟩ u) C m { r with doubts := r.doubts.set i y } := by
  have hl := own_len db_len (by decide) h.own.doubts
  have ho := h.own.doubts
  rw [e] at ho
  have hoff : off = 0 := by
    rcases ho.2 with ⟨hv, _⟩ | ⟨g', cap', cur, hv, _⟩
    · simp at hv
    · simp at hv; exact hv.1.2
  subst hoff
  have h1 := own_setk ho (k := i * 3 + j) (by omega) u
  rw [flat_set db_len _ _ _ _ y (by omega) hj hy] at h1
  refine h.set_doubts ?_ ?_
  · rw [e]; exact grown_setCell w ⟨g, i * 3 + j, none⟩ u
  · rw [e]; exact h1
/-- One cell of one of the over. -/
theorem Made.cell_over {W w : World} {C m : Nat} {r : SV} (h : Made W w C m r) {g off : Nat} (e : r.oa = some ⟨g, off, none⟩) {i j : Nat} (hi : i < r.ol) (hj : j < 2) (u : Value) (y : (Int × Int)) (hy : txCells y = (txCells (r.over.getD i default)).set j u) : Made W (w.setCell ⟨g, i * 2 + j, none⟩ u) C m { r with over := r.over.set i y } := by
  have hl := own_len tx_len (by decide) h.own.over
  have ho := h.own.over
  rw [e] at ho
  have hoff : off = 0 := by
    rcases ho.2 with ⟨hv, _⟩ | ⟨g', cap', cur, hv, _⟩
    · simp at hv
    · simp at hv; exact hv.1.2
  subst hoff
  have h1 := own_setk ho (k := i * 2 + j) (by omega) u
  rw [flat_set tx_len _ _ _ _ y (by omega) hj hy] at h1
  refine h.set_over ?_ ?_
  · rw [e]; exact grown_setCell w ⟨g, i * 2 + j, none⟩ u
  · rw [e]; exact h1
/-- All that a store is made of lies below B. -/
structure Under (r : SV) (m B : Nat) : Prop where
  m : m < B
  items : ∀ q, (Value.slice r.ia r.il r.ic).ownBlock = some q → q < B
  locks : ∀ q, (Value.slice r.la r.ll r.lc).ownBlock = some q → q < B
  doubts : ∀ q, (Value.slice r.da r.dl r.dc).ownBlock = some q → q < B
  over : ∀ q, (Value.slice r.oa r.ol r.oc).ownBlock = some q → q < B
theorem Made.under {W w : World} {C m : Nat} {r : SV} (h : Made W w C m r) : Under r m w.heap.size := ⟨h.box.lt, fun q hq => (h.own.items.lt q hq).2, fun q hq => (h.own.locks.lt q hq).2, fun q hq => (h.own.doubts.lt q hq).2, fun q hq => (h.own.over.lt q hq).2⟩
theorem Made.aside {W w w' : World} {C m B : Nat} {r : SV} {row : Option Nat} (h : Made W w C m r) (hu : Under r m B) (hg : w.grownBy w' row) (hrow : ∀ q, row = some q → B ≤ q) (hC : C ≤ B) : Made W w' C m r := by
  have ki : (Value.slice r.ia r.il r.ic).ownBlock = none ∨ (Value.slice r.ia r.il r.ic).ownBlock ≠ row := by
    cases e : (Value.slice r.ia r.il r.ic).ownBlock with
    | none => exact .inl rfl
    | some q => exact .inr fun e2 => by have := hrow q e2.symm; have := hu.items q e; omega
  have kl : (Value.slice r.la r.ll r.lc).ownBlock = none ∨ (Value.slice r.la r.ll r.lc).ownBlock ≠ row := by
    cases e : (Value.slice r.la r.ll r.lc).ownBlock with
    | none => exact .inl rfl
    | some q => exact .inr fun e2 => by have := hrow q e2.symm; have := hu.locks q e; omega
  have kd : (Value.slice r.da r.dl r.dc).ownBlock = none ∨ (Value.slice r.da r.dl r.dc).ownBlock ≠ row := by
    cases e : (Value.slice r.da r.dl r.dc).ownBlock with
    | none => exact .inl rfl
    | some q => exact .inr fun e2 => by have := hrow q e2.symm; have := hu.doubts q e; omega
  have ko : (Value.slice r.oa r.ol r.oc).ownBlock = none ∨ (Value.slice r.oa r.ol r.oc).ownBlock ≠ row := by
    cases e : (Value.slice r.oa r.ol r.oc).ownBlock with
    | none => exact .inl rfl
    | some q => exact .inr fun e2 => by have := hrow q e2.symm; have := hu.over q e; omega
  exact ⟨⟨h.own.items.kept hg ki, h.own.locks.kept hg kl, h.own.doubts.kept hg kd, h.own.over.kept hg ko, h.own.ap_il, h.own.ap_id, h.own.ap_io, h.own.ap_ld, h.own.ap_lo, h.own.ap_do⟩, h.box.grown hg (fun e => by have := hrow _ e.symm; have := hu.m; omega), h.far_i, h.far_l, h.far_d, h.far_o, h.le, h.bel.grown hg h.sz (fun q hq => Nat.le_trans hC (hrow q hq))⟩
/-- None of the store's rows lies in that block. -/
structure Off (r : SV) (b : Nat) : Prop where
  i : (Value.slice r.ia r.il r.ic).ownBlock ≠ some b
  l : (Value.slice r.la r.ll r.lc).ownBlock ≠ some b
  d : (Value.slice r.da r.dl r.dc).ownBlock ≠ some b
  o : (Value.slice r.oa r.ol r.oc).ownBlock ≠ some b
theorem Off.of_lt {w : World} {C b : Nat} {s : SV} (h : OwnStore w C s) (hb : w.heap.size ≤ b) : Off s b := ⟨fun e => by have := (h.items.lt b e).2; omega, fun e => by have := (h.locks.lt b e).2; omega, fun e => by have := (h.doubts.lt b e).2; omega, fun e => by have := (h.over.lt b e).2; omega⟩
theorem Off.of_ge {w : World} {C b : Nat} {s : SV} (h : OwnStore w C s) (hb : b < C) : Off s b := ⟨fun e => by have := (h.items.lt b e).1; omega, fun e => by have := (h.locks.lt b e).1; omega, fun e => by have := (h.doubts.lt b e).1; omega, fun e => by have := (h.over.lt b e).1; omega⟩
theorem Off.far {w : World} {C b j : Nat} {s : SV} (f : Off s b) (h : OwnStore w C s) (v : Value) : OwnStore (w.setCell ⟨b, j, none⟩ v) C s := ⟨h.items.kept (grown_setCell w ⟨b, j, none⟩ v) (.inr f.i), h.locks.kept (grown_setCell w ⟨b, j, none⟩ v) (.inr f.l), h.doubts.kept (grown_setCell w ⟨b, j, none⟩ v) (.inr f.d), h.over.kept (grown_setCell w ⟨b, j, none⟩ v) (.inr f.o), h.ap_il, h.ap_id, h.ap_io, h.ap_ld, h.ap_lo, h.ap_do⟩
theorem Off.put_items {V : World} {b : Nat} {r : SV} (f : Off r b) {a : Option Addr} {n c : Nat} {xs : List ItV} (hat : (Value.slice a n c).ownBlock = (Value.slice r.ia r.il r.ic).ownBlock ∨ (Value.slice a n c).ownBlock = some V.heap.size) (hb : b < V.heap.size) : Off { r with ia := a, il := n, ic := c, items := xs } b := by
  have k : (Value.slice a n c).ownBlock ≠ some b := by
    rcases hat with e | e <;> rw [e]
    · exact f.i
    · intro e2; simp at e2; omega
  exact ⟨k, f.l, f.d, f.o⟩
theorem Off.put_locks {V : World} {b : Nat} {r : SV} (f : Off r b) {a : Option Addr} {n c : Nat} {xs : List LkV} (hat : (Value.slice a n c).ownBlock = (Value.slice r.la r.ll r.lc).ownBlock ∨ (Value.slice a n c).ownBlock = some V.heap.size) (hb : b < V.heap.size) : Off { r with la := a, ll := n, lc := c, locks := xs } b := by
  have k : (Value.slice a n c).ownBlock ≠ some b := by
    rcases hat with e | e <;> rw [e]
    · exact f.l
    · intro e2; simp at e2; omega
  exact ⟨f.i, k, f.d, f.o⟩
theorem Off.put_doubts {V : World} {b : Nat} {r : SV} (f : Off r b) {a : Option Addr} {n c : Nat} {xs : List DbV} (hat : (Value.slice a n c).ownBlock = (Value.slice r.da r.dl r.dc).ownBlock ∨ (Value.slice a n c).ownBlock = some V.heap.size) (hb : b < V.heap.size) : Off { r with da := a, dl := n, dc := c, doubts := xs } b := by
  have k : (Value.slice a n c).ownBlock ≠ some b := by
    rcases hat with e | e <;> rw [e]
    · exact f.d
    · intro e2; simp at e2; omega
  exact ⟨f.i, f.l, k, f.o⟩
theorem Off.put_over {V : World} {b : Nat} {r : SV} (f : Off r b) {a : Option Addr} {n c : Nat} {xs : List (Int × Int)} (hat : (Value.slice a n c).ownBlock = (Value.slice r.oa r.ol r.oc).ownBlock ∨ (Value.slice a n c).ownBlock = some V.heap.size) (hb : b < V.heap.size) : Off { r with oa := a, ol := n, oc := c, over := xs } b := by
  have k : (Value.slice a n c).ownBlock ≠ some b := by
    rcases hat with e | e <;> rw [e]
    · exact f.o
    · intro e2; simp at e2; omega
  exact ⟨f.i, f.l, f.d, k⟩
theorem Off.four {w : World} {C b : Nat} {s : SV} (f : Off s b) (h : OwnStore w C s) (p0 p1 p2 p3 : Value) : OwnStore ((((w.setCell ⟨b, 0, none⟩ p0).setCell ⟨b, 1, none⟩ p1).setCell ⟨b, 2, none⟩ p2).setCell ⟨b, 3, none⟩ p3) C s := f.far (f.far (f.far (f.far h p0) p1) p2) p3
theorem OwnStore.four {w : World} {C b : Nat} {s : SV} (h : OwnStore w C s) (hb : b < C) (p0 p1 p2 p3 : Value) : OwnStore ((((w.setCell ⟨b, 0, none⟩ p0).setCell ⟨b, 1, none⟩ p1).setCell ⟨b, 2, none⟩ p2).setCell ⟨b, 3, none⟩ p3) C s := (((h.box (p := ⟨b, 0, none⟩) hb p0).box (p := ⟨b, 1, none⟩) hb p1).box (p := ⟨b, 2, none⟩) hb p2).box (p := ⟨b, 3, none⟩) hb p3
theorem cell_four {U : World} {b c i : Nat} (h : b ≠ c) (p0 p1 p2 p3 : Value) : ((((U.setCell ⟨c, 0, none⟩ p0).setCell ⟨c, 1, none⟩ p1).setCell ⟨c, 2, none⟩ p2).setCell ⟨c, 3, none⟩ p3).cell? ⟨b, i, none⟩ = U.cell? ⟨b, i, none⟩ := by
  rw [World.cell?_of_block (a := ⟨b, i, none⟩) (Below.heap_setCell _ ⟨c, 3, none⟩ p3 b h), World.cell?_of_block (a := ⟨b, i, none⟩) (Below.heap_setCell _ ⟨c, 2, none⟩ p2 b h), World.cell?_of_block (a := ⟨b, i, none⟩) (Below.heap_setCell _ ⟨c, 1, none⟩ p1 b h), World.cell?_of_block (a := ⟨b, i, none⟩) (Below.heap_setCell _ ⟨c, 0, none⟩ p0 b h)]
theorem below_four {a w : World} {C b : Nat} (h : Below C a w) (hb : C ≤ b) (p0 p1 p2 p3 : Value) : Below C a ((((w.setCell ⟨b, 0, none⟩ p0).setCell ⟨b, 1, none⟩ p1).setCell ⟨b, 2, none⟩ p2).setCell ⟨b, 3, none⟩ p3) := by
  refine Below.setCell (Below.setCell (Below.setCell (Below.setCell h ?_ _) ?_ _) ?_ _) ?_ _
  all_goals exact hb
end Go.Proofs.YtgohpgollpjlnaaDoor.St
/- Contracts of the document's small functions: In, plainTxn, doubtOf, isOver. -/
namespace Go.Proofs.YtgohpgollpjlnaaDoor.St
open Go.ChangeShapes Go.WideShapes Go.ChangeAt Go.RowKit
set_option linter.unusedVariables false

theorem in_any (n lo hi : Int) (w : World) :
    Calls Tryd.prog 53 #[.int .i64 n, .int .i64 lo, .int .i64 hi] w fun e w' => e = .returned (.bool (inR n lo hi)) ∧ w' = w := by
  go_enter Tryd.func53, Tryd.ntmps53
  go_wp2
  all_goals go_ret
  all_goals exact ⟨ret_bool (by unfold inR; rw [Bool.eq_iff_iff]; simp; omega), rfl⟩
theorem in_below (n lo hi : Int) (w : World) :
    Calls Tryd.prog 53 #[.int .i64 n, .int .i64 lo, .int .i64 hi] w fun e w' => e = .returned (.bool (inR n lo hi)) ∧ Below w.heap.size w w' :=
  (in_any n lo hi w).mono fun e u hu => ⟨hu.1, by rw [hu.2]; exact Below.refl _ _⟩
theorem plainTxn_any (t : Int × Int) (w : World) :
    Calls Tryd.prog 30 #[.agg #[.int .i64 t.1, .int .i64 t.2]] w fun e w' => e = .returned (.bool (txOK t)) ∧ Below w.heap.size w w' := by
  obtain ⟨site, num⟩ := t
  have hA : Below w.heap.size w (w.alloc (.cells #[.int .i64 site, .int .i64 num] 23)) := (Below.refl _ _).alloc (Nat.le_refl _) _
  unfold txOK
  cases hr : inR site 0 3 with
  | false =>
    go_enter Tryd.func30, Tryd.ntmps30
    go_wp2_with (go_at_call 53; refine (in_any _ _ _ _).mono ?_; rintro e w1 ⟨rfl, hu1⟩; rw [hu1]; clear hu1)
    go_ret
    exact ⟨by simp, hA⟩
  | true =>
    go_enter Tryd.func30, Tryd.ntmps30
    go_wp2_with (go_at_call 53; refine (in_any _ _ _ _).mono ?_; rintro e w1 ⟨rfl, hu1⟩; rw [hu1]; clear hu1)
    go_ret
    exact ⟨by simp, hA⟩

set_option maxHeartbeats 2000000 in
theorem doubtOf_ref (s : SV) (t : Int × Int) (w : World) (h : IsDoubts w s.da s.dl s.dc s.doubts) :
    Calls Tryd.prog 54 #[s.val, .agg #[.int .i64 t.1, .int .i64 t.2]] w fun e w' => e = .returned (.int .i64 (idxI (dbT t) s.doubts)) ∧ Below w.heap.size w w' := by
  obtain ⟨ia, il, ic, la, ll, lc, da, dl, dc, oa, ol, oc, items, locks, doubts, over⟩ := s
  obtain ⟨ts, tn⟩ := t
  simp only [SV.val] at *
  obtain ⟨hlen, hcap, hmax, _, hmem⟩ := h
  have HL : Hid (doubts.length = dl) := hlen
  clear hlen
  unfold maxLen at hmax
  obtain ⟨W, hW⟩ : ∃ W : World, W = (w.alloc (.cells #[.slice ia il ic, .slice la ll lc, .slice da dl dc, .slice oa ol oc] 55)).alloc (.cells #[.int .i64 ts, .int .i64 tn] 23) := ⟨_, rfl⟩
  have hB : Below w.heap.size w W := by rw [hW]; exact ((Below.refl _ _).alloc (Nat.le_refl _) _).alloc (by simp) _
  have zW : W.heap.size = w.heap.size + 2 := by rw [hW]; simp
  have c2 : W.cell? ⟨w.heap.size, 2, none⟩ = some (.slice da dl dc) := by rw [hW]; go_simp
  have d0 : W.cell? ⟨w.heap.size + 1, 0, none⟩ = some (.int .i64 ts) := by rw [hW]; go_simp
  have d1 : W.cell? ⟨w.heap.size + 1, 1, none⟩ = some (.int .i64 tn) := by rw [hW]; go_simp
  have z0 : w.heap.size < W.heap.size := by omega
  have z1 : w.heap.size + 1 < W.heap.size := by omega
  clear zW
  go_enter Tryd.func54, Tryd.ntmps54
  go_wp2
  rw [← hW]
  clear hW
  go_loopw [5] (fun s5 wr => ∃ (k : Nat), k ≤ dl ∧ s5 = .int .i64 k ∧ (∀ i, i < k → dbT (ts, tn) (doubts.getD i default) = false) ∧ Below W.heap.size W wr) (fun s5 _ => dl - (intOf s5).toNat)
  case atStart => exact ⟨0, Nat.zero_le _, rfl, fun i hi => absurd hi (by omega), Below.refl _ _⟩
  case round =>
    obtain ⟨k, hk, rfl, hnot, hb⟩ := hrel
    have hwr := hB.trans (hb.mono hB.size)
    have x2 := (hb.cell (p := ⟨w.heap.size, 2, none⟩) z0).trans c2
    have y0 := (hb.cell (p := ⟨w.heap.size + 1, 0, none⟩) z1).trans d0
    have y1 := (hb.cell (p := ⟨w.heap.size + 1, 1, none⟩) z1).trans d1
    by_cases hlt : k < dl
    · have hlt' : (k : Int) < (dl : Int) := by omega
      obtain ⟨b, off, rfl, zb, hc⟩ := hmem (by omega)
      have hcells := hc k hlt
      have hhit := idxI_hit (p := dbT (ts, tn)) (l := doubts) (k := k) (by have := HL.out; omega) hnot
      have hnot' : dbT (ts, tn) (doubts.getD k default) = false → ∀ i, i < k + 1 → dbT (ts, tn) (doubts.getD i default) = false := fun hf i hi => by
        by_cases e : i = k
        · rw [e]; exact hf
        · exact hnot i (by omega)
      obtain ⟨x, ex⟩ : ∃ x, x = doubts.getD k default := ⟨_, rfl⟩
      rw [← ex] at hcells hhit hnot'
      clear ex
      obtain ⟨⟨site, num⟩, age⟩ := x
      have a0 := hcells 0 (by decide)
      have a1 := hcells 1 (by decide)
      simp [DbV.cells] at a0 a1
      rw [← hwr.cell (p := ⟨b, off + k * 3, none⟩) zb] at a0
      rw [← hwr.cell (p := ⟨b, off + k * 3 + 1, none⟩) zb] at a1
      clear hcells hc
      by_cases e1 : site = ts
      · by_cases e2 : num = tn
        · subst e1 e2
          have hh := hhit (by simp [dbT])
          clear hhit hnot'
          go_wp2
          go_quiet (fail)
          go_wp2
          go_ret
          exact ⟨by rw [hh]; rfl, below_drewN hwr nq⟩
        · have hh := hnot' (by simp [dbT]; intro _ e; exact e2 e)
          have e3 : (num == tn) = false := by simpa using e2
          clear hhit hnot'
          subst e1
          go_wp2
          go_quiet (fail)
          go_wp2
          go_roundw
          case rel => exact ⟨k + 1, by omega, by go_num, hh, below_drewN hb nq⟩
          case measure => simp [intOf]; omega
      · have hh := hnot' (by simp [dbT]; intro e; exact absurd e e1)
        have e3 : (site == ts) = false := by simpa using e1
        clear hhit hnot'
        go_wp2
        go_quiet (fail)
        go_wp2
        go_roundw
        case rel => exact ⟨k + 1, by omega, by go_num, hh, below_drewN hb nq⟩
        case measure => simp [intOf]; omega
    · have hfin : idxI (dbT (ts, tn)) doubts = -1 := idxI_none (fun i hi => hnot i (by have := HL.out; omega))
      go_wp2
      go_ret
      exact ⟨by rw [hfin]; rfl, hwr⟩

set_option maxHeartbeats 2000000 in
theorem isOver_ref (s : SV) (t : Int × Int) (w : World) (h : IsTxns w s.oa s.ol s.oc s.over) :
    Calls Tryd.prog 55 #[s.val, .agg #[.int .i64 t.1, .int .i64 t.2]] w fun e w' => e = .returned (.bool (decide (t ∈ s.over))) ∧ Below w.heap.size w w' := by
  obtain ⟨ia, il, ic, la, ll, lc, da, dl, dc, oa, ol, oc, items, locks, doubts, over⟩ := s
  obtain ⟨ts, tn⟩ := t
  simp only [SV.val] at *
  obtain ⟨hlen, hcap, hmax, _, hmem⟩ := h
  have HL : Hid (over.length = ol) := hlen
  clear hlen
  unfold maxLen at hmax
  obtain ⟨W, hW⟩ : ∃ W : World, W = (w.alloc (.cells #[.slice ia il ic, .slice la ll lc, .slice da dl dc, .slice oa ol oc] 55)).alloc (.cells #[.int .i64 ts, .int .i64 tn] 23) := ⟨_, rfl⟩
  have hB : Below w.heap.size w W := by rw [hW]; exact ((Below.refl _ _).alloc (Nat.le_refl _) _).alloc (by simp) _
  have zW : W.heap.size = w.heap.size + 2 := by rw [hW]; simp
  have c3 : W.cell? ⟨w.heap.size, 3, none⟩ = some (.slice oa ol oc) := by rw [hW]; go_simp
  have d0 : W.cell? ⟨w.heap.size + 1, 0, none⟩ = some (.int .i64 ts) := by rw [hW]; go_simp
  have d1 : W.cell? ⟨w.heap.size + 1, 1, none⟩ = some (.int .i64 tn) := by rw [hW]; go_simp
  have z0 : w.heap.size < W.heap.size := by omega
  have z1 : w.heap.size + 1 < W.heap.size := by omega
  clear zW
  go_enter Tryd.func55, Tryd.ntmps55
  go_wp2
  rw [← hW]
  clear hW
  go_loopw [5] (fun s5 wr => ∃ (k : Nat), k ≤ ol ∧ s5 = .int .i64 k ∧ (∀ i, i < k → over.getD i default ≠ (ts, tn)) ∧ Below W.heap.size W wr) (fun s5 _ => ol - (intOf s5).toNat)
  case atStart => exact ⟨0, Nat.zero_le _, rfl, fun i hi => absurd hi (by omega), Below.refl _ _⟩
  case round =>
    obtain ⟨k, hk, rfl, hnot, hb⟩ := hrel
    have hwr := hB.trans (hb.mono hB.size)
    have x2 := (hb.cell (p := ⟨w.heap.size, 3, none⟩) z0).trans c3
    have y0 := (hb.cell (p := ⟨w.heap.size + 1, 0, none⟩) z1).trans d0
    have y1 := (hb.cell (p := ⟨w.heap.size + 1, 1, none⟩) z1).trans d1
    by_cases hlt : k < ol
    · have hlt' : (k : Int) < (ol : Int) := by omega
      obtain ⟨b, off, rfl, zb, hc⟩ := hmem (by omega)
      have hcells := hc k hlt
      have hkl : k < over.length := by have := HL.out; omega
      have hmm : over.getD k default ∈ over := by simp [List.getD, hkl]
      have hnot' : over.getD k default ≠ (ts, tn) → ∀ i, i < k + 1 → over.getD i default ≠ (ts, tn) := fun hf i hi => by
        by_cases e : i = k
        · rw [e]; exact hf
        · exact hnot i (by omega)
      obtain ⟨x, ex⟩ : ∃ x, x = over.getD k default := ⟨_, rfl⟩
      rw [← ex] at hcells hmm hnot'
      clear ex
      obtain ⟨site, num⟩ := x
      have a0 := hcells 0 (by decide)
      have a1 := hcells 1 (by decide)
      simp [txCells] at a0 a1
      rw [← hwr.cell (p := ⟨b, off + k * 2, none⟩) zb] at a0
      rw [← hwr.cell (p := ⟨b, off + k * 2 + 1, none⟩) zb] at a1
      clear hcells hc
      by_cases e1 : site = ts
      · by_cases e2 : num = tn
        · subst e1 e2
          clear hnot'
          go_wp2
          go_quiet (fail)
          go_wp2
          go_ret
          exact ⟨by simp [hmm], below_drewN hwr nq⟩
        · have hh := hnot' (by simp; intro _ e; exact e2 e)
          have e3 : (num == tn) = false := by simpa using e2
          clear hnot'
          subst e1
          go_wp2
          go_quiet (fail)
          go_wp2
          go_roundw
          case rel => exact ⟨k + 1, by omega, by go_num, hh, below_drewN hb nq⟩
          case measure => simp [intOf]; omega
      · have hh := hnot' (by simp; intro e; exact absurd e e1)
        have e3 : (site == ts) = false := by simpa using e1
        clear hnot'
        go_wp2
        go_quiet (fail)
        go_wp2
        go_roundw
        case rel => exact ⟨k + 1, by omega, by go_num, hh, below_drewN hb nq⟩
        case measure => simp [intOf]; omega
    · have hfin : (ts, tn) ∉ over := fun hm => by
        obtain ⟨i, hi, e⟩ := List.getElem_of_mem hm
        exact hnot i (by have := HL.out; omega) (by simp [List.getD, hi, e])
      go_wp2
      go_ret
      exact ⟨by simp [hfin], hwr⟩
end Go.Proofs.YtgohpgollpjlnaaDoor.St
/- What the document's StoreMay asks, on plain data, and that it is what Check asks. -/
namespace Go.Proofs.YtgohpgollpjlnaaDoor.St
open Go.ChangeShapes Go.WideShapes Go.ChangeAt Go.RowKit
set_option linter.unusedVariables false

def itemsR : Option Int → List ItV → Bool
  | _, [] => true
  | p, x :: r => inR x.key 0 7 && inR x.value 0 1073741824 && inR x.version 1 1048576 && (match p with | none => true | some q => !(decide (x.key ≤ q))) && itemsR (some x.key) r
def lkRest (k : LkV) : Bool := inR k.key 0 7 && inR k.value 0 1073741824 && inR k.ask 0 1048576 && (k.write || (decide (k.value = 0) && decide (k.ask = 0)))
def lkR (ds : List DbV) : List LkV → List LkV → Bool
  | _, [] => true
  | seen, k :: r => (ds.any (dbT k.t) && lkRest k) && !(seen.any (against k)) && lkR ds (seen ++ [k]) r
def dbR (ls : List LkV) (ov : List (Int × Int)) : List DbV → List DbV → Bool
  | _, [] => true
  | seen, d :: r => txOK d.t && inR d.age 0 1048576 && ls.any (ofT d.t) && !(seen.any (dbT d.t)) && !(decide (d.t ∈ ov)) && dbR ls ov (seen ++ [d]) r
def refOK (s : SV) : Bool := decide (s.locks.length ≤ 24) && itemsR none s.items && lkR s.doubts [] s.locks && dbR s.locks s.over [] s.doubts && overGo [] s.over

theorem items_same : ∀ (l : List ItV) (q : Int), -1 ≤ q → itemsR (some q) l = itemsOK (q + 1) l := by
  intro l
  induction l with
  | nil => intro q _; rfl
  | cons x r ih =>
    intro q hq
    simp only [itemsR, itemsOK]
    by_cases h : inR x.key (q + 1) 7 = true
    · have := inR_of h
      rw [h, inR_true (n := x.key) (lo := 0) (by omega) this.2, ih x.key (by omega)]
      have : ¬ x.key ≤ q := by omega
      simp [this]
    · have h' : inR x.key (q + 1) 7 = false := by simpa using h
      rw [h']
      have := inR_not h'
      by_cases h0 : inR x.key 0 7 = true
      · have h1 := inR_of h0
        have : x.key ≤ q := by omega
        simp [this]
      · have : inR x.key 0 7 = false := by simpa using h0
        simp [this]
theorem items_none (l : List ItV) : itemsR none l = itemsOK 0 l := by
  cases l with
  | nil => rfl
  | cons x r =>
    simp only [itemsR, itemsOK]
    by_cases h : inR x.key 0 7 = true
    · have := inR_of h
      rw [items_same r x.key (by omega)]
      simp
    · have h' : inR x.key 0 7 = false := by simpa using h
      simp [h']

def nag : List LkV → List LkV → Bool
  | _, [] => true
  | seen, k :: r => !(seen.any (against k)) && nag (seen ++ [k]) r
def onceD : List DbV → List DbV → Bool
  | _, [] => true
  | seen, d :: r => !(seen.any (dbT d.t)) && onceD (seen ++ [d]) r
theorem locksGo_parts : ∀ (l seen : List LkV), locksGo seen l = (l.all (fun k => txOK k.t) && l.all lkRest && nag seen l) := by
  intro l
  induction l with
  | nil => intro seen; rfl
  | cons k r ih =>
    intro seen
    simp only [locksGo, nag, List.all_cons, ih, lockOK, lkRest]
    rw [Bool.eq_iff_iff]
    simp only [Bool.and_eq_true]
    constructor <;> intro h <;> simp_all
theorem lkR_parts (ds : List DbV) : ∀ (l seen : List LkV), lkR ds seen l = (l.all (fun k => ds.any (dbT k.t)) && l.all lkRest && nag seen l) := by
  intro l
  induction l with
  | nil => intro seen; rfl
  | cons k r ih =>
    intro seen
    simp only [lkR, nag, List.all_cons, ih]
    rw [Bool.eq_iff_iff]
    simp only [Bool.and_eq_true]
    constructor <;> intro h <;> simp_all
def dbRest (ls : List LkV) (ov : List (Int × Int)) (d : DbV) : Bool := inR d.age 0 1048576 && ls.any (ofT d.t) && !(decide (d.t ∈ ov))
theorem doubtsGo_parts (ls : List LkV) (ov : List (Int × Int)) : ∀ (l seen : List DbV), doubtsGo ls ov seen l = (l.all (dbRest ls ov) && onceD seen l) := by
  intro l
  induction l with
  | nil => intro seen; rfl
  | cons d r ih =>
    intro seen
    simp only [doubtsGo, onceD, List.all_cons, ih, dbRest]
    rw [Bool.eq_iff_iff]
    simp only [Bool.and_eq_true]
    constructor <;> intro h <;> simp_all
theorem dbR_parts (ls : List LkV) (ov : List (Int × Int)) : ∀ (l seen : List DbV), dbR ls ov seen l = (l.all (fun d => txOK d.t) && l.all (dbRest ls ov) && onceD seen l) := by
  intro l
  induction l with
  | nil => intro seen; rfl
  | cons d r ih =>
    intro seen
    simp only [dbR, onceD, List.all_cons, ih, dbRest]
    rw [Bool.eq_iff_iff]
    simp only [Bool.and_eq_true]
    constructor <;> intro h <;> simp_all

theorem ref_is (s : SV) : refOK s = storeOK s := by
  unfold refOK storeOK locksOK doubtsOK
  rw [items_none, lkR_parts, dbR_parts, locksGo_parts, doubtsGo_parts]
  rw [Bool.eq_iff_iff]
  simp only [Bool.and_eq_true]
  constructor
  · rintro ⟨⟨⟨⟨h1, h2⟩, ⟨h3, h4⟩, h5⟩, ⟨h6, h7⟩, h8⟩, h9⟩
    refine ⟨⟨⟨h2, h1, ⟨?_, h4⟩, h5⟩, h9⟩, ⟨h7, h8⟩, h3⟩
    rw [List.all_eq_true] at h3 h6 ⊢
    intro k hk
    obtain ⟨d, hd, e⟩ := List.any_eq_true.1 (h3 k hk)
    have e' : d.t = k.t := by simpa [dbT] using e
    rw [← e']
    exact h6 d hd
  · rintro ⟨⟨⟨h2, h1, ⟨ht, h4⟩, h5⟩, h9⟩, ⟨h7, h8⟩, h3⟩
    refine ⟨⟨⟨⟨h1, h2⟩, ⟨h3, h4⟩, h5⟩, ⟨?_, h7⟩, h8⟩, h9⟩
    rw [List.all_eq_true] at h7 ht ⊢
    intro d hd
    have := h7 d hd
    simp only [dbRest, Bool.and_eq_true] at this
    obtain ⟨k, hk, e⟩ := List.any_eq_true.1 this.1.2
    have e' : k.t = d.t := by simpa [ofT] using e
    rw [← e']
    exact ht k hk

def prevK (l : List ItV) : Nat → Option Int
  | 0 => none
  | k + 1 => some (l.getD k default).key
theorem itemsR_at {xs : List ItV} {k : Nat} (hk : k < xs.length) (h : itemsR none xs = itemsR (prevK xs k) (xs.drop k)) :
    itemsR none xs = (inR (xs.getD k default).key 0 7 && inR (xs.getD k default).value 0 1073741824 && inR (xs.getD k default).version 1 1048576 && (match prevK xs k with | none => true | some q => !(decide ((xs.getD k default).key ≤ q))) && itemsR (prevK xs (k + 1)) (xs.drop (k + 1))) := by
  rw [h, drop_at hk]
  rfl
theorem lkR_at {ds : List DbV} {xs : List LkV} {k : Nat} (hk : k < xs.length) (h : lkR ds [] xs = lkR ds (xs.take k) (xs.drop k)) :
    lkR ds [] xs = ((ds.any (dbT (xs.getD k default).t) && lkRest (xs.getD k default)) && !((xs.take k).any (against (xs.getD k default))) && lkR ds (xs.take (k + 1)) (xs.drop (k + 1))) := by
  rw [h, drop_at hk, take_at hk]
  rfl
theorem dbR_at {ls : List LkV} {ov : List (Int × Int)} {xs : List DbV} {k : Nat} (hk : k < xs.length) (h : dbR ls ov [] xs = dbR ls ov (xs.take k) (xs.drop k)) :
    dbR ls ov [] xs = (txOK (xs.getD k default).t && inR (xs.getD k default).age 0 1048576 && ls.any (ofT (xs.getD k default).t) && !((xs.take k).any (dbT (xs.getD k default).t)) && !(decide ((xs.getD k default).t ∈ ov)) && dbR ls ov (xs.take (k + 1)) (xs.drop (k + 1))) := by
  rw [h, drop_at hk, take_at hk]
  rfl
/-- The first place of a transaction's doubt is this one, just if it is not among those ahead. -/
theorem first_is {xs : List DbV} {k : Nat} (hk : k < xs.length) : decide (idxI (dbT (xs.getD k default).t) xs = (k : Int)) = !((xs.take k).any (dbT (xs.getD k default).t)) := by
  rw [Bool.eq_iff_iff]
  simp only [decide_eq_true_eq, Bool.not_eq_true', List.any_eq_false]
  constructor
  · intro h x hx
    obtain ⟨i, hi, rfl⟩ := List.getElem_of_mem hx
    have hi' : i < k := by simp at hi; omega
    intro hd
    unfold idxI at h
    cases hf : xs.findIdx? (dbT (xs.getD k default).t) with
    | none => rw [hf] at h; simp at h
    | some m =>
      rw [hf] at h
      simp at h
      obtain rfl : m = k := by omega
      rw [List.findIdx?_eq_some_iff_getElem] at hf
      obtain ⟨_, _, h3⟩ := hf
      have := h3 i hi'
      simp at hd
      exact absurd hd (by simpa using this)
  · intro h
    refine idxI_hit hk (fun i hi => ?_) (by simp [dbT])
    have hi' : i < xs.length := by omega
    have := h (xs.getD i default) (by
      rw [List.mem_take_iff_getElem]
      exact ⟨i, by omega, by simp [List.getD, hi']⟩)
    simpa using this
end Go.Proofs.YtgohpgollpjlnaaDoor.St
