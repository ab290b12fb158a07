/- How a call that is handed a store and answers one begins: a box for the store, a box for the answer. -/
import Derived.Test.YtbmbahifkegehaaSMade
namespace Go.Proofs.Ytbmbahifkegehaa.St
open Go.ChangeShapes Go.WideShapes Go.ChangeAt Go.RowKit
set_option linter.unusedVariables false

structure Pre (w W : World) (s : SV) : Prop where
  bel : Below w.heap.size w W
  sz : W.heap.size = w.heap.size + 2
  st : IsStore W s
  par : BoxN W w.heap.size 4 s.box
  res : BoxN W (w.heap.size + 1) 4 SV.nil.box
theorem pre_of (w : World) (s : SV) (h : IsStore w s) : Pre w ((w.alloc (.cells #[.slice s.ia s.il s.ic, .slice s.la s.ll s.lc, .slice s.da s.dl s.dc, .slice s.oa s.ol s.oc] 27)).alloc (.cells #[.slice none 0 0, .slice none 0 0, .slice none 0 0, .slice none 0 0] 27)) s := by
  have h1 : Below w.heap.size w (w.alloc (.cells #[.slice s.ia s.il s.ic, .slice s.la s.ll s.lc, .slice s.da s.dl s.dc, .slice s.oa s.ol s.oc] 27)) := (Below.refl _ _).alloc (Nat.le_refl _) _
  have h2 : Below w.heap.size w ((w.alloc (.cells #[.slice s.ia s.il s.ic, .slice s.la s.ll s.lc, .slice s.da s.dl s.dc, .slice s.oa s.ol s.oc] 27)).alloc (.cells #[.slice none 0 0, .slice none 0 0, .slice none 0 0, .slice none 0 0] 27)) := h1.alloc (by simp) _
  have b1 := boxn_new w #[.slice s.ia s.il s.ic, .slice s.la s.ll s.lc, .slice s.da s.dl s.dc, .slice s.oa s.ol s.oc] 27 4 rfl
  have b2 := boxn_new (w.alloc (.cells #[.slice s.ia s.il s.ic, .slice s.la s.ll s.lc, .slice s.da s.dl s.dc, .slice s.oa s.ol s.oc] 27)) #[.slice none 0 0, .slice none 0 0, .slice none 0 0, .slice none 0 0] 27 4 rfl
  refine ⟨h2, by simp, h.below h2, ?_, by simpa [SV.nil, SV.box] using b2⟩
  refine b1.below (B := (w.alloc (.cells #[.slice s.ia s.il s.ic, .slice s.la s.ll s.lc, .slice s.da s.dl s.dc, .slice s.oa s.ol s.oc] 27)).heap.size) ((Below.refl _ _).alloc (Nat.le_refl _) _) (by simp)
theorem Pre.z0 {w W : World} {s : SV} (h : Pre w W s) : w.heap.size < W.heap.size := by have := h.sz; omega
theorem Pre.z1 {w W : World} {s : SV} (h : Pre w W s) : w.heap.size + 1 < W.heap.size := by have := h.sz; omega
theorem Pre.cells {w W : World} {s : SV} (h : Pre w W s) (U : World) (hU : Below W.heap.size W U) : U.cell? ⟨w.heap.size, 0, none⟩ = some (.slice s.ia s.il s.ic) ∧ U.cell? ⟨w.heap.size, 1, none⟩ = some (.slice s.la s.ll s.lc) ∧ U.cell? ⟨w.heap.size, 2, none⟩ = some (.slice s.da s.dl s.dc) ∧ U.cell? ⟨w.heap.size, 3, none⟩ = some (.slice s.oa s.ol s.oc) := by
  have hp := h.par.below hU h.z0
  exact ⟨(hp.c 0 (by decide)).1, (hp.c 1 (by decide)).1, (hp.c 2 (by decide)).1, (hp.c 3 (by decide)).1⟩
theorem Pre.out {w W : World} {s : SV} (h : Pre w W s) (U : World) (hU : Below W.heap.size W U) : (w.heap.size + 1 < U.heap.size ∧ U.cell? ⟨w.heap.size + 1, 0, none⟩ = some (.slice none 0 0) ∧ U.cell? ⟨w.heap.size + 1, 1, none⟩ = some (.slice none 0 0) ∧ U.cell? ⟨w.heap.size + 1, 2, none⟩ = some (.slice none 0 0) ∧ U.cell? ⟨w.heap.size + 1, 3, none⟩ = some (.slice none 0 0)) ∧ U.frozen? ⟨w.heap.size + 1, 0, none⟩ = false ∧ U.frozen? ⟨w.heap.size + 1, 1, none⟩ = false ∧ U.frozen? ⟨w.heap.size + 1, 2, none⟩ = false ∧ U.frozen? ⟨w.heap.size + 1, 3, none⟩ = false := by
  have hp := h.res.below hU h.z1
  exact ⟨⟨hp.lt, (hp.c 0 (by decide)).1, (hp.c 1 (by decide)).1, (hp.c 2 (by decide)).1, (hp.c 3 (by decide)).1⟩, (hp.c 0 (by decide)).2, (hp.c 1 (by decide)).2, (hp.c 2 (by decide)).2, (hp.c 3 (by decide)).2⟩
theorem Pre.below {w W U : World} {s : SV} (h : Pre w W s) (hU : Below W.heap.size W U) : Below w.heap.size w U := h.bel.trans (hU.mono h.bel.size)
/-- What is told to the answer's box. -/
theorem Pre.done {w W U : World} {s r : SV} (h : Pre w W s) (hU : Below W.heap.size W U) (hr : IsStore U r) (hn : ∀ b off, (r.ia = some ⟨b, off, none⟩ ∧ 0 < r.il) ∨ (r.la = some ⟨b, off, none⟩ ∧ 0 < r.ll) ∨ (r.da = some ⟨b, off, none⟩ ∧ 0 < r.dl) ∨ (r.oa = some ⟨b, off, none⟩ ∧ 0 < r.ol) → b ≠ w.heap.size + 1) (p0 p1 p2 p3 : Value) :
    IsStore ((((U.setCell ⟨w.heap.size + 1, 0, none⟩ p0).setCell ⟨w.heap.size + 1, 1, none⟩ p1).setCell ⟨w.heap.size + 1, 2, none⟩ p2).setCell ⟨w.heap.size + 1, 3, none⟩ p3) r ∧ Below w.heap.size w ((((U.setCell ⟨w.heap.size + 1, 0, none⟩ p0).setCell ⟨w.heap.size + 1, 1, none⟩ p1).setCell ⟨w.heap.size + 1, 2, none⟩ p2).setCell ⟨w.heap.size + 1, 3, none⟩ p3) := by
  have far : ∀ {α : Type} [Inhabited α] {k : Nat} {cells : α → List Value} {U : World} {a : Option Addr} {n c : Nat} {xs : List α} (j : Nat) (v : Value), (∀ b off, a = some ⟨b, off, none⟩ ∧ 0 < n → b ≠ w.heap.size + 1) → IsRow k cells U a n c xs → IsRow k cells (U.setCell ⟨w.heap.size + 1, j, none⟩ v) a n c xs := by
    intro α _ k cells U a n c xs j v hne hR
    obtain ⟨r1, r2, r3, r4, r5⟩ := hR
    refine ⟨r1, r2, r3, r4, fun hp => ?_⟩
    obtain ⟨b, off, e, hl, hc⟩ := r5 hp
    refine ⟨b, off, e, by simpa using hl, fun i hi q hq => ?_⟩
    rw [World.cell?_of_block (a := ⟨b, off + i * k + q, none⟩) (Below.heap_setCell U ⟨w.heap.size + 1, j, none⟩ v b (hne b off ⟨e, hp⟩))]
    exact hc i hi q hq
  have n1 := fun b off (q : r.ia = some ⟨b, off, none⟩ ∧ 0 < r.il) => hn b off (.inl q)
  have n2 := fun b off (q : r.la = some ⟨b, off, none⟩ ∧ 0 < r.ll) => hn b off (.inr (.inl q))
  have n3 := fun b off (q : r.da = some ⟨b, off, none⟩ ∧ 0 < r.dl) => hn b off (.inr (.inr (.inl q)))
  have n4 := fun b off (q : r.oa = some ⟨b, off, none⟩ ∧ 0 < r.ol) => hn b off (.inr (.inr (.inr q)))
  refine ⟨⟨far 3 _ n1 (far 2 _ n1 (far 1 _ n1 (far 0 _ n1 hr.items))), far 3 _ n2 (far 2 _ n2 (far 1 _ n2 (far 0 _ n2 hr.locks))), far 3 _ n3 (far 2 _ n3 (far 1 _ n3 (far 0 _ n3 hr.doubts))), far 3 _ n4 (far 2 _ n4 (far 1 _ n4 (far 0 _ n4 hr.over)))⟩, ?_⟩
  refine Below.setCell (Below.setCell (Below.setCell (Below.setCell (h.below hU) ?_ _) ?_ _) ?_ _) ?_ _
  all_goals exact Nat.le_succ _
/-- The same of a store that was made behind the two boxes. -/
theorem Pre.made {w W U : World} {s r : SV} {m : Nat} (h : Pre w W s) (hM : Made W U W.heap.size m r) (p0 p1 p2 p3 : Value) :
    IsStore ((((U.setCell ⟨w.heap.size + 1, 0, none⟩ p0).setCell ⟨w.heap.size + 1, 1, none⟩ p1).setCell ⟨w.heap.size + 1, 2, none⟩ p2).setCell ⟨w.heap.size + 1, 3, none⟩ p3) r ∧ OwnStore ((((U.setCell ⟨w.heap.size + 1, 0, none⟩ p0).setCell ⟨w.heap.size + 1, 1, none⟩ p1).setCell ⟨w.heap.size + 1, 2, none⟩ p2).setCell ⟨w.heap.size + 1, 3, none⟩ p3) w.heap.size r ∧ Below w.heap.size w ((((U.setCell ⟨w.heap.size + 1, 0, none⟩ p0).setCell ⟨w.heap.size + 1, 1, none⟩ p1).setCell ⟨w.heap.size + 1, 2, none⟩ p2).setCell ⟨w.heap.size + 1, 3, none⟩ p3) := by
  have z1 := h.z1
  have ho : OwnStore ((((U.setCell ⟨w.heap.size + 1, 0, none⟩ p0).setCell ⟨w.heap.size + 1, 1, none⟩ p1).setCell ⟨w.heap.size + 1, 2, none⟩ p2).setCell ⟨w.heap.size + 1, 3, none⟩ p3) W.heap.size r :=
    (((hM.own.box (p := ⟨w.heap.size + 1, 0, none⟩) z1 p0).box (p := ⟨w.heap.size + 1, 1, none⟩) z1 p1).box (p := ⟨w.heap.size + 1, 2, none⟩) z1 p2).box (p := ⟨w.heap.size + 1, 3, none⟩) z1 p3
  refine ⟨ho.isStore, ho.base h.bel.size, ?_⟩
  refine Below.setCell (Below.setCell (Below.setCell (Below.setCell (h.below hM.bel) ?_ _) ?_ _) ?_ _) ?_ _
  all_goals exact Nat.le_succ _
end Go.Proofs.Ytbmbahifkegehaa.St
