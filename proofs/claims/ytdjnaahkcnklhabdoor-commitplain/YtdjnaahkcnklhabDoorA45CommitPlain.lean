/- A desk in a box, and beside it the sites that were written at. -/
import Derived.Test.YtdjnaahkcnklhabDoorM44CommitPlain
namespace Go.Proofs.YtdjnaahkcnklhabDoor.Co
open Go.ChangeShapes Go.WideShapes Go.ChangeAt Go.RowKit
open Go.Proofs.YtdjnaahkcnklhabDoor.St (BoxN boxn_new own_below grown_setCell IsRow Elem flat flat_append own_isRow idxI)
set_option linter.unusedVariables false

theorem DkIs.below {B : Nat} {w u : World} {D : Value} {nx : Int} {bs : List JbV} (h : DkIs B w D nx bs) (hb : Below w.heap.size w u) : DkIs B u D nx bs := by
  obtain ⟨a, c, js, ix, more, h1, h2, h3⟩ := h
  exact ⟨a, c, js, ix, more, h1, h2.below hb, h3⟩
structure PlainSt (S B D G : Nat) (W wr : World) (ks hs : List Int) (da : Option Addr) (dc : Nat) : Prop where
  box : BoxN wr D 2 [.int .i64 2, .slice da 1 dc]
  dk : ∃ js ix more, DeskAt wr B da 1 dc js ix more ∧ Far D (jobRow da 1 dc js :: more) ∧ Far G (jobRow da 1 dc js :: more) ∧ js.map JbV.bare = [jDn (wrs ks)]
  hands : BoxN wr G S (handW S hs)
  bel : Below D W wr
theorem PlainSt.below {S B D G : Nat} {W wr u : World} {ks hs : List Int} {da : Option Addr} {dc : Nat} (h : PlainSt S B D G W wr ks hs da dc) (hb : Below wr.heap.size wr u) : PlainSt S B D G W u ks hs da dc := by
  obtain ⟨js, ix, more, h2, h3, h4, h5⟩ := h.dk
  exact ⟨h.box.below hb h.box.lt, ⟨js, ix, more, h2.below hb, h3, h4, h5⟩, h.hands.below hb h.hands.lt, h.bel.trans (hb.mono (Nat.le_of_lt h.box.lt))⟩
theorem PlainSt.put {S B D G : Nat} {W wr : World} {ks hs : List Int} {da : Option Addr} {dc : Nat} (h : PlainSt S B D G W wr ks hs da dc) {ks2 : List Int} {B2 : Nat} {a2 : Option Addr} {c2 : Nat} (hD : DkIs B2 wr (.agg #[.int .i64 2, .slice a2 1 c2]) 2 [jDn (wrs ks2)]) (h1 : D < B2) (h2 : G < B2) (h3 : B ≤ B2) (h4 : D ≠ G) : PlainSt S B D G W (set2 wr D (.int .i64 2) (.slice a2 1 c2)) ks2 hs a2 c2 := by
  obtain ⟨a, c, js, ix, more, e1, e2, e3⟩ := hD
  simp at e1
  obtain ⟨rfl, rfl⟩ := e1
  have hf := e2.farOld h1
  have hg := e2.farOld h2
  refine ⟨(h.box.set 0 (by decide) _).set 1 (by decide) _, ⟨js, ix, more, ((e2.asideF hf 0 _).asideF hf 1 _).base h3, hf, hg, e3⟩, (h.hands.far (fun e => h4 e.symm)).far (fun e => h4 e.symm), ?_⟩
  exact (h.bel.setCell (p := ⟨D, 0, none⟩) (Nat.le_refl _) _).setCell (p := ⟨D, 1, none⟩) (Nat.le_refl _) _
theorem PlainSt.hand {S B D G : Nat} {W wr : World} {ks hs : List Int} {da : Option Addr} {dc : Nat} (h : PlainSt S B D G W wr ks hs da dc) {k : Int} {r : Nat} (hr : k % (S : Int) = (r : Int)) (hS : r < S) (h4 : D < G) : PlainSt S B D G W (wr.setCell ⟨G, r, none⟩ (.bool true)) ks (hs ++ [k]) da dc := by
  obtain ⟨js, ix, more, h2, h3, h5, h6⟩ := h.dk
  refine ⟨h.box.far (by omega), ⟨js, ix, more, h2.asideF h5 _ _, h3, h5, h6⟩, ?_, h.bel.setCell (p := ⟨G, r, none⟩) (by show D ≤ G; omega) _⟩
  rw [handW_snoc hr hS]
  exact h.hands.set r hS _
theorem PlainSt.same {S B D G : Nat} {W wr : World} {ks hs : List Int} {da : Option Addr} {dc : Nat} (h : PlainSt S B D G W wr ks hs da dc) {k : Int} {r : Nat} (hr : k % (S : Int) = (r : Int)) (hS : r < S) (ha : (hs.any fun k => k % (S : Int) == (r : Int)) = true) : PlainSt S B D G W wr ks (hs ++ [k]) da dc := by
  refine ⟨h.box, h.dk, ?_, h.bel⟩
  rw [handW_same hr hS ha]
  exact h.hands
theorem PlainSt.dkIs {S B D G : Nat} {W wr : World} {ks hs : List Int} {da : Option Addr} {dc : Nat} (h : PlainSt S B D G W wr ks hs da dc) : ∃ js ix more, DeskAt wr B da 1 dc js ix more ∧ js.map JbV.bare = [jDn (wrs ks)] := by
  obtain ⟨js, ix, more, h2, h3, h4, h5⟩ := h.dk
  exact ⟨js, ix, more, h2, h5⟩
theorem row_boxS {U : World} {B : Nat} {t : TypeId} {g n : Nat} {vs : List Value} (ob : U.ownsRow B t 1 (.slice (some ⟨g, 0, none⟩) n n) n vs) (hl : vs.length = n) (h0 : 0 < n) : BoxN U g n vs := by
  refine ⟨hl, (own_at ob (j := 0) (by omega)).2, fun c hc => ⟨?_, (St.own_there ob (k := c) (by omega)).2⟩⟩
  rw [(own_at ob (j := c) (by omega)).1]
  simp [List.getD, show c < vs.length by omega]
end Go.Proofs.YtdjnaahkcnklhabDoor.Co
