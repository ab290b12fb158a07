/- Texts of this claim, one behind the other. -/
import Derived.Test.YtdjnaahkcnklhabDoorA43CommitAsks
import Derived.Test.YtdjnaahkcnklhabDoorM44CommitAsks
/- A desk in a variable's box, told anew again and again. -/
namespace Go.Proofs.YtdjnaahkcnklhabDoor.Co
open Go.ChangeShapes Go.WideShapes Go.ChangeAt Go.RowKit
open Go.Proofs.YtdjnaahkcnklhabDoor.St (BoxN boxn_new own_below grown_setCell IsRow Elem flat flat_append own_isRow idxI)
set_option linter.unusedVariables false

/-- The desk in the box at d; P is known of what it says. -/
structure DeskBox (P : Int → List JbV → Prop) (B d : Nat) (W wr : World) (nx : Int) (da : Option Addr) (N dc : Nat) : Prop where
  box : BoxN wr d 2 [.int .i64 nx, .slice da N dc]
  dk : ∃ bs js ix more, N = bs.length ∧ DeskAt wr B da N dc js ix more ∧ Far d (jobRow da N dc js :: more) ∧ js.map JbV.bare = bs ∧ P nx bs
  bel : Below d W wr
theorem DeskBox.below {P : Int → List JbV → Prop} {B d : Nat} {W wr u : World} {nx : Int} {da : Option Addr} {N dc : Nat} (h : DeskBox P B d W wr nx da N dc) (hb : Below wr.heap.size wr u) : DeskBox P B d W u nx da N dc := by
  obtain ⟨bs, js, ix, more, h1, h2, h3, h4, h5⟩ := h.dk
  exact ⟨h.box.below hb h.box.lt, ⟨bs, js, ix, more, h1, h2.below hb, h3, h4, h5⟩, h.bel.trans (hb.mono (Nat.le_of_lt h.box.lt))⟩
theorem DeskBox.le {P : Int → List JbV → Prop} {B d : Nat} {W wr : World} {nx : Int} {da : Option Addr} {N dc : Nat} (h : DeskBox P B d W wr nx da N dc) : d < wr.heap.size := h.box.lt
theorem DeskBox.put {P Q : Int → List JbV → Prop} {B d : Nat} {W wr : World} {nx : Int} {da : Option Addr} {N dc : Nat} (h : DeskBox P B d W wr nx da N dc) {nx' : Int} {bs js : List JbV} {ix : List (Nat × Nat)} {more : List Rw} {B2 : Nat} {a2 : Option Addr} {N2 c2 : Nat} (hN : N2 = bs.length) (hD : DeskAt wr B2 a2 N2 c2 js ix more) (hd : d < B2) (hB : B ≤ B2) (hb : js.map JbV.bare = bs) (hQ : Q nx' bs) : DeskBox Q B d W (set2 wr d (.int .i64 nx') (.slice a2 N2 c2)) nx' a2 N2 c2 := by
  have hf := hD.farOld hd
  refine ⟨(h.box.set 0 (by decide) _).set 1 (by decide) _, ⟨bs, js, ix, more, hN, ((hD.asideF hf 0 _).asideF hf 1 _).base hB, hf, hb, hQ⟩, ?_⟩
  exact (h.bel.setCell (p := ⟨d, 0, none⟩) (Nat.le_refl _) _).setCell (p := ⟨d, 1, none⟩) (Nat.le_refl _) _
theorem deskBox_new {P : Int → List JbV → Prop} {B : Nat} {W X : World} {nx : Int} {da : Option Addr} {N dc : Nat} {bs js : List JbV} {ix : List (Nat × Nat)} {more : List Rw} (hx : BoxN X W.heap.size 2 [.int .i64 nx, .slice da N dc]) (hb : Below W.heap.size W X) (hN : N = bs.length) (hD : DeskAt W B da N dc js ix more) (hbs : js.map JbV.bare = bs) (hP : P nx bs) : DeskBox P B W.heap.size W X nx da N dc := ⟨hx, ⟨bs, js, ix, more, hN, hD.below hb, hD.farNew (Nat.le_refl _), hbs, hP⟩, hb⟩
end Go.Proofs.YtdjnaahkcnklhabDoor.Co
/- A desk in a box, and beside it the sites that were written at. -/
namespace Go.Proofs.YtdjnaahkcnklhabDoor.Co
open Go.ChangeShapes Go.WideShapes Go.ChangeAt Go.RowKit
open Go.Proofs.YtdjnaahkcnklhabDoor.St (BoxN boxn_new own_below grown_setCell IsRow Elem flat flat_append own_isRow idxI)
set_option linter.unusedVariables false

theorem DkIs.below {B : Nat} {w u : World} {D : Value} {nx : Int} {bs : List JbV} (h : DkIs B w D nx bs) (hb : Below w.heap.size w u) : DkIs B u D nx bs := by
  obtain ⟨a, c, js, ix, more, h1, h2, h3⟩ := h
  exact ⟨a, c, js, ix, more, h1, h2.below hb, h3⟩
structure PlainSt (S B D G : Nat) (W wr : World) (ks hs : List Int) (da : Option Addr) (dc : Nat) : Prop where
  box : BoxN wr D 2 [.int .i64 2, .slice da 1 dc]
  dk : ∃ js ix more, DeskAt wr B da 1 dc js ix more ∧ Far D (jobRow da 1 dc js :: more) ∧ Far G (jobRow da 1 dc js :: more) ∧ js.map JbV.bare = [jDn (wrs ks)]
  hands : BoxN wr G S (handW S hs)
  bel : Below D W wr
theorem PlainSt.below {S B D G : Nat} {W wr u : World} {ks hs : List Int} {da : Option Addr} {dc : Nat} (h : PlainSt S B D G W wr ks hs da dc) (hb : Below wr.heap.size wr u) : PlainSt S B D G W u ks hs da dc := by
  obtain ⟨js, ix, more, h2, h3, h4, h5⟩ := h.dk
  exact ⟨h.box.below hb h.box.lt, ⟨js, ix, more, h2.below hb, h3, h4, h5⟩, h.hands.below hb h.hands.lt, h.bel.trans (hb.mono (Nat.le_of_lt h.box.lt))⟩
theorem PlainSt.put {S B D G : Nat} {W wr : World} {ks hs : List Int} {da : Option Addr} {dc : Nat} (h : PlainSt S B D G W wr ks hs da dc) {ks2 : List Int} {B2 : Nat} {a2 : Option Addr} {c2 : Nat} (hD : DkIs B2 wr (.agg #[.int .i64 2, .slice a2 1 c2]) 2 [jDn (wrs ks2)]) (h1 : D < B2) (h2 : G < B2) (h3 : B ≤ B2) (h4 : D ≠ G) : PlainSt S B D G W (set2 wr D (.int .i64 2) (.slice a2 1 c2)) ks2 hs a2 c2 := by
  obtain ⟨a, c, js, ix, more, e1, e2, e3⟩ := hD
  simp at e1
  obtain ⟨rfl, rfl⟩ := e1
  have hf := e2.farOld h1
  have hg := e2.farOld h2
  refine ⟨(h.box.set 0 (by decide) _).set 1 (by decide) _, ⟨js, ix, more, ((e2.asideF hf 0 _).asideF hf 1 _).base h3, hf, hg, e3⟩, (h.hands.far (fun e => h4 e.symm)).far (fun e => h4 e.symm), ?_⟩
  exact (h.bel.setCell (p := ⟨D, 0, none⟩) (Nat.le_refl _) _).setCell (p := ⟨D, 1, none⟩) (Nat.le_refl _) _
theorem PlainSt.hand {S B D G : Nat} {W wr : World} {ks hs : List Int} {da : Option Addr} {dc : Nat} (h : PlainSt S B D G W wr ks hs da dc) {k : Int} {r : Nat} (hr : k % (S : Int) = (r : Int)) (hS : r < S) (h4 : D < G) : PlainSt S B D G W (wr.setCell ⟨G, r, none⟩ (.bool true)) ks (hs ++ [k]) da dc := by
  obtain ⟨js, ix, more, h2, h3, h5, h6⟩ := h.dk
  refine ⟨h.box.far (by omega), ⟨js, ix, more, h2.asideF h5 _ _, h3, h5, h6⟩, ?_, h.bel.setCell (p := ⟨G, r, none⟩) (by show D ≤ G; omega) _⟩
  rw [handW_snoc hr hS]
  exact h.hands.set r hS _
theorem PlainSt.same {S B D G : Nat} {W wr : World} {ks hs : List Int} {da : Option Addr} {dc : Nat} (h : PlainSt S B D G W wr ks hs da dc) {k : Int} {r : Nat} (hr : k % (S : Int) = (r : Int)) (hS : r < S) (ha : (hs.any fun k => k % (S : Int) == (r : Int)) = true) : PlainSt S B D G W wr ks (hs ++ [k]) da dc := by
  refine ⟨h.box, h.dk, ?_, h.bel⟩
  rw [handW_same hr hS ha]
  exact h.hands
theorem PlainSt.dkIs {S B D G : Nat} {W wr : World} {ks hs : List Int} {da : Option Addr} {dc : Nat} (h : PlainSt S B D G W wr ks hs da dc) : ∃ js ix more, DeskAt wr B da 1 dc js ix more ∧ js.map JbV.bare = [jDn (wrs ks)] := by
  obtain ⟨js, ix, more, h2, h3, h4, h5⟩ := h.dk
  exact ⟨js, ix, more, h2, h5⟩
theorem row_boxS {U : World} {B : Nat} {t : TypeId} {g n : Nat} {vs : List Value} (ob : U.ownsRow B t 1 (.slice (some ⟨g, 0, none⟩) n n) n vs) (hl : vs.length = n) (h0 : 0 < n) : BoxN U g n vs := by
  refine ⟨hl, (own_at ob (j := 0) (by omega)).2, fun c hc => ⟨?_, (St.own_there ob (k := c) (by omega)).2⟩⟩
  rw [(own_at ob (j := c) (by omega)).1]
  simp [List.getD, show c < vs.length by omega]
end Go.Proofs.YtdjnaahkcnklhabDoor.Co
/- A desk of one job in a variable's box. -/
namespace Go.Proofs.YtdjnaahkcnklhabDoor.Co
open Go.ChangeShapes Go.WideShapes Go.ChangeAt Go.RowKit
open Go.Proofs.YtdjnaahkcnklhabDoor.St (BoxN boxn_new own_below grown_setCell IsRow Elem flat flat_append own_isRow idxI)
set_option linter.unusedVariables false

structure OneSt (B D : Nat) (W wr : World) (J : JbV) (da : Option Addr) (dc : Nat) : Prop where
  box : BoxN wr D 2 [.int .i64 2, .slice da 1 dc]
  dk : ∃ js ix more, DeskAt wr B da 1 dc js ix more ∧ Far D (jobRow da 1 dc js :: more) ∧ js.map JbV.bare = [J]
  bel : Below D W wr
theorem OneSt.below {B D : Nat} {W wr u : World} {J : JbV} {da : Option Addr} {dc : Nat} (h : OneSt B D W wr J da dc) (hb : Below wr.heap.size wr u) : OneSt B D W u J da dc := by
  obtain ⟨js, ix, more, h2, h3, h5⟩ := h.dk
  exact ⟨h.box.below hb h.box.lt, ⟨js, ix, more, h2.below hb, h3, h5⟩, h.bel.trans (hb.mono (Nat.le_of_lt h.box.lt))⟩
theorem OneSt.put {B D : Nat} {W wr : World} {J : JbV} {da : Option Addr} {dc : Nat} (h : OneSt B D W wr J da dc) {J2 : JbV} {B2 : Nat} {a2 : Option Addr} {c2 : Nat} (hD : DkIs B2 wr (.agg #[.int .i64 2, .slice a2 1 c2]) 2 [J2]) (h1 : D < B2) (h3 : B ≤ B2) : OneSt B D W (set2 wr D (.int .i64 2) (.slice a2 1 c2)) J2 a2 c2 := by
  obtain ⟨a, c, js, ix, more, e1, e2, e3⟩ := hD
  simp at e1
  obtain ⟨rfl, rfl⟩ := e1
  have hf := e2.farOld h1
  refine ⟨(h.box.set 0 (by decide) _).set 1 (by decide) _, ⟨js, ix, more, ((e2.asideF hf 0 _).asideF hf 1 _).base h3, hf, e3⟩, ?_⟩
  exact (h.bel.setCell (p := ⟨D, 0, none⟩) (Nat.le_refl _) _).setCell (p := ⟨D, 1, none⟩) (Nat.le_refl _) _
theorem OneSt.dkIs {B D : Nat} {W wr : World} {J : JbV} {da : Option Addr} {dc : Nat} (h : OneSt B D W wr J da dc) : ∃ js ix more, DeskAt wr B da 1 dc js ix more ∧ js.map JbV.bare = [J] := by
  obtain ⟨js, ix, more, h2, h3, h5⟩ := h.dk
  exact ⟨js, ix, more, h2, h5⟩
theorem row_far {α : Type} [Inhabited α] {k : Nat} {cells : α → List Value} {w : World} {a : Option Addr} {len cap : Nat} {xs : List α} (h : IsRow k cells w a len cap xs) {D j : Nat} {v : Value} (hne : ∀ b off, a = some ⟨b, off, none⟩ → b ≠ D) : IsRow k cells (w.setCell ⟨D, j, none⟩ v) a len cap xs := by
  refine ⟨h.1, h.2.1, h.2.2.1, h.2.2.2.1, fun h0 => ?_⟩
  obtain ⟨b, off, e, hz, hc⟩ := h.2.2.2.2 h0
  refine ⟨b, off, e, by simpa using hz, fun i hi c hcl => ?_⟩
  have e2 : (w.setCell ⟨D, j, none⟩ v).heap[b]? = w.heap[b]? := Below.heap_setCell w _ _ b (hne b off e)
  rw [World.cell?_of_block (a := ⟨b, off + i * k + c, none⟩) e2]
  exact hc i hi c hcl
end Go.Proofs.YtdjnaahkcnklhabDoor.Co
