/- Texts of this claim, one behind the other. -/
import Derived.Test.YtfhciplckjkflaaM15CoordTicks
import Derived.Test.YtfhciplckjkflaaM23CoordTicks
import Derived.Test.YtfhciplckjkflaaM21CoordTicks
import Derived.Test.YtfhciplckjkflaaM19CoordTicks
import Derived.Test.YtfhciplckjkflaaM25CoordTicks
import Derived.Test.YtfhciplckjkflaaM24CoordTicks
import Derived.Test.YtfhciplckjkflaaM12CoordTicks
import Derived.Test.YtfhciplckjkflaaM8CoordTicks
/- The document's turn in a box, for the laws of coord: what it holds; about, told. -/
namespace Go.Proofs.Ytfhciplckjkflaa.Cd
open Go.ChangeShapes Go.WideShapes Go.ChangeAt Go.RowKit
open Go.Proofs.Ytfhciplckjkflaa.St (BoxN boxn_new own_below grown_setCell IsRow Elem flat flat_append own_isRow own_there flat_take own_prefix)
open Go.Proofs.Ytfhciplckjkflaa.Co
set_option linter.unusedVariables false

def tbox (v : CkV) : List Value := [.int .i64 v.next, .slice v.ja v.jl v.jc, .slice v.ma v.ml v.mc, .slice v.ra v.rl v.rc, .slice v.pa v.pl v.pc, .int .i64 v.sure, .int .i64 v.com]
/-- The turn's box at q, all that it holds at B or above; ahead of B nothing changed since w. -/
structure TCl (w X : World) (B q : Nat) (v : CkV) (ix : List (Nat × Nat)) (more : List Rw) : Prop where
  held : Held w X B q 7 (tbox v) (CkV.rows v ++ more)
  jobs : JobsIn v.js ix more
  lens : v.js.length = v.jl ∧ v.ms.length = v.ml ∧ v.rs.length = v.rl ∧ v.ps.length = v.pl
theorem TCl.below {w X X' : World} {B q : Nat} {v : CkV} {ix : List (Nat × Nat)} {more : List Rw} (h : TCl w X B q v ix more) (hb : Below X.heap.size X X') : TCl w X' B q v ix more := ⟨h.held.below hb, h.jobs, h.lens⟩
theorem TCl.rep {w X X' : World} {B q : Nat} {v : CkV} {ix : List (Nat × Nat)} {more : List Rw} (h : TCl w X B q v ix more) {a5 : Option Addr} {c5 : Nat} {r : RpV} (hg : X.grownBy X' (Value.slice v.pa v.pl v.pc).ownBlock) (ho : X'.ownsRow B 62 6 (.slice a5 (v.pl + 1) c5) (v.pl + 1) (flat RpV.cells (v.ps ++ [r]))) (hat : (Value.slice a5 (v.pl + 1) c5).ownBlock = (Value.slice v.pa v.pl v.pc).ownBlock ∨ (Value.slice a5 (v.pl + 1) c5).ownBlock = some X.heap.size) :
    TCl w (X'.setCell ⟨q, 4, none⟩ (.slice a5 (v.pl + 1) c5)) B q { v with pa := a5, pl := v.pl + 1, pc := c5, ps := v.ps ++ [r] } ix more := by
  have h1 := h.held.grow (i := 3) (r := ⟨62, 6, .slice v.pa v.pl v.pc, v.pl, flat RpV.cells v.ps⟩) (r' := ⟨62, 6, .slice a5 (v.pl + 1) c5, v.pl + 1, flat RpV.cells (v.ps ++ [r])⟩) rfl hg ho hat
  have h2 := h1.tell 4 (by decide) (.slice a5 (v.pl + 1) c5)
  exact ⟨h2, h.jobs, h.lens.1, h.lens.2.1, h.lens.2.2.1, by simp [h.lens.2.2.2]⟩
theorem TCl.msg {w X X' : World} {B q : Nat} {v : CkV} {ix : List (Nat × Nat)} {more : List Rw} (h : TCl w X B q v ix more) {a5 : Option Addr} {c5 : Nat} {r : MV} (hg : X.grownBy X' (Value.slice v.ma v.ml v.mc).ownBlock) (ho : X'.ownsRow B 75 12 (.slice a5 (v.ml + 1) c5) (v.ml + 1) (flat mcells (v.ms ++ [r]))) (hat : (Value.slice a5 (v.ml + 1) c5).ownBlock = (Value.slice v.ma v.ml v.mc).ownBlock ∨ (Value.slice a5 (v.ml + 1) c5).ownBlock = some X.heap.size) :
    TCl w (X'.setCell ⟨q, 2, none⟩ (.slice a5 (v.ml + 1) c5)) B q { v with ma := a5, ml := v.ml + 1, mc := c5, ms := v.ms ++ [r] } ix more := by
  have h1 := h.held.grow (i := 1) (r := ⟨75, 12, .slice v.ma v.ml v.mc, v.ml, flat mcells v.ms⟩) (r' := ⟨75, 12, .slice a5 (v.ml + 1) c5, v.ml + 1, flat mcells (v.ms ++ [r])⟩) rfl hg ho hat
  have h2 := h1.tell 2 (by decide) (.slice a5 (v.ml + 1) c5)
  exact ⟨h2, h.jobs, h.lens.1, by simp [h.lens.2.1], h.lens.2.2.1, h.lens.2.2.2⟩
theorem TCl.rcd {w X X' : World} {B q : Nat} {v : CkV} {ix : List (Nat × Nat)} {more : List Rw} (h : TCl w X B q v ix more) {a5 : Option Addr} {c5 : Nat} {r : RcV} (hg : X.grownBy X' (Value.slice v.ra v.rl v.rc).ownBlock) (ho : X'.ownsRow B 69 8 (.slice a5 (v.rl + 1) c5) (v.rl + 1) (flat RcV.cells (v.rs ++ [r]))) (hat : (Value.slice a5 (v.rl + 1) c5).ownBlock = (Value.slice v.ra v.rl v.rc).ownBlock ∨ (Value.slice a5 (v.rl + 1) c5).ownBlock = some X.heap.size) :
    TCl w (X'.setCell ⟨q, 3, none⟩ (.slice a5 (v.rl + 1) c5)) B q { v with ra := a5, rl := v.rl + 1, rc := c5, rs := v.rs ++ [r] } ix more := by
  have h1 := h.held.grow (i := 2) (r := ⟨69, 8, .slice v.ra v.rl v.rc, v.rl, flat RcV.cells v.rs⟩) (r' := ⟨69, 8, .slice a5 (v.rl + 1) c5, v.rl + 1, flat RcV.cells (v.rs ++ [r])⟩) rfl hg ho hat
  have h2 := h1.tell 3 (by decide) (.slice a5 (v.rl + 1) c5)
  exact ⟨h2, h.jobs, h.lens.1, h.lens.2.1, by simp [h.lens.2.2.1], h.lens.2.2.2⟩
theorem TCl.jobRow {w X : World} {B q : Nat} {v : CkV} {ix : List (Nat × Nat)} {more : List Rw} (h : TCl w X B q v ix more) : X.ownsRow B 47 6 (.slice v.ja v.jl v.jc) v.jl (flat JbV.cells v.js) := h.held.own.own 0 ⟨47, 6, .slice v.ja v.jl v.jc, v.jl, flat JbV.cells v.js⟩ rfl
theorem TCl.jobAt {w X : World} {B q : Nat} {v : CkV} {ix : List (Nat × Nat)} {more : List Rw} (h : TCl w X B q v ix more) {i : Nat} (hi : i < v.jl) : ∃ g, v.ja = some ⟨g, 0, none⟩ ∧ B ≤ g ∧ g < X.heap.size ∧ g ≠ q ∧ (∀ c, c < 6 → X.cell? ⟨g, i * 6 + c, none⟩ = (v.js.getD i default).cells[c]?) ∧ ∀ c, c < 6 → X.frozen? ⟨g, i * 6 + c, none⟩ = false := by
  have hr := h.jobRow
  obtain ⟨g, e, h1, h2⟩ := own_spot hr (by omega)
  have hrow := (own_isRow jb_len hr h.lens.1).1
  obtain ⟨b, off, e2, _, hc⟩ := hrow.2.2.2.2 (by omega)
  rw [e] at e2
  simp at e2
  obtain ⟨rfl, rfl⟩ := e2
  refine ⟨g, e, h1, h2, ?_, fun c hcl => ?_, fun c hcl => ?_⟩
  · intro e3
    subst e3
    exact h.held.apart 0 ⟨47, 6, .slice v.ja v.jl v.jc, v.jl, flat JbV.cells v.js⟩ rfl (by rw [e]; rfl)
  · have := hc i hi c hcl
    simpa using this
  · rw [e] at hr
    exact (St.own_there hr (by omega)).2
theorem TCl.jcell {w X : World} {B q : Nat} {v : CkV} {ix : List (Nat × Nat)} {more : List Rw} (h : TCl w X B q v ix more) {i g : Nat} (hi : i < v.jl) (eg : v.ja = some ⟨g, 0, none⟩) (c : Nat) (hc : c < 6) (u : Value) (j' : JbV) (hj : j'.cells = (v.js.getD i default).cells.set c u) (hs : sameL j' (v.js.getD i default)) :
    TCl w (X.setCell ⟨g, i * 6 + c, none⟩ u) B q { v with js := v.js.set i j' } ix more := by
  have hl := h.lens.1
  have hi' : i < v.js.length := by omega
  have e0 : (v.rows ++ more)[0]? = some ⟨47, 6, .slice (some ⟨g, 0, none⟩) v.jl v.jc, v.jl, flat JbV.cells v.js⟩ := by rw [← eg]; rfl
  have h1 := h.held.cell e0 (j := i * 6 + c) (by omega) u
  rw [← flat_set6 v.js i j' c u hi' hc hj] at h1
  refine ⟨?_, h.jobs.same hi' hs, by simpa using hl, h.lens.2.1, h.lens.2.2.1, h.lens.2.2.2⟩
  have er : ({ v with js := v.js.set i j' } : CkV).rows ++ more = (v.rows ++ more).set 0 ⟨47, 6, .slice (some ⟨g, 0, none⟩) v.jl v.jc, v.jl, flat JbV.cells (v.js.set i j')⟩ := by rw [← eg]; rfl
  rw [er]
  exact h1
theorem TCl.next {w X : World} {B q : Nat} {v : CkV} {ix : List (Nat × Nat)} {more : List Rw} (h : TCl w X B q v ix more) (n : Int) : TCl w (X.setCell ⟨q, 0, none⟩ (.int .i64 n)) B q { v with next := n } ix more := ⟨h.held.tell 0 (by decide) _, h.jobs, h.lens⟩
theorem TCl.sure {w X : World} {B q : Nat} {v : CkV} {ix : List (Nat × Nat)} {more : List Rw} (h : TCl w X B q v ix more) (n : Int) : TCl w (X.setCell ⟨q, 5, none⟩ (.int .i64 n)) B q { v with sure := n } ix more := ⟨h.held.tell 5 (by decide) _, h.jobs, h.lens⟩
theorem TCl.com {w X : World} {B q : Nat} {v : CkV} {ix : List (Nat × Nat)} {more : List Rw} (h : TCl w X B q v ix more) (n : Int) : TCl w (X.setCell ⟨q, 6, none⟩ (.int .i64 n)) B q { v with com := n } ix more := ⟨h.held.tell 6 (by decide) _, h.jobs, h.lens⟩
theorem TCl.tasksAt {w X : World} {B q : Nat} {v : CkV} {ix : List (Nat × Nat)} {more : List Rw} (h : TCl w X B q v ix more) {i : Nat} (hi : i < v.jl) : X.ownsRow B 73 8 (.slice (v.js.getD i default).ta (v.js.getD i default).tl (v.js.getD i default).tc) (v.js.getD i default).tl (flat TkV.cells (v.js.getD i default).tasks) ∧ X.ownsRow B 3 1 (.slice (v.js.getD i default).aa (v.js.getD i default).al (v.js.getD i default).ac) (v.js.getD i default).al (flat inCell (v.js.getD i default).asked) := by
  obtain ⟨x, _, e1, e2⟩ := h.jobs.at (i := i) (by have := h.lens.1; omega)
  exact ⟨h.held.own.own _ _ (more_get e1), h.held.own.own _ _ (more_get e2)⟩
theorem TCl.fit {w X : World} {B q : Nat} {v : CkV} {ix : List (Nat × Nat)} {more : List Rw} (h : TCl w X B q v ix more) {i : Nat} (hi : i < v.jl) : (v.js.getD i default).tasks.length = (v.js.getD i default).tl ∧ (v.js.getD i default).asked.length = (v.js.getD i default).al :=
  ⟨own_count tk_len (by decide) (h.tasksAt hi).1, own_count in_len (by decide) (h.tasksAt hi).2⟩
theorem TCl.isTasks {w X : World} {B q : Nat} {v : CkV} {ix : List (Nat × Nat)} {more : List Rw} (h : TCl w X B q v ix more) {i : Nat} (hi : i < v.jl) : IsTasks X (v.js.getD i default).ta (v.js.getD i default).tl (v.js.getD i default).tc (v.js.getD i default).tasks := (own_isRow tk_len (h.tasksAt hi).1 (h.fit hi).1).1
theorem TCl.isSites {w X : World} {B q : Nat} {v : CkV} {ix : List (Nat × Nat)} {more : List Rw} (h : TCl w X B q v ix more) {i : Nat} (hi : i < v.jl) : IsSites X (v.js.getD i default).aa (v.js.getD i default).al (v.js.getD i default).ac (v.js.getD i default).asked := (own_isRow in_len (h.tasksAt hi).2 (h.fit hi).2).1
theorem TCl.add {w X X' : World} {B q : Nat} {v : CkV} {ix : List (Nat × Nat)} {more : List Rw} (h : TCl w X B q v ix more) (hb : Below X.heap.size X X') {r : Rw} (ho : X'.ownsRow X.heap.size r.te r.k r.v r.n r.xs) : TCl w X' B q v ix (more ++ [r]) := by
  refine ⟨?_, h.jobs.more r, h.lens⟩
  rw [← List.append_assoc]
  exact h.held.add hb ho
theorem TCl.task {w X X' : World} {B q : Nat} {v : CkV} {ix : List (Nat × Nat)} {more : List Rw} (h : TCl w X B q v ix more) {i g : Nat} (hi : i < v.jl) (eg : v.ja = some ⟨g, 0, none⟩) {a5 : Option Addr} {c5 : Nat} {t : TkV} (hg : X.grownBy X' (Value.slice (v.js.getD i default).ta (v.js.getD i default).tl (v.js.getD i default).tc).ownBlock) (ho : X'.ownsRow B 73 8 (.slice a5 ((v.js.getD i default).tl + 1) c5) ((v.js.getD i default).tl + 1) (flat TkV.cells ((v.js.getD i default).tasks ++ [t]))) (hat : (Value.slice a5 ((v.js.getD i default).tl + 1) c5).ownBlock = (Value.slice (v.js.getD i default).ta (v.js.getD i default).tl (v.js.getD i default).tc).ownBlock ∨ (Value.slice a5 ((v.js.getD i default).tl + 1) c5).ownBlock = some X.heap.size) :
    ∃ (k : Nat) (r : Rw), (∃ y, ix[i]? = some (k, y)) ∧ TCl w (X'.setCell ⟨g, i * 6 + 2, none⟩ (.slice a5 ((v.js.getD i default).tl + 1) c5)) B q { v with js := v.js.set i (moreTask (v.js.getD i default) a5 c5 t) } ix (more.set k r) := by
  have hl := h.lens.1
  have hi' : i < v.js.length := by omega
  obtain ⟨x, ex, e1, e2⟩ := h.jobs.at hi'
  have h1 := h.held.grow (i := 4 + x.1) (r' := ⟨73, 8, .slice a5 ((v.js.getD i default).tl + 1) c5, (v.js.getD i default).tl + 1, flat TkV.cells ((v.js.getD i default).tasks ++ [t])⟩) (more_get e1) hg ho hat
  have hx1 : x.1 < more.length := (List.getElem?_eq_some_iff.1 e1).1
  have er : (v.rows ++ more).set (4 + x.1) ⟨73, 8, .slice a5 ((v.js.getD i default).tl + 1) c5, (v.js.getD i default).tl + 1, flat TkV.cells ((v.js.getD i default).tasks ++ [t])⟩ = v.rows ++ more.set x.1 ⟨73, 8, .slice a5 ((v.js.getD i default).tl + 1) c5, (v.js.getD i default).tl + 1, flat TkV.cells ((v.js.getD i default).tasks ++ [t])⟩ := by
    rw [List.set_append_right _ _ (by simp [CkV.rows])]
    congr 2
    simp [CkV.rows]
  rw [er] at h1
  have e0 : (v.rows ++ more.set x.1 ⟨73, 8, .slice a5 ((v.js.getD i default).tl + 1) c5, (v.js.getD i default).tl + 1, flat TkV.cells ((v.js.getD i default).tasks ++ [t])⟩)[0]? = some ⟨47, 6, .slice (some ⟨g, 0, none⟩) v.jl v.jc, v.jl, flat JbV.cells v.js⟩ := by rw [← eg]; rfl
  have h2 := h1.cell e0 (j := i * 6 + 2) (by omega) (.slice a5 ((v.js.getD i default).tl + 1) c5)
  rw [← flat_set6 v.js i (moreTask (v.js.getD i default) a5 c5 t) 2 (.slice a5 ((v.js.getD i default).tl + 1) c5) hi' (by decide) rfl] at h2
  refine ⟨x.1, ⟨73, 8, .slice a5 ((v.js.getD i default).tl + 1) c5, (v.js.getD i default).tl + 1, flat TkV.cells ((v.js.getD i default).tasks ++ [t])⟩, ⟨x.2, ex⟩, ?_, ?_, by simpa using hl, h.lens.2.1, h.lens.2.2.1, h.lens.2.2.2⟩
  · have er2 : ({ v with js := v.js.set i (moreTask (v.js.getD i default) a5 c5 t) } : CkV).rows ++ more.set x.1 ⟨73, 8, .slice a5 ((v.js.getD i default).tl + 1) c5, (v.js.getD i default).tl + 1, flat TkV.cells ((v.js.getD i default).tasks ++ [t])⟩ = (v.rows ++ more.set x.1 ⟨73, 8, .slice a5 ((v.js.getD i default).tl + 1) c5, (v.js.getD i default).tl + 1, flat TkV.cells ((v.js.getD i default).tasks ++ [t])⟩).set 0 ⟨47, 6, .slice (some ⟨g, 0, none⟩) v.jl v.jc, v.jl, flat JbV.cells (v.js.set i (moreTask (v.js.getD i default) a5 c5 t))⟩ := by rw [← eg]; rfl
    rw [er2]
    exact h2
  · obtain ⟨g1, g2, g3, g4⟩ := h.jobs
    have eo : v.js[i]? = some (v.js.getD i default) := by simp [List.getD, hi']
    refine ⟨by simpa using g1, fun k j y ej ey => ?_, g3, g4⟩
    rcases set_get eo ej with ⟨rfl, rfl⟩ | ⟨hk, ej⟩
    · rw [ex] at ey
      obtain rfl := Option.some.inj ey
      refine ⟨?_, ?_⟩
      · rw [List.getElem?_set_self hx1]; rfl
      · rw [List.getElem?_set_ne (g4 _ _ ex)]; exact e2
    · have ap := g3 i k x y ex ey (fun e => hk e.symm)
      have := g2 k j y ej ey
      refine ⟨?_, ?_⟩
      · rw [List.getElem?_set_ne ap.1]; exact this.1
      · rw [List.getElem?_set_ne ap.2.1]; exact this.2
theorem TCl.askRow {w X X' : World} {B q : Nat} {v : CkV} {ix : List (Nat × Nat)} {more : List Rw} (h : TCl w X B q v ix more) {i g : Nat} (hi : i < v.jl) (eg : v.ja = some ⟨g, 0, none⟩) {aa : Option Addr} {al ac : Nat} {zs : List Int} (hg : X.grownBy X' (Value.slice (v.js.getD i default).aa (v.js.getD i default).al (v.js.getD i default).ac).ownBlock) (ho : X'.ownsRow B 3 1 (.slice aa al ac) al (flat inCell zs)) (hat : (Value.slice aa al ac).ownBlock = (Value.slice (v.js.getD i default).aa (v.js.getD i default).al (v.js.getD i default).ac).ownBlock ∨ (Value.slice aa al ac).ownBlock = some X.heap.size) :
    ∃ (k : Nat) (r : Rw), (∃ y, ix[i]? = some (y, k)) ∧ TCl w (X'.setCell ⟨g, i * 6 + 3, none⟩ (.slice aa al ac)) B q { v with js := v.js.set i (askedJob (v.js.getD i default) aa al ac zs) } ix (more.set k r) := by
  have hl := h.lens.1
  have hi' : i < v.js.length := by omega
  obtain ⟨x, ex, e1, e2⟩ := h.jobs.at hi'
  have h1 := h.held.grow (i := 4 + x.2) (r' := siteRow aa al ac zs) (more_get e2) hg ho hat
  have hx2 : x.2 < more.length := (List.getElem?_eq_some_iff.1 e2).1
  have er : (v.rows ++ more).set (4 + x.2) (siteRow aa al ac zs) = v.rows ++ more.set x.2 (siteRow aa al ac zs) := by
    rw [List.set_append_right _ _ (by simp [CkV.rows])]
    congr 2
    simp [CkV.rows]
  rw [er] at h1
  have e0 : (v.rows ++ more.set x.2 (siteRow aa al ac zs))[0]? = some ⟨47, 6, .slice (some ⟨g, 0, none⟩) v.jl v.jc, v.jl, flat JbV.cells v.js⟩ := by rw [← eg]; rfl
  have h2 := h1.cell e0 (j := i * 6 + 3) (by omega) (.slice aa al ac)
  rw [← flat_set6 v.js i (askedJob (v.js.getD i default) aa al ac zs) 3 (.slice aa al ac) hi' (by decide) rfl] at h2
  refine ⟨x.2, siteRow aa al ac zs, ⟨x.1, ex⟩, ?_, ?_, by simpa using hl, h.lens.2.1, h.lens.2.2.1, h.lens.2.2.2⟩
  · have er2 : ({ v with js := v.js.set i (askedJob (v.js.getD i default) aa al ac zs) } : CkV).rows ++ more.set x.2 (siteRow aa al ac zs) = (v.rows ++ more.set x.2 (siteRow aa al ac zs)).set 0 ⟨47, 6, .slice (some ⟨g, 0, none⟩) v.jl v.jc, v.jl, flat JbV.cells (v.js.set i (askedJob (v.js.getD i default) aa al ac zs))⟩ := by rw [← eg]; rfl
    rw [er2]
    exact h2
  · obtain ⟨g1, g2, g3, g4⟩ := h.jobs
    have eo : v.js[i]? = some (v.js.getD i default) := by simp [List.getD, hi']
    refine ⟨by simpa using g1, fun k jj y ejj ey => ?_, g3, g4⟩
    rcases set_get eo ejj with ⟨rfl, rfl⟩ | ⟨hk, ejj2⟩
    · rw [ex] at ey
      obtain rfl := Option.some.inj ey
      refine ⟨?_, ?_⟩
      · rw [List.getElem?_set_ne (fun e => g4 _ _ ex e.symm)]; exact e1
      · rw [List.getElem?_set_self hx2]; rfl
    · have ap := g3 i k x y ex ey (fun e => hk e.symm)
      have := g2 k jj y ejj2 ey
      refine ⟨?_, ?_⟩
      · rw [List.getElem?_set_ne ap.2.2.1]; exact this.1
      · rw [List.getElem?_set_ne ap.2.2.2]; exact this.2
theorem TCl.tcell {w X : World} {B q : Nat} {v : CkV} {ix : List (Nat × Nat)} {more : List Rw} (h : TCl w X B q v ix more) {i gt m : Nat} (hi : i < v.jl) (et : (v.js.getD i default).ta = some ⟨gt, 0, none⟩) (hm : m < (v.js.getD i default).tl) (c : Nat) (hc : c < 8) (u : Value) (t' : TkV) (ht : t'.cells = ((v.js.getD i default).tasks.getD m default).cells.set c u) :
    ∃ (k : Nat) (r : Rw), (∃ y, ix[i]? = some (k, y)) ∧ TCl w (X.setCell ⟨gt, m * 8 + c, none⟩ u) B q { v with js := v.js.set i (taskSet (v.js.getD i default) m t') } ix (more.set k r) := by
  have hl := h.lens.1
  have hi' : i < v.js.length := by omega
  have hfit := (h.fit hi).1
  obtain ⟨x, ex, e1, e2⟩ := h.jobs.at hi'
  have hx1 : x.1 < more.length := (List.getElem?_eq_some_iff.1 e1).1
  obtain ⟨j, ej⟩ : ∃ j, j = v.js.getD i default := ⟨_, rfl⟩
  rw [← ej] at et hm ht hfit e1 e2 ⊢
  have e3 := e1
  rw [et] at e3
  have h1 := h.held.cell (more_get e3) (j := m * 8 + c) (by omega) u
  rw [← flat_set8 j.tasks m t' c u (by omega) hc ht] at h1
  have er : (v.rows ++ more).set (4 + x.1) ⟨73, 8, .slice (some ⟨gt, 0, none⟩) j.tl j.tc, j.tl, flat TkV.cells (j.tasks.set m t')⟩ = v.rows ++ more.set x.1 ⟨73, 8, .slice (some ⟨gt, 0, none⟩) j.tl j.tc, j.tl, flat TkV.cells (j.tasks.set m t')⟩ := by
    rw [List.set_append_right _ _ (by simp [CkV.rows])]
    congr 2
    simp [CkV.rows]
  rw [er] at h1
  have ec : (taskSet j m t').cells = j.cells := rfl
  have ef : flat JbV.cells (v.js.set i (taskSet j m t')) = flat JbV.cells v.js := by
    have : ∀ (js : List JbV) (i : Nat) (k : JbV), k.cells = (js.getD i default).cells → flat JbV.cells (js.set i k) = flat JbV.cells js := by
      intro js
      induction js with
      | nil => intro i k e; rfl
      | cons a l ih =>
        intro i k e
        cases i with
        | zero => simp only [List.set_cons_zero, flat_cons, List.getD_cons_zero] at e ⊢; rw [e]
        | succ i => simp only [List.set_cons_succ, flat_cons]; rw [ih i k (by simpa using e)]
    exact this _ _ _ (by rw [ec, ej])
  refine ⟨x.1, ⟨73, 8, .slice (some ⟨gt, 0, none⟩) j.tl j.tc, j.tl, flat TkV.cells (j.tasks.set m t')⟩, ⟨x.2, ex⟩, ?_, ?_, by simpa using hl, h.lens.2.1, h.lens.2.2.1, h.lens.2.2.2⟩
  · have er2 : ({ v with js := v.js.set i (taskSet j m t') } : CkV).rows = v.rows := by unfold CkV.rows; simp only [ef]
    rw [er2]
    exact h1
  · obtain ⟨g1, g2, g3, g4⟩ := h.jobs
    have eo : v.js[i]? = some j := by rw [ej]; simp [List.getD, hi']
    refine ⟨by simpa using g1, fun k jj y ejj ey => ?_, g3, g4⟩
    rcases set_get eo ejj with ⟨rfl, rfl⟩ | ⟨hk, ejj2⟩
    · rw [ex] at ey
      obtain rfl := Option.some.inj ey
      refine ⟨?_, ?_⟩
      · rw [List.getElem?_set_self hx1, ← et]; rfl
      · rw [List.getElem?_set_ne (g4 _ _ ex)]; exact e2
    · have ap := g3 i k x y ex ey (fun e => hk e.symm)
      have := g2 k jj y ejj2 ey
      refine ⟨?_, ?_⟩
      · rw [List.getElem?_set_ne ap.1]; exact this.1
      · rw [List.getElem?_set_ne ap.2.1]; exact this.2
theorem TCl.cutTasks {w X : World} {B q : Nat} {v : CkV} {ix : List (Nat × Nat)} {more : List Rw} (h : TCl w X B q v ix more) {i g gt n : Nat} (hi : i < v.jl) (eg : v.ja = some ⟨g, 0, none⟩) (et : (v.js.getD i default).ta = some ⟨gt, 0, none⟩) (hn : n ≤ (v.js.getD i default).tl) (h0 : 0 < (v.js.getD i default).tl) :
    ∃ (k : Nat) (r : Rw), (∃ y, ix[i]? = some (k, y)) ∧ TCl w (X.setCell ⟨g, i * 6 + 2, none⟩ (.slice (some ⟨gt, 0, none⟩) n (v.js.getD i default).tc)) B q { v with js := v.js.set i (cutJob (v.js.getD i default) n) } ix (more.set k r) := by
  have hl := h.lens.1
  have hi' : i < v.js.length := by omega
  obtain ⟨x, ex, e1, e2⟩ := h.jobs.at hi'
  have hx1 : x.1 < more.length := (List.getElem?_eq_some_iff.1 e1).1
  obtain ⟨j, ej⟩ : ∃ j, j = v.js.getD i default := ⟨_, rfl⟩
  rw [← ej] at et hn h0 e1 e2 ⊢
  have e3 := e1
  rw [et] at e3
  have o1 := h.held.own.own _ _ (more_get e3)
  have o2 := own_prefix o1 (k := n) hn h0
  rw [flat_take tk_len] at o2
  have h1 := h.held.grow (X' := X) (i := 4 + x.1) (r' := ⟨73, 8, .slice (some ⟨gt, 0, none⟩) n j.tc, n, flat TkV.cells (j.tasks.take n)⟩) (more_get e3) (St.grown_below (Below.refl X.heap.size X) _) o2 (Or.inl rfl)
  have er : (v.rows ++ more).set (4 + x.1) ⟨73, 8, .slice (some ⟨gt, 0, none⟩) n j.tc, n, flat TkV.cells (j.tasks.take n)⟩ = v.rows ++ more.set x.1 ⟨73, 8, .slice (some ⟨gt, 0, none⟩) n j.tc, n, flat TkV.cells (j.tasks.take n)⟩ := by
    rw [List.set_append_right _ _ (by simp [CkV.rows])]
    congr 2
    simp [CkV.rows]
  rw [er] at h1
  have e0 : (v.rows ++ more.set x.1 ⟨73, 8, .slice (some ⟨gt, 0, none⟩) n j.tc, n, flat TkV.cells (j.tasks.take n)⟩)[0]? = some ⟨47, 6, .slice (some ⟨g, 0, none⟩) v.jl v.jc, v.jl, flat JbV.cells v.js⟩ := by rw [← eg]; rfl
  have h2 := h1.cell e0 (j := i * 6 + 2) (by omega) (.slice (some ⟨gt, 0, none⟩) n j.tc)
  rw [← flat_set6 v.js i (cutJob j n) 2 (.slice (some ⟨gt, 0, none⟩) n j.tc) hi' (by decide) (by rw [← ej, ← et]; rfl)] at h2
  refine ⟨x.1, ⟨73, 8, .slice (some ⟨gt, 0, none⟩) n j.tc, n, flat TkV.cells (j.tasks.take n)⟩, ⟨x.2, ex⟩, ?_, ?_, by simpa using hl, h.lens.2.1, h.lens.2.2.1, h.lens.2.2.2⟩
  · have er2 : ({ v with js := v.js.set i (cutJob j n) } : CkV).rows ++ more.set x.1 ⟨73, 8, .slice (some ⟨gt, 0, none⟩) n j.tc, n, flat TkV.cells (j.tasks.take n)⟩ = (v.rows ++ more.set x.1 ⟨73, 8, .slice (some ⟨gt, 0, none⟩) n j.tc, n, flat TkV.cells (j.tasks.take n)⟩).set 0 ⟨47, 6, .slice (some ⟨g, 0, none⟩) v.jl v.jc, v.jl, flat JbV.cells (v.js.set i (cutJob j n))⟩ := by rw [← eg]; rfl
    rw [er2]
    exact h2
  · obtain ⟨g1, g2, g3, g4⟩ := h.jobs
    have eo : v.js[i]? = some j := by rw [ej]; simp [List.getD, hi']
    refine ⟨by simpa using g1, fun k jj y ejj ey => ?_, g3, g4⟩
    rcases set_get eo ejj with ⟨rfl, rfl⟩ | ⟨hk, ejj2⟩
    · rw [ex] at ey
      obtain rfl := Option.some.inj ey
      refine ⟨?_, ?_⟩
      · rw [List.getElem?_set_self hx1, ← et]; rfl
      · rw [List.getElem?_set_ne (g4 _ _ ex)]; exact e2
    · have ap := g3 i k x y ex ey (fun e => hk e.symm)
      have := g2 k jj y ejj2 ey
      refine ⟨?_, ?_⟩
      · rw [List.getElem?_set_ne ap.1]; exact this.1
      · rw [List.getElem?_set_ne ap.2.1]; exact this.2
set_option maxRecDepth 100000 in
set_option maxHeartbeats 4000000 in
theorem about_any (me kind dst n : Int) (w : World) :
    Calls Try.prog 29 #[.int .i64 me, .int .i64 kind, .int .i64 dst, .int .i64 n] w fun e w' => e = .returned (.agg #[.int .i64 kind, .int .i64 me, .int .i64 dst, .int .i64 me, .int .i64 n, .int .i64 0, .int .i64 0, .int .i64 0, .int .i64 0, .int .i64 0, .bool false, .int .i64 0]) ∧ Below w.heap.size w w' := by
  obtain ⟨X, eX⟩ : ∃ X : World, X = w.alloc (.cells #[.int .i64 kind, .int .i64 me, .int .i64 dst, .int .i64 me, .int .i64 n, .int .i64 0, .int .i64 0, .int .i64 0, .int .i64 0, .int .i64 0, .bool false, .int .i64 0] 75) := ⟨_, rfl⟩
  have bX : Below w.heap.size w X := by rw [eX]; exact (Below.refl _ _).alloc (Nat.le_refl _) _
  have bx : BoxN X w.heap.size 12 [.int .i64 kind, .int .i64 me, .int .i64 dst, .int .i64 me, .int .i64 n, .int .i64 0, .int .i64 0, .int .i64 0, .int .i64 0, .int .i64 0, .bool false, .int .i64 0] := by rw [eX]; exact boxn_new w #[.int .i64 kind, .int .i64 me, .int .i64 dst, .int .i64 me, .int .i64 n, .int .i64 0, .int .i64 0, .int .i64 0, .int .i64 0, .int .i64 0, .bool false, .int .i64 0] 75 12 rfl
  have x0 : X.cell? ⟨w.heap.size, 0, none⟩ = some (.int .i64 kind) := (bx.c 0 (by decide)).1
  have x1 : X.cell? ⟨w.heap.size, 1, none⟩ = some (.int .i64 me) := (bx.c 1 (by decide)).1
  have x2 : X.cell? ⟨w.heap.size, 2, none⟩ = some (.int .i64 dst) := (bx.c 2 (by decide)).1
  have x3 : X.cell? ⟨w.heap.size, 3, none⟩ = some (.int .i64 me) := (bx.c 3 (by decide)).1
  have x4 : X.cell? ⟨w.heap.size, 4, none⟩ = some (.int .i64 n) := (bx.c 4 (by decide)).1
  have x5 : X.cell? ⟨w.heap.size, 5, none⟩ = some (.int .i64 0) := (bx.c 5 (by decide)).1
  have x6 : X.cell? ⟨w.heap.size, 6, none⟩ = some (.int .i64 0) := (bx.c 6 (by decide)).1
  have x7 : X.cell? ⟨w.heap.size, 7, none⟩ = some (.int .i64 0) := (bx.c 7 (by decide)).1
  have x8 : X.cell? ⟨w.heap.size, 8, none⟩ = some (.int .i64 0) := (bx.c 8 (by decide)).1
  have x9 : X.cell? ⟨w.heap.size, 9, none⟩ = some (.int .i64 0) := (bx.c 9 (by decide)).1
  have x10 : X.cell? ⟨w.heap.size, 10, none⟩ = some (.bool false) := (bx.c 10 (by decide)).1
  have x11 : X.cell? ⟨w.heap.size, 11, none⟩ = some (.int .i64 0) := (bx.c 11 (by decide)).1
  go_enter Try.func29, Try.ntmps29
  go_wp2
  rw [← eX]
  refine bodyPost_ret (v := .agg #[.int .i64 kind, .int .i64 me, .int .i64 dst, .int .i64 me, .int .i64 n, .int .i64 0, .int .i64 0, .int .i64 0, .int .i64 0, .int .i64 0, .bool false, .int .i64 0]) (by simp [results, Try.results29, go_sem, x0, x1, x2, x3, x4, x5, x6, x7, x8, x9, x10, x11]) rfl ⟨rfl, bX⟩
def ToldIs (w X' : World) (B q : Nat) (v : CkV) (n : Int) (zs : List Int) (ix : List (Nat × Nat)) (more : List Rw) (e : Ending) : Prop := e = .returned (.tuple #[]) ∧ ∃ (ma : Option Addr) (mc : Nat) (r : Rw), TCl w X' B q (toldV v ma mc n true zs) ix (more ++ [r])
set_option maxRecDepth 100000 in
set_option maxHeartbeats 8000000 in
theorem told_any {w : World} {B q : Nat} {v : CkV} {ix : List (Nat × Nat)} {more : List Rw} (X : World) (h : TCl w X B q v ix more) (j : JbV) (hS : ∀ U ma mc ms r, TCl w U B q { v with ma := ma, ml := ms.length, mc := mc, ms := ms } ix (more ++ [r]) → IsSites U j.aa j.al j.ac j.asked) (hz : j.asked.length ≤ 1048576) (hal : j.asked.length = j.al) (hn : (v.ml + 1048577) * 96 ≤ 140737488355328) :
    Calls Try.prog 38 #[.int .i64 v.me, .pointer (some ⟨q, 0, none⟩), j.val] X fun e X' => ToldIs w X' B q v j.n j.asked ix more e := by
  obtain ⟨iM, EM⟩ := msElem
  obtain ⟨jn, st, ta, tl, tc, aa, al, ac, asks, age, tasks, asked⟩ := j
  simp only [JbV.val] at hS hz hal ⊢
  obtain ⟨W, hW⟩ : ∃ W : World, W = X.alloc (.cells #[.int .i64 jn, .int .i64 st, .slice ta tl tc, .slice aa al ac, .int .i64 asks, .int .i64 age] 47) := ⟨_, rfl⟩
  have bW : Below X.heap.size X W := by rw [hW]; exact (Below.refl _ _).alloc (Nat.le_refl _) _
  have hCW : TCl w W B q v ix (more ++ [(⟨47, 6, .slice (some ⟨X.heap.size, 0, none⟩) 1 1, 1, [.int .i64 jn, .int .i64 st, .slice ta tl tc, .slice aa al ac, .int .i64 asks, .int .i64 age]⟩ : Rw)]) := h.add bW (by rw [hW]; exact box_row X _ _ 6 rfl)
  have HRow : Hid (∀ (U : World) (u : CkV), TCl w U B q u ix (more ++ [(⟨47, 6, .slice (some ⟨X.heap.size, 0, none⟩) 1 1, 1, [.int .i64 jn, .int .i64 st, .slice ta tl tc, .slice aa al ac, .int .i64 asks, .int .i64 age]⟩ : Rw)]) → U.cell? ⟨X.heap.size, 0, none⟩ = some (.int .i64 jn) ∧ U.cell? ⟨X.heap.size, 3, none⟩ = some (.slice aa al ac) ∧ X.heap.size < U.heap.size) := fun U u hU => by
    have e1 : (more ++ [(⟨47, 6, .slice (some ⟨X.heap.size, 0, none⟩) 1 1, 1, [.int .i64 jn, .int .i64 st, .slice ta tl tc, .slice aa al ac, .int .i64 asks, .int .i64 age]⟩ : Rw)])[more.length]? = some (⟨47, 6, .slice (some ⟨X.heap.size, 0, none⟩) 1 1, 1, [.int .i64 jn, .int .i64 st, .slice ta tl tc, .slice aa al ac, .int .i64 asks, .int .i64 age]⟩ : Rw) := by simp
    have o1 := hU.held.own.own _ _ (more_get e1)
    exact ⟨by simpa using (own_at o1 (j := 0) (by show 0 < 1 * 6; decide)).1, by simpa using (own_at o1 (j := 3) (by show 3 < 1 * 6; decide)).1, (own_at o1 (j := 0) (by show 0 < 1 * 6; decide)).2⟩
  have HLn : Hid (v.ms.length = v.ml) := h.lens.2.1
  have HSi : Hid (∀ (U : World) (ma : Option Addr) (mc : Nat) (zs : List Int), TCl w U B q (toldV v ma mc jn true zs) ix (more ++ [(⟨47, 6, .slice (some ⟨X.heap.size, 0, none⟩) 1 1, 1, [.int .i64 jn, .int .i64 st, .slice ta tl tc, .slice aa al ac, .int .i64 asks, .int .i64 age]⟩ : Rw)]) → IsSites U aa al ac asked) := fun U ma mc zs hU => by
    refine hS U ma mc (v.ms ++ zs.map (decM v.me jn true)) (⟨47, 6, .slice (some ⟨X.heap.size, 0, none⟩) 1 1, 1, [.int .i64 jn, .int .i64 st, .slice ta tl tc, .slice aa al ac, .int .i64 asks, .int .i64 age]⟩ : Rw) ?_
    have e1 : (v.ms ++ zs.map (decM v.me jn true)).length = v.ml + zs.length := by rw [List.length_append, List.length_map, HLn.out]
    rw [e1]
    exact hU
  have HAl : Hid (asked.length = al) := hal
  have HZ : Hid (asked.length ≤ 1048576) := hz
  have Hn : Hid ((v.ml + 1048577) * 96 ≤ 140737488355328) := hn
  have hal2 : al ≤ 1048576 := by rw [← hal]; exact hz
  have h0 : TCl w W B q (toldV v v.ma v.mc jn true (asked.take 0)) ix (more ++ [(⟨47, 6, .slice (some ⟨X.heap.size, 0, none⟩) 1 1, 1, [.int .i64 jn, .int .i64 st, .slice ta tl tc, .slice aa al ac, .int .i64 asks, .int .i64 age]⟩ : Rw)]) := by simpa [toldV] using hCW
  obtain ⟨M, eM⟩ : ∃ M, M = more ++ [(⟨47, 6, .slice (some ⟨X.heap.size, 0, none⟩) 1 1, 1, [.int .i64 jn, .int .i64 st, .slice ta tl tc, .slice aa al ac, .int .i64 asks, .int .i64 age]⟩ : Rw)] := ⟨_, rfl⟩
  have HM : Hid (M = more ++ [(⟨47, 6, .slice (some ⟨X.heap.size, 0, none⟩) 1 1, 1, [.int .i64 jn, .int .i64 st, .slice ta tl tc, .slice aa al ac, .int .i64 asks, .int .i64 age]⟩ : Rw)]) := eM
  rw [← eM] at h0 HRow HSi
  have hqX : Hid (q < X.heap.size) := h.held.box.lt
  clear eM hCW h hS hz hal hn HLn bW
  go_enter Try.func38, Try.ntmps38
  go_upto_region 2 with (fail)
  rw [← hW]
  clear hW
  go_loopw [6] (fun s6 wr => ∃ (k : Nat) (m1 : Option Addr) (k1 : Nat), s6 = .int .i64 (k : Int) ∧ k ≤ al ∧ Hid (TCl w wr B q (toldV v m1 k1 jn true (asked.take k)) ix M)) (fun s6 _ => al - (intOf s6).toNat)
  case atStart => exact ⟨0, v.ma, v.mc, rfl, Nat.zero_le _, h0⟩
  case round =>
    clear h0
    obtain ⟨k, m1, k1, rfl, hk, HC⟩ := hrel
    obtain ⟨j0, j3, zj⟩ := HRow.out _ _ HC.out
    by_cases hlt : k < al
    · have hlt' : (k : Int) < (al : Int) := by omega
      have hk1 : IntKind.i64.wrap ((k : Int) + 1) = (k : Int) + 1 := by rw [IntKind.wrap_i64]; omega
      obtain ⟨b, off, rfl, zb, hcr⟩ := (HSi.out _ _ _ _ HC.out).2.2.2.2 (by omega)
      have hac : k < ac := Nat.lt_of_lt_of_le hlt (HSi.out _ _ _ _ HC.out).2.1
      have cg : wr.cell? ⟨b, off + k, none⟩ = some (.int .i64 (asked.getD k default)) := by
        have := hcr k hlt 0 (by decide)
        rw [Nat.mul_one, Nat.add_zero] at this
        exact this
      have HAt : Hid (∀ (m5 : Option Addr) (c5 : Nat), ({ toldV v m1 k1 jn true (asked.take k) with ma := m5, ml := (toldV v m1 k1 jn true (asked.take k)).ml + 1, mc := c5, ms := (toldV v m1 k1 jn true (asked.take k)).ms ++ [decM v.me jn true (asked.getD k default)] } : CkV) = toldV v m5 c5 jn true (asked.take (k + 1))) := fun m5 c5 => toldV_at (by rw [HAl.out]; exact hlt)
      have hml : ((toldV v m1 k1 jn true (asked.take k)).ml + 1) * 96 ≤ 140737488355328 := told_fit Hn.out (Nat.le_trans (List.length_take_le k asked) (Nat.le_trans hk hal2))
      obtain ⟨Z, eZ⟩ : ∃ Z, Z = asked.getD k default := ⟨_, rfl⟩
      rw [← eZ] at cg HAt
      clear eZ hcr
      obtain ⟨V, eV⟩ : ∃ V, V = toldV v m1 k1 jn true (asked.take k) := ⟨_, rfl⟩
      rw [← eV] at HC HAt hml
      clear eV
      have KC : Hid (∀ U, Below wr.heap.size wr U → U.cell? ⟨X.heap.size, 0, none⟩ = some (.int .i64 jn) ∧ U.cell? ⟨X.heap.size, 3, none⟩ = some (.slice (some ⟨b, off, none⟩) al ac) ∧ U.cell? ⟨b, off + k, none⟩ = some (.int .i64 Z) ∧ X.heap.size < U.heap.size ∧ b < U.heap.size) := fun U hU => ⟨(hU.cell (p := ⟨X.heap.size, 0, none⟩) zj).trans j0, (hU.cell (p := ⟨X.heap.size, 3, none⟩) zj).trans j3, (hU.cell (p := ⟨b, off + k, none⟩) zb).trans cg, Nat.lt_of_lt_of_le zj hU.size, Nat.lt_of_lt_of_le zb hU.size⟩
      have nT : ∀ {u v z : World}, Below u.heap.size u v → Below v.heap.size v z → Below u.heap.size u z := fun h k => h.trans (k.mono h.size)
      have HAb : Hid (∀ U : World, Calls Try.prog 29 #[.int .i64 v.me, .int .i64 4, .int .i64 Z, .int .i64 jn] U fun e w' => e = .returned (.agg #[.int .i64 4, .int .i64 v.me, .int .i64 Z, .int .i64 v.me, .int .i64 jn, .int .i64 0, .int .i64 0, .int .i64 0, .int .i64 0, .int .i64 0, .bool false, .int .i64 0]) ∧ Below U.heap.size U w') := fun U => about_any v.me 4 Z jn U
      go_upto_region 4 with (fail)
      clear j0 j3 zj cg
      refine wp_region_inv (by kernel_rfl) [15, 16, 17, 18, 19, 20, 21, 22, 23, 7] (fun L T u => ∃ (A : Nat), Below wr.heap.size wr u ∧ (L 0 = true → T 15 = .int .i64 v.me) ∧ (L 1 = true → T 16 = .pointer (some ⟨X.heap.size, 3, none⟩)) ∧ (L 2 = true → T 17 = .slice (some ⟨b, off, none⟩) al ac) ∧ (L 3 = true → T 18 = .int .i64 (k : Int)) ∧ (L 4 = true → T 19 = .pointer (some ⟨b, off + k, none⟩)) ∧ (L 5 = true → T 20 = .int .i64 Z) ∧ (L 6 = true → T 21 = .pointer (some ⟨X.heap.size, 0, none⟩)) ∧ (L 7 = true → T 22 = .int .i64 jn) ∧ (L 8 = true → T 23 = .agg #[.int .i64 4, .int .i64 v.me, .int .i64 Z, .int .i64 v.me, .int .i64 jn, .int .i64 0, .int .i64 0, .int .i64 0, .int .i64 0, .int .i64 0, .bool false, .int .i64 0]) ∧ (L 9 = true → (T 7 = .pointer (some ⟨A, 0, none⟩) ∧ wr.heap.size ≤ A ∧ A < u.heap.size)) ∧ (L 9 = true → L 10 = false → BoxN u A 12 [.int .i64 0, .int .i64 0, .int .i64 0, .int .i64 0, .int .i64 0, .int .i64 0, .int .i64 0, .int .i64 0, .int .i64 0, .int .i64 0, .bool false, .int .i64 0]) ∧ (L 10 = true → BoxN u A 12 [.int .i64 4, .int .i64 v.me, .int .i64 Z, .int .i64 v.me, .int .i64 jn, .int .i64 0, .int .i64 0, .int .i64 0, .int .i64 0, .int .i64 0, .bool false, .int .i64 0])) (by decide) (by kernel_rfl) (by kernel_rfl) ?_ ?_ ?_
      · exact ⟨0, (Below.refl _ _).drew, nofun, nofun, nofun, nofun, nofun, nofun, nofun, nofun, nofun, nofun, nofun, nofun⟩
      · refine ⟨?_, ?_, ?_, ?_, ?_, ?_, ?_, ?_, ?_, ?_, ?_, trivial⟩
        · rintro L T u hd hk hcl ⟨A, hb, p0, p1, p2, p3, p4, p5, p6, p7, p8, pa9, bz9, bv9⟩ K hK
          simp only [fr, Act.put, List.setIfInBounds_toArray, List.set_cons_zero, List.set_cons_succ, updO] at hK ⊢
          simp [Region.binds] at hd
          rw [if_pos (by rfl)]
          simp only [Oper.wpv]
          go_simp
          exact hK _ _ ⟨A, hb, fun _ => rfl, p1, p2, p3, p4, p5, p6, p7, p8, pa9, bz9, bv9⟩
        · rintro L T u hd hk hcl ⟨A, hb, p0, p1, p2, p3, p4, p5, p6, p7, p8, pa9, bz9, bv9⟩ K hK
          simp only [fr, Act.put, List.setIfInBounds_toArray, List.set_cons_zero, List.set_cons_succ, updO] at hK ⊢
          simp [Region.binds] at hd
          rw [if_pos (by rfl)]
          simp only [Oper.wpv]
          go_simp
          exact hK _ _ ⟨A, hb, p0, fun _ => rfl, p2, p3, p4, p5, p6, p7, p8, pa9, bz9, bv9⟩
        · rintro L T u hd hk hcl ⟨A, hb, p0, p1, p2, p3, p4, p5, p6, p7, p8, pa9, bz9, bv9⟩ K hK
          simp only [fr, Act.put, List.setIfInBounds_toArray, List.set_cons_zero, List.set_cons_succ, updO] at hK ⊢
          simp [Region.binds] at hd
          have g1 := p1 (by simp [hd])
          obtain ⟨x0, x1, x2, zx, zb2⟩ := KC.out u hb
          rw [if_pos (by rfl)]
          simp only [Oper.wpv]
          go_simp
          exact hK _ _ ⟨A, hb, p0, p1, fun _ => rfl, p3, p4, p5, p6, p7, p8, pa9, bz9, bv9⟩
        · rintro L T u hd hk hcl ⟨A, hb, p0, p1, p2, p3, p4, p5, p6, p7, p8, pa9, bz9, bv9⟩ K hK
          simp only [fr, Act.put, List.setIfInBounds_toArray, List.set_cons_zero, List.set_cons_succ, updO] at hK ⊢
          simp [Region.binds] at hd
          rw [if_pos (by rfl)]
          simp only [Oper.wpv]
          go_simp
          exact hK _ _ ⟨A, hb, p0, p1, p2, fun _ => rfl, p4, p5, p6, p7, p8, pa9, bz9, bv9⟩
        · rintro L T u hd hk hcl ⟨A, hb, p0, p1, p2, p3, p4, p5, p6, p7, p8, pa9, bz9, bv9⟩ K hK
          simp only [fr, Act.put, List.setIfInBounds_toArray, List.set_cons_zero, List.set_cons_succ, updO] at hK ⊢
          simp [Region.binds] at hd
          have g2 := p2 (by simp [hd])
          have g3 := p3 (by simp [hd])
          rw [if_pos (by rfl)]
          simp only [Oper.wpv]
          go_simp
          exact hK _ _ ⟨A, hb, p0, p1, p2, p3, fun _ => rfl, p5, p6, p7, p8, pa9, bz9, bv9⟩
        · rintro L T u hd hk hcl ⟨A, hb, p0, p1, p2, p3, p4, p5, p6, p7, p8, pa9, bz9, bv9⟩ K hK
          simp only [fr, Act.put, List.setIfInBounds_toArray, List.set_cons_zero, List.set_cons_succ, updO] at hK ⊢
          simp [Region.binds] at hd
          have g4 := p4 (by simp [hd])
          obtain ⟨x0, x1, x2, zx, zb2⟩ := KC.out u hb
          rw [if_pos (by rfl)]
          simp only [Oper.wpv]
          go_simp
          exact hK _ _ ⟨A, hb, p0, p1, p2, p3, p4, fun _ => rfl, p6, p7, p8, pa9, bz9, bv9⟩
        · rintro L T u hd hk hcl ⟨A, hb, p0, p1, p2, p3, p4, p5, p6, p7, p8, pa9, bz9, bv9⟩ K hK
          simp only [fr, Act.put, List.setIfInBounds_toArray, List.set_cons_zero, List.set_cons_succ, updO] at hK ⊢
          simp [Region.binds] at hd
          rw [if_pos (by rfl)]
          simp only [Oper.wpv]
          go_simp
          exact hK _ _ ⟨A, hb, p0, p1, p2, p3, p4, p5, fun _ => rfl, p7, p8, pa9, bz9, bv9⟩
        · rintro L T u hd hk hcl ⟨A, hb, p0, p1, p2, p3, p4, p5, p6, p7, p8, pa9, bz9, bv9⟩ K hK
          simp only [fr, Act.put, List.setIfInBounds_toArray, List.set_cons_zero, List.set_cons_succ, updO] at hK ⊢
          simp [Region.binds] at hd
          have g6 := p6 (by simp [hd])
          obtain ⟨x0, x1, x2, zx, zb2⟩ := KC.out u hb
          rw [if_pos (by rfl)]
          simp only [Oper.wpv]
          go_simp
          exact hK _ _ ⟨A, hb, p0, p1, p2, p3, p4, p5, p6, fun _ => rfl, p8, pa9, bz9, bv9⟩
        · rintro L T u hd hk hcl ⟨A, hb, p0, p1, p2, p3, p4, p5, p6, p7, p8, pa9, bz9, bv9⟩ K hK
          simp only [fr, Act.put, List.setIfInBounds_toArray, List.set_cons_zero, List.set_cons_succ, updO] at hK ⊢
          simp [Region.binds] at hd
          have g0 := p0 (by simp [hd])
          have g5 := p5 (by simp [hd])
          have g7 := p7 (by simp [hd])
          rw [if_pos (by rfl)]
          simp only [Oper.wpv]
          go_simp
          refine (HAb.out u).mono ?_
          rintro e u1 ⟨rfl, hg⟩
          exact hK _ _ ⟨A, nT hb hg, p0, p1, p2, p3, p4, p5, p6, p7, fun _ => rfl, fun h0 => ⟨(pa9 h0).1, (pa9 h0).2.1, Nat.lt_of_lt_of_le (pa9 h0).2.2 hg.size⟩, fun h0 h1 => (bz9 h0 h1).below hg (bz9 h0 h1).lt, fun h0 => (bv9 h0).below hg (bv9 h0).lt⟩
        · rintro L T u hd hk hcl ⟨A, hb, p0, p1, p2, p3, p4, p5, p6, p7, p8, pa9, bz9, bv9⟩ K hK
          simp only [fr, Act.put, List.setIfInBounds_toArray, List.set_cons_zero, List.set_cons_succ, updO] at hK ⊢
          simp [Region.binds] at hd
          have kst := hcl 10 _ rfl
          simp [Region.binds] at kst
          rw [if_pos (by rfl)]
          simp only [Oper.wpv]
          go_simp
          have hg : Below u.heap.size u _ := (Below.refl u.heap.size u).alloc (Nat.le_refl _) (.cells #[.int .i64 0, .int .i64 0, .int .i64 0, .int .i64 0, .int .i64 0, .int .i64 0, .int .i64 0, .int .i64 0, .int .i64 0, .int .i64 0, .bool false, .int .i64 0] 75)
          exact hK _ _ ⟨u.heap.size, nT hb hg, p0, p1, p2, p3, p4, p5, p6, p7, p8, fun _ => ⟨rfl, hb.size, by simp⟩, fun _ _ => boxn_new u #[.int .i64 0, .int .i64 0, .int .i64 0, .int .i64 0, .int .i64 0, .int .i64 0, .int .i64 0, .int .i64 0, .int .i64 0, .int .i64 0, .bool false, .int .i64 0] 75 12 rfl, fun h => absurd (show L 10 = true from h) (by intro hh; have := kst hh; simp [hk] at this)⟩
        · rintro L T u hd hk hcl ⟨A, hb, p0, p1, p2, p3, p4, p5, p6, p7, p8, pa9, bz9, bv9⟩ K hK
          simp only [fr, Act.put, List.setIfInBounds_toArray, List.set_cons_zero, List.set_cons_succ, updO] at hK ⊢
          simp [Region.binds] at hd
          have g8 := p8 (by simp [hd])
          have g9 := pa9 (by simp [hd])
          have HK9 : L 9 = true := by simp [hd]
          obtain ⟨gA, gB, gC⟩ := pa9 HK9
          have bz := bz9 HK9 hk
          have z0 : u.cell? ⟨A, 0, none⟩ = some (.int .i64 0) := (bz.c 0 (by decide)).1
          have zf0 := (bz.c 0 (by decide)).2
          have z1 : u.cell? ⟨A, 1, none⟩ = some (.int .i64 0) := (bz.c 1 (by decide)).1
          have zf1 := (bz.c 1 (by decide)).2
          have z2 : u.cell? ⟨A, 2, none⟩ = some (.int .i64 0) := (bz.c 2 (by decide)).1
          have zf2 := (bz.c 2 (by decide)).2
          have z3 : u.cell? ⟨A, 3, none⟩ = some (.int .i64 0) := (bz.c 3 (by decide)).1
          have zf3 := (bz.c 3 (by decide)).2
          have z4 : u.cell? ⟨A, 4, none⟩ = some (.int .i64 0) := (bz.c 4 (by decide)).1
          have zf4 := (bz.c 4 (by decide)).2
          have z5 : u.cell? ⟨A, 5, none⟩ = some (.int .i64 0) := (bz.c 5 (by decide)).1
          have zf5 := (bz.c 5 (by decide)).2
          have z6 : u.cell? ⟨A, 6, none⟩ = some (.int .i64 0) := (bz.c 6 (by decide)).1
          have zf6 := (bz.c 6 (by decide)).2
          have z7 : u.cell? ⟨A, 7, none⟩ = some (.int .i64 0) := (bz.c 7 (by decide)).1
          have zf7 := (bz.c 7 (by decide)).2
          have z8 : u.cell? ⟨A, 8, none⟩ = some (.int .i64 0) := (bz.c 8 (by decide)).1
          have zf8 := (bz.c 8 (by decide)).2
          have z9 : u.cell? ⟨A, 9, none⟩ = some (.int .i64 0) := (bz.c 9 (by decide)).1
          have zf9 := (bz.c 9 (by decide)).2
          have z10 : u.cell? ⟨A, 10, none⟩ = some (.bool false) := (bz.c 10 (by decide)).1
          have zf10 := (bz.c 10 (by decide)).2
          have z11 : u.cell? ⟨A, 11, none⟩ = some (.int .i64 0) := (bz.c 11 (by decide)).1
          have zf11 := (bz.c 11 (by decide)).2
          clear g9
          rw [if_pos (by rfl)]
          simp only [Oper.wpv]
          go_simp
          exact hK _ _ ⟨A, ((((((((((((hb.setCell (p := ⟨A, 0, none⟩) gB _).setCell (p := ⟨A, 1, none⟩) gB _).setCell (p := ⟨A, 2, none⟩) gB _).setCell (p := ⟨A, 3, none⟩) gB _).setCell (p := ⟨A, 4, none⟩) gB _).setCell (p := ⟨A, 5, none⟩) gB _).setCell (p := ⟨A, 6, none⟩) gB _).setCell (p := ⟨A, 7, none⟩) gB _).setCell (p := ⟨A, 8, none⟩) gB _).setCell (p := ⟨A, 9, none⟩) gB _).setCell (p := ⟨A, 10, none⟩) gB _).setCell (p := ⟨A, 11, none⟩) gB _), p0, p1, p2, p3, p4, p5, p6, p7, p8, fun h0 => ⟨(pa9 h0).1, (pa9 h0).2.1, by simpa using (pa9 h0).2.2⟩, fun h0 h1 => Bool.noConfusion (show true = false from h1), fun _ => ((((((((((((bz.set 0 (by decide) _).set 1 (by decide) _).set 2 (by decide) _).set 3 (by decide) _).set 4 (by decide) _).set 5 (by decide) _).set 6 (by decide) _).set 7 (by decide) _).set 8 (by decide) _).set 9 (by decide) _).set 10 (by decide) _).set 11 (by decide) _)⟩
      · rintro L T u hl ⟨A, hb, p0, p1, p2, p3, p4, p5, p6, p7, p8, pa9, bz9, bv9⟩
        simp only [fr, Act.put, List.setIfInBounds_toArray, List.set_cons_zero, List.set_cons_succ]
        have hpa := pa9 (hl 9 (by decide))
        have hbv := bv9 (hl 10 (by decide))
        clear p0 p1 p2 p3 p4 p5 p6 p7 p8 pa9 bz9 bv9 hl KC HAb nT
        rw [hpa.1]
        have hA : wr.heap.size ≤ A := hpa.2.1
        clear hpa
        have hC1 := HC.out.below hb
        have m10 : u.cell? ⟨A, 10, none⟩ = some (.bool false) := (hbv.c 10 (by decide)).1
        have mf10 := (hbv.c 10 (by decide)).2
        have mz := hbv.lt
        go_upto_region 6 with (fail)
        obtain ⟨Y, eY⟩ : ∃ Y : World, Y = u.setCell ⟨A, 10, none⟩ (.bool true) := ⟨_, rfl⟩
        have bY : Below wr.heap.size wr Y := by rw [eY]; exact hb.setCell (p := ⟨A, 10, none⟩) hA _
        have bxY : BoxN Y A 12 [.int .i64 4, .int .i64 v.me, .int .i64 Z, .int .i64 v.me, .int .i64 jn, .int .i64 0, .int .i64 0, .int .i64 0, .int .i64 0, .int .i64 0, .bool true, .int .i64 0] := by rw [eY]; exact hbv.set 10 (by decide) (.bool true)
        rw [← eY]
        clear eY m10 mf10 mz hC1 hbv hb
        have hY := HC.out.below bY
        obtain ⟨U, eU⟩ : ∃ U : World, U = (Y.alloc (.cells #[.int .i64 4, .int .i64 v.me, .int .i64 Z, .int .i64 v.me, .int .i64 jn, .int .i64 0, .int .i64 0, .int .i64 0, .int .i64 0, .int .i64 0, .bool true, .int .i64 0] 75)).drew := ⟨_, rfl⟩
        have bU : Below Y.heap.size Y U := by rw [eU]; exact ((Below.refl _ _).alloc (Nat.le_refl _) _).drew
        have hU := hY.below bU
        have hone : IsRow 12 mcells U (some ⟨Y.heap.size, 0, none⟩) 1 1 [(⟨4, v.me, Z, v.me, jn, 0, 0, 0, 0, 0, true, 0⟩ : MV)] := by
          rw [eU]
          exact St.IsRow.below (rowOne (cells := mcells) (k := 12) Y #[.int .i64 4, .int .i64 v.me, .int .i64 Z, .int .i64 v.me, .int .i64 jn, .int .i64 0, .int .i64 0, .int .i64 0, .int .i64 0, .int .i64 0, .bool true, .int .i64 0] 75 (⟨4, v.me, Z, v.me, jn, 0, 0, 0, 0, 0, true, 0⟩ : MV) rfl rfl) (Below.refl _ _).drew
        have ownU := hU.held.own.own 1 ⟨75, 12, .slice V.ma V.ml V.mc, V.ml, flat mcells V.ms⟩ rfl
        simp only [] at ownU
        have hap := hU.held.apart 1 ⟨75, 12, .slice V.ma V.ml V.mc, V.ml, flat mcells V.ms⟩ rfl
        have q2 : Y.cell? ⟨q, 2, none⟩ = some (.slice V.ma V.ml V.mc) := (hY.held.box.c 2 (by decide)).1
        have zq := hY.held.box.lt
        have zm := bxY.lt
        have hB : B ≤ U.heap.size := Nat.le_trans hY.held.le (Nat.le_of_lt (Nat.lt_of_lt_of_le zq bU.size))
        have HU : Hid (TCl w U B q V ix M) := hU
        have x0 : Y.cell? ⟨A, 0, none⟩ = some (.int .i64 4) := (bxY.c 0 (by decide)).1
        have x1 : Y.cell? ⟨A, 1, none⟩ = some (.int .i64 v.me) := (bxY.c 1 (by decide)).1
        have x2 : Y.cell? ⟨A, 2, none⟩ = some (.int .i64 Z) := (bxY.c 2 (by decide)).1
        have x3 : Y.cell? ⟨A, 3, none⟩ = some (.int .i64 v.me) := (bxY.c 3 (by decide)).1
        have x4 : Y.cell? ⟨A, 4, none⟩ = some (.int .i64 jn) := (bxY.c 4 (by decide)).1
        have x5 : Y.cell? ⟨A, 5, none⟩ = some (.int .i64 0) := (bxY.c 5 (by decide)).1
        have x6 : Y.cell? ⟨A, 6, none⟩ = some (.int .i64 0) := (bxY.c 6 (by decide)).1
        have x7 : Y.cell? ⟨A, 7, none⟩ = some (.int .i64 0) := (bxY.c 7 (by decide)).1
        have x8 : Y.cell? ⟨A, 8, none⟩ = some (.int .i64 0) := (bxY.c 8 (by decide)).1
        have x9 : Y.cell? ⟨A, 9, none⟩ = some (.int .i64 0) := (bxY.c 9 (by decide)).1
        have x10 : Y.cell? ⟨A, 10, none⟩ = some (.bool true) := (bxY.c 10 (by decide)).1
        have x11 : Y.cell? ⟨A, 11, none⟩ = some (.int .i64 0) := (bxY.c 11 (by decide)).1
        clear bxY hU hY HC bY bU
        go_region_law (rw [← eU]; refine St.step_append_row EM (by rfl) (.tmp 29) (.tmp 31) (by rfl) B (.slice V.ma V.ml V.mc) V.ml V.ms (by rfl) ownU _ 1 1 [(⟨4, v.me, Z, v.me, jn, 0, 0, 0, 0, 0, true, 0⟩ : MV)] (by rfl) hone (by unfold maxLen; omega) (by omega) hB ?_; intro a5 c5 w5 own5 gr5 at5; have bq := HU.out.held.box.grown gr5 (fun e => hap e.symm); have p2 : w5.cell? ⟨q, 2, none⟩ = some (.slice V.ma V.ml V.mc) := (bq.c 2 (by decide)).1; have pf2 := (bq.c 2 (by decide)).2; have zq5 := bq.lt)
        all_goals
          go_wp2
          go_roundw
          case rel => exact ⟨k + 1, a5, c5, by go_num, by omega, by rw [← HAt.out]; exact HU.out.msg gr5 own5 at5⟩
          case measure => simp [intOf]; omega
    · have HkN : Hid (k = al) := by show _ = _; omega
      have hlt' : ¬ (k : Int) < (al : Int) := by omega
      have h6 : ToldIs w wr B q v jn asked ix more (.returned (.tuple #[])) := by
        refine ⟨rfl, m1, k1, (⟨47, 6, .slice (some ⟨X.heap.size, 0, none⟩) 1 1, 1, [.int .i64 jn, .int .i64 st, .slice ta tl tc, .slice aa al ac, .int .i64 asks, .int .i64 age]⟩ : Rw), ?_⟩
        have h9 := HC.out
        rw [List.take_of_length_le (by rw [HkN.out, HAl.out]; exact Nat.le_refl _), HM.out] at h9
        exact h9
      clear hk hlt HC
      go_wp2
      exact bodyPost_end (v := .tuple #[]) (by simp [results, Try.results38, go_sem]) rfl h6
end Go.Proofs.Ytfhciplckjkflaa.Cd
/- The document's hands: the sites that have a hand in a job. -/
namespace Go.Proofs.Ytfhciplckjkflaa.Cd
open Go.ChangeShapes Go.WideShapes Go.ChangeAt Go.RowKit
open Go.Proofs.Ytfhciplckjkflaa.St (BoxN boxn_new own_below grown_setCell IsRow Elem flat flat_append own_isRow own_there)
open Go.Proofs.Ytfhciplckjkflaa.Co
set_option linter.unusedVariables false

theorem hand_eq {s p : Int} {ls : List (Int × Int)} (hc : cfgFault s ls p = 0) {l site : Int} {t : TkV} (hk : 0 ≤ t.key ∧ t.key ≤ 7) : handAt s ls p l site t = ((t.label == l) && (t.key.tmod s == site)) := by
  unfold handAt
  rw [(home_ok hc hk.1 hk.2).2, Int.tmod_eq_emod_of_nonneg hk.1]
theorem any_take {ts : List TkV} {f : TkV → Bool} {i : Nat} (hi : i < ts.length) : (ts.take (i + 1)).any f = ((ts.take i).any f || f (ts.getD i default)) := by
  rw [List.take_succ_eq_append_getElem hi, List.any_append]
  simp [List.getD, hi]
def HandIs (w w' : World) (zs : List Int) (e : Ending) : Prop := ∃ (a5 : Option Addr) (c5 : Nat), e = .returned (.slice a5 zs.length c5) ∧ w'.ownsRow w.heap.size 3 1 (.slice a5 zs.length c5) zs.length (flat inCell zs) ∧ Below w.heap.size w w'
set_option maxRecDepth 100000 in
set_option maxHeartbeats 8000000 in
theorem handsRef_any (s p : Int) (a : Option Addr) (len cap : Nat) (ls : List (Int × Int)) (l : Int) (j : JbV) (w : World) (hc : cfgFault s ls p = 0) (hs1 : 1 ≤ s) (hs4 : s ≤ 4) (hT : IsTasks w j.ta j.tl j.tc j.tasks) (hk7 : ∀ t ∈ j.tasks, 0 ≤ t.key ∧ t.key ≤ 7) :
    Calls Try.prog 60 #[.agg #[.int .i64 s, .slice a len cap, .int .i64 p], .int .i64 l, j.val] w fun e w' => HandIs w w' (handsOf s ls p l j.tasks) e := by
  obtain ⟨iI, EI⟩ := inElem
  obtain ⟨jn, st, ta, tl, tc, aa, al, ac, asks, age, tasks, asked⟩ := j
  simp only [JbV.val] at hT hk7 ⊢
  obtain ⟨S, rfl⟩ : ∃ S : Nat, s = (S : Int) := ⟨s.toNat, by omega⟩
  have HTl : Hid (tasks.length = tl) := hT.1
  have htm : tl ≤ maxLen := Nat.le_trans hT.2.1 hT.2.2.1
  unfold maxLen at htm
  obtain ⟨W, hW⟩ : ∃ W : World, W = (w.alloc (.cells #[.int .i64 (S : Int), .slice a len cap, .int .i64 p] 24)).alloc (.cells #[.int .i64 jn, .int .i64 st, .slice ta tl tc, .slice aa al ac, .int .i64 asks, .int .i64 age] 47) := ⟨_, rfl⟩
  have bW : Below w.heap.size w W := by rw [hW]; exact ((Below.refl _ _).alloc (Nat.le_refl _) _).alloc (by simp) _
  have b0 : BoxN W w.heap.size 3 [.int .i64 (S : Int), .slice a len cap, .int .i64 p] := by
    rw [hW]
    have h8 := boxn_new w #[.int .i64 (S : Int), .slice a len cap, .int .i64 p] 24 3 rfl
    exact h8.below ((Below.refl _ _).alloc (Nat.le_refl _) _) h8.lt
  have b1 : BoxN W (w.heap.size + 1) 6 [.int .i64 jn, .int .i64 st, .slice ta tl tc, .slice aa al ac, .int .i64 asks, .int .i64 age] := by
    rw [hW]
    have h8 := boxn_new (w.alloc (.cells #[.int .i64 (S : Int), .slice a len cap, .int .i64 p] 24)) #[.int .i64 jn, .int .i64 st, .slice ta tl tc, .slice aa al ac, .int .i64 asks, .int .i64 age] 47 6 rfl
    simpa using h8
  have KB : Hid (∀ U, Below W.heap.size W U → (U.cell? ⟨w.heap.size, 0, none⟩ = some (.int .i64 (S : Int)) ∧ w.heap.size < U.heap.size) ∧ (U.cell? ⟨w.heap.size + 1, 2, none⟩ = some (.slice ta tl tc) ∧ w.heap.size + 1 < U.heap.size) ∧ IsTasks U ta tl tc tasks ∧ Below w.heap.size w U) := fun U hU => by
    have h1 := b0.below hU b0.lt
    have h2 := b1.below hU b1.lt
    have h3 := bW.trans (hU.mono bW.size)
    exact ⟨⟨(h1.c 0 (by decide)).1, h1.lt⟩, ⟨(h2.c 2 (by decide)).1, h2.lt⟩, hT.below h3, h3⟩
  have HHa : Hid (∀ (k i : Nat), i < tl → handAt (S : Int) ls p l (k : Int) (tasks.getD i default) = (((tasks.getD i default).label == l) && ((tasks.getD i default).key.tmod (S : Int) == (k : Int)))) := fun k i hi => hand_eq hc (hk7 _ (Co.mem_at (by rw [HTl.out]; exact hi)))
  have HSu : Hid (∀ k : Nat, handsTo (S : Int) ls p l tasks (k + 1) = handsTo (S : Int) ls p l tasks k ++ if tasks.any (handAt (S : Int) ls p l (k : Int)) = true then [(k : Int)] else []) := fun k => handsTo_succ _ _ _ _ _ k
  have HLe : Hid (∀ k : Nat, (handsTo (S : Int) ls p l tasks k).length ≤ k) := fun k => handsTo_len _ _ _ _ _ k
  have HEnd : Hid (handsOf (S : Int) ls p l tasks = handsTo (S : Int) ls p l tasks S) := by show _ = _; unfold handsOf; simp
  obtain ⟨FH, eFH⟩ : ∃ FH : Nat → List Int, FH = fun k : Nat => handsTo (S : Int) ls p l tasks k := ⟨_, rfl⟩
  obtain ⟨FA, eFA⟩ : ∃ FA : Nat → TkV → Bool, FA = fun k : Nat => handAt (S : Int) ls p l (k : Int) := ⟨_, rfl⟩
  have HSu2 : Hid (∀ k : Nat, FH (k + 1) = FH k ++ if tasks.any (FA k) = true then [(k : Int)] else []) := fun k => by rw [eFH, eFA]; exact HSu.out k
  have HLe2 : Hid (∀ k : Nat, (FH k).length ≤ k) := fun k => by rw [eFH]; exact HLe.out k
  have HHa2 : Hid (∀ (k i : Nat), i < tl → FA k (tasks.getD i default) = (((tasks.getD i default).label == l) && ((tasks.getD i default).key.tmod (S : Int) == (k : Int)))) := fun k i hi => by rw [eFA]; exact HHa.out k i hi
  have HEnd2 : Hid (handsOf (S : Int) ls p l tasks = FH S) := by show _ = _; rw [eFH]; exact HEnd.out
  have HF0 : Hid (FH 0 = []) := by show _ = _; rw [eFH]; rfl
  have hbW := bW.size
  have hS4 : S ≤ 4 := by omega
  have hS1 : 1 ≤ S := by omega
  clear eFH eFA HSu HLe HHa HEnd hT hk7 b0 b1 hc bW
  go_enter Try.func60, Try.ntmps60
  go_upto_region 3 with (fail)
  rw [← hW]
  clear hW
  go_loopw [7, 8] (fun s7 s8 wr => ∃ (k : Nat) (a5 : Option Addr) (c5 m : Nat), s8 = .int .i64 (k : Int) ∧ k ≤ S ∧ s7 = .slice a5 m c5 ∧ m ≤ k ∧ Hid (m = (FH k).length) ∧ Hid (wr.ownsRow W.heap.size 3 1 (.slice a5 m c5) m (flat inCell (FH k))) ∧ Hid (Below W.heap.size W wr)) (fun _ s8 _ => S - (intOf s8).toNat)
  case atStart => exact ⟨0, none, 0, 0, rfl, Nat.zero_le _, rfl, Nat.le_refl _, (show 0 = (FH 0).length by rw [HF0.out]; rfl), (show W.ownsRow W.heap.size 3 1 (.slice none 0 0) 0 (flat inCell (FH 0)) by rw [HF0.out]; exact World.ownsRow_nil _ _ _ _), Below.refl _ _⟩
  case round =>
    obtain ⟨k, a5, c5, m, rfl, hk, rfl, hmk, HM, HO, HB⟩ := hrel
    obtain ⟨⟨y0, zy⟩, ⟨y2, zy2⟩, -, hbw⟩ := KB.out wr HB.out
    by_cases hlt : k < S
    · have hlt' : (k : Int) < (S : Int) := by omega
      have hk1 : IntKind.i64.wrap ((k : Int) + 1) = (k : Int) + 1 := by rw [IntKind.wrap_i64]; omega
      rename World => wo
      go_upto_region 7 with (fail)
      clear y0 zy y2 zy2
      go_loopw [9, 10] (fun s9 s10 wi => ∃ i : Nat, s10 = .int .i64 (i : Int) ∧ i ≤ tl ∧ s9 = .bool ((tasks.take i).any (FA k)) ∧ Hid (Below wo.heap.size wo wi)) (fun _ s10 _ => tl - (intOf s10).toNat)
      case atStart => exact ⟨0, rfl, Nat.zero_le _, rfl, Below.refl _ _⟩
      case round =>
        obtain ⟨i, rfl, hi, rfl, HI⟩ := hrel
        have hbi : Below W.heap.size W wr := HB.out.trans (HI.out.mono HB.out.size)
        obtain ⟨⟨y0, zy⟩, ⟨y2, zy2⟩, hTk, hbw2⟩ := KB.out wr hbi
        obtain ⟨T, eT⟩ : ∃ T, T = (tasks.take i).any (FA k) := ⟨_, rfl⟩
        have HT : Hid (T = (tasks.take i).any (FA k)) := eT
        rw [← eT]
        clear eT
        by_cases hil : i < tl
        · have hil' : (i : Int) < (tl : Int) := by omega
          have hi1 : IntKind.i64.wrap ((i : Int) + 1) = (i : Int) + 1 := by rw [IntKind.wrap_i64]; omega
          have hitc : i < tc := Nat.lt_of_lt_of_le hil hTk.2.1
          obtain ⟨b, off, rfl, zb, hcr⟩ := hTk.2.2.2.2 (by omega)
          have hcl := hcr i hil
          have HNx : Hid ((tasks.take (i + 1)).any (FA k) = (T || (((tasks.getD i default).label == l) && ((tasks.getD i default).key.tmod (S : Int) == (k : Int))))) := by show _ = _; rw [any_take (by rw [HTl.out]; exact hil), HHa2.out k i hil, HT.out]
          obtain ⟨t, et⟩ : ∃ t, t = tasks.getD i default := ⟨_, rfl⟩
          rw [← et] at hcl HNx
          clear et hcr hTk HT
          obtain ⟨twr, tlb, tky, tvl, tvr, tak, tdn, tsr⟩ := t
          have t1 := hcl 1 (by decide)
          have t2 := hcl 2 (by decide)
          simp only [TkV.cells, List.getElem?_cons_zero, List.getElem?_cons_succ] at t1 t2 HNx
          obtain ⟨R, eR⟩ : ∃ R, R = tky.tmod (S : Int) := ⟨_, rfl⟩
          have hrem : Int.tmod tky (S : Int) = R := eR.symm
          rw [← eR] at HNx
          clear eR hcl
          have hS0 : ((S : Int) == 0) = false := beq_eq_false_iff_ne.2 (by omega)
          cases T with
          | true =>
            have HN2 : Hid ((tasks.take (i + 1)).any (FA k) = true) := by show _ = _; rw [HNx.out]; rfl
            clear HNx
            go_upto_region 9 with (fail)
            go_quiet (fail)
            clear t1 t2 y0 y2 zb zy zy2
            go_wp2
            go_roundw
            case rel => exact ⟨i + 1, by go_num, by omega, by rw [HN2.out], below_drewN HI.out nq⟩
            case measure => simp [intOf]; omega
          | false =>
            by_cases hlb : tlb = l
            · subst hlb
              by_cases hkk : R = (k : Int)
              · have HN2 : Hid ((tasks.take (i + 1)).any (FA k) = true) := by show _ = _; rw [HNx.out, hkk]; simp
                clear HNx
                subst hkk
                go_upto_region 9 with (fail)
                go_quiet (fail)
                clear t1 t2 y0 y2 zb zy zy2
                go_wp2
                go_roundw
                case rel => exact ⟨i + 1, by go_num, by omega, by rw [HN2.out], below_drewN HI.out nq⟩
                case measure => simp [intOf]; omega
              · have hkk' : (R == (k : Int)) = false := beq_eq_false_iff_ne.2 hkk
                have HN2 : Hid ((tasks.take (i + 1)).any (FA k) = false) := by show _ = _; rw [HNx.out, hkk']; simp
                clear HNx
                go_upto_region 9 with (fail)
                go_quiet (fail)
                clear t1 t2 y0 y2 zb zy zy2
                go_wp2
                go_roundw
                case rel => exact ⟨i + 1, by go_num, by omega, by rw [HN2.out], below_drewN HI.out nq⟩
                case measure => simp [intOf]; omega
            · have hlb' : (tlb == l) = false := beq_eq_false_iff_ne.2 hlb
              have HN2 : Hid ((tasks.take (i + 1)).any (FA k) = false) := by show _ = _; rw [HNx.out, hlb']; simp
              clear HNx
              go_upto_region 9 with (fail)
              go_quiet (fail)
              clear t1 t2 y0 y2 zb zy zy2
              go_wp2
              go_roundw
              case rel => exact ⟨i + 1, by go_num, by omega, by rw [HN2.out], below_drewN HI.out nq⟩
              case measure => simp [intOf]; omega
        · have hil' : ¬ (i : Int) < (tl : Int) := by omega
          have HT2 : Hid (T = tasks.any (FA k)) := by show _ = _; rw [HT.out, List.take_of_length_le (by rw [HTl.out]; omega)]
          have hO1 := own_below HO.out HI.out
          clear HT hTk
          cases T with
          | true =>
            have HF : Hid (FH (k + 1) = FH k ++ [(k : Int)]) := by show _ = _; rw [HSu2.out, ← HT2.out]; rfl
            have HL : Hid ((FH k).length = m) := HM.out.symm
            have HFn : Hid (∀ (w5 : World), (wr.alloc (.cells #[.int .i64 (k : Int)] 3)).grownBy w5 (Value.slice a5 m c5).ownBlock → Below W.heap.size W w5) := fun w5 h8 => by
              have b1 : Below W.heap.size W (wr.alloc (.cells #[.int .i64 (k : Int)] 3)) := hbi.alloc hbi.size _
              exact b1.grown h8 b1.size (fun g hg => (hO1.lt g hg).1)
            obtain ⟨us, eus⟩ : ∃ us, us = FH k := ⟨_, rfl⟩
            rw [← eus] at hO1 HF HL
            have hz1 : W.heap.size ≤ wr.heap.size := hbi.size
            clear eus HT2
            go_wp2_with (at_builtin; go_loud (refine St.wpList_append_row EI (by rfl) _ _ (by rfl) W.heap.size (.slice a5 m c5) m us (by rfl) (own_below hO1 ((Below.refl _ _).alloc (Nat.le_refl _) _)) _ 1 1 [(k : Int)] (by rfl) (in1 wr (k : Int) _ rfl) (by unfold maxLen; omega) (by omega) (by simp; omega) ?_; intro a6 c6 w5 own5 gr5 at5; have HF5 : Hid (Below W.heap.size W w5) := HFn.out w5 gr5))
            go_roundw
            case rel => exact ⟨k + 1, a6, c6, m + 1, by go_num, by omega, rfl, by omega, by show _ = _; rw [HF.out, List.length_append, HL.out]; rfl, by show World.ownsRow _ _ _ _ _ _ _; rw [HF.out]; exact own5, HF5⟩
            case measure => simp [intOf]; omega
          | false =>
            have HF : Hid (FH (k + 1) = FH k) := by show _ = _; rw [HSu2.out, ← HT2.out]; simp
            have HO2 : Hid (wr.ownsRow W.heap.size 3 1 (.slice a5 m c5) m (flat inCell (FH (k + 1)))) := by show World.ownsRow _ _ _ _ _ _ _; rw [HF.out]; exact hO1
            clear HT2 hO1
            go_wp2
            go_roundw
            case rel => exact ⟨k + 1, a5, c5, m, by go_num, by omega, rfl, by omega, by show _ = _; rw [HF.out]; exact HM.out, HO2, hbi⟩
            case measure => simp [intOf]; omega
    · obtain rfl : k = S := by omega
      have hnl : ¬ ((k : Int) < (k : Int)) := by omega
      have HR : Hid (HandIs w wr (handsOf (k : Int) ls p l tasks) (.returned (.slice a5 m c5))) := by
        show HandIs _ _ _ _
        rw [HEnd2.out]
        refine ⟨a5, c5, by rw [← HM.out], ?_, hbw⟩
        have h9 := Co.own_base HO.out hbW
        rw [HM.out] at h9
        exact h9
      clear HO HM
      go_wp2
      go_ret
      exact HR.out
end Go.Proofs.Ytfhciplckjkflaa.Cd
/- An append of a row as an operation of a drawn region that goes by an invariant. -/
namespace Go.Proofs.Ytfhciplckjkflaa.St
open Go.ChangeShapes Go.WideShapes Go.ChangeAt Go.RowKit
set_option linter.unusedVariables false

theorem wpv_append_row {α : Type} [Inhabited α] {k : Nat} {cells : α → List Value} {te tsl : TypeId} {i : TypeInfo} {z : Value} {bytes : Nat} (E : Elem k cells te tsl i z bytes) {w : World} {o : Oper} {A : Act} {K : Value → World → Prop} {Q : Exit → Act → World → Prop} (s x : Operand)
    (ho : o.op = .call { callee := .builtin .append, args := #[s, x], argTypes := #[tsl, tsl] })
    (B : Nat) (v : Value) (n : Nat) (xs : List α) (hs : A.eval s = v) (hown : w.ownsRow B te k v n (flat cells xs))
    (a : Option Addr) (len cap : Nat) (bs : List α) (hx : A.eval x = .slice a len cap) (hb : IsRow k cells w a len cap bs) (h63 : n + len ≤ maxLen) (hby : (n + len) * bytes ≤ 140737488355328) (hbase : B ≤ w.heap.size)
    (h : ∀ a' cap' w', w'.ownsRow B te k (.slice a' (n + len) cap') (n + len) (flat cells (xs ++ bs)) → w.grownBy w' v.ownBlock → ((Value.slice a' (n + len) cap').ownBlock = v.ownBlock ∨ (Value.slice a' (n + len) cap').ownBlock = some w.heap.size) → K (.slice a' (n + len) cap') w') :
    Oper.wpv Try.prog o A w K Q := by
  obtain ⟨a', cap', w', hr, h2, h3, h4⟩ := run_append_row E (w := w) o.type B v n xs hown a len cap bs hb h63 hby hbase
  unfold Oper.wpv execOp
  simp only [ho, resolve, invoke, builtin, Sem.run_bind, Sem.run_pure, Result.andThen_ok, List.map_toArray, List.map_cons, List.map_nil, hs, hx, hr]
  exact h a' cap' w' h2 h3 h4
end Go.Proofs.Ytfhciplckjkflaa.St
