/- Texts of this claim, one behind the other. -/
import Derived.Test.YtfhciplckjkflaaM24CoordTicks
import Derived.Test.YtfhciplckjkflaaM12CoordTicks
import Derived.Lib.QuietBelow
import Derived.Test.YtfhciplckjkflaaM13CoordTicks
/- The clerk's answered: the task that waits is done, or refused; a job of which a write is refused cannot go on. -/
namespace Go.Proofs.Ytfhciplckjkflaa.Co
open Go.ChangeShapes Go.WideShapes Go.ChangeAt Go.RowKit
open Go.Proofs.Ytfhciplckjkflaa.St (BoxN boxn_new own_below grown_setCell IsRow Elem flat flat_append own_isRow idxI idxI_lt)
set_option linter.unusedVariables false

def lastT (j : JbV) : TkV := j.tasks.getD (j.tasks.length - 1) default
def ansTask (t : TkV) (m : MV) : TkV := { t with done := true, value := if t.write = true then t.value else m.value, version := if t.write = true then t.version else m.version }
def Tn.answered (t : Tn) (C : Cx) (i : Nat) (m : MV) : Tn :=
  if (waitB (t.js.getD i default) && ansB (C.home (lastT (t.js.getD i default)).key) m (lastT (t.js.getD i default))) = true then
    (if m.code = 0 then { t.rep C (callKind (lastT (t.js.getD i default))) (t.js.getD i default).n m.key m.value m.code with js := t.js.set i { t.js.getD i default with age := 0, tasks := (t.js.getD i default).tasks.set ((t.js.getD i default).tasks.length - 1) (ansTask (lastT (t.js.getD i default)) m) } }
    else if (lastT (t.js.getD i default)).write = true then Tn.ended { t.rep C (callKind (lastT (t.js.getD i default))) (t.js.getD i default).n m.key m.value m.code with js := t.js.set i { t.js.getD i default with age := 0 } } C (t.js.getD i default).n (t.js.getD i default).tasks
    else { t.rep C (callKind (lastT (t.js.getD i default))) (t.js.getD i default).n m.key m.value m.code with js := t.js.set i { t.js.getD i default with age := 0, tasks := (t.js.getD i default).tasks.take ((t.js.getD i default).tasks.length - 1) } })
  else t
theorem rowAt {v : CkV} {more : List Rw} {w U : World} {B q : Nat} {u : CkV} {iy : List (Nat × Nat)} {m' : List Rw} (h : Clerk w U B q u iy m') {k : Nat} {r : Rw} (e : m'[k]? = some r) : U.ownsRow B r.te r.k r.v r.n r.xs := h.held.own.own _ _ (more_get e)
theorem tn_j6 (v : CkV) (ls : List (Int × Int)) (pa : Option Addr) (pc : Nat) (ck jn key value code : Int) (i : Nat) (J : JbV) : ({ refusedV v pa pc ⟨v.me, ck, jn, key, value, code⟩ with js := v.js.set i J } : CkV).tn = { v.tn.rep (v.cx ls) ck jn key value code with js := v.tn.js.set i J.bare } := by
  unfold CkV.tn refusedV Tn.rep
  simp only [set_bare]
  rfl
theorem row_box {U : World} {B : Nat} {t : TypeId} {k g : Nat} {vs : List Value} (ob : U.ownsRow B t k (.slice (some ⟨g, 0, none⟩) 1 1) 1 vs) (hl : vs.length = k) (h0 : 0 < k) : BoxN U g k vs := by
  refine ⟨hl, (own_at ob (j := 0) (by omega)).2, fun c hc => ⟨?_, (St.own_there ob (k := c) (by omega)).2⟩⟩
  rw [(own_at ob (j := c) (by omega)).1]
  simp [List.getD, show c < vs.length by omega]
end Go.Proofs.Ytfhciplckjkflaa.Co
/- slices.IndexFunc, DeleteFunc, Index and Contains over numbers. -/
namespace Go.Proofs.Ytfhciplckjkflaa.Co
open Go.ChangeShapes Go.WideShapes Go.ChangeAt Go.RowKit
open Go.Proofs.Ytfhciplckjkflaa.St
set_option linter.unusedVariables false
def inVal (n : Int) : Value := .int .i64 n
theorem run_clear_int (w : World) (ty : TypeId) (b o m c : Nat) (h0 : 0 < m) (hc : ∀ j, j < m * 1 → (w.cell? ⟨b, o + j, none⟩).isSome = true ∧ w.frozen? ⟨b, o + j, none⟩ = false) :
    (Builtin.zeroCells (Value.cells (.int .i64 0)) m).toList.length = m * 1 ∧ (Builtin.clear_ #[45] ty #[.slice (some ⟨b, o, none⟩) m c]).run Try.prog w = .ok (.tuple #[]) (w.setCells b o (Builtin.zeroCells (Value.cells (.int .i64 0)) m).toList) := by
  have hv : ∀ w, (zeroValue 3).run Try.prog w = .ok (.int .i64 0) w := fun w => by
    exact Try.zeroValue3 w
  have hl : (Builtin.zeroCells (Value.cells (.int .i64 0)) m).toList.length = m * 1 := by
    rw [Array.length_toList, size_zeroCells]
    rfl
  refine ⟨hl, ?_⟩
  have hst := run_storeCells_cells (P := Try.prog) b o (Builtin.zeroCells (Value.cells (.int .i64 0)) m).toList 0 w (fun j hj => (hc j (by rw [hl] at hj; exact hj)).1) (fun j hj => (hc j (by rw [hl] at hj; exact hj)).2) (by
    intro v hv'
    have := mem_zeroCells hv'
    simp [Value.cells] at this
    subst this; rfl)
  simp only [Nat.add_zero] at hst
  obtain ⟨q, rfl⟩ : ∃ q, m = q + 1 := ⟨m - 1, by omega⟩
  simp [Builtin.clear_, run_underlying Try.underlying45, hv, hst]


end Go.Proofs.Ytfhciplckjkflaa.Co
/- The clerk's ack and doubts. -/
namespace Go.Proofs.Ytfhciplckjkflaa.Co
open Go.ChangeShapes Go.WideShapes Go.ChangeAt Go.RowKit
open Go.Proofs.Ytfhciplckjkflaa.St (BoxN boxn_new own_below grown_setCell IsRow Elem flat flat_append own_isRow idxI idxI_lt)
set_option linter.unusedVariables false

/-- A job's Asked in its own row, changed. -/
theorem Clerk.askRow {w X X' : World} {B q : Nat} {v : CkV} {ix : List (Nat × Nat)} {more : List Rw} (h : Clerk w X B q v ix more) {i g : Nat} (hi : i < v.jl) (eg : v.ja = some ⟨g, 0, none⟩) {aa : Option Addr} {al ac : Nat} {zs : List Int} (hg : X.grownBy X' (Value.slice (v.js.getD i default).aa (v.js.getD i default).al (v.js.getD i default).ac).ownBlock) (ho : X'.ownsRow B 3 1 (.slice aa al ac) al (flat inCell zs)) (hat : (Value.slice aa al ac).ownBlock = (Value.slice (v.js.getD i default).aa (v.js.getD i default).al (v.js.getD i default).ac).ownBlock ∨ (Value.slice aa al ac).ownBlock = some X.heap.size) :
    ∃ (k : Nat) (r : Rw), (∃ y, ix[i]? = some (y, k)) ∧ Clerk w (X'.setCell ⟨g, i * 6 + 3, none⟩ (.slice aa al ac)) B q { v with js := v.js.set i (askedJob (v.js.getD i default) aa al ac zs) } ix (more.set k r) := by
  have hl := h.lens.1
  have hi' : i < v.js.length := by omega
  obtain ⟨x, ex, e1, e2⟩ := h.jobs.at hi'
  have h1 := h.held.grow (i := 4 + x.2) (r' := siteRow aa al ac zs) (more_get e2) hg ho hat
  have hx2 : x.2 < more.length := (List.getElem?_eq_some_iff.1 e2).1
  have er : (v.rows ++ more).set (4 + x.2) (siteRow aa al ac zs) = v.rows ++ more.set x.2 (siteRow aa al ac zs) := by
    rw [List.set_append_right _ _ (by simp [CkV.rows])]
    congr 2
    simp [CkV.rows]
  rw [er] at h1
  have e0 : (v.rows ++ more.set x.2 (siteRow aa al ac zs))[0]? = some ⟨47, 6, .slice (some ⟨g, 0, none⟩) v.jl v.jc, v.jl, flat JbV.cells v.js⟩ := by rw [← eg]; rfl
  have h2 := h1.cell e0 (j := i * 6 + 3) (by omega) (.slice aa al ac)
  rw [← flat_set6 v.js i (askedJob (v.js.getD i default) aa al ac zs) 3 (.slice aa al ac) hi' (by decide) rfl] at h2
  refine ⟨x.2, siteRow aa al ac zs, ⟨x.1, ex⟩, ?_, ?_, by simpa using hl, h.lens.2.1, h.lens.2.2.1, h.lens.2.2.2⟩
  · have er2 : ({ v with js := v.js.set i (askedJob (v.js.getD i default) aa al ac zs) } : CkV).rows ++ more.set x.2 (siteRow aa al ac zs) = (v.rows ++ more.set x.2 (siteRow aa al ac zs)).set 0 ⟨47, 6, .slice (some ⟨g, 0, none⟩) v.jl v.jc, v.jl, flat JbV.cells (v.js.set i (askedJob (v.js.getD i default) aa al ac zs))⟩ := by rw [← eg]; rfl
    rw [er2]
    exact h2
  · obtain ⟨g1, g2, g3, g4⟩ := h.jobs
    have eo : v.js[i]? = some (v.js.getD i default) := by simp [List.getD, hi']
    refine ⟨by simpa using g1, fun k jj y ejj ey => ?_, g3, g4⟩
    rcases set_get eo ejj with ⟨rfl, rfl⟩ | ⟨hk, ejj2⟩
    · rw [ex] at ey
      obtain rfl := Option.some.inj ey
      refine ⟨?_, ?_⟩
      · rw [List.getElem?_set_ne (fun e => g4 _ _ ex e.symm)]; exact e1
      · rw [List.getElem?_set_self hx2]; rfl
    · have ap := g3 i k x y ex ey (fun e => hk e.symm)
      have := g2 k jj y ejj2 ey
      refine ⟨?_, ?_⟩
      · rw [List.getElem?_set_ne ap.2.2.1]; exact this.1
      · rw [List.getElem?_set_ne ap.2.2.2]; exact this.2
def Tn.acked (t : Tn) (i : Nat) (m : MV) : Tn :=
  if (t.js.getD i default).state = 3 then
    (if keep (fun y => y == m.frm) (t.js.getD i default).asked = [] then { t with rs := t.rs ++ [⟨4, m.site, m.num, 0, 0, 0, false, none, 0, 0, []⟩], js := kept (t.js.getD i default).n (t.js.set i { t.js.getD i default with asked := [] }) }
    else { t with js := t.js.set i { t.js.getD i default with asked := keep (fun y => y == m.frm) (t.js.getD i default).asked } })
  else t
end Go.Proofs.Ytfhciplckjkflaa.Co
