/- Texts of this claim, one behind the other. -/
import Derived.Test.YtfhciplckjkflaaM23CoordTicks
import Derived.Lib.QuietBelow
import Derived.BigQuiet
/- A turn that lives on: its lists are rows of its own, whatever is made besides. -/
namespace Go.Proofs.Ytfhciplckjkflaa.Co
open Go.ChangeShapes Go.WideShapes Go.ChangeAt Go.RowKit
open Go.Proofs.Ytfhciplckjkflaa.St (BoxN boxn_new own_below grown_setCell IsRow Elem flat flat_append own_isRow idxI idxI_lt)
set_option linter.unusedVariables false

instance : Inhabited CkV := ⟨⟨0, none, 0, 0, 0, 0, 0, 0, none, 0, 0, none, 0, 0, none, 0, 0, none, 0, 0, 0, 0, [], [], [], []⟩⟩
structure Live (B : Nat) (u : World) (v : CkV) (ix : List (Nat × Nat)) (more : List Rw) (t : Tn) : Prop where
  own : Own u B (v.rows ++ more)
  jobs : JobsIn v.js ix more
  recs : RecsIn v.rs more
  lens : v.js.length = v.jl ∧ v.ms.length = v.ml ∧ v.rs.length = v.rl ∧ v.ps.length = v.pl
  tn : v.tn = t
variable {B : Nat} {u : World} {v : CkV} {ix : List (Nat × Nat)} {more : List Rw} {t : Tn}
theorem Live.below {u' : World} (h : Live B u v ix more t) (hb : Below u.heap.size u u') : Live B u' v ix more t := ⟨h.own.below hb, h.jobs, h.recs, h.lens, h.tn⟩
theorem Live.base {C : Nat} (h : Live C u v ix more t) (hb : B ≤ C) : Live B u v ix more t := ⟨h.own.base hb, h.jobs, h.recs, h.lens, h.tn⟩
def Far (r : Nat) (rows : List Rw) : Prop := ∀ (i : Nat) (s : Rw), rows[i]? = some s → s.v.ownBlock ≠ some r
theorem Live.aside (h : Live B u v ix more t) {r : Nat} (hr : Far r (v.rows ++ more)) (j : Nat) (x : Value) : Live B (u.setCell ⟨r, j, none⟩ x) v ix more t := ⟨h.own.aside hr j x, h.jobs, h.recs, h.lens, h.tn⟩
theorem Live.aside7 (h : Live B u v ix more t) {r : Nat} (hr : Far r (v.rows ++ more)) (a b c d e f g : Value) : Live B (set7 u r a b c d e f g) v ix more t := ((((((h.aside hr 0 a).aside hr 1 b).aside hr 2 c).aside hr 3 d).aside hr 4 e).aside hr 5 f).aside hr 6 g
theorem Live.farNew (h : Live B u v ix more t) : Far u.heap.size (v.rows ++ more) := fun i s e e2 => Nat.lt_irrefl _ ((h.own.own i s e).lt _ e2).2
theorem Live.farOld (h : Live B u v ix more t) {r : Nat} (hr : r < B) : Far r (v.rows ++ more) := fun i s e e2 => by
  have := ((h.own.own i s e).lt _ e2).1
  omega
theorem turn_live {w w' : World} {tv : Value} {t : Tn} (h : TurnIs w w' tv t) : ∃ (v : CkV) (ix : List (Nat × Nat)) (more : List Rw), tv = v.turn ∧ Live w.heap.size w' v ix more t ∧ Below w.heap.size w w' := by
  obtain ⟨v, ix, more, e, h1, h2⟩ := h
  exact ⟨v, ix, more, e, ⟨h1.own, h1.jobs, h1.recs, h1.lens, h2⟩, h1.bel⟩
theorem Live.isJobs (h : Live B u v ix more t) : IsJobs u v.ja v.jl v.jc v.js := by
  have o0 := h.own.own 0 ⟨47, 6, .slice v.ja v.jl v.jc, v.jl, flat JbV.cells v.js⟩ rfl
  refine ⟨(own_isRow jb_len o0 h.lens.1).1, fun j hj => ?_⟩
  obtain ⟨i, hi, rfl⟩ := List.getElem_of_mem hj
  obtain ⟨x, ex, e1, e2⟩ := h.jobs.at hi
  have e3 : v.js.getD i default = v.js[i] := by simp [List.getD, hi]
  rw [e3] at e1 e2
  have o1 := h.own.own _ _ (more_get e1)
  have o2 := h.own.own _ _ (more_get e2)
  exact ⟨(own_isRow tk_len o1 (own_count tk_len (by decide) o1)).1, (own_isRow in_len o2 (own_count in_len (by decide) o2)).1⟩
theorem Live.msgs (h : Live B u v ix more t) : IsRow 12 mcells u v.ma v.ml v.mc v.ms := (own_isRow mcells_len (h.own.own 1 ⟨75, 12, .slice v.ma v.ml v.mc, v.ml, flat mcells v.ms⟩ rfl) h.lens.2.1).1
theorem Live.rcds (h : Live B u v ix more t) : IsRow 8 RcV.cells u v.ra v.rl v.rc v.rs := (own_isRow rc_len (h.own.own 2 ⟨69, 8, .slice v.ra v.rl v.rc, v.rl, flat RcV.cells v.rs⟩ rfl) h.lens.2.2.1).1
theorem Live.reps (h : Live B u v ix more t) : IsRow 6 RpV.cells u v.pa v.pl v.pc v.ps := (own_isRow rp_len (h.own.own 3 ⟨62, 6, .slice v.pa v.pl v.pc, v.pl, flat RpV.cells v.ps⟩ rfl) h.lens.2.2.2).1
theorem Live.ps (h : Live B u v ix more t) : v.ps = t.ps ∧ v.pl = t.ps.length := by
  have e : v.ps = t.ps := congrArg Tn.ps h.tn
  exact ⟨e, by rw [← e, h.lens.2.2.2]⟩
theorem Live.ms (h : Live B u v ix more t) : v.ms = t.ms ∧ v.ml = t.ms.length := by
  have e : v.ms = t.ms := congrArg Tn.ms h.tn
  exact ⟨e, by rw [← e, h.lens.2.1]⟩
theorem Live.rs (h : Live B u v ix more t) : v.rs.map RcV.bare = t.rs ∧ v.rl = t.rs.length := by
  have e : v.rs.map RcV.bare = t.rs := congrArg Tn.rs h.tn
  exact ⟨e, by rw [← e, List.length_map, h.lens.2.2.1]⟩
theorem Live.js (h : Live B u v ix more t) : v.js.map JbV.bare = t.js ∧ v.jl = t.js.length := by
  have e : v.js.map JbV.bare = t.js := congrArg Tn.js h.tn
  exact ⟨e, by rw [← e, List.length_map, h.lens.1]⟩
theorem Live.nums (h : Live B u v ix more t) : v.next = t.next ∧ v.sure = t.sure ∧ v.com = t.com := ⟨congrArg Tn.next h.tn, congrArg Tn.sure h.tn, congrArg Tn.com h.tn⟩
/- What is refused hangs on plain data alone. -/
theorem jbs_bare (s nl next : Int) : ∀ (js : List JbV) (low : Int), jbsGo s nl next low (js.map JbV.bare) = jbsGo s nl next low js
  | [], _ => rfl
  | j :: l, low => by
    simp only [List.map_cons, jbsGo]
    rw [jbs_bare s nl next l]
    rfl
theorem rf_bare (s : Int) (ls : List (Int × Int)) (p l me next : Int) (js : List JbV) : rfErr s ls p l me next (js.map JbV.bare) = rfErr s ls p l me next js := by
  unfold rfErr dkErr jbsOK
  rw [jbs_bare, List.length_map]
theorem cl_bare (C : Cx) (next : Int) (js : List JbV) (kind : Int) : clErr C next (js.map JbV.bare) kind = clErr C next js kind := by
  unfold clErr
  rw [rf_bare]
theorem tn0_bare (next : Int) (js : List JbV) : tn0 next (js.map JbV.bare) = tn0 next js := by
  unfold tn0
  rw [List.map_map]
  rfl
theorem ans_bare (C : Cx) (next : Int) (js : List JbV) (room : Int) (x : ClV) : CallAns C next (js.map JbV.bare) room x = CallAns C next js room x := by
  unfold CallAns
  rw [cl_bare, tn0_bare]
/-- Call once more, at a desk that a turn told. -/
theorem call_live (s p : Int) (a : Option Addr) (len cap : Nat) (ls : List (Int × Int)) (l me : Int) (room : Int) (x : ClV) (w : World) (hl : IsLabs w a len cap ls) (h : Live B w v ix more t) :
    Calls Try.prog 6 #[.agg #[.int .i64 s, .slice a len cap, .int .i64 p], .int .i64 l, .int .i64 me, .agg #[.int .i64 v.next, .slice v.ja v.jl v.jc], .int .i64 room, x.val] w fun e w' => ∃ (v' : CkV) (ix' : List (Nat × Nat)) (more' : List Rw), e = .returned (.tuple #[v'.turn, .int .i64 (clErr ⟨s, ls, p, l, me⟩ t.next t.js x.kind)]) ∧ Live w.heap.size w' v' ix' more' (CallAns ⟨s, ls, p, l, me⟩ t.next t.js room x) ∧ Below w.heap.size w w' := by
  refine (call_any s p a len cap ls l me v.next v.ja v.jl v.jc v.js room x w hl h.isJobs).mono ?_
  rintro e w' ⟨tv, rfl, hT⟩
  obtain ⟨v', ix', more', rfl, h1, h2⟩ := turn_live hT
  refine ⟨v', ix', more', ?_, ?_, h2⟩
  · rw [← h.nums.1, ← h.js.1, cl_bare]
  · rw [← h.nums.1, ← h.js.1, ans_bare]; exact h1
theorem call_new (s p : Int) (a : Option Addr) (len cap : Nat) (ls : List (Int × Int)) (l me next : Int) (room : Int) (x : ClV) (w : World) (hl : IsLabs w a len cap ls) :
    Calls Try.prog 6 #[.agg #[.int .i64 s, .slice a len cap, .int .i64 p], .int .i64 l, .int .i64 me, .agg #[.int .i64 next, .slice none 0 0], .int .i64 room, x.val] w fun e w' => ∃ (v' : CkV) (ix' : List (Nat × Nat)) (more' : List Rw), e = .returned (.tuple #[v'.turn, .int .i64 (clErr ⟨s, ls, p, l, me⟩ next [] x.kind)]) ∧ Live w.heap.size w' v' ix' more' (CallAns ⟨s, ls, p, l, me⟩ next [] room x) ∧ Below w.heap.size w w' := by
  have hj : IsJobs w none 0 0 [] := ⟨St.isRow_nil _ _ _, fun j hj => by cases hj⟩
  refine (call_any s p a len cap ls l me next none 0 0 [] room x w hl hj).mono ?_
  rintro e w' ⟨tv, rfl, hT⟩
  obtain ⟨v', ix', more', rfl, h1, h2⟩ := turn_live hT
  exact ⟨v', ix', more', rfl, h1, h2⟩
/-- A turn's value, with its numbers written out. -/
def turnOf (v : CkV) (nx : Int) (jl ml rl pl : Nat) (su co : Int) : Value := .agg #[.int .i64 nx, .slice v.ja jl v.jc, .slice v.ma ml v.mc, .slice v.ra rl v.rc, .slice v.pa pl v.pc, .int .i64 su, .int .i64 co]
theorem Live.turn (h : Live B u v ix more t) {nx : Int} {jl ml rl pl : Nat} {su co : Int} (e1 : t.next = nx) (e2 : t.js.length = jl) (e3 : t.ms.length = ml) (e4 : t.rs.length = rl) (e5 : t.ps.length = pl) (e6 : t.sure = su) (e7 : t.com = co) : v.turn = turnOf v nx jl ml rl pl su co := by
  unfold CkV.turn turnOf
  rw [h.nums.1, h.nums.2.1, h.nums.2.2, h.js.2, h.ms.2, h.rs.2, h.ps.2, e1, e2, e3, e4, e5, e6, e7]
theorem call_on (s p : Int) (a : Option Addr) (len cap : Nat) (ls : List (Int × Int)) (l me : Int) (room : Int) (x : ClV) (w : World) (hl : IsLabs w a len cap ls) (h : Live B w v ix more t) {nx0 : Int} {jl0 : Nat} (e8 : t.next = nx0) (e9 : t.js.length = jl0) {t' : Tn} (hc : clErr ⟨s, ls, p, l, me⟩ t.next t.js x.kind = 0) (ht : CallAns ⟨s, ls, p, l, me⟩ t.next t.js room x = t') {nx : Int} {jl ml rl pl : Nat} {su co : Int} (e1 : t'.next = nx) (e2 : t'.js.length = jl) (e3 : t'.ms.length = ml) (e4 : t'.rs.length = rl) (e5 : t'.ps.length = pl) (e6 : t'.sure = su) (e7 : t'.com = co) :
    Calls Try.prog 6 #[.agg #[.int .i64 s, .slice a len cap, .int .i64 p], .int .i64 l, .int .i64 me, .agg #[.int .i64 nx0, .slice v.ja jl0 v.jc], .int .i64 room, x.val] w fun e w' => ∃ (v' : CkV) (ix' : List (Nat × Nat)) (more' : List Rw), e = .returned (.tuple #[turnOf v' nx jl ml rl pl su co, .int .i64 0]) ∧ Live w.heap.size w' v' ix' more' t' ∧ Below w.heap.size w w' := by
  have := call_live s p a len cap ls l me room x w hl h
  rw [h.nums.1, h.js.2, e8, e9, ← e8] at this
  rw [hc, ht, e8] at this
  refine this.mono ?_
  rintro e w' ⟨v', ix', more', rfl, h1, h2⟩
  exact ⟨v', ix', more', by rw [h1.turn e1 e2 e3 e4 e5 e6 e7], h1, h2⟩
theorem call_first (s p : Int) (a : Option Addr) (len cap : Nat) (ls : List (Int × Int)) (l me next : Int) (room : Int) (x : ClV) (w : World) (hl : IsLabs w a len cap ls) {t' : Tn} (hc : clErr ⟨s, ls, p, l, me⟩ next [] x.kind = 0) (ht : CallAns ⟨s, ls, p, l, me⟩ next [] room x = t') {nx : Int} {jl ml rl pl : Nat} {su co : Int} (e1 : t'.next = nx) (e2 : t'.js.length = jl) (e3 : t'.ms.length = ml) (e4 : t'.rs.length = rl) (e5 : t'.ps.length = pl) (e6 : t'.sure = su) (e7 : t'.com = co) :
    Calls Try.prog 6 #[.agg #[.int .i64 s, .slice a len cap, .int .i64 p], .int .i64 l, .int .i64 me, .agg #[.int .i64 next, .slice none 0 0], .int .i64 room, x.val] w fun e w' => ∃ (v' : CkV) (ix' : List (Nat × Nat)) (more' : List Rw), e = .returned (.tuple #[turnOf v' nx jl ml rl pl su co, .int .i64 0]) ∧ Live w.heap.size w' v' ix' more' t' ∧ Below w.heap.size w w' := by
  have := call_new s p a len cap ls l me next room x w hl
  rw [hc, ht] at this
  refine this.mono ?_
  rintro e w' ⟨v', ix', more', rfl, h1, h2⟩
  exact ⟨v', ix', more', by rw [h1.turn e1 e2 e3 e4 e5 e6 e7], h1, h2⟩
end Go.Proofs.Ytfhciplckjkflaa.Co
/- coord.callOf and the clerk's answers. -/
namespace Go.Proofs.Ytfhciplckjkflaa.Co
open Go.ChangeShapes Go.WideShapes Go.ChangeAt Go.RowKit
open Go.Proofs.Ytfhciplckjkflaa.St (BoxN boxn_new own_below grown_setCell IsRow Elem flat flat_append own_isRow idxI idxI_lt)
set_option linter.unusedVariables false

def callKind (t : TkV) : Int := if t.write = true then 3 else 2
theorem callOf_any (t : TkV) (w : World) : Calls Try.prog 64 #[t.val] w fun e w' => e = .returned (.int .i64 (callKind t)) ∧ Below w.heap.size w w' := by
  obtain ⟨write, label, key, value, version, ask, done, sure⟩ := t
  have bA : Below w.heap.size w (w.alloc (.cells #[.bool write, .int .i64 label, .int .i64 key, .int .i64 value, .int .i64 version, .int .i64 ask, .bool done, .bool sure] 73)) := (Below.refl _ _).alloc (Nat.le_refl _) _
  simp only [TkV.val]
  cases write with
  | false =>
    go_enter Try.func64, Try.ntmps64
    go_wp2
    go_ret
    exact ⟨rfl, bA⟩
  | true =>
    go_enter Try.func64, Try.ntmps64
    go_wp2
    go_ret
    exact ⟨rfl, bA⟩
/-- Is that the answer that a task waits for? -/
def ansB (home : Int) (m : MV) (t : TkV) : Bool := (t.write == (m.kind == 6)) && (t.ask == m.ask) && (t.key == m.key) && (m.frm == home) && (t.write || (t.label == m.label))
end Go.Proofs.Ytfhciplckjkflaa.Co
/- A cell of a task of a job, and a job's tasks cut short: laws of the clerk. -/
namespace Go.Proofs.Ytfhciplckjkflaa.Co
open Go.ChangeShapes Go.WideShapes Go.ChangeAt Go.RowKit
open Go.Proofs.Ytfhciplckjkflaa.St (BoxN boxn_new own_below grown_setCell IsRow Elem flat flat_append own_isRow flat_take own_prefix)
set_option linter.unusedVariables false

theorem flat_set8 : ∀ (ts : List TkV) (i : Nat) (t' : TkV) (c : Nat) (u : Value), i < ts.length → c < 8 → t'.cells = (ts.getD i default).cells.set c u → flat TkV.cells (ts.set i t') = (flat TkV.cells ts).set (i * 8 + c) u
  | [], i, t', c, u, hi, hc, e => by simp at hi
  | a :: l, 0, t', c, u, hi, hc, e => by
    simp only [List.set_cons_zero, flat_cons]
    simp only [List.getD_cons_zero] at e
    rw [e, List.set_append_left _ _ (by show _ < (TkV.cells a).length; rw [tk_len]; omega)]
    simp
  | a :: l, i + 1, t', c, u, hi, hc, e => by
    simp only [List.set_cons_succ, flat_cons]
    rw [flat_set8 l i t' c u (by simpa using hi) hc (by simpa using e), List.set_append_right _ _ (by rw [tk_len]; omega)]
    congr 2
    rw [tk_len]
    omega
/-- A job with other tasks (of the same number, in the same row). -/
def taskSet (j : JbV) (m : Nat) (t : TkV) : JbV := { j with tasks := j.tasks.set m t }
theorem Clerk.tcell {w X : World} {B q : Nat} {v : CkV} {ix : List (Nat × Nat)} {more : List Rw} (h : Clerk w X B q v ix more) {i gt m : Nat} (hi : i < v.jl) (et : (v.js.getD i default).ta = some ⟨gt, 0, none⟩) (hm : m < (v.js.getD i default).tl) (c : Nat) (hc : c < 8) (u : Value) (t' : TkV) (ht : t'.cells = ((v.js.getD i default).tasks.getD m default).cells.set c u) :
    ∃ (k : Nat) (r : Rw), (∃ y, ix[i]? = some (k, y)) ∧ Clerk w (X.setCell ⟨gt, m * 8 + c, none⟩ u) B q { v with js := v.js.set i (taskSet (v.js.getD i default) m t') } ix (more.set k r) := by
  have hl := h.lens.1
  have hi' : i < v.js.length := by omega
  have hfit := (h.fit hi).1
  obtain ⟨x, ex, e1, e2⟩ := h.jobs.at hi'
  have hx1 : x.1 < more.length := (List.getElem?_eq_some_iff.1 e1).1
  obtain ⟨j, ej⟩ : ∃ j, j = v.js.getD i default := ⟨_, rfl⟩
  rw [← ej] at et hm ht hfit e1 e2 ⊢
  have e3 := e1
  rw [et] at e3
  have h1 := h.held.cell (more_get e3) (j := m * 8 + c) (by omega) u
  rw [← flat_set8 j.tasks m t' c u (by omega) hc ht] at h1
  have er : (v.rows ++ more).set (4 + x.1) ⟨73, 8, .slice (some ⟨gt, 0, none⟩) j.tl j.tc, j.tl, flat TkV.cells (j.tasks.set m t')⟩ = v.rows ++ more.set x.1 ⟨73, 8, .slice (some ⟨gt, 0, none⟩) j.tl j.tc, j.tl, flat TkV.cells (j.tasks.set m t')⟩ := by
    rw [List.set_append_right _ _ (by simp [CkV.rows])]
    congr 2
    simp [CkV.rows]
  rw [er] at h1
  have ec : (taskSet j m t').cells = j.cells := rfl
  have ef : flat JbV.cells (v.js.set i (taskSet j m t')) = flat JbV.cells v.js := by
    have : ∀ (js : List JbV) (i : Nat) (k : JbV), k.cells = (js.getD i default).cells → flat JbV.cells (js.set i k) = flat JbV.cells js := by
      intro js
      induction js with
      | nil => intro i k e; rfl
      | cons a l ih =>
        intro i k e
        cases i with
        | zero => simp only [List.set_cons_zero, flat_cons, List.getD_cons_zero] at e ⊢; rw [e]
        | succ i => simp only [List.set_cons_succ, flat_cons]; rw [ih i k (by simpa using e)]
    exact this _ _ _ (by rw [ec, ej])
  refine ⟨x.1, ⟨73, 8, .slice (some ⟨gt, 0, none⟩) j.tl j.tc, j.tl, flat TkV.cells (j.tasks.set m t')⟩, ⟨x.2, ex⟩, ?_, ?_, by simpa using hl, h.lens.2.1, h.lens.2.2.1, h.lens.2.2.2⟩
  · have er2 : ({ v with js := v.js.set i (taskSet j m t') } : CkV).rows = v.rows := by unfold CkV.rows; simp only [ef]
    rw [er2]
    exact h1
  · obtain ⟨g1, g2, g3, g4⟩ := h.jobs
    have eo : v.js[i]? = some j := by rw [ej]; simp [List.getD, hi']
    refine ⟨by simpa using g1, fun k jj y ejj ey => ?_, g3, g4⟩
    rcases set_get eo ejj with ⟨rfl, rfl⟩ | ⟨hk, ejj2⟩
    · rw [ex] at ey
      obtain rfl := Option.some.inj ey
      refine ⟨?_, ?_⟩
      · rw [List.getElem?_set_self hx1, ← et]; rfl
      · rw [List.getElem?_set_ne (g4 _ _ ex)]; exact e2
    · have ap := g3 i k x y ex ey (fun e => hk e.symm)
      have := g2 k jj y ejj2 ey
      refine ⟨?_, ?_⟩
      · rw [List.getElem?_set_ne ap.1]; exact this.1
      · rw [List.getElem?_set_ne ap.2.1]; exact this.2
/-- A job whose last tasks are cut off. -/
def cutJob (j : JbV) (n : Nat) : JbV := { j with tl := n, tasks := j.tasks.take n }
theorem Clerk.cutTasks {w X : World} {B q : Nat} {v : CkV} {ix : List (Nat × Nat)} {more : List Rw} (h : Clerk w X B q v ix more) {i g gt n : Nat} (hi : i < v.jl) (eg : v.ja = some ⟨g, 0, none⟩) (et : (v.js.getD i default).ta = some ⟨gt, 0, none⟩) (hn : n ≤ (v.js.getD i default).tl) (h0 : 0 < (v.js.getD i default).tl) :
    ∃ (k : Nat) (r : Rw), (∃ y, ix[i]? = some (k, y)) ∧ Clerk w (X.setCell ⟨g, i * 6 + 2, none⟩ (.slice (some ⟨gt, 0, none⟩) n (v.js.getD i default).tc)) B q { v with js := v.js.set i (cutJob (v.js.getD i default) n) } ix (more.set k r) := by
  have hl := h.lens.1
  have hi' : i < v.js.length := by omega
  obtain ⟨x, ex, e1, e2⟩ := h.jobs.at hi'
  have hx1 : x.1 < more.length := (List.getElem?_eq_some_iff.1 e1).1
  obtain ⟨j, ej⟩ : ∃ j, j = v.js.getD i default := ⟨_, rfl⟩
  rw [← ej] at et hn h0 e1 e2 ⊢
  have e3 := e1
  rw [et] at e3
  have o1 := h.held.own.own _ _ (more_get e3)
  have o2 := own_prefix o1 (k := n) hn h0
  rw [flat_take tk_len] at o2
  have h1 := h.held.grow (X' := X) (i := 4 + x.1) (r' := ⟨73, 8, .slice (some ⟨gt, 0, none⟩) n j.tc, n, flat TkV.cells (j.tasks.take n)⟩) (more_get e3) (St.grown_below (Below.refl X.heap.size X) _) o2 (Or.inl rfl)
  have er : (v.rows ++ more).set (4 + x.1) ⟨73, 8, .slice (some ⟨gt, 0, none⟩) n j.tc, n, flat TkV.cells (j.tasks.take n)⟩ = v.rows ++ more.set x.1 ⟨73, 8, .slice (some ⟨gt, 0, none⟩) n j.tc, n, flat TkV.cells (j.tasks.take n)⟩ := by
    rw [List.set_append_right _ _ (by simp [CkV.rows])]
    congr 2
    simp [CkV.rows]
  rw [er] at h1
  have e0 : (v.rows ++ more.set x.1 ⟨73, 8, .slice (some ⟨gt, 0, none⟩) n j.tc, n, flat TkV.cells (j.tasks.take n)⟩)[0]? = some ⟨47, 6, .slice (some ⟨g, 0, none⟩) v.jl v.jc, v.jl, flat JbV.cells v.js⟩ := by rw [← eg]; rfl
  have h2 := h1.cell e0 (j := i * 6 + 2) (by omega) (.slice (some ⟨gt, 0, none⟩) n j.tc)
  rw [← flat_set6 v.js i (cutJob j n) 2 (.slice (some ⟨gt, 0, none⟩) n j.tc) hi' (by decide) (by rw [← ej, ← et]; rfl)] at h2
  refine ⟨x.1, ⟨73, 8, .slice (some ⟨gt, 0, none⟩) n j.tc, n, flat TkV.cells (j.tasks.take n)⟩, ⟨x.2, ex⟩, ?_, ?_, by simpa using hl, h.lens.2.1, h.lens.2.2.1, h.lens.2.2.2⟩
  · have er2 : ({ v with js := v.js.set i (cutJob j n) } : CkV).rows ++ more.set x.1 ⟨73, 8, .slice (some ⟨gt, 0, none⟩) n j.tc, n, flat TkV.cells (j.tasks.take n)⟩ = (v.rows ++ more.set x.1 ⟨73, 8, .slice (some ⟨gt, 0, none⟩) n j.tc, n, flat TkV.cells (j.tasks.take n)⟩).set 0 ⟨47, 6, .slice (some ⟨g, 0, none⟩) v.jl v.jc, v.jl, flat JbV.cells (v.js.set i (cutJob j n))⟩ := by rw [← eg]; rfl
    rw [er2]
    exact h2
  · obtain ⟨g1, g2, g3, g4⟩ := h.jobs
    have eo : v.js[i]? = some j := by rw [ej]; simp [List.getD, hi']
    refine ⟨by simpa using g1, fun k jj y ejj ey => ?_, g3, g4⟩
    rcases set_get eo ejj with ⟨rfl, rfl⟩ | ⟨hk, ejj2⟩
    · rw [ex] at ey
      obtain rfl := Option.some.inj ey
      refine ⟨?_, ?_⟩
      · rw [List.getElem?_set_self hx1, ← et]; rfl
      · rw [List.getElem?_set_ne (g4 _ _ ex)]; exact e2
    · have ap := g3 i k x y ex ey (fun e => hk e.symm)
      have := g2 k jj y ejj2 ey
      refine ⟨?_, ?_⟩
      · rw [List.getElem?_set_ne ap.1]; exact this.1
      · rw [List.getElem?_set_ne ap.2.1]; exact this.2
end Go.Proofs.Ytfhciplckjkflaa.Co
