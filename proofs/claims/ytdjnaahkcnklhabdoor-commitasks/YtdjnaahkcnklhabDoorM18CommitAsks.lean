/- Texts of this claim, one behind the other. -/
import Derived.Test.YtdjnaahkcnklhabDoorM17CommitAsks
import Derived.Test.YtdjnaahkcnklhabDoorM8CommitAsks
/- The clerk's begin: a job is put behind the others, its number is written, and the caller is told. -/
namespace Go.Proofs.YtdjnaahkcnklhabDoor.Co
open Go.ChangeShapes Go.WideShapes Go.ChangeAt Go.RowKit
open Go.Proofs.YtdjnaahkcnklhabDoor.St (BoxN boxn_new own_below grown_setCell IsRow Elem flat flat_append own_isRow)
set_option linter.unusedVariables false

def newJob (n : Int) : JbV := ⟨n, 1, none, 0, 0, none, 0, 0, 0, 0, [], []⟩
theorem JobsIn.inn {js : List JbV} {ix : List (Nat × Nat)} {more : List Rw} (h : JobsIn js ix more) : ∀ (i : Nat) (x : Nat × Nat), ix[i]? = some x → x.1 < more.length ∧ x.2 < more.length := fun i x e => by
  have hi : i < ix.length := (List.getElem?_eq_some_iff.1 e).1
  have hi' : i < js.length := by rw [← h.1]; exact hi
  obtain ⟨y, ey, e1, e2⟩ := h.at hi'
  rw [ey] at e
  obtain rfl := Option.some.inj e
  exact ⟨(List.getElem?_eq_some_iff.1 e1).1, (List.getElem?_eq_some_iff.1 e2).1⟩
/-- A job without tasks is put behind the others, and the box is told. -/
theorem Clerk.push {w X X' : World} {B q : Nat} {v : CkV} {ix : List (Nat × Nat)} {more : List Rw} (h : Clerk w X B q v ix more) {a5 : Option Addr} {c5 : Nat} (n : Int) (hg : X.grownBy X' (Value.slice v.ja v.jl v.jc).ownBlock) (ho : X'.ownsRow B 59 6 (.slice a5 (v.jl + 1) c5) (v.jl + 1) (flat JbV.cells (v.js ++ [newJob n]))) (hat : (Value.slice a5 (v.jl + 1) c5).ownBlock = (Value.slice v.ja v.jl v.jc).ownBlock ∨ (Value.slice a5 (v.jl + 1) c5).ownBlock = some X.heap.size) :
    ∃ ix' more', Clerk w (X'.setCell ⟨q, 6, none⟩ (.slice a5 (v.jl + 1) c5)) B q { v with ja := a5, jl := v.jl + 1, jc := c5, js := v.js ++ [newJob n] } ix' more' := by
  have hjobs := JobsIn.push h.jobs h.jobs.inn (newJob n)
  have h0 := h.add (X' := X) (Below.refl _ _) (r := ⟨87, 8, .slice none 0 0, 0, []⟩) (World.ownsRow_nil _ _ _ _)
  have h00 := h0.add (X' := X) (Below.refl _ _) (r := ⟨3, 1, .slice none 0 0, 0, []⟩) (World.ownsRow_nil _ _ _ _)
  have h1 := h00.held.grow (i := 0) (r := ⟨59, 6, .slice v.ja v.jl v.jc, v.jl, flat JbV.cells v.js⟩) (r' := ⟨59, 6, .slice a5 (v.jl + 1) c5, v.jl + 1, flat JbV.cells (v.js ++ [newJob n])⟩) rfl hg ho hat
  have h2 := h1.tell 6 (by decide) (.slice a5 (v.jl + 1) c5)
  refine ⟨_, _, ⟨?_, hjobs, by simp [h.lens.1], h.lens.2.1, h.lens.2.2.1, h.lens.2.2.2⟩⟩
  have e1 : more ++ [⟨87, 8, .slice none 0 0, 0, []⟩] ++ [(⟨3, 1, .slice none 0 0, 0, []⟩ : Rw)] = more ++ [taskRow (newJob n).ta (newJob n).tl (newJob n).tc (newJob n).tasks, siteRow (newJob n).aa (newJob n).al (newJob n).ac (newJob n).asked] := by simp [taskRow, siteRow, newJob, flat]
  rw [e1] at h2
  exact h2
def fullB (v : CkV) (room : Int) : Bool := decide (6 ≤ v.jl) || decide (1048576 < v.next) || decide (room < 600)
def refusedV (v : CkV) (pa : Option Addr) (pc : Nat) (r : RpV) : CkV := { v with pa := pa, pl := v.pl + 1, pc := pc, ps := v.ps ++ [r] }
def begunV (v : CkV) (ja : Option Addr) (jc : Nat) (ra : Option Addr) (rc : Nat) (pa : Option Addr) (pc : Nat) : CkV := { v with next := v.next + 1, ja := ja, jl := v.jl + 1, jc := jc, js := v.js ++ [newJob v.next], ra := ra, rl := v.rl + 1, rc := rc, rs := v.rs ++ [⟨5, v.me, v.next, 0, 0, 0, false, none, 0, 0, []⟩], pa := pa, pl := v.pl + 1, pc := pc, ps := v.ps ++ [⟨v.me, 1, v.next, 0, 0, 0⟩] }
def BeginIs (w X' : World) (B q : Nat) (v : CkV) (room : Int) (e : Ending) : Prop := e = .returned (.tuple #[]) ∧ (fullB v room = true → ∃ pa pc ix more, Clerk w X' B q (refusedV v pa pc ⟨v.me, 1, 0, 0, 0, 8⟩) ix more) ∧ (fullB v room = false → ∃ ja jc ra rc pa pc ix more, Clerk w X' B q (begunV v ja jc ra rc pa pc) ix more)
set_option maxRecDepth 100000 in
set_option maxHeartbeats 4000000 in
theorem begin_any {w : World} {B q : Nat} {v : CkV} {ix : List (Nat × Nat)} {more : List Rw} (X : World) (h : Clerk w X B q v ix more) (room : Int) (hnx : 1 ≤ v.next) (hj : (v.jl + 1) * 80 ≤ 140737488355328) (hr : (v.rl + 1) * 80 ≤ 140737488355328) (hp : (v.pl + 1) * 48 ≤ 140737488355328) :
    Calls Tryd.prog 20 #[.pointer (some ⟨q, 0, none⟩), .int .i64 room] X fun e X' => BeginIs w X' B q v room e := by
  obtain ⟨iJ, EJ⟩ := jbElem
  have bx := h.held.box
  have zq := bx.lt
  have q5 : X.cell? ⟨q, 5, none⟩ = some (.int .i64 v.next) := (bx.c 5 (by decide)).1
  have q6 : X.cell? ⟨q, 6, none⟩ = some (.slice v.ja v.jl v.jc) := (bx.c 6 (by decide)).1
  have hjl : v.jl ≤ v.jc ∧ v.jc ≤ maxLen := by
    have := (own_isRow jb_len h.jobRow h.lens.1).1
    exact ⟨this.2.1, this.2.2.1⟩
  obtain ⟨hjl1, hjl2⟩ := hjl
  have Hp : Hid ((v.pl + 1) * 48 ≤ 140737488355328) := hp
  have Hr : Hid ((v.rl + 1) * 80 ≤ 140737488355328) := hr
  have Hj : Hid ((v.jl + 1) * 80 ≤ 140737488355328) := hj
  clear hp hr hj
  have HC : Hid (Clerk w X B q v ix more) := h
  have HF : Hid (fullB v room = (decide (6 ≤ v.jl) || decide (1048576 < v.next) || decide (room < 600))) := rfl
  by_cases hf : 6 ≤ v.jl ∨ 1048576 < v.next ∨ room < 600
  · have HT : Hid (fullB v room = true) := by
      show _ = _
      rw [HF.out]
      rcases hf with h1 | h1 | h1 <;> simp [h1]
    have HR : Hid (Calls Tryd.prog 23 #[.pointer (some ⟨q, 0, none⟩), .agg #[.int .i64 0, .int .i64 1, .int .i64 0, .int .i64 0, .int .i64 0, .int .i64 8]] X fun e X' => BeginIs w X' B q v room e) := by
      refine (reply_any X HC.out ⟨0, 1, 0, 0, 0, 8⟩ Hp.out).mono ?_
      rintro e u ⟨rfl, a5, c5, h5⟩
      exact ⟨rfl, fun _ => ⟨a5, c5, ix, more, h5⟩, fun e => by rw [HT.out] at e; cases e⟩
    clear bx h HC HF HT Hj Hr Hp
    by_cases h1 : 6 ≤ v.jl
    · have h1' : (6 : Int) ≤ (v.jl : Int) := by omega
      clear hf
      go_enter Tryd.func20, Tryd.ntmps20
      go_wp2_with (go_at_call 23; refine HR.out.mono ?_; rintro e w1 ⟨rfl, hR⟩)
      exact bodyPost_ret (v := .tuple #[]) (by simp [results, Tryd.results20, go_sem]) rfl ⟨rfl, hR⟩
    · have h1' : ¬ (6 : Int) ≤ (v.jl : Int) := by omega
      by_cases h2 : 1048576 < v.next
      · clear hf
        go_enter Tryd.func20, Tryd.ntmps20
        go_wp2_with (go_at_call 23; refine HR.out.mono ?_; rintro e w1 ⟨rfl, hR⟩)
        exact bodyPost_ret (v := .tuple #[]) (by simp [results, Tryd.results20, go_sem]) rfl ⟨rfl, hR⟩
      · have h3 : room < 600 := by omega
        clear hf
        go_enter Tryd.func20, Tryd.ntmps20
        go_wp2_with (go_at_call 23; refine HR.out.mono ?_; rintro e w1 ⟨rfl, hR⟩)
        exact bodyPost_ret (v := .tuple #[]) (by simp [results, Tryd.results20, go_sem]) rfl ⟨rfl, hR⟩
  · have h1' : ¬ (6 : Int) ≤ (v.jl : Int) := by omega
    have h2 : ¬ 1048576 < v.next := by omega
    have h3 : ¬ room < 600 := by omega
    have HT : Hid (fullB v room = false) := by
      show _ = _
      rw [HF.out]
      have h4 : ¬ 6 ≤ v.jl := by omega
      simp [h2, h3, h4]
    clear hf HF bx h
    obtain ⟨U, eU⟩ : ∃ U : World, U = X.alloc (.cells #[.int .i64 v.next, .int .i64 1, .slice none 0 0, .slice none 0 0, .int .i64 0, .int .i64 0] 59) := ⟨_, rfl⟩
    have bU : Below X.heap.size X U := by rw [eU]; exact (Below.refl _ _).alloc (Nat.le_refl _) _
    have hU := HC.out.below bU
    have hone : IsRow 6 JbV.cells U (some ⟨X.heap.size, 0, none⟩) 1 1 [newJob v.next] := by
      rw [eU]
      exact rowOne (cells := JbV.cells) (k := 6) X #[.int .i64 v.next, .int .i64 1, .slice none 0 0, .slice none 0 0, .int .i64 0, .int .i64 0] 59 (newJob v.next) rfl rfl
    have ownU := hU.jobRow
    have hap := hU.held.apart 0 ⟨59, 6, .slice v.ja v.jl v.jc, v.jl, flat JbV.cells v.js⟩ rfl
    have hB : B ≤ U.heap.size := Nat.le_trans HC.out.held.le (Nat.le_of_lt (Nat.lt_of_lt_of_le zq bU.size))
    have HU : Hid (Clerk w U B q v ix more) := hU
    have hwr : wrap64 (v.next + 1) = v.next + 1 := by unfold wrap64; omega
    clear hU
    go_enter Tryd.func20, Tryd.ntmps20
    go_upto_region 5 with (at_builtin; go_loud (rw [← eU]; refine St.wpList_append_row EJ (by rfl) _ _ (by rfl) B (.slice v.ja v.jl v.jc) v.jl v.js (by rfl) ownU _ 1 1 [newJob v.next] (by rfl) hone (by have := Hj.out; unfold maxLen; omega) (by exact Hj.out) hB ?_; intro a5 c5 w5 own5 gr5 at5; have bq := HU.out.held.box.grown gr5 (fun e => hap e.symm); have p5 : w5.cell? ⟨q, 5, none⟩ = some (.int .i64 v.next) := (bq.c 5 (by decide)).1; have pf5 := (bq.c 5 (by decide)).2; have p6 : w5.cell? ⟨q, 6, none⟩ = some (.slice v.ja v.jl v.jc) := (bq.c 6 (by decide)).1; have pf6 := (bq.c 6 (by decide)).2; have zq5 := bq.lt; obtain ⟨ix5, more5, hP⟩ := HU.out.push v.next gr5 own5 at5))
    have hN := hP.next (v.next + 1)
    have HN : Hid (Clerk w ((w5.setCell ⟨q, 6, none⟩ (.slice a5 (v.jl + 1) c5)).setCell ⟨q, 5, none⟩ (.int .i64 (v.next + 1))) B q { v with next := v.next + 1, ja := a5, jl := v.jl + 1, jc := c5, js := v.js ++ [newJob v.next] } ix5 more5) := hN
    clear bq hP hN own5 at5 gr5 HU hone ownU hap q5 q6 eU
    go_upto_region 6 with (fail)
    obtain ⟨Y, eY⟩ : ∃ Y, Y = (w5.setCell ⟨q, 6, none⟩ (.slice a5 (v.jl + 1) c5)).setCell ⟨q, 5, none⟩ (.int .i64 (v.next + 1)) := ⟨_, rfl⟩
    rw [← eY] at HN ⊢
    clear eY p5 p6 pf5 pf6
    have HX : Hid (Calls Tryd.prog 43 #[.pointer (some ⟨q, 0, none⟩), .int .i64 v.next] Y fun e X' => e = .returned (.agg #[.int .i64 v.me, .int .i64 v.next]) ∧ Below Y.heap.size Y X') := txn_any Y HN.out v.next
    have HW : Hid (∀ U, Below Y.heap.size Y U → Calls Tryd.prog 42 #[.pointer (some ⟨q, 0, none⟩), .agg #[.int .i64 5, .int .i64 v.me, .int .i64 v.next, .int .i64 0, .int .i64 0, .int .i64 0, .bool false, .slice none 0 0]] U fun e X' => e = .returned (.tuple #[]) ∧ ∃ a6 c6, Clerk w X' B q { v with next := v.next + 1, ja := a5, jl := v.jl + 1, jc := c5, js := v.js ++ [newJob v.next], ra := a6, rl := v.rl + 1, rc := c6, rs := v.rs ++ [⟨5, v.me, v.next, 0, 0, 0, false, none, 0, 0, []⟩] } ix5 more5) := fun U hU => write_any U (HN.out.below hU) ⟨5, v.me, v.next, 0, 0, 0, false, none, 0, 0, []⟩ Hr.out
    go_upto_region 7 with (first | (go_at_call 43; refine HX.out.mono ?_; rintro e w6 ⟨rfl, hb6⟩) | (go_at_call 42; refine (HW.out _ hb6).mono ?_; rintro e w7 ⟨rfl, a6, c6, h7⟩))
    have HR : Hid (Calls Tryd.prog 23 #[.pointer (some ⟨q, 0, none⟩), .agg #[.int .i64 0, .int .i64 1, .int .i64 v.next, .int .i64 0, .int .i64 0, .int .i64 0]] w7 fun e X' => BeginIs w X' B q v room e) := by
      refine (reply_any w7 h7 ⟨0, 1, v.next, 0, 0, 0⟩ Hp.out).mono ?_
      rintro e u ⟨rfl, a8, c8, h8⟩
      exact ⟨rfl, (fun e => by rw [HT.out] at e; cases e), fun _ => ⟨a5, c5, a6, c6, a8, c8, ix5, more5, h8⟩⟩
    clear h7 HW HX HN
    go_wp2_with (go_at_call 23; refine HR.out.mono ?_; rintro e w8 ⟨rfl, hR⟩)
    exact bodyPost_end (v := .tuple #[]) (by simp [results, Tryd.results20, go_sem]) rfl ⟨rfl, hR⟩
end Go.Proofs.YtdjnaahkcnklhabDoor.Co
/- A job's Asked is another of the clerk's own rows. -/
namespace Go.Proofs.YtdjnaahkcnklhabDoor.Co
open Go.ChangeShapes Go.WideShapes Go.ChangeAt Go.RowKit
open Go.Proofs.YtdjnaahkcnklhabDoor.St (BoxN boxn_new own_below grown_setCell IsRow Elem flat flat_append own_isRow)
set_option linter.unusedVariables false

def askedJob (j : JbV) (aa : Option Addr) (al ac : Nat) (zs : List Int) : JbV := { j with aa := aa, al := al, ac := ac, asked := zs }
theorem Clerk.asked {w X : World} {B q : Nat} {v : CkV} {ix : List (Nat × Nat)} {more : List Rw} (h : Clerk w X B q v ix more) {i g : Nat} (hi : i < v.jl) (eg : v.ja = some ⟨g, 0, none⟩) {k : Nat} {aa : Option Addr} {al ac : Nat} {zs : List Int} (ek : more[k]? = some (siteRow aa al ac zs)) (hk : ∀ (i : Nat) (x : Nat × Nat), ix[i]? = some x → x.1 ≠ k ∧ x.2 ≠ k) :
    ∃ y, ix[i]? = some y ∧ Clerk w (X.setCell ⟨g, i * 6 + 3, none⟩ (.slice aa al ac)) B q { v with js := v.js.set i (askedJob (v.js.getD i default) aa al ac zs) } (ix.set i (y.1, k)) more := by
  have hl := h.lens.1
  have hi' : i < v.js.length := by omega
  obtain ⟨x, ex, e1, e2⟩ := h.jobs.at hi'
  have e0 : (v.rows ++ more)[0]? = some ⟨59, 6, .slice (some ⟨g, 0, none⟩) v.jl v.jc, v.jl, flat JbV.cells v.js⟩ := by rw [← eg]; rfl
  have h2 := h.held.cell e0 (j := i * 6 + 3) (by omega) (.slice aa al ac)
  rw [← flat_set6 v.js i (askedJob (v.js.getD i default) aa al ac zs) 3 (.slice aa al ac) hi' (by decide) rfl] at h2
  refine ⟨x, ex, ?_, ?_, by simpa using hl, h.lens.2.1, h.lens.2.2.1, h.lens.2.2.2⟩
  · have er2 : ({ v with js := v.js.set i (askedJob (v.js.getD i default) aa al ac zs) } : CkV).rows ++ more = (v.rows ++ more).set 0 ⟨59, 6, .slice (some ⟨g, 0, none⟩) v.jl v.jc, v.jl, flat JbV.cells (v.js.set i (askedJob (v.js.getD i default) aa al ac zs))⟩ := by rw [← eg]; rfl
    rw [er2]
    exact h2
  · obtain ⟨g1, g2, g3, g4⟩ := h.jobs
    have eo : v.js[i]? = some (v.js.getD i default) := by simp [List.getD, hi']
    refine ⟨by simpa using g1, fun m j y ej ey => ?_, fun m n y z ey ez hmn => ?_, fun m y ey => ?_⟩
    · rcases set_get eo ej with ⟨rfl, rfl⟩ | ⟨hm, ej⟩
      · rcases set_get ex ey with ⟨_, rfl⟩ | ⟨hm, _⟩
        · exact ⟨e1, ek⟩
        · exact absurd rfl hm
      · rcases set_get ex ey with ⟨hm2, _⟩ | ⟨_, ey⟩
        · exact absurd hm2 hm
        · exact g2 m j y ej ey
    · rcases set_get ex ey with ⟨rfl, rfl⟩ | ⟨hm, ey2⟩
      · rcases set_get ex ez with ⟨rfl, _⟩ | ⟨hn, ez2⟩
        · exact absurd rfl hmn
        · have a := g3 _ _ x z ex ez2 hmn
          exact ⟨a.1, a.2.1, fun e => (hk _ _ ez2).1 e.symm, fun e => (hk _ _ ez2).2 e.symm⟩
      · rcases set_get ex ez with ⟨rfl, rfl⟩ | ⟨hn, ez2⟩
        · have a := g3 _ _ y x ey2 ex hmn
          exact ⟨a.1, (hk _ _ ey2).1, a.2.2.1, (hk _ _ ey2).2⟩
        · exact g3 m n y z ey2 ez2 hmn
    · rcases set_get ex ey with ⟨rfl, rfl⟩ | ⟨hm, ey⟩
      · exact (hk _ _ ex).1
      · exact g4 m y ey
end Go.Proofs.YtdjnaahkcnklhabDoor.Co
/- The clerk's tell: those who are to know that a job is committed. -/
namespace Go.Proofs.YtdjnaahkcnklhabDoor.Co
open Go.ChangeShapes Go.WideShapes Go.ChangeAt Go.RowKit
open Go.Proofs.YtdjnaahkcnklhabDoor.St (BoxN boxn_new own_below grown_setCell IsRow Elem flat flat_append own_isRow idxI idxI_lt own_setk)
set_option linter.unusedVariables false

/-- The i-th job's Age is 0. -/
def ageZero (v : CkV) (i : Nat) : CkV := { v with js := v.js.set i { v.js.getD i default with age := 0 } }
def TellIs (w X' : World) (B q : Nat) (v : CkV) (n : Int) (zs : List Int) (ix : List (Nat × Nat)) (more : List Rw) (e : Ending) : Prop := e = .returned (.tuple #[]) ∧ ∃ (ma : Option Addr) (mc : Nat), Clerk w X' B q (toldV v ma mc n true zs) ix more
set_option maxRecDepth 100000 in
set_option maxHeartbeats 4000000 in
theorem tell_any {w : World} {B q : Nat} {v : CkV} {ix : List (Nat × Nat)} {more : List Rw} (X : World) (h : Clerk w X B q v ix more) {i g : Nat} (hi : i < v.jl) (eg : v.ja = some ⟨g, 0, none⟩) (hz : (v.js.getD i default).asked.length ≤ 1048576) (hn : (v.ml + 1048577) * 96 ≤ 140737488355328) :
    Calls Tryd.prog 68 #[.pointer (some ⟨q, 0, none⟩), .pointer (some ⟨g, i * 6, none⟩)] X fun e X' => TellIs w X' B q (ageZero v i) (v.js.getD i default).n (v.js.getD i default).asked ix more e := by
  obtain ⟨g', eg', _, zg, _, hc, hf⟩ := h.jobAt hi
  rw [eg] at eg'
  simp at eg'
  subst eg'
  have hjl := h.lens.1
  have hC1 : Clerk w (X.setCell ⟨g, i * 6 + 5, none⟩ (.int .i64 0)) B q (ageZero v i) ix more := h.jcell hi eg 5 (by decide) _ _ rfl ⟨rfl, rfl, rfl, rfl, rfl, rfl, rfl, rfl⟩
  have ej : (ageZero v i).js.getD i default = { v.js.getD i default with age := 0 } := by
    unfold ageZero
    simp [List.getD, show i < v.js.length by omega]
  have HJ : Hid (∀ (U : World) (ma : Option Addr) (mc : Nat) (zs : List Int), Clerk w U B q (toldV (ageZero v i) ma mc (v.js.getD i default).n true zs) ix more → U.cell? ⟨g, i * 6, none⟩ = some (.int .i64 (v.js.getD i default).n) ∧ U.cell? ⟨g, i * 6 + 3, none⟩ = some (.slice (v.js.getD i default).aa (v.js.getD i default).al (v.js.getD i default).ac) ∧ g < U.heap.size ∧ IsSites U (v.js.getD i default).aa (v.js.getD i default).al (v.js.getD i default).ac (v.js.getD i default).asked) := fun U ma mc zs hU => by
    obtain ⟨g2, eg2, _, zg2, _, hc2, _⟩ := hU.jobAt (i := i) hi
    have e3 : g = g2 := by
      have : (toldV (ageZero v i) ma mc (v.js.getD i default).n true zs).ja = v.ja := rfl
      rw [this, eg] at eg2
      simpa using eg2
    subst e3
    have hS := hU.isSites (i := i) hi
    have ejs : (toldV (ageZero v i) ma mc (v.js.getD i default).n true zs).js = (ageZero v i).js := rfl
    rw [ejs, ej] at hc2 hS
    refine ⟨?_, ?_, zg2, hS⟩
    · simpa [JbV.cells] using hc2 0 (by decide)
    · simpa [JbV.cells] using hc2 3 (by decide)
  have HC1 : Hid (Clerk w (X.setCell ⟨g, i * 6 + 5, none⟩ (.int .i64 0)) B q (ageZero v i) ix more) := hC1
  have hfz := (hf 5 (by decide))
  have c5 := hc 5 (by decide)
  have Hn : Hid (((ageZero v i).ml + 1048577) * 96 ≤ 140737488355328) := hn
  obtain ⟨v1, e1⟩ : ∃ v1, v1 = ageZero v i := ⟨_, rfl⟩
  rw [← e1] at HJ HC1 Hn ⊢
  obtain ⟨j, ejj⟩ : ∃ j, j = v.js.getD i default := ⟨_, rfl⟩
  rw [← ejj] at HJ hz c5 ⊢
  clear e1 ejj ej hC1 hc hn h hf
  obtain ⟨jn, st, ta, tl, tc, aa, al, ac, asks, age, tasks, asked⟩ := j
  simp only [JbV.cells, List.getElem?_cons_zero, List.getElem?_cons_succ] at HJ hz c5 ⊢
  have HZ : Hid (asked.length ≤ 1048576) := hz
  clear hz
  have HS : Hid (∀ (U : World) (ma : Option Addr) (mc k : Nat), k < asked.length → Clerk w U B q (toldV v1 ma mc jn true (asked.take k)) ix more → Calls Tryd.prog 49 #[.pointer (some ⟨q, 0, none⟩), .int .i64 jn, .int .i64 (asked.getD k default), .agg #[.int .i64 4, .int .i64 0, .int .i64 0, .int .i64 0, .int .i64 0, .int .i64 0, .int .i64 0, .int .i64 0, .int .i64 0, .int .i64 0, .bool true, .int .i64 0]] U fun e X' => e = .returned (.tuple #[]) ∧ ∃ a5 c5, Clerk w X' B q (toldV v1 a5 c5 jn true (asked.take (k + 1))) ix more) := fun U ma mc k hlt hC => by
    have hml : ((toldV v1 ma mc jn true (asked.take k)).ml + 1) * 96 ≤ 140737488355328 := told_fit Hn.out (Nat.le_trans (List.length_take_le k asked) (Nat.le_trans (Nat.le_of_lt hlt) HZ.out))
    have := send_any U hC jn (asked.getD k default) ⟨4, 0, 0, 0, 0, 0, 0, 0, 0, 0, true, 0⟩ hml
    simp only [MV.val] at this
    refine this.mono ?_
    rintro e u ⟨rfl, a5, c5, h5⟩
    refine ⟨rfl, a5, c5, ?_⟩
    rw [← toldV_at (ma := ma) (mc := mc) hlt]
    exact h5
  obtain ⟨Y, eY⟩ : ∃ Y, Y = X.setCell ⟨g, i * 6 + 5, none⟩ (.int .i64 0) := ⟨_, rfl⟩
  have hY : Clerk w Y B q (toldV v1 v1.ma v1.mc jn true (asked.take 0)) ix more := by rw [eY]; simpa [toldV] using HC1.out
  obtain ⟨y0, y3, zy, hSY⟩ := HJ.out _ _ _ _ hY
  obtain ⟨N, eN⟩ : ∃ N, N = al := ⟨_, rfl⟩
  have HN : Hid (asked.length = al) := hSY.1
  have hal : al ≤ 1048576 := by rw [← HN.out]; exact HZ.out
  go_enter Tryd.func68, Tryd.ntmps68
  go_upto_region 1 with (fail)
  rw [← eY]
  clear eY c5 hfz eN
  go_wp2
  go_loopw [14] (fun s14 wr => ∃ (k : Nat) (m1 : Option Addr) (k1 : Nat), s14 = .int .i64 (k : Int) ∧ k ≤ al ∧ Clerk w wr B q (toldV v1 m1 k1 jn true (asked.take k)) ix more) (fun s14 _ => al - (intOf s14).toNat)
  case atStart => exact ⟨0, v1.ma, v1.mc, rfl, Nat.zero_le _, hY⟩
  case round =>
    clear hY hSY y0 y3 zy
    obtain ⟨k, m1, k1, rfl, hk, hC⟩ := hrel
    obtain ⟨j0, j3, zj, hS⟩ := HJ.out _ _ _ _ hC
    by_cases hlt : k < al
    · have hlt' : (k : Int) < (al : Int) := by omega
      obtain ⟨b, off, rfl, zb, hcr⟩ := hS.2.2.2.2 (by omega)
      have cg : wr.cell? ⟨b, off + k, none⟩ = some (.int .i64 (asked.getD k default)) := by
        have := hcr k hlt 0 (by decide)
        rw [Nat.mul_one, Nat.add_zero] at this
        exact this
      have HS2 := HS.out wr m1 k1 k (by rw [HN.out]; exact hlt) hC
      obtain ⟨Z, eZ⟩ : ∃ Z, Z = asked.getD k default := ⟨_, rfl⟩
      rw [← eZ] at cg HS2
      have HS3 : Hid (Calls Tryd.prog 49 #[.pointer (some ⟨q, 0, none⟩), .int .i64 jn, .int .i64 Z, .agg #[.int .i64 4, .int .i64 0, .int .i64 0, .int .i64 0, .int .i64 0, .int .i64 0, .int .i64 0, .int .i64 0, .int .i64 0, .int .i64 0, .bool true, .int .i64 0]] wr fun e X' => e = .returned (.tuple #[]) ∧ ∃ a5 c5, Clerk w X' B q (toldV v1 a5 c5 jn true (asked.take (k + 1))) ix more) := HS2
      clear eZ HS2 hcr hS
      go_wp2_with (go_at_call 49; refine HS3.out.mono ?_; rintro e w5 ⟨rfl, a5, c5, h5⟩)
      go_roundw
      case rel => exact ⟨k + 1, a5, c5, by go_num, by omega, h5⟩
      case measure => simp [intOf]; omega
    · have HkN : Hid (k = al) := by show _ = _; omega
      have hlt' : ¬ (k : Int) < (al : Int) := by omega
      have h6 : TellIs w wr B q v1 jn asked ix more (.returned (.tuple #[])) := by
        refine ⟨rfl, m1, k1, ?_⟩
        rw [List.take_of_length_le (by rw [HkN.out, HN.out]; exact Nat.le_refl _)] at hC
        exact hC
      clear hk hlt hC hS
      go_wp2
      exact bodyPost_end (v := .tuple #[]) (by simp [results, Tryd.results68, go_sem]) rfl h6
end Go.Proofs.YtdjnaahkcnklhabDoor.Co
