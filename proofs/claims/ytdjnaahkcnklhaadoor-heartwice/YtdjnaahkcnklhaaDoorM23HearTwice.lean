/- Texts of this claim, one behind the other. -/
import Derived.Test.YtdjnaahkcnklhaaDoorM22HearTwice
import Derived.Test.YtdjnaahkcnklhaaDoorM11HearTwice
import Derived.Lib.QuietBelow
/- The clerk's answered: the task that waits is done, or refused; a job of which a write is refused cannot go on. -/
namespace Go.Proofs.YtdjnaahkcnklhaaDoor.Co
open Go.ChangeShapes Go.WideShapes Go.ChangeAt Go.RowKit
open Go.Proofs.YtdjnaahkcnklhaaDoor.St (BoxN boxn_new own_below grown_setCell IsRow Elem flat flat_append own_isRow idxI idxI_lt)
set_option linter.unusedVariables false

def lastT (j : JbV) : TkV := j.tasks.getD (j.tasks.length - 1) default
def ansTask (t : TkV) (m : MV) : TkV := { t with done := true, value := if t.write = true then t.value else m.value, version := if t.write = true then t.version else m.version }
def Tn.answered (t : Tn) (C : Cx) (i : Nat) (m : MV) : Tn :=
  if (waitB (t.js.getD i default) && ansB (C.home (lastT (t.js.getD i default)).key) m (lastT (t.js.getD i default))) = true then
    (if m.code = 0 then { t.rep C (callKind (lastT (t.js.getD i default))) (t.js.getD i default).n m.key m.value m.code with js := t.js.set i { t.js.getD i default with age := 0, tasks := (t.js.getD i default).tasks.set ((t.js.getD i default).tasks.length - 1) (ansTask (lastT (t.js.getD i default)) m) } }
    else if (lastT (t.js.getD i default)).write = true then Tn.ended { t.rep C (callKind (lastT (t.js.getD i default))) (t.js.getD i default).n m.key m.value m.code with js := t.js.set i { t.js.getD i default with age := 0 } } C (t.js.getD i default).n (t.js.getD i default).tasks
    else { t.rep C (callKind (lastT (t.js.getD i default))) (t.js.getD i default).n m.key m.value m.code with js := t.js.set i { t.js.getD i default with age := 0, tasks := (t.js.getD i default).tasks.take ((t.js.getD i default).tasks.length - 1) } })
  else t
theorem rowAt {v : CkV} {more : List Rw} {w U : World} {B q : Nat} {u : CkV} {iy : List (Nat × Nat)} {m' : List Rw} (h : Clerk w U B q u iy m') {k : Nat} {r : Rw} (e : m'[k]? = some r) : U.ownsRow B r.te r.k r.v r.n r.xs := h.held.own.own _ _ (more_get e)
theorem tn_j6 (v : CkV) (ls : List (Int × Int)) (pa : Option Addr) (pc : Nat) (ck jn key value code : Int) (i : Nat) (J : JbV) : ({ refusedV v pa pc ⟨v.me, ck, jn, key, value, code⟩ with js := v.js.set i J } : CkV).tn = { v.tn.rep (v.cx ls) ck jn key value code with js := v.tn.js.set i J.bare } := by
  unfold CkV.tn refusedV Tn.rep
  simp only [set_bare]
  rfl
theorem row_box {U : World} {B : Nat} {t : TypeId} {k g : Nat} {vs : List Value} (ob : U.ownsRow B t k (.slice (some ⟨g, 0, none⟩) 1 1) 1 vs) (hl : vs.length = k) (h0 : 0 < k) : BoxN U g k vs := by
  refine ⟨hl, (own_at ob (j := 0) (by omega)).2, fun c hc => ⟨?_, (St.own_there ob (k := c) (by omega)).2⟩⟩
  rw [(own_at ob (j := c) (by omega)).1]
  simp [List.getD, show c < vs.length by omega]
set_option maxRecDepth 100000 in
set_option maxHeartbeats 8000000 in
theorem answered_done {w : World} {B q : Nat} {v : CkV} {ix : List (Nat × Nat)} {more : List Rw} (X : World) (h : Clerk w X B q v ix more) (hr : v.rs = []) (ls : List (Int × Int)) {i g : Nat} (hi : i < v.jl) (eg : v.ja = some ⟨g, 0, none⟩) (m : MV) (hs : v.s ≤ 1048576) (hm : v.ml ≤ 1000000) (hp : v.pl ≤ 1000000) (htl : (v.js.getD i default).tl ≤ 1000000) (hL : Labs w B q v ls) :
    Calls Tryd.prog 35 #[.pointer (some ⟨q, 0, none⟩), .pointer (some ⟨g, i * 6, none⟩), m.val] X fun e X' => DoneIs w X' B q v (v.tn.answered (v.cx ls) i m) e := by
  obtain ⟨kind, frm, dst, site, num, label, key, value, version, ask, yes, code⟩ := m
  simp only [MV.val]
  have hi' : i < v.js.length := by have := h.lens.1; omega
  have hfit := (h.fit hi).1
  obtain ⟨W, hW⟩ : ∃ W : World, W = X.alloc (.cells #[.int .i64 kind, .int .i64 frm, .int .i64 dst, .int .i64 site, .int .i64 num, .int .i64 label, .int .i64 key, .int .i64 value, .int .i64 version, .int .i64 ask, .bool yes, .int .i64 code] 58) := ⟨_, rfl⟩
  have bW : Below X.heap.size X W := by rw [hW]; exact (Below.refl _ _).alloc (Nat.le_refl _) _
  have zW : X.heap.size < W.heap.size := by rw [hW]; simp
  have hCW : Clerk w W B q v ix (more ++ [⟨58, 12, .slice (some ⟨X.heap.size, 0, none⟩) 1 1, 1, [.int .i64 kind, .int .i64 frm, .int .i64 dst, .int .i64 site, .int .i64 num, .int .i64 label, .int .i64 key, .int .i64 value, .int .i64 version, .int .i64 ask, .bool yes, .int .i64 code]⟩]) := h.add bW (by rw [hW]; exact box_row X _ _ 12 rfl)
  have HC : Hid (Clerk w W B q v ix (more ++ [⟨58, 12, .slice (some ⟨X.heap.size, 0, none⟩) 1 1, 1, [.int .i64 kind, .int .i64 frm, .int .i64 dst, .int .i64 site, .int .i64 num, .int .i64 label, .int .i64 key, .int .i64 value, .int .i64 version, .int .i64 ask, .bool yes, .int .i64 code]⟩])) := hCW
  have HRs : Hid (∀ more', RecsIn v.rs more') := fun more' => by rw [hr]; exact recsIn_nil _
  have HRs0 : Hid (v.rs = []) := hr
  have HSame : Hid (∀ U, Below W.heap.size W U → v.tn.answered (v.cx ls) i ⟨kind, frm, dst, site, num, label, key, value, version, ask, yes, code⟩ = v.tn → DoneIs w U B q v (v.tn.answered (v.cx ls) i ⟨kind, frm, dst, site, num, label, key, value, version, ask, yes, code⟩) (.returned (.tuple #[]))) := fun U hU e => ⟨rfl, v, ix, _, HC.out.below hU, HRs.out _, e.symm, rfl, rfl, rfl, rfl, rfl, rfl, rfl⟩
  have HWt : Hid (Calls Tryd.prog 48 #[.pointer (some ⟨g, i * 6, none⟩)] W fun e X' => WaitIs e (v.js.getD i default) ∧ X' = W) := waiting_any W hCW hi eg
  have HBj : Hid (v.tn.js.getD i default = (v.js.getD i default).bare) := getD_bare _ _
  have HKM : Hid (∀ (k y : Nat), ix[i]? = some (k, y) → k < more.length) := fun k y e => (h.jobs.inn i (k, y) e).1
  clear hCW h hr
  go_enter Tryd.func35, Tryd.ntmps35
  go_upto_region 1 with (fail)
  rw [← hW]
  clear hW
  go_upto_region 2 with (go_at_call 48; refine HWt.out.mono ?_; rintro e u ⟨hWt, hu⟩; rw [hu]; clear hu u; rcases hWt with ⟨hwb, rfl⟩ | ⟨hwb, gt, mm, eta, etl, rfl⟩)
  · have HA : Hid (v.tn.answered (v.cx ls) i ⟨kind, frm, dst, site, num, label, key, value, version, ask, yes, code⟩ = v.tn) := by
      show _ = _
      unfold Tn.answered
      have e1 : waitB (v.tn.js.getD i default) = false := by rw [HBj.out]; exact hwb
      rw [e1, if_neg (by simp)]
    clear hwb
    refine wp_region_quiet_below (by kernel_rfl) (by kernel_rfl) ?_
    repeat (go_big_quiet_step (fail))
    refine wpQuiet_nil ?_
    intro _ hw'
    obtain ⟨⟨dq, osq⟩, hw''⟩ := hw'
    subst hw''
    have bQ := below_regrown W dq osq
    obtain ⟨Z, eZ⟩ : ∃ Z, Z = Go.Sort.grow (Go.redrawn W dq) osq := ⟨_, rfl⟩
    rw [← eZ] at bQ ⊢
    clear eZ
    have hF := HSame.out Z bQ HA.out
    go_wp2
    exact bodyPost_ret (v := .tuple #[]) (by simp [results, Tryd.results35, go_sem]) rfl hF
  · obtain ⟨J, eJ⟩ : ∃ J, J = v.js.getD i default := ⟨_, rfl⟩
    have hmt : mm < J.tasks.length := by rw [eJ, hfit, etl]; omega
    have HLen : Hid (J.tasks.length = mm + 1) := by show _ = _; rw [eJ, hfit, etl]
    obtain ⟨t, et⟩ : ∃ t, t = J.tasks.getD mm default := ⟨_, rfl⟩
    have HLast : Hid (lastT (v.tn.js.getD i default) = t) := by
      show _ = _
      rw [HBj.out, ← eJ, et]
      unfold lastT
      show J.tasks.getD (J.tasks.length - 1) default = _
      rw [HLen.out]
      rfl
    /- the task's cells, and the job's, in every clerk whose i-th job has these lists -/
    have HTk : Hid (∀ (U : World) (u : CkV) (iy : List (Nat × Nat)) (m' : List Rw), Clerk w U B q u iy m' → u.jl = v.jl → (u.js.getD i default).ta = some ⟨gt, 0, none⟩ → (u.js.getD i default).tl = mm + 1 → (∀ c, c < 8 → U.cell? ⟨gt, mm * 8 + c, none⟩ = ((u.js.getD i default).tasks.getD mm default).cells[c]? ∧ U.frozen? ⟨gt, mm * 8 + c, none⟩ = false) ∧ gt < U.heap.size) := fun U u iy m' hU e1 e2 e3 => by
      have ot := (hU.tasksAt (i := i) (by rw [e1]; exact hi)).1
      have ht := hU.isTasks (i := i) (by rw [e1]; exact hi)
      rw [e2, e3] at ot ht
      obtain ⟨b, off, e4, zb, hcr⟩ := ht.2.2.2.2 (by omega)
      simp at e4
      obtain ⟨rfl, rfl⟩ := e4
      refine ⟨fun c hc => ⟨?_, (St.own_there ot (k := mm * 8 + c) (by omega)).2⟩, zb⟩
      have := hcr mm (by omega) c hc
      rw [Nat.zero_add] at this
      exact this
    have HJc : Hid (∀ (U : World) (u : CkV) (iy : List (Nat × Nat)) (m' : List Rw), Clerk w U B q u iy m' → u.jl = v.jl → u.ja = v.ja → (∀ c, c < 6 → U.cell? ⟨g, i * 6 + c, none⟩ = (u.js.getD i default).cells[c]? ∧ U.frozen? ⟨g, i * 6 + c, none⟩ = false) ∧ g < U.heap.size) := fun U u iy m' hU e1 e2 => by
      obtain ⟨g2, eg2, -, zg2, -, hc2, hf2⟩ := hU.jobAt (i := i) (by rw [e1]; exact hi)
      rw [e2] at eg2
      obtain rfl := ptrEq eg eg2
      exact ⟨fun c hc => ⟨hc2 c hc, hf2 c hc⟩, zg2⟩
    have HMb : Hid (∀ (U : World) (u : CkV) (iy : List (Nat × Nat)) (m' : List Rw), Clerk w U B q u iy m' → m'[more.length]? = some ⟨58, 12, .slice (some ⟨X.heap.size, 0, none⟩) 1 1, 1, [.int .i64 kind, .int .i64 frm, .int .i64 dst, .int .i64 site, .int .i64 num, .int .i64 label, .int .i64 key, .int .i64 value, .int .i64 version, .int .i64 ask, .bool yes, .int .i64 code]⟩ → BoxN U X.heap.size 12 [.int .i64 kind, .int .i64 frm, .int .i64 dst, .int .i64 site, .int .i64 num, .int .i64 label, .int .i64 key, .int .i64 value, .int .i64 version, .int .i64 ask, .bool yes, .int .i64 code]) := fun U u iy m' hU e => by
      have ob := rowAt (v := u) (more := m') hU e
      exact row_box ob rfl (by decide)
    have HAn : Hid (∀ U, Below W.heap.size W U → Calls Tryd.prog 60 #[.pointer (some ⟨q, 0, none⟩), .agg #[.int .i64 kind, .int .i64 frm, .int .i64 dst, .int .i64 site, .int .i64 num, .int .i64 label, .int .i64 key, .int .i64 value, .int .i64 version, .int .i64 ask, .bool yes, .int .i64 code], t.val] U fun e X' => e = .returned (.bool (ansB (homeNum v.s ls v.p t.key) ⟨kind, frm, dst, site, num, label, key, value, version, ask, yes, code⟩ t)) ∧ Below U.heap.size U X') := fun U hU => answers_any U (HC.out.below hU) ls (hL _ _ _ _ (HC.out.below hU)) ⟨kind, frm, dst, site, num, label, key, value, version, ask, yes, code⟩ t
    obtain ⟨A, eA⟩ : ∃ A, A = ansB (homeNum v.s ls v.p t.key) ⟨kind, frm, dst, site, num, label, key, value, version, ask, yes, code⟩ t := ⟨_, rfl⟩
    rw [← eA] at HAn
    have HGo : Hid ((waitB (v.tn.js.getD i default) && ansB ((v.cx ls).home (lastT (v.tn.js.getD i default)).key) ⟨kind, frm, dst, site, num, label, key, value, version, ask, yes, code⟩ (lastT (v.tn.js.getD i default))) = A) := by
      show _ = _
      rw [HLast.out]
      have e1 : waitB (v.tn.js.getD i default) = true := by rw [HBj.out]; exact hwb
      rw [e1, eA]
      rfl
    clear eA hwb
    obtain ⟨hct, zt⟩ := HTk.out W v ix _ HC.out rfl eta etl
    rw [← eJ, ← et] at hct
    have HEt : Hid (t = (v.js.getD i default).tasks.getD mm default) := by rw [← eJ]; exact et
    have HEta : Hid ((v.js.getD i default).ta = some ⟨gt, 0, none⟩ ∧ (v.js.getD i default).tl = mm + 1) := ⟨eta, etl⟩
    clear et eta etl eJ hmt
    obtain ⟨write, tlabel, tkey, tvalue, tversion, task, done, sure⟩ := t
    simp only [TkV.val] at HAn
    have a0 := (hct 0 (by decide)).1
    have a1 := (hct 1 (by decide)).1
    have a2 := (hct 2 (by decide)).1
    have a3 := (hct 3 (by decide)).1
    have a4 := (hct 4 (by decide)).1
    have a5 := (hct 5 (by decide)).1
    have a6 := (hct 6 (by decide)).1
    have a7 := (hct 7 (by decide)).1
    simp only [TkV.cells, List.getElem?_cons_zero, List.getElem?_cons_succ, Nat.add_zero] at a0 a1 a2 a3 a4 a5 a6 a7
    clear hct
    have mb := HMb.out W v ix _ HC.out (by simp)
    have b0 : W.cell? ⟨X.heap.size, 0, none⟩ = some (.int .i64 kind) := (mb.c 0 (by decide)).1
    have b1 : W.cell? ⟨X.heap.size, 1, none⟩ = some (.int .i64 frm) := (mb.c 1 (by decide)).1
    have b2 : W.cell? ⟨X.heap.size, 2, none⟩ = some (.int .i64 dst) := (mb.c 2 (by decide)).1
    have b3 : W.cell? ⟨X.heap.size, 3, none⟩ = some (.int .i64 site) := (mb.c 3 (by decide)).1
    have b4 : W.cell? ⟨X.heap.size, 4, none⟩ = some (.int .i64 num) := (mb.c 4 (by decide)).1
    have b5 : W.cell? ⟨X.heap.size, 5, none⟩ = some (.int .i64 label) := (mb.c 5 (by decide)).1
    have b6 : W.cell? ⟨X.heap.size, 6, none⟩ = some (.int .i64 key) := (mb.c 6 (by decide)).1
    have b7 : W.cell? ⟨X.heap.size, 7, none⟩ = some (.int .i64 value) := (mb.c 7 (by decide)).1
    have b8 : W.cell? ⟨X.heap.size, 8, none⟩ = some (.int .i64 version) := (mb.c 8 (by decide)).1
    have b9 : W.cell? ⟨X.heap.size, 9, none⟩ = some (.int .i64 ask) := (mb.c 9 (by decide)).1
    have b10 : W.cell? ⟨X.heap.size, 10, none⟩ = some (.bool yes) := (mb.c 10 (by decide)).1
    have b11 : W.cell? ⟨X.heap.size, 11, none⟩ = some (.int .i64 code) := (mb.c 11 (by decide)).1
    cases A with
    | false =>
      have HA : Hid (v.tn.answered (v.cx ls) i ⟨kind, frm, dst, site, num, label, key, value, version, ask, yes, code⟩ = v.tn) := by
        show _ = _
        unfold Tn.answered
        rw [HGo.out, if_neg (by simp)]
      have qa0 := fun d os => cell_regrown a0 d os
      have qa1 := fun d os => cell_regrown a1 d os
      have qa2 := fun d os => cell_regrown a2 d os
      have qa3 := fun d os => cell_regrown a3 d os
      have qa4 := fun d os => cell_regrown a4 d os
      have qa5 := fun d os => cell_regrown a5 d os
      have qa6 := fun d os => cell_regrown a6 d os
      have qa7 := fun d os => cell_regrown a7 d os
      have qb0 := fun d os => cell_regrown b0 d os
      have qb1 := fun d os => cell_regrown b1 d os
      have qb2 := fun d os => cell_regrown b2 d os
      have qb3 := fun d os => cell_regrown b3 d os
      have qb4 := fun d os => cell_regrown b4 d os
      have qb5 := fun d os => cell_regrown b5 d os
      have qb6 := fun d os => cell_regrown b6 d os
      have qb7 := fun d os => cell_regrown b7 d os
      have qb8 := fun d os => cell_regrown b8 d os
      have qb9 := fun d os => cell_regrown b9 d os
      have qb10 := fun d os => cell_regrown b10 d os
      have qb11 := fun d os => cell_regrown b11 d os
      refine wp_region_quiet_below (by kernel_rfl) (by kernel_rfl) ?_
      repeat (go_big_quiet_step ((exact Calls.regrown_of (HAn.out _ (below_regrown _ _ _)))))
      refine wpQuiet_nil ?_
      intro _ hw'
      obtain ⟨⟨dq, osq⟩, hw''⟩ := hw'
      subst hw''
      have bQ := below_regrown W dq osq
      obtain ⟨Z, eZ⟩ : ∃ Z, Z = Go.Sort.grow (Go.redrawn W dq) osq := ⟨_, rfl⟩
      rw [← eZ] at bQ ⊢
      clear eZ qa0 qa1 qa2 qa3 qa4 qa5 qa6 qa7 qb0 qb1 qb2 qb3 qb4 qb5 qb6 qb7 qb8 qb9 qb10 qb11 a0 a1 a2 a3 a4 a5 a6 a7 b0 b1 b2 b3 b4 b5 b6 b7 b8 b9 b10 b11 mb
      have hF := HSame.out Z bQ HA.out
      go_wp2
      exact bodyPost_ret (v := .tuple #[]) (by simp [results, Tryd.results35, go_sem]) rfl hF
    | true =>
      have qa0 := fun d os => cell_regrown a0 d os
      have qa1 := fun d os => cell_regrown a1 d os
      have qa2 := fun d os => cell_regrown a2 d os
      have qa3 := fun d os => cell_regrown a3 d os
      have qa4 := fun d os => cell_regrown a4 d os
      have qa5 := fun d os => cell_regrown a5 d os
      have qa6 := fun d os => cell_regrown a6 d os
      have qa7 := fun d os => cell_regrown a7 d os
      have qb0 := fun d os => cell_regrown b0 d os
      have qb1 := fun d os => cell_regrown b1 d os
      have qb2 := fun d os => cell_regrown b2 d os
      have qb3 := fun d os => cell_regrown b3 d os
      have qb4 := fun d os => cell_regrown b4 d os
      have qb5 := fun d os => cell_regrown b5 d os
      have qb6 := fun d os => cell_regrown b6 d os
      have qb7 := fun d os => cell_regrown b7 d os
      have qb8 := fun d os => cell_regrown b8 d os
      have qb9 := fun d os => cell_regrown b9 d os
      have qb10 := fun d os => cell_regrown b10 d os
      have qb11 := fun d os => cell_regrown b11 d os
      refine wp_region_quiet_below (by kernel_rfl) (by kernel_rfl) ?_
      repeat (go_big_quiet_step ((exact Calls.regrown_of (HAn.out _ (below_regrown _ _ _)))))
      refine wpQuiet_nil ?_
      intro _ hw'
      obtain ⟨⟨dq, osq⟩, hw''⟩ := hw'
      subst hw''
      have bQ := below_regrown W dq osq
      obtain ⟨Z, eZ⟩ : ∃ Z, Z = Go.Sort.grow (Go.redrawn W dq) osq := ⟨_, rfl⟩
      rw [← eZ] at bQ ⊢
      clear eZ qa0 qa1 qa2 qa3 qa4 qa5 qa6 qa7 qb0 qb1 qb2 qb3 qb4 qb5 qb6 qb7 qb8 qb9 qb10 qb11 a0 a1 a2 a3 a4 a5 a6 a7 b0 b1 b2 b3 b4 b5 b6 b7 b8 b9 b10 b11 mb
      go_upto_region 3 with (fail)
      have HCZ : Hid (Clerk w Z B q v ix (more ++ [⟨58, 12, .slice (some ⟨X.heap.size, 0, none⟩) 1 1, 1, [.int .i64 kind, .int .i64 frm, .int .i64 dst, .int .i64 site, .int .i64 num, .int .i64 label, .int .i64 key, .int .i64 value, .int .i64 version, .int .i64 ask, .bool yes, .int .i64 code]⟩])) := HC.out.below bQ
      obtain ⟨JN, eJN⟩ : ∃ JN, JN = (v.js.getD i default).n := ⟨_, rfl⟩
      have HJN : Hid (JN = (v.js.getD i default).n) := eJN
      clear eJN
      have KC : Hid (∀ U, Below Z.heap.size Z U → (U.cell? ⟨gt, mm * 8, none⟩ = some (.bool write) ∧ U.cell? ⟨gt, mm * 8 + 1, none⟩ = some (.int .i64 tlabel) ∧ U.cell? ⟨gt, mm * 8 + 2, none⟩ = some (.int .i64 tkey) ∧ U.cell? ⟨gt, mm * 8 + 3, none⟩ = some (.int .i64 tvalue) ∧ U.cell? ⟨gt, mm * 8 + 4, none⟩ = some (.int .i64 tversion) ∧ U.cell? ⟨gt, mm * 8 + 5, none⟩ = some (.int .i64 task) ∧ U.cell? ⟨gt, mm * 8 + 6, none⟩ = some (.bool done) ∧ U.cell? ⟨gt, mm * 8 + 7, none⟩ = some (.bool sure)) ∧ U.cell? ⟨g, i * 6, none⟩ = some (.int .i64 JN) ∧ U.cell? ⟨X.heap.size, 6, none⟩ = some (.int .i64 key) ∧ U.cell? ⟨X.heap.size, 7, none⟩ = some (.int .i64 value) ∧ U.cell? ⟨X.heap.size, 11, none⟩ = some (.int .i64 code)) := fun U hU => by
        have hU2 := HCZ.out.below hU
        have h1 := (HTk.out U v ix _ hU2 rfl HEta.out.1 HEta.out.2).1
        rw [← HEt.out] at h1
        have h2 := ((HJc.out U v ix _ hU2 rfl rfl).1 0 (by decide)).1
        have h3 := HMb.out U v ix _ hU2 (by simp)
        refine ⟨⟨by simpa [TkV.cells] using (h1 0 (by decide)).1, by simpa [TkV.cells] using (h1 1 (by decide)).1, by simpa [TkV.cells] using (h1 2 (by decide)).1, by simpa [TkV.cells] using (h1 3 (by decide)).1, by simpa [TkV.cells] using (h1 4 (by decide)).1, by simpa [TkV.cells] using (h1 5 (by decide)).1, by simpa [TkV.cells] using (h1 6 (by decide)).1, by simpa [TkV.cells] using (h1 7 (by decide)).1⟩, ?_, (h3.c 6 (by decide)).1, (h3.c 7 (by decide)).1, (h3.c 11 (by decide)).1⟩
        rw [HJN.out]
        simpa [JbV.cells] using h2
      obtain ⟨CK, eCK⟩ : ∃ CK, CK = callKind ⟨write, tlabel, tkey, tvalue, tversion, task, done, sure⟩ := ⟨_, rfl⟩
      have HCK : Hid (CK = callKind ⟨write, tlabel, tkey, tvalue, tversion, task, done, sure⟩) := eCK
      have HCo : Hid (∀ U, Calls Tryd.prog 61 #[.agg #[.bool write, .int .i64 tlabel, .int .i64 tkey, .int .i64 tvalue, .int .i64 tversion, .int .i64 task, .bool done, .bool sure]] U fun e w' => e = .returned (.int .i64 CK) ∧ Below U.heap.size U w') := fun U => by rw [eCK]; exact callOf_any ⟨write, tlabel, tkey, tvalue, tversion, task, done, sure⟩ U
      obtain ⟨D, eD⟩ : ∃ D : World → Prop, D = fun u => ∃ (pa : Option Addr) (pc : Nat), Clerk w u B q (refusedV v pa pc ⟨v.me, CK, JN, key, value, code⟩) ix (more ++ [⟨58, 12, .slice (some ⟨X.heap.size, 0, none⟩) 1 1, 1, [.int .i64 kind, .int .i64 frm, .int .i64 dst, .int .i64 site, .int .i64 num, .int .i64 label, .int .i64 key, .int .i64 value, .int .i64 version, .int .i64 ask, .bool yes, .int .i64 code]⟩]) := ⟨_, rfl⟩
      have HD : Hid (∀ u, D u → ∃ (pa : Option Addr) (pc : Nat), Clerk w u B q (refusedV v pa pc ⟨v.me, CK, JN, key, value, code⟩) ix (more ++ [⟨58, 12, .slice (some ⟨X.heap.size, 0, none⟩) 1 1, 1, [.int .i64 kind, .int .i64 frm, .int .i64 dst, .int .i64 site, .int .i64 num, .int .i64 label, .int .i64 key, .int .i64 value, .int .i64 version, .int .i64 ask, .bool yes, .int .i64 code]⟩])) := fun u hu => by rw [eD] at hu; exact hu
      have HRp : Hid (∀ U, Below Z.heap.size Z U → Calls Tryd.prog 26 #[.pointer (some ⟨q, 0, none⟩), .agg #[.int .i64 0, .int .i64 CK, .int .i64 JN, .int .i64 key, .int .i64 value, .int .i64 code]] U fun e X' => e = .returned (.tuple #[]) ∧ D X') := fun U hU => by
        refine (reply_any U (HCZ.out.below hU) ⟨0, CK, JN, key, value, code⟩ (fitP hp)).mono ?_
        rintro e u ⟨rfl, a5, c5, h5⟩
        refine ⟨rfl, ?_⟩
        rw [eD]
        exact ⟨a5, c5, h5⟩
      clear eCK eD
      refine wp_region_inv (by kernel_rfl) [20, 21, 22, 23, 24, 25, 26, 27, 28, 29, 30, 31, 32, 33, 34, 35, 36] (fun L T u => True ∧ (L 0 = true → T 20 = .pointer (some ⟨q, 0, none⟩)) ∧ (L 1 = true → T 21 = .pointer (some ⟨gt, mm * 8, none⟩)) ∧ (L 2 = true → T 22 = .pointer (some ⟨gt, mm * 8, none⟩)) ∧ (L 3 = true → T 23 = .agg #[.bool write, .int .i64 tlabel, .int .i64 tkey, .int .i64 tvalue, .int .i64 tversion, .int .i64 task, .bool done, .bool sure]) ∧ (L 4 = true → T 24 = .int .i64 CK) ∧ (L 5 = true → T 25 = .pointer (some ⟨g, i * 6, none⟩)) ∧ (L 6 = true → T 26 = .pointer (some ⟨g, i * 6, none⟩)) ∧ (L 7 = true → T 27 = .pointer (some ⟨g, i * 6, none⟩)) ∧ (L 8 = true → T 28 = .int .i64 JN) ∧ (L 9 = true → T 29 = .pointer (some ⟨X.heap.size, 6, none⟩)) ∧ (L 10 = true → T 30 = .int .i64 key) ∧ (L 11 = true → T 31 = .pointer (some ⟨X.heap.size, 7, none⟩)) ∧ (L 12 = true → T 32 = .int .i64 value) ∧ (L 13 = true → T 33 = .pointer (some ⟨X.heap.size, 11, none⟩)) ∧ (L 14 = true → T 34 = .int .i64 code) ∧ (L 15 = true → T 35 = .agg #[.int .i64 0, .int .i64 CK, .int .i64 JN, .int .i64 key, .int .i64 value, .int .i64 code]) ∧ (L 16 = false → Below Z.heap.size Z u) ∧ (L 16 = true → D u)) (by decide) (by kernel_rfl) (by kernel_rfl) ?_ ?_ ?_
      · exact ⟨trivial, nofun, nofun, nofun, nofun, nofun, nofun, nofun, nofun, nofun, nofun, nofun, nofun, nofun, nofun, nofun, nofun, fun _ => (Below.refl _ _).drew, nofun⟩
      · refine ⟨?_, ?_, ?_, ?_, ?_, ?_, ?_, ?_, ?_, ?_, ?_, ?_, ?_, ?_, ?_, ?_, ?_, trivial⟩
        · rintro L T u hd hk hcl ⟨hb, p0, p1, p2, p3, p4, p5, p6, p7, p8, p9, p10, p11, p12, p13, p14, p15, c1, c2⟩ K hK
          simp only [fr, Act.put, List.setIfInBounds_toArray, List.set_cons_zero, List.set_cons_succ, updO] at hK ⊢
          simp [Region.binds] at hd
          rw [if_pos (by rfl)]
          simp only [Oper.wpv]
          go_simp
          exact hK _ _ ⟨hb, fun _ => rfl, p1, p2, p3, p4, p5, p6, p7, p8, p9, p10, p11, p12, p13, p14, p15, c1, c2⟩
        · rintro L T u hd hk hcl ⟨hb, p0, p1, p2, p3, p4, p5, p6, p7, p8, p9, p10, p11, p12, p13, p14, p15, c1, c2⟩ K hK
          simp only [fr, Act.put, List.setIfInBounds_toArray, List.set_cons_zero, List.set_cons_succ, updO] at hK ⊢
          simp [Region.binds] at hd
          rw [if_pos (by rfl)]
          simp only [Oper.wpv]
          go_simp
          exact hK _ _ ⟨hb, p0, fun _ => rfl, p2, p3, p4, p5, p6, p7, p8, p9, p10, p11, p12, p13, p14, p15, c1, c2⟩
        · rintro L T u hd hk hcl ⟨hb, p0, p1, p2, p3, p4, p5, p6, p7, p8, p9, p10, p11, p12, p13, p14, p15, c1, c2⟩ K hK
          simp only [fr, Act.put, List.setIfInBounds_toArray, List.set_cons_zero, List.set_cons_succ, updO] at hK ⊢
          simp [Region.binds] at hd
          have g1 := p1 (by simp [hd])
          rw [if_pos (by rfl)]
          simp only [Oper.wpv]
          go_simp
          exact hK _ _ ⟨hb, p0, p1, fun _ => rfl, p3, p4, p5, p6, p7, p8, p9, p10, p11, p12, p13, p14, p15, c1, c2⟩
        · rintro L T u hd hk hcl ⟨hb, p0, p1, p2, p3, p4, p5, p6, p7, p8, p9, p10, p11, p12, p13, p14, p15, c1, c2⟩ K hK
          simp only [fr, Act.put, List.setIfInBounds_toArray, List.set_cons_zero, List.set_cons_succ, updO] at hK ⊢
          simp [Region.binds] at hd
          have g2 := p2 (by simp [hd])
          have k16 := hcl 16 _ rfl
          simp [Region.binds] at k16
          have k15 := hcl 15 _ rfl
          simp [Region.binds] at k15
          have k4 := hcl 4 _ rfl
          simp [Region.binds] at k4
          have hE : L 16 = false := by cases h : L 16 with | false => rfl | true => have a16 := k16 h; have a15 := k15 (by simp [a16]); have a4 := k4 (by simp [a15]); simp [hk] at a4
          obtain ⟨⟨t0, t1, t2, t3, t4, t5, t6, t7⟩, xn, xk, xv, xc⟩ := KC.out u (c1 hE)
          rw [if_pos (by rfl)]
          simp only [Oper.wpv]
          go_simp
          exact hK _ _ ⟨hb, p0, p1, p2, fun _ => rfl, p4, p5, p6, p7, p8, p9, p10, p11, p12, p13, p14, p15, c1, c2⟩
        · rintro L T u hd hk hcl ⟨hb, p0, p1, p2, p3, p4, p5, p6, p7, p8, p9, p10, p11, p12, p13, p14, p15, c1, c2⟩ K hK
          simp only [fr, Act.put, List.setIfInBounds_toArray, List.set_cons_zero, List.set_cons_succ, updO] at hK ⊢
          simp [Region.binds] at hd
          have g3 := p3 (by simp [hd])
          have k16 := hcl 16 _ rfl
          simp [Region.binds] at k16
          have k15 := hcl 15 _ rfl
          simp [Region.binds] at k15
          have hE : L 16 = false := by cases h : L 16 with | false => rfl | true => have a16 := k16 h; have a15 := k15 (by simp [a16]); simp [hk] at a15
          rw [if_pos (by rfl)]
          simp only [Oper.wpv]
          go_simp
          refine (HCo.out _).mono ?_
          rintro e u1 ⟨rfl, hg⟩
          exact hK _ _ ⟨hb, p0, p1, p2, p3, fun _ => rfl, p5, p6, p7, p8, p9, p10, p11, p12, p13, p14, p15, fun _ => nT (c1 hE) hg, fun h => absurd (show L 16 = true from h) (by simp [hE])⟩
        · rintro L T u hd hk hcl ⟨hb, p0, p1, p2, p3, p4, p5, p6, p7, p8, p9, p10, p11, p12, p13, p14, p15, c1, c2⟩ K hK
          simp only [fr, Act.put, List.setIfInBounds_toArray, List.set_cons_zero, List.set_cons_succ, updO] at hK ⊢
          simp [Region.binds] at hd
          rw [if_pos (by rfl)]
          simp only [Oper.wpv]
          go_simp
          exact hK _ _ ⟨hb, p0, p1, p2, p3, p4, fun _ => rfl, p6, p7, p8, p9, p10, p11, p12, p13, p14, p15, c1, c2⟩
        · rintro L T u hd hk hcl ⟨hb, p0, p1, p2, p3, p4, p5, p6, p7, p8, p9, p10, p11, p12, p13, p14, p15, c1, c2⟩ K hK
          simp only [fr, Act.put, List.setIfInBounds_toArray, List.set_cons_zero, List.set_cons_succ, updO] at hK ⊢
          simp [Region.binds] at hd
          have g5 := p5 (by simp [hd])
          rw [if_pos (by rfl)]
          simp only [Oper.wpv]
          go_simp
          exact hK _ _ ⟨hb, p0, p1, p2, p3, p4, p5, fun _ => rfl, p7, p8, p9, p10, p11, p12, p13, p14, p15, c1, c2⟩
        · rintro L T u hd hk hcl ⟨hb, p0, p1, p2, p3, p4, p5, p6, p7, p8, p9, p10, p11, p12, p13, p14, p15, c1, c2⟩ K hK
          simp only [fr, Act.put, List.setIfInBounds_toArray, List.set_cons_zero, List.set_cons_succ, updO] at hK ⊢
          simp [Region.binds] at hd
          have g6 := p6 (by simp [hd])
          rw [if_pos (by rfl)]
          simp only [Oper.wpv]
          go_simp
          exact hK _ _ ⟨hb, p0, p1, p2, p3, p4, p5, p6, fun _ => rfl, p8, p9, p10, p11, p12, p13, p14, p15, c1, c2⟩
        · rintro L T u hd hk hcl ⟨hb, p0, p1, p2, p3, p4, p5, p6, p7, p8, p9, p10, p11, p12, p13, p14, p15, c1, c2⟩ K hK
          simp only [fr, Act.put, List.setIfInBounds_toArray, List.set_cons_zero, List.set_cons_succ, updO] at hK ⊢
          simp [Region.binds] at hd
          have g7 := p7 (by simp [hd])
          have k16 := hcl 16 _ rfl
          simp [Region.binds] at k16
          have k15 := hcl 15 _ rfl
          simp [Region.binds] at k15
          have hE : L 16 = false := by cases h : L 16 with | false => rfl | true => have a16 := k16 h; have a15 := k15 (by simp [a16]); simp [hk] at a15
          obtain ⟨⟨t0, t1, t2, t3, t4, t5, t6, t7⟩, xn, xk, xv, xc⟩ := KC.out u (c1 hE)
          rw [if_pos (by rfl)]
          simp only [Oper.wpv]
          go_simp
          exact hK _ _ ⟨hb, p0, p1, p2, p3, p4, p5, p6, p7, fun _ => rfl, p9, p10, p11, p12, p13, p14, p15, c1, c2⟩
        · rintro L T u hd hk hcl ⟨hb, p0, p1, p2, p3, p4, p5, p6, p7, p8, p9, p10, p11, p12, p13, p14, p15, c1, c2⟩ K hK
          simp only [fr, Act.put, List.setIfInBounds_toArray, List.set_cons_zero, List.set_cons_succ, updO] at hK ⊢
          simp [Region.binds] at hd
          rw [if_pos (by rfl)]
          simp only [Oper.wpv]
          go_simp
          exact hK _ _ ⟨hb, p0, p1, p2, p3, p4, p5, p6, p7, p8, fun _ => rfl, p10, p11, p12, p13, p14, p15, c1, c2⟩
        · rintro L T u hd hk hcl ⟨hb, p0, p1, p2, p3, p4, p5, p6, p7, p8, p9, p10, p11, p12, p13, p14, p15, c1, c2⟩ K hK
          simp only [fr, Act.put, List.setIfInBounds_toArray, List.set_cons_zero, List.set_cons_succ, updO] at hK ⊢
          simp [Region.binds] at hd
          have g9 := p9 (by simp [hd])
          have k16 := hcl 16 _ rfl
          simp [Region.binds] at k16
          have k15 := hcl 15 _ rfl
          simp [Region.binds] at k15
          have hE : L 16 = false := by cases h : L 16 with | false => rfl | true => have a16 := k16 h; have a15 := k15 (by simp [a16]); simp [hk] at a15
          obtain ⟨⟨t0, t1, t2, t3, t4, t5, t6, t7⟩, xn, xk, xv, xc⟩ := KC.out u (c1 hE)
          rw [if_pos (by rfl)]
          simp only [Oper.wpv]
          go_simp
          exact hK _ _ ⟨hb, p0, p1, p2, p3, p4, p5, p6, p7, p8, p9, fun _ => rfl, p11, p12, p13, p14, p15, c1, c2⟩
        · rintro L T u hd hk hcl ⟨hb, p0, p1, p2, p3, p4, p5, p6, p7, p8, p9, p10, p11, p12, p13, p14, p15, c1, c2⟩ K hK
          simp only [fr, Act.put, List.setIfInBounds_toArray, List.set_cons_zero, List.set_cons_succ, updO] at hK ⊢
          simp [Region.binds] at hd
          rw [if_pos (by rfl)]
          simp only [Oper.wpv]
          go_simp
          exact hK _ _ ⟨hb, p0, p1, p2, p3, p4, p5, p6, p7, p8, p9, p10, fun _ => rfl, p12, p13, p14, p15, c1, c2⟩
        · rintro L T u hd hk hcl ⟨hb, p0, p1, p2, p3, p4, p5, p6, p7, p8, p9, p10, p11, p12, p13, p14, p15, c1, c2⟩ K hK
          simp only [fr, Act.put, List.setIfInBounds_toArray, List.set_cons_zero, List.set_cons_succ, updO] at hK ⊢
          simp [Region.binds] at hd
          have g11 := p11 (by simp [hd])
          have k16 := hcl 16 _ rfl
          simp [Region.binds] at k16
          have k15 := hcl 15 _ rfl
          simp [Region.binds] at k15
          have hE : L 16 = false := by cases h : L 16 with | false => rfl | true => have a16 := k16 h; have a15 := k15 (by simp [a16]); simp [hk] at a15
          obtain ⟨⟨t0, t1, t2, t3, t4, t5, t6, t7⟩, xn, xk, xv, xc⟩ := KC.out u (c1 hE)
          rw [if_pos (by rfl)]
          simp only [Oper.wpv]
          go_simp
          exact hK _ _ ⟨hb, p0, p1, p2, p3, p4, p5, p6, p7, p8, p9, p10, p11, fun _ => rfl, p13, p14, p15, c1, c2⟩
        · rintro L T u hd hk hcl ⟨hb, p0, p1, p2, p3, p4, p5, p6, p7, p8, p9, p10, p11, p12, p13, p14, p15, c1, c2⟩ K hK
          simp only [fr, Act.put, List.setIfInBounds_toArray, List.set_cons_zero, List.set_cons_succ, updO] at hK ⊢
          simp [Region.binds] at hd
          rw [if_pos (by rfl)]
          simp only [Oper.wpv]
          go_simp
          exact hK _ _ ⟨hb, p0, p1, p2, p3, p4, p5, p6, p7, p8, p9, p10, p11, p12, fun _ => rfl, p14, p15, c1, c2⟩
        · rintro L T u hd hk hcl ⟨hb, p0, p1, p2, p3, p4, p5, p6, p7, p8, p9, p10, p11, p12, p13, p14, p15, c1, c2⟩ K hK
          simp only [fr, Act.put, List.setIfInBounds_toArray, List.set_cons_zero, List.set_cons_succ, updO] at hK ⊢
          simp [Region.binds] at hd
          have g13 := p13 (by simp [hd])
          have k16 := hcl 16 _ rfl
          simp [Region.binds] at k16
          have k15 := hcl 15 _ rfl
          simp [Region.binds] at k15
          have hE : L 16 = false := by cases h : L 16 with | false => rfl | true => have a16 := k16 h; have a15 := k15 (by simp [a16]); simp [hk] at a15
          obtain ⟨⟨t0, t1, t2, t3, t4, t5, t6, t7⟩, xn, xk, xv, xc⟩ := KC.out u (c1 hE)
          rw [if_pos (by rfl)]
          simp only [Oper.wpv]
          go_simp
          exact hK _ _ ⟨hb, p0, p1, p2, p3, p4, p5, p6, p7, p8, p9, p10, p11, p12, p13, fun _ => rfl, p15, c1, c2⟩
        · rintro L T u hd hk hcl ⟨hb, p0, p1, p2, p3, p4, p5, p6, p7, p8, p9, p10, p11, p12, p13, p14, p15, c1, c2⟩ K hK
          simp only [fr, Act.put, List.setIfInBounds_toArray, List.set_cons_zero, List.set_cons_succ, updO] at hK ⊢
          simp [Region.binds] at hd
          have g4 := p4 (by simp [hd])
          have g8 := p8 (by simp [hd])
          have g10 := p10 (by simp [hd])
          have g12 := p12 (by simp [hd])
          have g14 := p14 (by simp [hd])
          rw [if_pos (by rfl)]
          simp only [Oper.wpv]
          go_simp
          exact hK _ _ ⟨hb, p0, p1, p2, p3, p4, p5, p6, p7, p8, p9, p10, p11, p12, p13, p14, fun _ => rfl, c1, c2⟩
        · rintro L T u hd hk hcl ⟨hb, p0, p1, p2, p3, p4, p5, p6, p7, p8, p9, p10, p11, p12, p13, p14, p15, c1, c2⟩ K hK
          simp only [fr, Act.put, List.setIfInBounds_toArray, List.set_cons_zero, List.set_cons_succ, updO] at hK ⊢
          simp [Region.binds] at hd
          have g0 := p0 (by simp [hd])
          have g15 := p15 (by simp [hd])
          have hE : L 16 = false := hk
          rw [if_pos (by rfl)]
          simp only [Oper.wpv]
          go_simp
          refine (HRp.out _ (c1 hE)).mono ?_
          rintro e u1 ⟨rfl, hg⟩
          exact hK _ _ ⟨hb, p0, p1, p2, p3, p4, p5, p6, p7, p8, p9, p10, p11, p12, p13, p14, p15, fun h => Bool.noConfusion (show true = false from h), fun _ => hg⟩
      · rintro L T u hl ⟨hb, p0, p1, p2, p3, p4, p5, p6, p7, p8, p9, p10, p11, p12, p13, p14, p15, c1, c2⟩
        simp only [fr, Act.put, List.setIfInBounds_toArray, List.set_cons_zero, List.set_cons_succ]
        obtain ⟨pa, pc, hC5⟩ := HD.out _ (c2 (hl 16 (by decide)))
        clear p0 p1 p2 p3 p4 p5 p6 p7 p8 p9 p10 p11 p12 p13 p14 p15 c1 c2 HD HRp HCo KC D
        obtain ⟨Y, eY⟩ : ∃ Y : World, Y = u := ⟨_, rfl⟩
        rw [← eY] at hC5 ⊢
        clear eY u HCZ HSame HWt
        obtain ⟨hj5, zg5⟩ := HJc.out Y _ ix _ hC5 rfl rfl
        have y5 := (hj5 5 (by decide)).1
        have yf5 := (hj5 5 (by decide)).2
        have hC6 := hC5.jcell (i := i) (g := g) hi eg 5 (by decide) (.int .i64 0) { v.js.getD i default with age := 0 } rfl ⟨rfl, rfl, rfl, rfl, rfl, rfl, rfl, rfl⟩
        have e6 : ({ refusedV v pa pc ⟨v.me, CK, JN, key, value, code⟩ with js := (refusedV v pa pc ⟨v.me, CK, JN, key, value, code⟩).js.set i { v.js.getD i default with age := 0 } } : CkV) = { refusedV v pa pc ⟨v.me, CK, JN, key, value, code⟩ with js := v.js.set i { v.js.getD i default with age := 0 } } := rfl
        rw [e6] at hC6
        obtain ⟨v6, ev6⟩ : ∃ v6 : CkV, v6 = { refusedV v pa pc ⟨v.me, CK, JN, key, value, code⟩ with js := v.js.set i { v.js.getD i default with age := 0 } } := ⟨_, rfl⟩
        rw [← ev6] at hC6
        have H6 : Hid (v6.jl = v.jl ∧ v6.ja = v.ja ∧ v6.js.getD i default = { v.js.getD i default with age := 0 } ∧ v6.ml = v.ml ∧ v6.rs = v.rs ∧ v6.s = v.s) := by rw [ev6]; exact ⟨rfl, rfl, set_getD _ _ _ hi', rfl, rfl, rfl⟩
        have HV6 : Hid (v6 = { refusedV v pa pc ⟨v.me, CK, JN, key, value, code⟩ with js := v.js.set i { v.js.getD i default with age := 0 } }) := ev6
        obtain ⟨Y6, eY6⟩ : ∃ Y6, Y6 = Y.setCell ⟨g, i * 6 + 5, none⟩ (.int .i64 0) := ⟨_, rfl⟩
        rw [← eY6] at hC6
        have HC6 : Hid (Clerk w Y6 B q v6 ix (more ++ [⟨58, 12, .slice (some ⟨X.heap.size, 0, none⟩) 1 1, 1, [.int .i64 kind, .int .i64 frm, .int .i64 dst, .int .i64 site, .int .i64 num, .int .i64 label, .int .i64 key, .int .i64 value, .int .i64 version, .int .i64 ask, .bool yes, .int .i64 code]⟩])) := hC6
        clear hC5 e6 ev6 hj5 hC6
        go_upto_region 6 with (fail)
        rw [← eY6]
        clear eY6 y5 yf5 zg5
        have mb6 := HMb.out Y6 v6 ix _ HC6.out (by simp)
        have b11 : Y6.cell? ⟨X.heap.size, 11, none⟩ = some (.int .i64 code) := (mb6.c 11 (by decide)).1
        have b6 : Y6.cell? ⟨X.heap.size, 7, none⟩ = some (.int .i64 value) := (mb6.c 7 (by decide)).1
        have b7 : Y6.cell? ⟨X.heap.size, 8, none⟩ = some (.int .i64 version) := (mb6.c 8 (by decide)).1
        have zb := mb6.lt
        obtain ⟨hk6, zt6⟩ := HTk.out Y6 v6 ix _ HC6.out H6.out.1 (by rw [H6.out.2.2.1]; exact HEta.out.1) (by rw [H6.out.2.2.1]; exact HEta.out.2)
        rw [H6.out.2.2.1] at hk6
        have hk6' : ∀ c, c < 8 → Y6.cell? ⟨gt, mm * 8 + c, none⟩ = (TkV.cells ⟨write, tlabel, tkey, tvalue, tversion, task, done, sure⟩)[c]? ∧ Y6.frozen? ⟨gt, mm * 8 + c, none⟩ = false := fun c hc => by rw [HEt.out]; exact hk6 c hc
        clear hk6 mb6
        have a0 := (hk6' 0 (by decide)).1
        have f0 := (hk6' 0 (by decide)).2
        have a3 := (hk6' 3 (by decide)).1
        have f3 := (hk6' 3 (by decide)).2
        have a4 := (hk6' 4 (by decide)).1
        have f4 := (hk6' 4 (by decide)).2
        have a6 := (hk6' 6 (by decide)).1
        have f6 := (hk6' 6 (by decide)).2
        simp only [TkV.cells, List.getElem?_cons_zero, List.getElem?_cons_succ, Nat.add_zero] at a0 a3 a4 a6 f0
        clear hk6'
        have HAns : Hid (v.tn.answered (v.cx ls) i ⟨kind, frm, dst, site, num, label, key, value, version, ask, yes, code⟩ = if code = 0 then { v.tn.rep (v.cx ls) CK JN key value code with js := v.tn.js.set i { v.tn.js.getD i default with age := 0, tasks := (v.tn.js.getD i default).tasks.set mm (ansTask ⟨write, tlabel, tkey, tvalue, tversion, task, done, sure⟩ ⟨kind, frm, dst, site, num, label, key, value, version, ask, yes, code⟩) } } else if write = true then Tn.ended { v.tn.rep (v.cx ls) CK JN key value code with js := v.tn.js.set i { v.tn.js.getD i default with age := 0 } } (v.cx ls) (v.tn.js.getD i default).n (v.tn.js.getD i default).tasks else { v.tn.rep (v.cx ls) CK JN key value code with js := v.tn.js.set i { v.tn.js.getD i default with age := 0, tasks := (v.tn.js.getD i default).tasks.take mm } }) := by
          show _ = _
          have e1 : (v.tn.js.getD i default).tasks.length - 1 = mm := by
            rw [HBj.out]
            show (v.js.getD i default).tasks.length - 1 = mm
            rw [hfit, HEta.out.2]
            rfl
          have e2 : (v.tn.js.getD i default).n = JN := by rw [HBj.out, HJN.out]; rfl
          unfold Tn.answered
          rw [HGo.out, if_pos rfl, HLast.out, e1, e2, ← HCK.out]
        have hi6 : i < v6.js.length := by have := HC6.out.lens.1; rw [H6.out.1] at this; omega
        have hmt6 : mm < (v.js.getD i default).tasks.length := by rw [hfit, HEta.out.2]; omega
        have HGd : Hid (∀ (u : CkV) (X' : World) (more' : List Rw) (J : JbV), Clerk w X' B q u ix more' → u = { v6 with js := v6.js.set i J } → v.tn.answered (v.cx ls) i ⟨kind, frm, dst, site, num, label, key, value, version, ask, yes, code⟩ = { v.tn.rep (v.cx ls) CK JN key value code with js := v.tn.js.set i J.bare } → DoneIs w X' B q v (v.tn.answered (v.cx ls) i ⟨kind, frm, dst, site, num, label, key, value, version, ask, yes, code⟩) (.returned (.tuple #[]))) := fun u X' more' J hU eu e => by
          subst eu
          refine ⟨rfl, _, ix, more', hU, ?_, ?_, ?_⟩
          · show RecsIn v6.rs more'
            rw [H6.out.2.2.2.2.1]
            exact HRs.out more'
          · rw [e, ← tn_j6 v ls pa pc CK JN key value code i J, HV6.out]
            simp only [List.set_set]
          · rw [HV6.out]
            exact ⟨rfl, rfl, rfl, rfl, rfl, rfl, rfl⟩
        by_cases hcode : code = 0
        · subst hcode
          obtain ⟨k7, r7, ⟨y7, hy7⟩, hC7⟩ := HC6.out.tcell (i := i) (gt := gt) (m := mm) (by rw [H6.out.1]; exact hi) (by rw [H6.out.2.2.1]; exact HEta.out.1) (by rw [H6.out.2.2.1]; show mm < (v.js.getD i default).tl; rw [HEta.out.2]; omega) 6 (by decide) (.bool true) ⟨write, tlabel, tkey, tvalue, tversion, task, true, sure⟩ (by rw [H6.out.2.2.1]; show _ = (((v.js.getD i default).tasks.getD mm default).cells).set 6 _; rw [← HEt.out]; rfl)
          have hkm7 := HKM.out k7 y7 hy7
          have e7 : (v6.js.set i (taskSet (v6.js.getD i default) mm ⟨write, tlabel, tkey, tvalue, tversion, task, true, sure⟩)).getD i default = taskSet (v6.js.getD i default) mm ⟨write, tlabel, tkey, tvalue, tversion, task, true, sure⟩ := set_getD _ _ _ hi6
          cases write with
          | true =>
            have hF := HGd.out _ _ _ (taskSet (v6.js.getD i default) mm ⟨true, tlabel, tkey, tvalue, tversion, task, true, sure⟩) hC7 rfl (by rw [HAns.out, if_pos rfl, HBj.out, H6.out.2.2.1]; rfl)
            clear hC7 e7 HGd HAns
            go_wp2
            exact bodyPost_end (v := .tuple #[]) (by simp [results, Tryd.results35, go_sem]) rfl hF
          | false =>
            have hmt7 : mm < (v6.js.getD i default).tasks.length := by rw [H6.out.2.2.1]; exact hmt6
            have e7t : ((taskSet (v6.js.getD i default) mm ⟨false, tlabel, tkey, tvalue, tversion, task, true, sure⟩).tasks.getD mm default) = ⟨false, tlabel, tkey, tvalue, tversion, task, true, sure⟩ := set_getD _ _ _ hmt7
            obtain ⟨k8, r8, ⟨y8, hy8⟩, hC8⟩ := (hC7.below (Below.refl _ _).drew).tcell (i := i) (gt := gt) (m := mm) (by show i < v6.jl; rw [H6.out.1]; exact hi) (by show (List.getD (v6.js.set i _) i default).ta = _; rw [e7, H6.out.2.2.1]; exact HEta.out.1) (by show mm < (List.getD (v6.js.set i _) i default).tl; rw [e7, H6.out.2.2.1]; show mm < (v.js.getD i default).tl; rw [HEta.out.2]; omega) 3 (by decide) (.int .i64 value) ⟨false, tlabel, tkey, value, tversion, task, true, sure⟩ (by show _ = (((List.getD (v6.js.set i _) i default).tasks.getD mm default).cells).set 3 _; rw [e7, e7t]; rfl)
            have e8 : ((v6.js.set i (taskSet (v6.js.getD i default) mm ⟨false, tlabel, tkey, tvalue, tversion, task, true, sure⟩)).set i (taskSet (taskSet (v6.js.getD i default) mm ⟨false, tlabel, tkey, tvalue, tversion, task, true, sure⟩) mm ⟨false, tlabel, tkey, value, tversion, task, true, sure⟩)).getD i default = taskSet (taskSet (v6.js.getD i default) mm ⟨false, tlabel, tkey, tvalue, tversion, task, true, sure⟩) mm ⟨false, tlabel, tkey, value, tversion, task, true, sure⟩ := set_getD _ _ _ (by simpa using hi6)
            simp only [e7] at hC8
            have e8t : ((taskSet (taskSet (v6.js.getD i default) mm ⟨false, tlabel, tkey, tvalue, tversion, task, true, sure⟩) mm ⟨false, tlabel, tkey, value, tversion, task, true, sure⟩).tasks.getD mm default) = ⟨false, tlabel, tkey, value, tversion, task, true, sure⟩ := set_getD _ _ _ (by show mm < ((v6.js.getD i default).tasks.set mm _).length; simpa using hmt7)
            obtain ⟨k9, r9, ⟨y9, hy9⟩, hC9⟩ := hC8.tcell (i := i) (gt := gt) (m := mm) (by show i < v6.jl; rw [H6.out.1]; exact hi) (by show (List.getD ((v6.js.set i _).set i _) i default).ta = _; rw [e8, H6.out.2.2.1]; exact HEta.out.1) (by show mm < (List.getD ((v6.js.set i _).set i _) i default).tl; rw [e8, H6.out.2.2.1]; show mm < (v.js.getD i default).tl; rw [HEta.out.2]; omega) 4 (by decide) (.int .i64 version) ⟨false, tlabel, tkey, value, version, task, true, sure⟩ (by show _ = (((List.getD ((v6.js.set i _).set i _) i default).tasks.getD mm default).cells).set 4 _; rw [e8, e8t]; rfl)
            simp only [e8] at hC9
            have hF := HGd.out _ _ _ (taskSet (taskSet (taskSet (v6.js.getD i default) mm ⟨false, tlabel, tkey, tvalue, tversion, task, true, sure⟩) mm ⟨false, tlabel, tkey, value, tversion, task, true, sure⟩) mm ⟨false, tlabel, tkey, value, version, task, true, sure⟩) hC9 (by simp only [List.set_set]) (by rw [HAns.out, if_pos rfl, HBj.out, H6.out.2.2.1]; unfold taskSet; simp only [List.set_set]; rfl)
            clear hC7 hC8 hC9 e7 e8 e7t e8t HGd HAns
            go_upto_region 9 with (fail)
            go_region
            all_goals
              go_wp2
              exact bodyPost_end (v := .tuple #[]) (by simp [results, Tryd.results35, go_sem]) rfl hF
        · have hcode' : (code == 0) = false := by simpa using hcode
          cases write with
          | true =>
            have HJ6 := HJc.out Y6 v6 ix _ HC6.out H6.out.1 H6.out.2.1
            rw [H6.out.2.2.1] at HJ6
            obtain ⟨hj6, zg6⟩ := HJ6
            have hT6 := HC6.out.isTasks (i := i) (by rw [H6.out.1]; exact hi)
            rw [H6.out.2.2.1] at hT6
            have HEd : Hid (Calls Tryd.prog 30 #[.pointer (some ⟨q, 0, none⟩), JbV.val { v.js.getD i default with age := 0 }] Y6 fun e X' => e = .returned (.tuple #[]) ∧ DoneIs w X' B q v (v.tn.answered (v.cx ls) i ⟨kind, frm, dst, site, num, label, key, value, version, ask, yes, code⟩) (.returned (.tuple #[]))) := by
              have h1 := end_done Y6 HC6.out (by rw [H6.out.2.2.2.2.1]; exact HRs0.out) ls { v.js.getD i default with age := 0 } hT6 (by rw [H6.out.2.2.2.2.2]; exact hs) (by rw [H6.out.2.2.2.1]; exact hm) (fun U u iy m' hU => by rw [HV6.out]; exact hL U u iy m' hU)
              refine h1.mono ?_
              rintro e u hu
              obtain ⟨rfl, u', ix', more', g1, g2, g3, g4⟩ := hu
              refine ⟨rfl, rfl, u', ix', more', g1, g2, ?_, ?_⟩
              · rw [g3, HAns.out, if_neg hcode, if_pos rfl, HV6.out, tn_j6 v ls, HBj.out]
                rfl
              · rw [HV6.out] at g4
                exact g4
            obtain ⟨J2, eJ2⟩ : ∃ J2 : JbV, J2 = { v.js.getD i default with age := 0 } := ⟨_, rfl⟩
            rw [← eJ2] at HEd hj6
            obtain ⟨jn, st, ta, tl, tc, aa, al, ac, asks, age, tasks, asked⟩ := J2
            have j0 := (hj6 0 (by decide)).1
            have j1 := (hj6 1 (by decide)).1
            have j2 := (hj6 2 (by decide)).1
            have j3 := (hj6 3 (by decide)).1
            have j4 := (hj6 4 (by decide)).1
            have j5 := (hj6 5 (by decide)).1
            simp only [JbV.cells, List.getElem?_cons_zero, List.getElem?_cons_succ, Nat.add_zero] at j0 j1 j2 j3 j4 j5
            simp only [JbV.val] at HEd
            clear eJ2 hj6 hT6 HGd HAns
            go_wp2_with (go_at_call 30; refine HEd.out.mono ?_; rintro e w9 ⟨rfl, h9⟩)
            exact bodyPost_end (v := .tuple #[]) (by simp [results, Tryd.results35, go_sem]) rfl h9
          | false =>
            have HJ6 := HJc.out Y6 v6 ix _ HC6.out H6.out.1 H6.out.2.1
            rw [H6.out.2.2.1] at HJ6
            obtain ⟨hj6, zg6⟩ := HJ6
            have hT6 := HC6.out.isTasks (i := i) (by rw [H6.out.1]; exact hi)
            rw [H6.out.2.2.1] at hT6
            have htc : mm + 1 ≤ (v.js.getD i default).tc ∧ (v.js.getD i default).tc ≤ maxLen := ⟨by rw [← HEta.out.2]; exact hT6.2.1, hT6.2.2.1⟩
            obtain ⟨k7, r7, ⟨y7, hy7⟩, hC7⟩ := (HC6.out.below (Below.refl _ _).drew).cutTasks (i := i) (g := g) (gt := gt) (n := mm) (by rw [H6.out.1]; exact hi) (by rw [H6.out.2.1]; exact eg) (by rw [H6.out.2.2.1]; exact HEta.out.1) (by rw [H6.out.2.2.1]; show mm ≤ (v.js.getD i default).tl; rw [HEta.out.2]; omega) (by rw [H6.out.2.2.1]; show 0 < (v.js.getD i default).tl; rw [HEta.out.2]; omega)
            have hF := HGd.out _ _ _ (cutJob (v6.js.getD i default) mm) hC7 rfl (by rw [HAns.out, if_neg hcode, if_neg (by simp), HBj.out, H6.out.2.2.1]; rfl)
            rw [H6.out.2.2.1] at hF
            have j2 := (hj6 2 (by decide)).1
            have jf2 := (hj6 2 (by decide)).2
            simp only [JbV.cells, List.getElem?_cons_zero, List.getElem?_cons_succ] at j2
            rw [HEta.out.1, HEta.out.2] at j2
            simp only [] at hF
            obtain ⟨tc, etc⟩ : ∃ tc, tc = (v.js.getD i default).tc := ⟨_, rfl⟩
            rw [← etc] at hF j2 htc
            obtain ⟨htc1, htc2⟩ := htc
            unfold maxLen at htc2
            have hsub : ((mm + 1 : Nat) : Int) - 1 = (mm : Int) := by omega
            have hne : ¬ tc = 0 := by omega
            clear etc hj6 hT6 HGd HAns hC7
            go_upto_region 5 with (fail)
            go_region
            all_goals
              go_wp2
              exact bodyPost_end (v := .tuple #[]) (by simp [results, Tryd.results35, go_sem]) rfl hF
end Go.Proofs.YtdjnaahkcnklhaaDoor.Co
/- The clerk's sure: what a job has read is as it was, or it is not. -/
namespace Go.Proofs.YtdjnaahkcnklhaaDoor.Co
open Go.ChangeShapes Go.WideShapes Go.ChangeAt Go.RowKit
open Go.Proofs.YtdjnaahkcnklhaaDoor.St (BoxN boxn_new own_below grown_setCell IsRow Elem flat flat_append own_isRow idxI idxI_lt)
set_option linter.unusedVariables false

def readB (m : MV) (t : TkV) : Bool := !t.write && (t.label == m.label) && (t.key == m.key) && (t.version == m.version)
set_option maxRecDepth 100000 in
set_option maxHeartbeats 4000000 in
theorem readFn_asks (bc : Nat) (m : MV) (w : World) (mb : BoxN w bc 12 (mcells m)) : Asks 83 #[.pointer (some ⟨bc, 0, none⟩)] TkV.val (readB m) w := by
  refine ⟨enters_of Tryd.func83 (by kernel_rfl) rfl, fun x w' hb => ?_⟩
  obtain ⟨kind, frm, dst, site, num, label, key, value, version, ask, yes, code⟩ := m
  have mb2 := mb.below hb mb.lt
  have m5 : w'.cell? ⟨bc, 5, none⟩ = some (.int .i64 label) := (mb2.c 5 (by decide)).1
  have m6 : w'.cell? ⟨bc, 6, none⟩ = some (.int .i64 key) := (mb2.c 6 (by decide)).1
  have m8 : w'.cell? ⟨bc, 8, none⟩ = some (.int .i64 version) := (mb2.c 8 (by decide)).1
  have y0 := mb2.lt
  obtain ⟨write, tlabel, tkey, tvalue, tversion, task, done, sure⟩ := x
  simp only [TkV.val]
  have bA : Below w'.heap.size w' (w'.alloc (.cells #[.bool write, .int .i64 tlabel, .int .i64 tkey, .int .i64 tvalue, .int .i64 tversion, .int .i64 task, .bool done, .bool sure] 87)) := (Below.refl _ _).alloc (Nat.le_refl _) _
  obtain ⟨C2, e2⟩ : ∃ b : Bool, b = (tlabel == label) := ⟨_, rfl⟩
  obtain ⟨C3, e3⟩ : ∃ b : Bool, b = (tkey == key) := ⟨_, rfl⟩
  obtain ⟨C4, e4⟩ : ∃ b : Bool, b = (tversion == version) := ⟨_, rfl⟩
  have HA : Hid (readB ⟨kind, frm, dst, site, num, label, key, value, version, ask, yes, code⟩ ⟨write, tlabel, tkey, tvalue, tversion, task, done, sure⟩ = (!write && C2 && C3 && C4)) := by
    show _ = _
    unfold readB
    rw [e2, e3, e4]
  obtain ⟨R, eR⟩ : ∃ R, R = readB ⟨kind, frm, dst, site, num, label, key, value, version, ask, yes, code⟩ ⟨write, tlabel, tkey, tvalue, tversion, task, done, sure⟩ := ⟨_, rfl⟩
  rw [← eR] at HA ⊢
  have hc2 := e2.symm
  have hc3 := e3.symm
  have hc4 := e4.symm
  clear eR e2 e3 e4 mb mb2
  show Calls Tryd.prog 83 #[_, .pointer (some ⟨bc, 0, none⟩)] w' _
  cases write <;> cases C2 <;> cases C3 <;> cases C4
  all_goals
    go_enter Tryd.func83, Tryd.ntmps83
    go_wp2
    go_ret
    exact ⟨by rw [HA.out]; simp, bA⟩
theorem isRead_any (m : MV) (w : World) : Calls Tryd.prog 62 #[m.val] w fun e w' => e = .returned (.func (.func 83) #[] #[.pointer (some ⟨w.heap.size, 0, none⟩)]) ∧ w'.ownsRow w.heap.size 58 12 (.slice (some ⟨w.heap.size, 0, none⟩) 1 1) 1 (mcells m) ∧ Below w.heap.size w w' := by
  obtain ⟨kind, frm, dst, site, num, label, key, value, version, ask, yes, code⟩ := m
  simp only [MV.val]
  obtain ⟨W, hW⟩ : ∃ W : World, W = w.alloc (.cells #[.int .i64 kind, .int .i64 frm, .int .i64 dst, .int .i64 site, .int .i64 num, .int .i64 label, .int .i64 key, .int .i64 value, .int .i64 version, .int .i64 ask, .bool yes, .int .i64 code] 58) := ⟨_, rfl⟩
  have bW : Below w.heap.size w W := by rw [hW]; exact (Below.refl _ _).alloc (Nat.le_refl _) _
  have ob : W.ownsRow w.heap.size 58 12 (.slice (some ⟨w.heap.size, 0, none⟩) 1 1) 1 (mcells ⟨kind, frm, dst, site, num, label, key, value, version, ask, yes, code⟩) := by rw [hW]; exact box_row w _ _ 12 rfl
  go_enter Tryd.func62, Tryd.ntmps62
  go_wp2
  rw [← hW]
  go_ret
  exact ⟨rfl, ob, bW⟩
def mark (m : MV) (t : TkV) : TkV := if readB m t = true then { t with sure := true } else t
def markTo (m : MV) (ts : List TkV) (k : Nat) : List TkV := (ts.take k).map (mark m) ++ ts.drop k
theorem markTo_zero (m : MV) (ts : List TkV) : markTo m ts 0 = ts := by simp [markTo]
theorem markTo_all (m : MV) (ts : List TkV) {k : Nat} (h : ts.length ≤ k) : markTo m ts k = ts.map (mark m) := by
  unfold markTo
  rw [List.take_of_length_le h, List.drop_of_length_le h, List.append_nil]
theorem markTo_len (m : MV) (ts : List TkV) (k : Nat) : (markTo m ts k).length = ts.length := by
  unfold markTo
  simp
  omega
theorem markTo_at (m : MV) {ts : List TkV} {k : Nat} (h : k < ts.length) : (markTo m ts k).getD k default = ts.getD k default := by
  unfold markTo
  simp only [List.getD]
  rw [List.getElem?_append_right (by simp; omega)]
  have : (List.map (mark m) (List.take k ts)).length = k := by simp; omega
  rw [this]
  simp
theorem markTo_succ (m : MV) {ts : List TkV} {k : Nat} (h : k < ts.length) : markTo m ts (k + 1) = (markTo m ts k).set k (mark m (ts.getD k default)) := by
  unfold markTo
  have hl : (List.map (mark m) (List.take k ts)).length = k := by simp; omega
  have e1 : ts.take (k + 1) = ts.take k ++ [ts.getD k default] := by rw [List.take_add_one]; simp [List.getD, h]
  rw [e1, List.map_append, List.set_append_right _ _ (by omega), hl, Nat.sub_self]
  rw [show ts.drop k = ts.getD k default :: ts.drop (k + 1) by rw [List.drop_eq_getElem_cons h]; simp [List.getD, h]]
  simp
def Tn.sured (t : Tn) (C : Cx) (i : Nat) (m : MV) : Tn :=
  if (decide ((t.js.getD i default).state = 2) && (m.frm == C.home m.key) && (t.js.getD i default).tasks.any (readB m)) = true then
    (if m.yes = true then
      (if allSure ((t.js.getD i default).tasks.map (mark m)) = true then Tn.comm { t with js := t.js.set i { t.js.getD i default with tasks := (t.js.getD i default).tasks.map (mark m) } } C i
      else { t with js := t.js.set i { t.js.getD i default with tasks := (t.js.getD i default).tasks.map (mark m) } })
    else Tn.ended (t.rep C 4 (t.js.getD i default).n 0 0 11) C (t.js.getD i default).n (t.js.getD i default).tasks)
  else t
set_option maxRecDepth 100000 in
set_option maxHeartbeats 8000000 in
theorem sure_done {w : World} {B q : Nat} {v : CkV} {ix : List (Nat × Nat)} {more : List Rw} (X : World) (h : Clerk w X B q v ix more) (hr : v.rs = []) (ls : List (Int × Int)) {i g : Nat} (hi : i < v.jl) (eg : v.ja = some ⟨g, 0, none⟩) (m : MV) (hs : v.s ≤ 1048576) (hm : v.ml ≤ 1000000) (hrl : v.rl ≤ 1000000) (hp : v.pl ≤ 999999) (htl : (v.js.getD i default).tl ≤ 1000000) (hL : Labs w B q v ls) :
    Calls Tryd.prog 36 #[.pointer (some ⟨q, 0, none⟩), .pointer (some ⟨g, i * 6, none⟩), m.val] X fun e X' => DoneIs w X' B q v (v.tn.sured (v.cx ls) i m) e := by
  obtain ⟨kind, frm, dst, site, num, label, key, value, version, ask, yes, code⟩ := m
  simp only [MV.val]
  have hi' : i < v.js.length := by have := h.lens.1; omega
  have hfit := (h.fit hi).1
  obtain ⟨W, hW⟩ : ∃ W : World, W = X.alloc (.cells #[.int .i64 kind, .int .i64 frm, .int .i64 dst, .int .i64 site, .int .i64 num, .int .i64 label, .int .i64 key, .int .i64 value, .int .i64 version, .int .i64 ask, .bool yes, .int .i64 code] 58) := ⟨_, rfl⟩
  have bW : Below X.heap.size X W := by rw [hW]; exact (Below.refl _ _).alloc (Nat.le_refl _) _
  have mb : BoxN W X.heap.size 12 [.int .i64 kind, .int .i64 frm, .int .i64 dst, .int .i64 site, .int .i64 num, .int .i64 label, .int .i64 key, .int .i64 value, .int .i64 version, .int .i64 ask, .bool yes, .int .i64 code] := by rw [hW]; exact boxn_new X #[.int .i64 kind, .int .i64 frm, .int .i64 dst, .int .i64 site, .int .i64 num, .int .i64 label, .int .i64 key, .int .i64 value, .int .i64 version, .int .i64 ask, .bool yes, .int .i64 code] 58 12 rfl
  have HC0 : Hid (Clerk w W B q v ix more) := h.below bW
  have HRs0 : Hid (v.rs = []) := hr
  have HBj : Hid (v.tn.js.getD i default = (v.js.getD i default).bare) := getD_bare _ _
  have HKM : Hid (∀ (k y : Nat), ix[i]? = some (k, y) → k < more.length) := fun k y e => (h.jobs.inn i (k, y) e).1
  have HIs : Hid (Calls Tryd.prog 62 #[.agg #[.int .i64 kind, .int .i64 frm, .int .i64 dst, .int .i64 site, .int .i64 num, .int .i64 label, .int .i64 key, .int .i64 value, .int .i64 version, .int .i64 ask, .bool yes, .int .i64 code]] W fun e w' => e = .returned (.func (.func 83) #[] #[.pointer (some ⟨W.heap.size, 0, none⟩)]) ∧ w'.ownsRow W.heap.size 58 12 (.slice (some ⟨W.heap.size, 0, none⟩) 1 1) 1 [.int .i64 kind, .int .i64 frm, .int .i64 dst, .int .i64 site, .int .i64 num, .int .i64 label, .int .i64 key, .int .i64 value, .int .i64 version, .int .i64 ask, .bool yes, .int .i64 code] ∧ Below W.heap.size W w') := isRead_any ⟨kind, frm, dst, site, num, label, key, value, version, ask, yes, code⟩ W
  have b0 : W.cell? ⟨X.heap.size, 0, none⟩ = some (.int .i64 kind) := (mb.c 0 (by decide)).1
  have b1 : W.cell? ⟨X.heap.size, 1, none⟩ = some (.int .i64 frm) := (mb.c 1 (by decide)).1
  have b2 : W.cell? ⟨X.heap.size, 2, none⟩ = some (.int .i64 dst) := (mb.c 2 (by decide)).1
  have b3 : W.cell? ⟨X.heap.size, 3, none⟩ = some (.int .i64 site) := (mb.c 3 (by decide)).1
  have b4 : W.cell? ⟨X.heap.size, 4, none⟩ = some (.int .i64 num) := (mb.c 4 (by decide)).1
  have b5 : W.cell? ⟨X.heap.size, 5, none⟩ = some (.int .i64 label) := (mb.c 5 (by decide)).1
  have b6 : W.cell? ⟨X.heap.size, 6, none⟩ = some (.int .i64 key) := (mb.c 6 (by decide)).1
  have b7 : W.cell? ⟨X.heap.size, 7, none⟩ = some (.int .i64 value) := (mb.c 7 (by decide)).1
  have b8 : W.cell? ⟨X.heap.size, 8, none⟩ = some (.int .i64 version) := (mb.c 8 (by decide)).1
  have b9 : W.cell? ⟨X.heap.size, 9, none⟩ = some (.int .i64 ask) := (mb.c 9 (by decide)).1
  have b10 : W.cell? ⟨X.heap.size, 10, none⟩ = some (.bool yes) := (mb.c 10 (by decide)).1
  have b11 : W.cell? ⟨X.heap.size, 11, none⟩ = some (.int .i64 code) := (mb.c 11 (by decide)).1
  have zm := mb.lt
  clear h hr
  go_enter Tryd.func36, Tryd.ntmps36
  go_upto_region 1 with (fail)
  rw [← hW]
  clear hW
  go_upto_region 2 with (go_at_call 62; refine HIs.out.mono ?_; rintro e V ⟨rfl, hob, hbV⟩)
  obtain ⟨bc, ebc⟩ : ∃ bc, bc = W.heap.size := ⟨_, rfl⟩
  rw [← ebc] at hob ⊢
  have hCV : Clerk w V B q v ix (more ++ [(⟨58, 12, .slice (some ⟨bc, 0, none⟩) 1 1, 1, [.int .i64 kind, .int .i64 frm, .int .i64 dst, .int .i64 site, .int .i64 num, .int .i64 label, .int .i64 key, .int .i64 value, .int .i64 version, .int .i64 ask, .bool yes, .int .i64 code]⟩ : Rw)]) := HC0.out.add hbV (by rw [ebc] at hob ⊢; exact hob)
  have HC : Hid (Clerk w V B q v ix (more ++ [(⟨58, 12, .slice (some ⟨bc, 0, none⟩) 1 1, 1, [.int .i64 kind, .int .i64 frm, .int .i64 dst, .int .i64 site, .int .i64 num, .int .i64 label, .int .i64 key, .int .i64 value, .int .i64 version, .int .i64 ask, .bool yes, .int .i64 code]⟩ : Rw)])) := hCV
  have mbV := mb.below hbV mb.lt
  have HClo : Hid (∀ (U : World) (u : CkV) (iy : List (Nat × Nat)) (m' : List Rw), Clerk w U B q u iy m' → m'[more.length]? = some (⟨58, 12, .slice (some ⟨bc, 0, none⟩) 1 1, 1, [.int .i64 kind, .int .i64 frm, .int .i64 dst, .int .i64 site, .int .i64 num, .int .i64 label, .int .i64 key, .int .i64 value, .int .i64 version, .int .i64 ask, .bool yes, .int .i64 code]⟩ : Rw) → Asks 83 #[.pointer (some ⟨bc, 0, none⟩)] TkV.val (readB ⟨kind, frm, dst, site, num, label, key, value, version, ask, yes, code⟩) U) := fun U u iy m' hU e => readFn_asks bc ⟨kind, frm, dst, site, num, label, key, value, version, ask, yes, code⟩ U (row_box (rowAt (v := u) (more := m') hU e) rfl (by decide))
  clear hob ebc HIs mb
  obtain ⟨g2, eg2, -, zg, -, hcj, -⟩ := hCV.jobAt hi
  obtain rfl := ptrEq eg eg2
  have hT := hCV.isTasks hi
  have HHm : Hid (∀ U, Below V.heap.size V U → Calls Tryd.prog 52 #[.pointer (some ⟨q, 0, none⟩), .int .i64 key] U fun e U' => e = .returned (.int .i64 (homeNum v.s ls v.p key)) ∧ Below U.heap.size U U') := fun U hU => clerkHome_any U (HC.out.below hU) ls (hL _ _ _ _ (HC.out.below hU)) key
  have HCt : Hid (∀ U, Below V.heap.size V U → Calls Tryd.prog 63 #[.slice (v.js.getD i default).ta (v.js.getD i default).tl (v.js.getD i default).tc, .func (.func 83) #[] #[.pointer (some ⟨bc, 0, none⟩)]] U fun e w' => e = .returned (.bool ((v.js.getD i default).tasks.any (readB ⟨kind, frm, dst, site, num, label, key, value, version, ask, yes, code⟩))) ∧ Below U.heap.size U w') := fun U hU => containsTask_any _ _ _ _ _ _ _ U (hT.below hU) (HClo.out U v ix _ (HC.out.below hU) (by simp))
  obtain ⟨J, eJ⟩ : ∃ J, J = v.js.getD i default := ⟨_, rfl⟩
  have HJ : Hid (J = v.js.getD i default) := eJ
  obtain ⟨H, eH⟩ : ∃ H, H = homeNum v.s ls v.p key := ⟨_, rfl⟩
  rw [← eH] at HHm
  rw [← eJ] at HCt hcj hT htl hfit HBj
  have HRec : Hid (∀ more', RecsIn v.rs more') := fun more' => by rw [HRs0.out]; exact recsIn_nil _
  have HSame : Hid (∀ U, Below V.heap.size V U → v.tn.sured (v.cx ls) i ⟨kind, frm, dst, site, num, label, key, value, version, ask, yes, code⟩ = v.tn → DoneIs w U B q v (v.tn.sured (v.cx ls) i ⟨kind, frm, dst, site, num, label, key, value, version, ask, yes, code⟩) (.returned (.tuple #[]))) := fun U hU e => ⟨rfl, v, ix, _, HC.out.below hU, HRec.out _, e.symm, rfl, rfl, rfl, rfl, rfl, rfl, rfl⟩
  obtain ⟨jn, st, ta, tl, tc, aa, al, ac, asks, age, tasks, asked⟩ := J
  simp only [] at HCt hT htl hfit
  obtain ⟨A, eA⟩ : ∃ A, A = tasks.any (readB ⟨kind, frm, dst, site, num, label, key, value, version, ask, yes, code⟩) := ⟨_, rfl⟩
  rw [← eA] at HCt
  obtain ⟨C2, e2⟩ : ∃ b : Bool, b = (frm == H) := ⟨_, rfl⟩
  have hn2 : (frm != H) = !C2 := by rw [e2]; rfl
  have HSd : Hid (v.tn.sured (v.cx ls) i ⟨kind, frm, dst, site, num, label, key, value, version, ask, yes, code⟩ = if (decide (st = 2) && C2 && A) = true then (if yes = true then (if allSure (tasks.map (mark ⟨kind, frm, dst, site, num, label, key, value, version, ask, yes, code⟩)) = true then Tn.comm { v.tn with js := v.tn.js.set i { JbV.bare ⟨jn, st, ta, tl, tc, aa, al, ac, asks, age, tasks, asked⟩ with tasks := tasks.map (mark ⟨kind, frm, dst, site, num, label, key, value, version, ask, yes, code⟩) } } (v.cx ls) i else { v.tn with js := v.tn.js.set i { JbV.bare ⟨jn, st, ta, tl, tc, aa, al, ac, asks, age, tasks, asked⟩ with tasks := tasks.map (mark ⟨kind, frm, dst, site, num, label, key, value, version, ask, yes, code⟩) } }) else Tn.ended (v.tn.rep (v.cx ls) 4 jn 0 0 11) (v.cx ls) jn tasks) else v.tn) := by
    show _ = _
    unfold Tn.sured
    rw [HBj.out, eA, e2, eH]
    rfl
  have c0 := hcj 0 (by decide)
  have c1 := hcj 1 (by decide)
  have c2 := hcj 2 (by decide)
  simp only [JbV.cells, List.getElem?_cons_zero, List.getElem?_cons_succ, Nat.add_zero] at c0 c1 c2
  have d1 : V.cell? ⟨X.heap.size, 1, none⟩ = some (.int .i64 frm) := (mbV.c 1 (by decide)).1
  have d6 : V.cell? ⟨X.heap.size, 6, none⟩ = some (.int .i64 key) := (mbV.c 6 (by decide)).1
  have d10 : V.cell? ⟨X.heap.size, 10, none⟩ = some (.bool yes) := (mbV.c 10 (by decide)).1
  have zmV := mbV.lt
  clear eJ eH eA hCV hcj e2 eg2 b0 b1 b2 b3 b4 b5 b6 b7 b8 b9 b10 b11
  by_cases hst : st = 2
  · subst hst
    cases C2 with
    | false =>
      replace hn2 : (frm != H) = true := hn2
      have HA : Hid (v.tn.sured (v.cx ls) i ⟨kind, frm, dst, site, num, label, key, value, version, ask, yes, code⟩ = v.tn) := by show _ = _; rw [HSd.out]; rfl
      have qc1 := fun d os => cell_regrown c1 d os
      have qc2 := fun d os => cell_regrown c2 d os
      have qd1 := fun d os => cell_regrown d1 d os
      have qd6 := fun d os => cell_regrown d6 d os
      refine wp_region_quiet_below (by kernel_rfl) (by kernel_rfl) ?_
      repeat (go_big_quiet_step (first | (exact Calls.regrown_of (HHm.out _ (below_regrown _ _ _))) | (exact Calls.regrown_of (HCt.out _ (below_regrown _ _ _)))))
      refine wpQuiet_nil ?_
      intro _ hw'
      obtain ⟨⟨dq, osq⟩, hw''⟩ := hw'
      subst hw''
      have bQ := below_regrown V dq osq
      obtain ⟨Z, eZ⟩ : ∃ Z, Z = Go.Sort.grow (Go.redrawn V dq) osq := ⟨_, rfl⟩
      rw [← eZ] at bQ ⊢
      clear eZ qc1 qc2 qd1 qd6
      have hF := HSame.out Z bQ HA.out
      go_wp2
      exact bodyPost_ret (v := .tuple #[]) (by simp [results, Tryd.results36, go_sem]) rfl hF
    | true =>
      replace hn2 : (frm != H) = false := hn2
      cases A with
      | false =>
        have HA : Hid (v.tn.sured (v.cx ls) i ⟨kind, frm, dst, site, num, label, key, value, version, ask, yes, code⟩ = v.tn) := by show _ = _; rw [HSd.out]; rfl
        have qc1 := fun d os => cell_regrown c1 d os
        have qc2 := fun d os => cell_regrown c2 d os
        have qd1 := fun d os => cell_regrown d1 d os
        have qd6 := fun d os => cell_regrown d6 d os
        refine wp_region_quiet_below (by kernel_rfl) (by kernel_rfl) ?_
        repeat (go_big_quiet_step (first | (exact Calls.regrown_of (HHm.out _ (below_regrown _ _ _))) | (exact Calls.regrown_of (HCt.out _ (below_regrown _ _ _)))))
        refine wpQuiet_nil ?_
        intro _ hw'
        obtain ⟨⟨dq, osq⟩, hw''⟩ := hw'
        subst hw''
        have bQ := below_regrown V dq osq
        obtain ⟨Z, eZ⟩ : ∃ Z, Z = Go.Sort.grow (Go.redrawn V dq) osq := ⟨_, rfl⟩
        rw [← eZ] at bQ ⊢
        clear eZ qc1 qc2 qd1 qd6
        have hF := HSame.out Z bQ HA.out
        go_wp2
        exact bodyPost_ret (v := .tuple #[]) (by simp [results, Tryd.results36, go_sem]) rfl hF
      | true =>
        have qc1 := fun d os => cell_regrown c1 d os
        have qc2 := fun d os => cell_regrown c2 d os
        have qd1 := fun d os => cell_regrown d1 d os
        have qd6 := fun d os => cell_regrown d6 d os
        refine wp_region_quiet_below (by kernel_rfl) (by kernel_rfl) ?_
        repeat (go_big_quiet_step (first | (exact Calls.regrown_of (HHm.out _ (below_regrown _ _ _))) | (exact Calls.regrown_of (HCt.out _ (below_regrown _ _ _)))))
        refine wpQuiet_nil ?_
        intro _ hw'
        obtain ⟨⟨dq, osq⟩, hw''⟩ := hw'
        subst hw''
        have bQ := below_regrown V dq osq
        obtain ⟨Z, eZ⟩ : ∃ Z, Z = Go.Sort.grow (Go.redrawn V dq) osq := ⟨_, rfl⟩
        rw [← eZ] at bQ ⊢
        clear eZ qc1 qc2 qd1 qd6
        have HCZ : Hid (Clerk w Z B q v ix (more ++ [(⟨58, 12, .slice (some ⟨bc, 0, none⟩) 1 1, 1, [.int .i64 kind, .int .i64 frm, .int .i64 dst, .int .i64 site, .int .i64 num, .int .i64 label, .int .i64 key, .int .i64 value, .int .i64 version, .int .i64 ask, .bool yes, .int .i64 code]⟩ : Rw)])) := HC.out.below bQ
        have z0 := (bQ.cell (p := ⟨g, i * 6, none⟩) zg).trans c0
        have z9 := (bQ.cell (p := ⟨X.heap.size, 10, none⟩) zmV).trans d10
        have zgZ := Nat.lt_of_lt_of_le zg bQ.size
        have zmZ := Nat.lt_of_lt_of_le zmV bQ.size
        clear c0 c1 c2 d1 d6 d10 HHm HCt HSame
        cases yes with
        | false =>
          have HSn : Hid (v.tn.sured (v.cx ls) i ⟨kind, frm, dst, site, num, label, key, value, version, ask, false, code⟩ = Tn.ended (v.tn.rep (v.cx ls) 4 jn 0 0 11) (v.cx ls) jn tasks) := by show _ = _; rw [HSd.out]; rfl
          clear HSd
          have HRp : Hid (Calls Tryd.prog 26 #[.pointer (some ⟨q, 0, none⟩), .agg #[.int .i64 0, .int .i64 4, .int .i64 jn, .int .i64 0, .int .i64 0, .int .i64 11]] Z fun e X' => e = .returned (.tuple #[]) ∧ ∃ a5 c5, Clerk w X' B q (refusedV v a5 c5 ⟨v.me, 4, jn, 0, 0, 11⟩) ix (more ++ [(⟨58, 12, .slice (some ⟨bc, 0, none⟩) 1 1, 1, [.int .i64 kind, .int .i64 frm, .int .i64 dst, .int .i64 site, .int .i64 num, .int .i64 label, .int .i64 key, .int .i64 value, .int .i64 version, .int .i64 ask, .bool false, .int .i64 code]⟩ : Rw)])) := reply_any Z HCZ.out ⟨0, 4, jn, 0, 0, 11⟩ (fitP (by omega))
          go_upto_region 5 with (go_at_call 26; refine HRp.out.mono ?_; rintro e Y ⟨rfl, a5, c5, hC5⟩)
          obtain ⟨g3, eg3, -, zgY, -, hcY, -⟩ := hC5.jobAt (i := i) hi
          obtain rfl := ptrEq eg (by exact eg3)
          have hTY := hC5.isTasks (i := i) hi
          have eJ5 : (refusedV v a5 c5 ⟨v.me, 4, jn, 0, 0, 11⟩).js.getD i default = ⟨jn, 2, ta, tl, tc, aa, al, ac, asks, age, tasks, asked⟩ := HJ.out.symm
          rw [eJ5] at hcY hTY
          have HEd : Hid (Calls Tryd.prog 30 #[.pointer (some ⟨q, 0, none⟩), .agg #[.int .i64 jn, .int .i64 2, .slice ta tl tc, .slice aa al ac, .int .i64 asks, .int .i64 age]] Y fun e X' => e = .returned (.tuple #[]) ∧ DoneIs w X' B q v (v.tn.sured (v.cx ls) i ⟨kind, frm, dst, site, num, label, key, value, version, ask, false, code⟩) (.returned (.tuple #[]))) := by
            have h1 := end_done Y hC5 HRs0.out ls ⟨jn, 2, ta, tl, tc, aa, al, ac, asks, age, tasks, asked⟩ hTY hs hm hL
            refine h1.mono ?_
            rintro e u ⟨rfl, u', ix', more', g1, g2, g3, g4⟩
            refine ⟨rfl, rfl, u', ix', more', g1, g2, ?_, g4⟩
            rw [g3, HSn.out]
            rfl
          have j0 := hcY 0 (by decide)
          have j1 := hcY 1 (by decide)
          have j2 := hcY 2 (by decide)
          have j3 := hcY 3 (by decide)
          have j4 := hcY 4 (by decide)
          have j5 := hcY 5 (by decide)
          simp only [JbV.cells, List.getElem?_cons_zero, List.getElem?_cons_succ, Nat.add_zero] at j0 j1 j2 j3 j4 j5
          clear hC5 hcY hTY eJ5 eg3 z0 z9 HRp
          go_wp2_with (go_at_call 30; refine HEd.out.mono ?_; rintro e w9 ⟨rfl, h9⟩)
          exact bodyPost_ret (v := .tuple #[]) (by simp [results, Tryd.results36, go_sem]) rfl h9
        | true =>
          have HSy : Hid (v.tn.sured (v.cx ls) i ⟨kind, frm, dst, site, num, label, key, value, version, ask, true, code⟩ = if allSure (tasks.map (mark ⟨kind, frm, dst, site, num, label, key, value, version, ask, true, code⟩)) = true then Tn.comm { v.tn with js := v.tn.js.set i { JbV.bare ⟨jn, 2, ta, tl, tc, aa, al, ac, asks, age, tasks, asked⟩ with tasks := tasks.map (mark ⟨kind, frm, dst, site, num, label, key, value, version, ask, true, code⟩) } } (v.cx ls) i else { v.tn with js := v.tn.js.set i { JbV.bare ⟨jn, 2, ta, tl, tc, aa, al, ac, asks, age, tasks, asked⟩ with tasks := tasks.map (mark ⟨kind, frm, dst, site, num, label, key, value, version, ask, true, code⟩) } }) := by show _ = _; rw [HSd.out]; rfl
          clear HSd
          /- the clerk whose job's first k tasks have been looked at -/
          obtain ⟨VK, eVK⟩ : ∃ VK : Nat → CkV, VK = fun k => { v with js := v.js.set i { v.js.getD i default with tasks := markTo ⟨kind, frm, dst, site, num, label, key, value, version, ask, true, code⟩ tasks k } } := ⟨_, rfl⟩
          have HVK : Hid (∀ k, VK k = { v with js := v.js.set i { v.js.getD i default with tasks := markTo ⟨kind, frm, dst, site, num, label, key, value, version, ask, true, code⟩ tasks k } }) := fun k => by rw [eVK]
          have HVg : Hid (∀ k, (VK k).js.getD i default = ⟨jn, 2, ta, tl, tc, aa, al, ac, asks, age, markTo ⟨kind, frm, dst, site, num, label, key, value, version, ask, true, code⟩ tasks k, asked⟩) := fun k => by
            rw [eVK]
            show (v.js.set i _).getD i default = _
            rw [set_getD _ _ _ hi', ← HJ.out]
          have HVj : Hid (∀ k, (VK k).jl = v.jl ∧ (VK k).ja = v.ja) := fun k => by rw [eVK]; exact ⟨rfl, rfl⟩
          have HV0 : Hid (VK 0 = v) := by
            show _ = _
            rw [eVK]
            simp only [markTo_zero]
            have e9 : ({ v.js.getD i default with tasks := tasks } : JbV) = v.js.getD i default := by rw [← HJ.out]
            rw [e9]
            have e8 : v.js.set i (v.js.getD i default) = v.js := by
              apply List.ext_getElem?
              intro n
              by_cases hn : i = n
              · subst hn; simp [List.getD, hi']
              · rw [List.getElem?_set_ne hn]
            rw [e8]
          clear eVK
          have htc : tl ≤ tc ∧ tc ≤ maxLen := ⟨hT.2.1, hT.2.2.1⟩
          unfold maxLen at htc
          obtain ⟨htc1, htc2⟩ := htc
          have HTl : Hid (tasks.length = tl) := hfit
          /- what such a clerk knows of its job -/
          have HJk : Hid (∀ (U : World) (k : Nat) (m' : List Rw), Clerk w U B q (VK k) ix m' → U.cell? ⟨g, i * 6 + 2, none⟩ = some (.slice ta tl tc) ∧ g < U.heap.size ∧ (0 < tl → ∃ gt, ta = some ⟨gt, 0, none⟩ ∧ gt < U.heap.size ∧ ∀ n, n < tl → ∀ c, c < 8 → U.cell? ⟨gt, n * 8 + c, none⟩ = ((markTo ⟨kind, frm, dst, site, num, label, key, value, version, ask, true, code⟩ tasks k).getD n default).cells[c]? ∧ U.frozen? ⟨gt, n * 8 + c, none⟩ = false) ∧ IsTasks U ta tl tc (markTo ⟨kind, frm, dst, site, num, label, key, value, version, ask, true, code⟩ tasks k)) := fun U k m' hU => by
            obtain ⟨g3, eg3, -, zg3, -, hc3, -⟩ := hU.jobAt (i := i) (by rw [(HVj.out k).1]; exact hi)
            rw [(HVj.out k).2] at eg3
            obtain rfl := ptrEq eg eg3
            have ot := (hU.tasksAt (i := i) (by rw [(HVj.out k).1]; exact hi)).1
            have ht := hU.isTasks (i := i) (by rw [(HVj.out k).1]; exact hi)
            rw [HVg.out k] at hc3 ot ht
            refine ⟨by simpa [JbV.cells] using hc3 2 (by decide), zg3, fun h0 => ?_, ht⟩
            obtain ⟨gt, rfl, _, zt⟩ := own_spot ot h0
            obtain ⟨b, off, e4, zb, hcr⟩ := ht.2.2.2.2 h0
            simp at e4
            obtain ⟨rfl, rfl⟩ := e4
            refine ⟨gt, rfl, zt, fun n hn c hc => ⟨?_, (St.own_there ot (k := n * 8 + c) (by simp only []; omega)).2⟩⟩
            have := hcr n hn c hc
            rw [Nat.zero_add] at this
            exact this
          have HStep : Hid (∀ (U : World) (k : Nat) (m' : List Rw) (gt : Nat), Clerk w U B q (VK k) ix m' → ta = some ⟨gt, 0, none⟩ → k < tl → readB ⟨kind, frm, dst, site, num, label, key, value, version, ask, true, code⟩ (tasks.getD k default) = true → ∃ (kk : Nat) (r : Rw), kk < more.length ∧ Clerk w (U.setCell ⟨gt, k * 8 + 7, none⟩ (.bool true)) B q (VK (k + 1)) ix (m'.set kk r)) := fun U k m' gt hU et hk hb => by
            have hkl : k < tasks.length := by rw [HTl.out]; exact hk
            obtain ⟨kk, r, ⟨y, hy⟩, h9⟩ := hU.tcell (i := i) (gt := gt) (m := k) (by rw [(HVj.out k).1]; exact hi) (by rw [HVg.out k]; exact et) (by rw [HVg.out k]; exact hk) 7 (by decide) (.bool true) (mark ⟨kind, frm, dst, site, num, label, key, value, version, ask, true, code⟩ (tasks.getD k default)) (by
              rw [HVg.out k]
              show _ = (((markTo ⟨kind, frm, dst, site, num, label, key, value, version, ask, true, code⟩ tasks k).getD k default).cells).set 7 _
              rw [markTo_at _ hkl]
              unfold mark
              rw [if_pos hb]
              rfl)
            refine ⟨kk, r, HKM.out kk y hy, ?_⟩
            have e9 : ({ VK k with js := (VK k).js.set i (taskSet ((VK k).js.getD i default) k (mark ⟨kind, frm, dst, site, num, label, key, value, version, ask, true, code⟩ (tasks.getD k default))) } : CkV) = VK (k + 1) := by
              rw [HVg.out k, HVK.out k, HVK.out (k + 1)]
              simp only [List.set_set]
              rw [markTo_succ _ hkl, ← HJ.out]
              rfl
            rw [← e9]
            exact h9
          have HSkip : Hid (∀ k, k < tl → readB ⟨kind, frm, dst, site, num, label, key, value, version, ask, true, code⟩ (tasks.getD k default) = false → VK (k + 1) = VK k) := fun k hk hb => by
            have hkl : k < tasks.length := by rw [HTl.out]; exact hk
            rw [HVK.out (k + 1), HVK.out k, markTo_succ _ hkl]
            have e9 : (markTo ⟨kind, frm, dst, site, num, label, key, value, version, ask, true, code⟩ tasks k).set k (mark ⟨kind, frm, dst, site, num, label, key, value, version, ask, true, code⟩ (tasks.getD k default)) = markTo ⟨kind, frm, dst, site, num, label, key, value, version, ask, true, code⟩ tasks k := by
              unfold mark
              rw [if_neg (by rw [hb]; decide), ← markTo_at ⟨kind, frm, dst, site, num, label, key, value, version, ask, true, code⟩ hkl]
              apply List.ext_getElem?
              intro n
              by_cases hn : k = n
              · subst hn
                have : k < (markTo ⟨kind, frm, dst, site, num, label, key, value, version, ask, true, code⟩ tasks k).length := by rw [markTo_len]; exact hkl
                simp [List.getD, this]
              · rw [List.getElem?_set_ne hn]
            rw [e9]
          have HCZ0 : Hid (Clerk w Z B q (VK 0) ix (more ++ [(⟨58, 12, .slice (some ⟨bc, 0, none⟩) 1 1, 1, [.int .i64 kind, .int .i64 frm, .int .i64 dst, .int .i64 site, .int .i64 num, .int .i64 label, .int .i64 key, .int .i64 value, .int .i64 version, .int .i64 ask, .bool true, .int .i64 code]⟩ : Rw)])) := by rw [HV0.out]; exact HCZ.out
          obtain ⟨y2, -, -, -⟩ := HJk.out Z 0 _ HCZ0.out
          have htl' : (tl : Int) ≤ 1000000 := by omega
          go_upto_region 7 with (fail)
          clear y2 z0 z9 HCZ HC
          go_loopw [7, 8, 54] (fun _ _ s54 wr => ∃ (k : Nat) (m' : List Rw), s54 = .int .i64 (k : Int) ∧ k ≤ tl ∧ Clerk w wr B q (VK k) ix m' ∧ Hid (m'[more.length]? = some (⟨58, 12, .slice (some ⟨bc, 0, none⟩) 1 1, 1, [.int .i64 kind, .int .i64 frm, .int .i64 dst, .int .i64 site, .int .i64 num, .int .i64 label, .int .i64 key, .int .i64 value, .int .i64 version, .int .i64 ask, .bool true, .int .i64 code]⟩ : Rw))) (fun _ _ s54 _ => tl - (intOf s54).toNat)
          case atStart => exact ⟨0, _, rfl, Nat.zero_le _, HCZ0.out, by show _ = _; simp⟩
          case round =>
            clear HCZ0
            obtain ⟨k, m', rfl, hk, hC, hme⟩ := hrel
            by_cases hlt : k < tl
            · have hlt' : (k : Int) < (tl : Int) := by omega
              obtain ⟨x2, zgr, hcell, -⟩ := HJk.out wr k m' hC
              obtain ⟨gt, rfl, zgt, hcl⟩ := hcell (by omega)
              have hkl : k < tasks.length := by rw [HTl.out]; exact hlt
              have hc := hcl k hlt
              rw [markTo_at _ hkl] at hc
              have hf7 := (hc 7 (by decide)).2
              have HStp := HStep.out
              have HSt2 : Hid (∀ U, Below wr.heap.size wr U → readB ⟨kind, frm, dst, site, num, label, key, value, version, ask, true, code⟩ (tasks.getD k default) = true → ∃ (kk : Nat) (r : Rw), kk < more.length ∧ Clerk w (U.setCell ⟨gt, k * 8 + 7, none⟩ (.bool true)) B q (VK (k + 1)) ix (m'.set kk r)) := fun U hU hb => HStp U k m' gt (hC.below hU) rfl hlt hb
              have HSk2 : Hid (readB ⟨kind, frm, dst, site, num, label, key, value, version, ask, true, code⟩ (tasks.getD k default) = false → VK (k + 1) = VK k) := HSkip.out k hlt
              obtain ⟨t, et⟩ : ∃ t, t = tasks.getD k default := ⟨_, rfl⟩
              rw [← et] at hc HSt2 HSk2
              clear et hcl hkl HStp
              obtain ⟨write, tlabel, tkey, tvalue, tversion, task, done, sure⟩ := t
              have a0 := (hc 0 (by decide)).1
              have a1 := (hc 1 (by decide)).1
              have a2 := (hc 2 (by decide)).1
              have a3 := (hc 3 (by decide)).1
              have a4 := (hc 4 (by decide)).1
              have a5 := (hc 5 (by decide)).1
              have a6 := (hc 6 (by decide)).1
              have a7 := (hc 7 (by decide)).1
              simp only [TkV.cells, List.getElem?_cons_zero, List.getElem?_cons_succ, Nat.add_zero] at a0 a1 a2 a3 a4 a5 a6 a7
              clear hc
              obtain ⟨U1, hU1⟩ : ∃ U1 : World, U1 = wr.alloc (.cells #[.bool write, .int .i64 tlabel, .int .i64 tkey, .int .i64 tvalue, .int .i64 tversion, .int .i64 task, .bool done, .bool sure] 87) := ⟨_, rfl⟩
              have bU1 : Below wr.heap.size wr U1 := by rw [hU1]; exact (Below.refl _ _).alloc (Nat.le_refl _) _
              have bx : BoxN U1 wr.heap.size 8 [.bool write, .int .i64 tlabel, .int .i64 tkey, .int .i64 tvalue, .int .i64 tversion, .int .i64 task, .bool done, .bool sure] := by rw [hU1]; exact boxn_new wr #[.bool write, .int .i64 tlabel, .int .i64 tkey, .int .i64 tvalue, .int .i64 tversion, .int .i64 task, .bool done, .bool sure] 87 8 rfl
              have l0 : U1.cell? ⟨wr.heap.size, 0, none⟩ = some (.bool write) := (bx.c 0 (by decide)).1
              have l1 : U1.cell? ⟨wr.heap.size, 1, none⟩ = some (.int .i64 tlabel) := (bx.c 1 (by decide)).1
              have l2 : U1.cell? ⟨wr.heap.size, 2, none⟩ = some (.int .i64 tkey) := (bx.c 2 (by decide)).1
              have l3 : U1.cell? ⟨wr.heap.size, 3, none⟩ = some (.int .i64 tvalue) := (bx.c 3 (by decide)).1
              have l4 : U1.cell? ⟨wr.heap.size, 4, none⟩ = some (.int .i64 tversion) := (bx.c 4 (by decide)).1
              have l5 : U1.cell? ⟨wr.heap.size, 5, none⟩ = some (.int .i64 task) := (bx.c 5 (by decide)).1
              have l6 : U1.cell? ⟨wr.heap.size, 6, none⟩ = some (.bool done) := (bx.c 6 (by decide)).1
              have l7 : U1.cell? ⟨wr.heap.size, 7, none⟩ = some (.bool sure) := (bx.c 7 (by decide)).1
              have zx := bx.lt
              have hAsk := HClo.out U1 (VK k) ix m' (hC.below bU1) hme.out
              obtain ⟨hE, hFn⟩ := hAsk
              clear hE
              have HFn : Hid (Calls Tryd.prog 83 #[.agg #[.bool write, .int .i64 tlabel, .int .i64 tkey, .int .i64 tvalue, .int .i64 tversion, .int .i64 task, .bool done, .bool sure], .pointer (some ⟨bc, 0, none⟩)] U1 fun e w' => e = .returned (.bool (readB ⟨kind, frm, dst, site, num, label, key, value, version, ask, true, code⟩ ⟨write, tlabel, tkey, tvalue, tversion, task, done, sure⟩)) ∧ Below U1.heap.size U1 w') := hFn ⟨write, tlabel, tkey, tvalue, tversion, task, done, sure⟩ U1 (Below.refl _ _)
              obtain ⟨RB, eRB⟩ : ∃ RB, RB = readB ⟨kind, frm, dst, site, num, label, key, value, version, ask, true, code⟩ ⟨write, tlabel, tkey, tvalue, tversion, task, done, sure⟩ := ⟨_, rfl⟩
              rw [← eRB] at HFn HSt2 HSk2
              have hC1 := hC.below bU1
              have HCk : Hid (∀ U, Below U1.heap.size U1 U → Clerk w U B q (VK k) ix m') := fun U hU => hC1.below hU
              clear eRB hFn hC1
              go_upto_region 9 with (fail)
              rw [← hU1]
              clear hU1 a0 a1 a2 a3 a4 a5 a6 a7
              cases RB with
              | false =>
                have e9 := HSk2.out rfl
                have HE9 : Hid (VK (k + 1) = VK k) := e9
                clear e9 HSk2 HSt2
                go_wp2_with (go_at_call 83; refine HFn.out.mono ?_; rintro e w5 ⟨rfl, hb5⟩)
                go_roundw
                case rel => exact ⟨k + 1, m', by go_num, by omega, by rw [HE9.out]; exact HCk.out _ hb5, hme⟩
                case measure => simp [intOf]; omega
              | true =>
                clear HSk2
                go_upto_region 10 with (go_at_call 83; refine HFn.out.mono ?_; rintro e w5 ⟨rfl, hb5⟩)
                have hb15 := nT bU1 hb5
                obtain ⟨kk, r, hkk, hC9⟩ := HSt2.out w5 hb15 (by trivial)
                have hme9 : Hid ((m'.set kk r)[more.length]? = some (⟨58, 12, .slice (some ⟨bc, 0, none⟩) 1 1, 1, [.int .i64 kind, .int .i64 frm, .int .i64 dst, .int .i64 site, .int .i64 num, .int .i64 label, .int .i64 key, .int .i64 value, .int .i64 version, .int .i64 ask, .bool true, .int .i64 code]⟩ : Rw)) := by
                  show _ = _
                  rw [List.getElem?_set_ne (by omega)]
                  exact hme.out
                obtain ⟨w2, zg2, hcell2, -⟩ := HJk.out w5 k m' (HCk.out _ hb5)
                obtain ⟨gt2, egt, zgt2, hcl2⟩ := hcell2 (by omega)
                have egt' : gt = gt2 := by simpa using egt
                subst egt'
                have s7 := (hcl2 k hlt 7 (by decide))
                have hs7 : (w5.cell? ⟨gt, k * 8 + 7, none⟩).isSome = true := by rw [s7.1]; rfl
                obtain ⟨u7, hu7⟩ := Option.isSome_iff_exists.1 hs7
                have hf72 := s7.2
                have hktc : k < tc := by omega
                clear s7 hs7 hcl2 HCk hcell2 hC HSt2
                go_wp2
                go_roundw
                case rel => exact ⟨k + 1, m'.set kk r, by go_num, by omega, hC9, hme9⟩
                case measure => simp [intOf]; omega
            · have HkN : Hid (k = tl) := by show _ = _; omega
              have hlt' : ¬ (k : Int) < (tl : Int) := by omega
              obtain ⟨x2, zgr, -, hTk⟩ := HJk.out wr k m' hC
              have HMk : Hid (markTo ⟨kind, frm, dst, site, num, label, key, value, version, ask, true, code⟩ tasks k = tasks.map (mark ⟨kind, frm, dst, site, num, label, key, value, version, ask, true, code⟩)) := markTo_all _ _ (by rw [HkN.out, HTl.out]; exact Nat.le_refl _)
              rw [HMk.out] at hTk
              have HSu : Hid (Calls Tryd.prog 53 #[.slice ta tl tc] wr fun e w' => e = .returned (.bool (allSure (tasks.map (mark ⟨kind, frm, dst, site, num, label, key, value, version, ask, true, code⟩)))) ∧ Below wr.heap.size wr w') := isSure_any ta tl tc _ wr hTk
              have HTn : Hid ((VK k).tn = { v.tn with js := v.tn.js.set i { JbV.bare ⟨jn, 2, ta, tl, tc, aa, al, ac, asks, age, tasks, asked⟩ with tasks := tasks.map (mark ⟨kind, frm, dst, site, num, label, key, value, version, ask, true, code⟩) } }) := by
                show _ = _
                rw [HVK.out k, HMk.out]
                unfold CkV.tn
                simp only [set_bare]
                rw [← HJ.out]
                rfl
              obtain ⟨AS, eAS⟩ : ∃ b, b = allSure (tasks.map (mark ⟨kind, frm, dst, site, num, label, key, value, version, ask, true, code⟩)) := ⟨_, rfl⟩
              rw [← eAS] at HSu
              have HAS : Hid (AS = allSure (tasks.map (mark ⟨kind, frm, dst, site, num, label, key, value, version, ask, true, code⟩))) := eAS
              have HCk : Hid (∀ U, Below wr.heap.size wr U → Clerk w U B q (VK k) ix m') := fun U hU => hC.below hU
              clear eAS hTk hk hlt
              cases AS with
              | false =>
                have HFF : Hid (∀ U, Below wr.heap.size wr U → DoneIs w U B q v (v.tn.sured (v.cx ls) i ⟨kind, frm, dst, site, num, label, key, value, version, ask, true, code⟩) (.returned (.tuple #[]))) := fun U hU => by
                  refine ⟨rfl, VK k, ix, m', HCk.out U hU, ?_, ?_, ?_⟩
                  · rw [HVK.out k]; show RecsIn v.rs _; exact HRec.out _
                  · rw [HTn.out, HSy.out, if_neg (by rw [← HAS.out]; decide)]
                  · rw [HVK.out k]; exact ⟨rfl, rfl, rfl, rfl, rfl, rfl, rfl⟩
                clear hC
                go_wp2_with (go_at_call 53; refine HSu.out.mono ?_; rintro e w9 ⟨rfl, hb9⟩)
                exact bodyPost_end (v := .tuple #[]) (by simp [results, Tryd.results36, go_sem]) rfl (HFF.out _ hb9)
              | true =>
                have HCm : Hid (∀ U, Below wr.heap.size wr U → Calls Tryd.prog 54 #[.pointer (some ⟨q, 0, none⟩), .pointer (some ⟨g, i * 6, none⟩)] U fun e X' => e = .returned (.tuple #[]) ∧ DoneIs w X' B q v (v.tn.sured (v.cx ls) i ⟨kind, frm, dst, site, num, label, key, value, version, ask, true, code⟩) (.returned (.tuple #[]))) := fun U hU => by
                  have h1 := commit_any U (HCk.out U hU) ls (i := i) (g := g) (by rw [(HVj.out k).1]; exact hi) (by rw [(HVj.out k).2]; exact eg) (by rw [HVK.out k]; exact hs) (by rw [HVK.out k]; exact fitM hm) (by rw [HVK.out k]; exact fitR hrl) (by rw [HVK.out k]; exact fitP (by show v.pl ≤ 1000000; omega)) (fun U' u iy m'' hU' => by rw [HVK.out k]; exact hL U' u iy m'' hU')
                  refine h1.mono ?_
                  intro e u hu
                  have h2 := com_done (v := VK k) (i := i) (ls := ls) (by rw [HVK.out k]; exact HRs0.out) hu
                  obtain ⟨rfl, u', ix', more', g1, g2, g3, g4⟩ := h2
                  refine ⟨rfl, rfl, u', ix', more', g1, g2, ?_, ?_⟩
                  · rw [g3, HTn.out, HSy.out, if_pos (by rw [← HAS.out]), HVK.out k]
                    rfl
                  · rw [HVK.out k] at g4; exact g4
                clear hC
                go_wp2_with (first | (go_at_call 53; refine HSu.out.mono ?_; rintro e w9 ⟨rfl, hb9⟩) | (go_at_call 54; refine (HCm.out _ hb9).mono ?_; rintro e wz ⟨rfl, hz⟩))
                exact bodyPost_end (v := .tuple #[]) (by simp [results, Tryd.results36, go_sem]) rfl hz
  · have hst' : (st != 2) = true := by simpa using hst
    have HA : Hid (v.tn.sured (v.cx ls) i ⟨kind, frm, dst, site, num, label, key, value, version, ask, yes, code⟩ = v.tn) := by show _ = _; rw [HSd.out]; simp [hst]
    clear hst
    have qc1 := fun d os => cell_regrown c1 d os
    have qc2 := fun d os => cell_regrown c2 d os
    have qd1 := fun d os => cell_regrown d1 d os
    have qd6 := fun d os => cell_regrown d6 d os
    refine wp_region_quiet_below (by kernel_rfl) (by kernel_rfl) ?_
    repeat (go_big_quiet_step (first | (exact Calls.regrown_of (HHm.out _ (below_regrown _ _ _))) | (exact Calls.regrown_of (HCt.out _ (below_regrown _ _ _)))))
    refine wpQuiet_nil ?_
    intro _ hw'
    obtain ⟨⟨dq, osq⟩, hw''⟩ := hw'
    subst hw''
    have bQ := below_regrown V dq osq
    obtain ⟨Z, eZ⟩ : ∃ Z, Z = Go.Sort.grow (Go.redrawn V dq) osq := ⟨_, rfl⟩
    rw [← eZ] at bQ ⊢
    clear eZ qc1 qc2 qd1 qd6
    have hF := HSame.out Z bQ HA.out
    go_wp2
    exact bodyPost_ret (v := .tuple #[]) (by simp [results, Tryd.results36, go_sem]) rfl hF
end Go.Proofs.YtdjnaahkcnklhaaDoor.Co
