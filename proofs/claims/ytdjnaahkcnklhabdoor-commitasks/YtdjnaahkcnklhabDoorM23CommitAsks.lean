/- Texts of this claim, one behind the other. -/
import Derived.Test.YtdjnaahkcnklhabDoorM22CommitAsks
import Derived.Test.YtdjnaahkcnklhabDoorM12CommitAsks
/- The clerk's sure: what a job has read is as it was, or it is not. -/
namespace Go.Proofs.YtdjnaahkcnklhabDoor.Co
open Go.ChangeShapes Go.WideShapes Go.ChangeAt Go.RowKit
open Go.Proofs.YtdjnaahkcnklhabDoor.St (BoxN boxn_new own_below grown_setCell IsRow Elem flat flat_append own_isRow idxI idxI_lt)
set_option linter.unusedVariables false

def readB (m : MV) (t : TkV) : Bool := !t.write && (t.label == m.label) && (t.key == m.key) && (t.version == m.version)
set_option maxRecDepth 100000 in
set_option maxHeartbeats 4000000 in
theorem readFn_asks (bc : Nat) (m : MV) (w : World) (mb : BoxN w bc 12 (mcells m)) : Asks 82 #[.pointer (some ⟨bc, 0, none⟩)] TkV.val (readB m) w := by
  refine ⟨enters_of Tryd.func82 (by kernel_rfl) rfl, fun x w' hb => ?_⟩
  obtain ⟨kind, frm, dst, site, num, label, key, value, version, ask, yes, code⟩ := m
  have mb2 := mb.below hb mb.lt
  have m5 : w'.cell? ⟨bc, 5, none⟩ = some (.int .i64 label) := (mb2.c 5 (by decide)).1
  have m6 : w'.cell? ⟨bc, 6, none⟩ = some (.int .i64 key) := (mb2.c 6 (by decide)).1
  have m8 : w'.cell? ⟨bc, 8, none⟩ = some (.int .i64 version) := (mb2.c 8 (by decide)).1
  have y0 := mb2.lt
  obtain ⟨write, tlabel, tkey, tvalue, tversion, task, done, sure⟩ := x
  simp only [TkV.val]
  have bA : Below w'.heap.size w' (w'.alloc (.cells #[.bool write, .int .i64 tlabel, .int .i64 tkey, .int .i64 tvalue, .int .i64 tversion, .int .i64 task, .bool done, .bool sure] 87)) := (Below.refl _ _).alloc (Nat.le_refl _) _
  obtain ⟨C2, e2⟩ : ∃ b : Bool, b = (tlabel == label) := ⟨_, rfl⟩
  obtain ⟨C3, e3⟩ : ∃ b : Bool, b = (tkey == key) := ⟨_, rfl⟩
  obtain ⟨C4, e4⟩ : ∃ b : Bool, b = (tversion == version) := ⟨_, rfl⟩
  have HA : Hid (readB ⟨kind, frm, dst, site, num, label, key, value, version, ask, yes, code⟩ ⟨write, tlabel, tkey, tvalue, tversion, task, done, sure⟩ = (!write && C2 && C3 && C4)) := by
    show _ = _
    unfold readB
    rw [e2, e3, e4]
  obtain ⟨R, eR⟩ : ∃ R, R = readB ⟨kind, frm, dst, site, num, label, key, value, version, ask, yes, code⟩ ⟨write, tlabel, tkey, tvalue, tversion, task, done, sure⟩ := ⟨_, rfl⟩
  rw [← eR] at HA ⊢
  have hc2 := e2.symm
  have hc3 := e3.symm
  have hc4 := e4.symm
  clear eR e2 e3 e4 mb mb2
  show Calls Tryd.prog 82 #[_, .pointer (some ⟨bc, 0, none⟩)] w' _
  cases write <;> cases C2 <;> cases C3 <;> cases C4
  all_goals
    go_enter Tryd.func82, Tryd.ntmps82
    go_wp2
    go_ret
    exact ⟨by rw [HA.out]; simp, bA⟩
theorem isRead_any (m : MV) (w : World) : Calls Tryd.prog 60 #[m.val] w fun e w' => e = .returned (.func (.func 82) #[] #[.pointer (some ⟨w.heap.size, 0, none⟩)]) ∧ w'.ownsRow w.heap.size 46 12 (.slice (some ⟨w.heap.size, 0, none⟩) 1 1) 1 (mcells m) ∧ Below w.heap.size w w' := by
  obtain ⟨kind, frm, dst, site, num, label, key, value, version, ask, yes, code⟩ := m
  simp only [MV.val]
  obtain ⟨W, hW⟩ : ∃ W : World, W = w.alloc (.cells #[.int .i64 kind, .int .i64 frm, .int .i64 dst, .int .i64 site, .int .i64 num, .int .i64 label, .int .i64 key, .int .i64 value, .int .i64 version, .int .i64 ask, .bool yes, .int .i64 code] 46) := ⟨_, rfl⟩
  have bW : Below w.heap.size w W := by rw [hW]; exact (Below.refl _ _).alloc (Nat.le_refl _) _
  have ob : W.ownsRow w.heap.size 46 12 (.slice (some ⟨w.heap.size, 0, none⟩) 1 1) 1 (mcells ⟨kind, frm, dst, site, num, label, key, value, version, ask, yes, code⟩) := by rw [hW]; exact box_row w _ _ 12 rfl
  go_enter Tryd.func60, Tryd.ntmps60
  go_wp2
  rw [← hW]
  go_ret
  exact ⟨rfl, ob, bW⟩
def mark (m : MV) (t : TkV) : TkV := if readB m t = true then { t with sure := true } else t
def markTo (m : MV) (ts : List TkV) (k : Nat) : List TkV := (ts.take k).map (mark m) ++ ts.drop k
theorem markTo_zero (m : MV) (ts : List TkV) : markTo m ts 0 = ts := by simp [markTo]
theorem markTo_all (m : MV) (ts : List TkV) {k : Nat} (h : ts.length ≤ k) : markTo m ts k = ts.map (mark m) := by
  unfold markTo
  rw [List.take_of_length_le h, List.drop_of_length_le h, List.append_nil]
theorem markTo_len (m : MV) (ts : List TkV) (k : Nat) : (markTo m ts k).length = ts.length := by
  unfold markTo
  simp
  omega
theorem markTo_at (m : MV) {ts : List TkV} {k : Nat} (h : k < ts.length) : (markTo m ts k).getD k default = ts.getD k default := by
  unfold markTo
  simp only [List.getD]
  rw [List.getElem?_append_right (by simp; omega)]
  have : (List.map (mark m) (List.take k ts)).length = k := by simp; omega
  rw [this]
  simp
theorem markTo_succ (m : MV) {ts : List TkV} {k : Nat} (h : k < ts.length) : markTo m ts (k + 1) = (markTo m ts k).set k (mark m (ts.getD k default)) := by
  unfold markTo
  have hl : (List.map (mark m) (List.take k ts)).length = k := by simp; omega
  have e1 : ts.take (k + 1) = ts.take k ++ [ts.getD k default] := by rw [List.take_add_one]; simp [List.getD, h]
  rw [e1, List.map_append, List.set_append_right _ _ (by omega), hl, Nat.sub_self]
  rw [show ts.drop k = ts.getD k default :: ts.drop (k + 1) by rw [List.drop_eq_getElem_cons h]; simp [List.getD, h]]
  simp
def Tn.sured (t : Tn) (C : Cx) (i : Nat) (m : MV) : Tn :=
  if (decide ((t.js.getD i default).state = 2) && (m.frm == C.home m.key) && (t.js.getD i default).tasks.any (readB m)) = true then
    (if m.yes = true then
      (if allSure ((t.js.getD i default).tasks.map (mark m)) = true then Tn.comm { t with js := t.js.set i { t.js.getD i default with tasks := (t.js.getD i default).tasks.map (mark m) } } C i
      else { t with js := t.js.set i { t.js.getD i default with tasks := (t.js.getD i default).tasks.map (mark m) } })
    else Tn.ended (t.rep C 4 (t.js.getD i default).n 0 0 11) C (t.js.getD i default).n (t.js.getD i default).tasks)
  else t
set_option maxRecDepth 100000 in
set_option maxHeartbeats 8000000 in
theorem sure_done {w : World} {B q : Nat} {v : CkV} {ix : List (Nat × Nat)} {more : List Rw} (X : World) (h : Clerk w X B q v ix more) (hr : v.rs = []) (ls : List (Int × Int)) {i g : Nat} (hi : i < v.jl) (eg : v.ja = some ⟨g, 0, none⟩) (m : MV) (hs : v.s ≤ 1048576) (hm : v.ml ≤ 1000000) (hrl : v.rl ≤ 1000000) (hp : v.pl ≤ 999999) (htl : (v.js.getD i default).tl ≤ 1000000) (hL : Labs w B q v ls) :
    Calls Tryd.prog 31 #[.pointer (some ⟨q, 0, none⟩), .pointer (some ⟨g, i * 6, none⟩), m.val] X fun e X' => DoneIs w X' B q v (v.tn.sured (v.cx ls) i m) e := by
  obtain ⟨kind, frm, dst, site, num, label, key, value, version, ask, yes, code⟩ := m
  simp only [MV.val]
  have hi' : i < v.js.length := by have := h.lens.1; omega
  have hfit := (h.fit hi).1
  obtain ⟨W, hW⟩ : ∃ W : World, W = X.alloc (.cells #[.int .i64 kind, .int .i64 frm, .int .i64 dst, .int .i64 site, .int .i64 num, .int .i64 label, .int .i64 key, .int .i64 value, .int .i64 version, .int .i64 ask, .bool yes, .int .i64 code] 46) := ⟨_, rfl⟩
  have bW : Below X.heap.size X W := by rw [hW]; exact (Below.refl _ _).alloc (Nat.le_refl _) _
  have mb : BoxN W X.heap.size 12 [.int .i64 kind, .int .i64 frm, .int .i64 dst, .int .i64 site, .int .i64 num, .int .i64 label, .int .i64 key, .int .i64 value, .int .i64 version, .int .i64 ask, .bool yes, .int .i64 code] := by rw [hW]; exact boxn_new X #[.int .i64 kind, .int .i64 frm, .int .i64 dst, .int .i64 site, .int .i64 num, .int .i64 label, .int .i64 key, .int .i64 value, .int .i64 version, .int .i64 ask, .bool yes, .int .i64 code] 46 12 rfl
  have HC0 : Hid (Clerk w W B q v ix more) := h.below bW
  have HRs0 : Hid (v.rs = []) := hr
  have HBj : Hid (v.tn.js.getD i default = (v.js.getD i default).bare) := getD_bare _ _
  have HKM : Hid (∀ (k y : Nat), ix[i]? = some (k, y) → k < more.length) := fun k y e => (h.jobs.inn i (k, y) e).1
  have HIs : Hid (Calls Tryd.prog 60 #[.agg #[.int .i64 kind, .int .i64 frm, .int .i64 dst, .int .i64 site, .int .i64 num, .int .i64 label, .int .i64 key, .int .i64 value, .int .i64 version, .int .i64 ask, .bool yes, .int .i64 code]] W fun e w' => e = .returned (.func (.func 82) #[] #[.pointer (some ⟨W.heap.size, 0, none⟩)]) ∧ w'.ownsRow W.heap.size 46 12 (.slice (some ⟨W.heap.size, 0, none⟩) 1 1) 1 [.int .i64 kind, .int .i64 frm, .int .i64 dst, .int .i64 site, .int .i64 num, .int .i64 label, .int .i64 key, .int .i64 value, .int .i64 version, .int .i64 ask, .bool yes, .int .i64 code] ∧ Below W.heap.size W w') := isRead_any ⟨kind, frm, dst, site, num, label, key, value, version, ask, yes, code⟩ W
  have b0 : W.cell? ⟨X.heap.size, 0, none⟩ = some (.int .i64 kind) := (mb.c 0 (by decide)).1
  have b1 : W.cell? ⟨X.heap.size, 1, none⟩ = some (.int .i64 frm) := (mb.c 1 (by decide)).1
  have b2 : W.cell? ⟨X.heap.size, 2, none⟩ = some (.int .i64 dst) := (mb.c 2 (by decide)).1
  have b3 : W.cell? ⟨X.heap.size, 3, none⟩ = some (.int .i64 site) := (mb.c 3 (by decide)).1
  have b4 : W.cell? ⟨X.heap.size, 4, none⟩ = some (.int .i64 num) := (mb.c 4 (by decide)).1
  have b5 : W.cell? ⟨X.heap.size, 5, none⟩ = some (.int .i64 label) := (mb.c 5 (by decide)).1
  have b6 : W.cell? ⟨X.heap.size, 6, none⟩ = some (.int .i64 key) := (mb.c 6 (by decide)).1
  have b7 : W.cell? ⟨X.heap.size, 7, none⟩ = some (.int .i64 value) := (mb.c 7 (by decide)).1
  have b8 : W.cell? ⟨X.heap.size, 8, none⟩ = some (.int .i64 version) := (mb.c 8 (by decide)).1
  have b9 : W.cell? ⟨X.heap.size, 9, none⟩ = some (.int .i64 ask) := (mb.c 9 (by decide)).1
  have b10 : W.cell? ⟨X.heap.size, 10, none⟩ = some (.bool yes) := (mb.c 10 (by decide)).1
  have b11 : W.cell? ⟨X.heap.size, 11, none⟩ = some (.int .i64 code) := (mb.c 11 (by decide)).1
  have zm := mb.lt
  clear h hr
  go_enter Tryd.func31, Tryd.ntmps31
  go_upto_region 1 with (fail)
  rw [← hW]
  clear hW
  go_upto_region 2 with (go_at_call 60; refine HIs.out.mono ?_; rintro e V ⟨rfl, hob, hbV⟩)
  obtain ⟨bc, ebc⟩ : ∃ bc, bc = W.heap.size := ⟨_, rfl⟩
  rw [← ebc] at hob ⊢
  have hCV : Clerk w V B q v ix (more ++ [(⟨46, 12, .slice (some ⟨bc, 0, none⟩) 1 1, 1, [.int .i64 kind, .int .i64 frm, .int .i64 dst, .int .i64 site, .int .i64 num, .int .i64 label, .int .i64 key, .int .i64 value, .int .i64 version, .int .i64 ask, .bool yes, .int .i64 code]⟩ : Rw)]) := HC0.out.add hbV (by rw [ebc] at hob ⊢; exact hob)
  have HC : Hid (Clerk w V B q v ix (more ++ [(⟨46, 12, .slice (some ⟨bc, 0, none⟩) 1 1, 1, [.int .i64 kind, .int .i64 frm, .int .i64 dst, .int .i64 site, .int .i64 num, .int .i64 label, .int .i64 key, .int .i64 value, .int .i64 version, .int .i64 ask, .bool yes, .int .i64 code]⟩ : Rw)])) := hCV
  have mbV := mb.below hbV mb.lt
  have HClo : Hid (∀ (U : World) (u : CkV) (iy : List (Nat × Nat)) (m' : List Rw), Clerk w U B q u iy m' → m'[more.length]? = some (⟨46, 12, .slice (some ⟨bc, 0, none⟩) 1 1, 1, [.int .i64 kind, .int .i64 frm, .int .i64 dst, .int .i64 site, .int .i64 num, .int .i64 label, .int .i64 key, .int .i64 value, .int .i64 version, .int .i64 ask, .bool yes, .int .i64 code]⟩ : Rw) → Asks 82 #[.pointer (some ⟨bc, 0, none⟩)] TkV.val (readB ⟨kind, frm, dst, site, num, label, key, value, version, ask, yes, code⟩) U) := fun U u iy m' hU e => readFn_asks bc ⟨kind, frm, dst, site, num, label, key, value, version, ask, yes, code⟩ U (row_box (rowAt (v := u) (more := m') hU e) rfl (by decide))
  clear hob ebc HIs mb
  obtain ⟨g2, eg2, -, zg, -, hcj, -⟩ := hCV.jobAt hi
  obtain rfl := ptrEq eg eg2
  have hT := hCV.isTasks hi
  have HHm : Hid (∀ U, Below V.heap.size V U → Calls Tryd.prog 50 #[.pointer (some ⟨q, 0, none⟩), .int .i64 key] U fun e U' => e = .returned (.int .i64 (homeNum v.s ls v.p key)) ∧ Below U.heap.size U U') := fun U hU => clerkHome_any U (HC.out.below hU) ls (hL _ _ _ _ (HC.out.below hU)) key
  have HCt : Hid (∀ U, Below V.heap.size V U → Calls Tryd.prog 61 #[.slice (v.js.getD i default).ta (v.js.getD i default).tl (v.js.getD i default).tc, .func (.func 82) #[] #[.pointer (some ⟨bc, 0, none⟩)]] U fun e w' => e = .returned (.bool ((v.js.getD i default).tasks.any (readB ⟨kind, frm, dst, site, num, label, key, value, version, ask, yes, code⟩))) ∧ Below U.heap.size U w') := fun U hU => containsTask_any _ _ _ _ _ _ _ U (hT.below hU) (HClo.out U v ix _ (HC.out.below hU) (by simp))
  obtain ⟨J, eJ⟩ : ∃ J, J = v.js.getD i default := ⟨_, rfl⟩
  have HJ : Hid (J = v.js.getD i default) := eJ
  obtain ⟨H, eH⟩ : ∃ H, H = homeNum v.s ls v.p key := ⟨_, rfl⟩
  rw [← eH] at HHm
  rw [← eJ] at HCt hcj hT htl hfit HBj
  have HRec : Hid (∀ more', RecsIn v.rs more') := fun more' => by rw [HRs0.out]; exact recsIn_nil _
  have HSame : Hid (∀ U, Below V.heap.size V U → v.tn.sured (v.cx ls) i ⟨kind, frm, dst, site, num, label, key, value, version, ask, yes, code⟩ = v.tn → DoneIs w U B q v (v.tn.sured (v.cx ls) i ⟨kind, frm, dst, site, num, label, key, value, version, ask, yes, code⟩) (.returned (.tuple #[]))) := fun U hU e => ⟨rfl, v, ix, _, HC.out.below hU, HRec.out _, e.symm, rfl, rfl, rfl, rfl, rfl, rfl, rfl⟩
  obtain ⟨jn, st, ta, tl, tc, aa, al, ac, asks, age, tasks, asked⟩ := J
  simp only [] at HCt hT htl hfit
  obtain ⟨A, eA⟩ : ∃ A, A = tasks.any (readB ⟨kind, frm, dst, site, num, label, key, value, version, ask, yes, code⟩) := ⟨_, rfl⟩
  rw [← eA] at HCt
  obtain ⟨C2, e2⟩ : ∃ b : Bool, b = (frm == H) := ⟨_, rfl⟩
  have hn2 : (frm != H) = !C2 := by rw [e2]; rfl
  have HSd : Hid (v.tn.sured (v.cx ls) i ⟨kind, frm, dst, site, num, label, key, value, version, ask, yes, code⟩ = if (decide (st = 2) && C2 && A) = true then (if yes = true then (if allSure (tasks.map (mark ⟨kind, frm, dst, site, num, label, key, value, version, ask, yes, code⟩)) = true then Tn.comm { v.tn with js := v.tn.js.set i { JbV.bare ⟨jn, st, ta, tl, tc, aa, al, ac, asks, age, tasks, asked⟩ with tasks := tasks.map (mark ⟨kind, frm, dst, site, num, label, key, value, version, ask, yes, code⟩) } } (v.cx ls) i else { v.tn with js := v.tn.js.set i { JbV.bare ⟨jn, st, ta, tl, tc, aa, al, ac, asks, age, tasks, asked⟩ with tasks := tasks.map (mark ⟨kind, frm, dst, site, num, label, key, value, version, ask, yes, code⟩) } }) else Tn.ended (v.tn.rep (v.cx ls) 4 jn 0 0 11) (v.cx ls) jn tasks) else v.tn) := by
    show _ = _
    unfold Tn.sured
    rw [HBj.out, eA, e2, eH]
    rfl
  have c0 := hcj 0 (by decide)
  have c1 := hcj 1 (by decide)
  have c2 := hcj 2 (by decide)
  simp only [JbV.cells, List.getElem?_cons_zero, List.getElem?_cons_succ, Nat.add_zero] at c0 c1 c2
  have d1 : V.cell? ⟨X.heap.size, 1, none⟩ = some (.int .i64 frm) := (mbV.c 1 (by decide)).1
  have d6 : V.cell? ⟨X.heap.size, 6, none⟩ = some (.int .i64 key) := (mbV.c 6 (by decide)).1
  have d10 : V.cell? ⟨X.heap.size, 10, none⟩ = some (.bool yes) := (mbV.c 10 (by decide)).1
  have zmV := mbV.lt
  clear eJ eH eA hCV hcj e2 eg2 b0 b1 b2 b3 b4 b5 b6 b7 b8 b9 b10 b11
  by_cases hst : st = 2
  · subst hst
    cases C2 with
    | false =>
      replace hn2 : (frm != H) = true := hn2
      have HA : Hid (v.tn.sured (v.cx ls) i ⟨kind, frm, dst, site, num, label, key, value, version, ask, yes, code⟩ = v.tn) := by show _ = _; rw [HSd.out]; rfl
      have qc1 := fun d os => cell_regrown c1 d os
      have qc2 := fun d os => cell_regrown c2 d os
      have qd1 := fun d os => cell_regrown d1 d os
      have qd6 := fun d os => cell_regrown d6 d os
      refine wp_region_quiet_below (by kernel_rfl) (by kernel_rfl) ?_
      repeat (go_big_quiet_step (first | (exact Calls.regrown_of (HHm.out _ (below_regrown _ _ _))) | (exact Calls.regrown_of (HCt.out _ (below_regrown _ _ _)))))
      refine wpQuiet_nil ?_
      intro _ hw'
      obtain ⟨⟨dq, osq⟩, hw''⟩ := hw'
      subst hw''
      have bQ := below_regrown V dq osq
      obtain ⟨Z, eZ⟩ : ∃ Z, Z = Go.Sort.grow (Go.redrawn V dq) osq := ⟨_, rfl⟩
      rw [← eZ] at bQ ⊢
      clear eZ qc1 qc2 qd1 qd6
      have hF := HSame.out Z bQ HA.out
      go_wp2
      exact bodyPost_ret (v := .tuple #[]) (by simp [results, Tryd.results31, go_sem]) rfl hF
    | true =>
      replace hn2 : (frm != H) = false := hn2
      cases A with
      | false =>
        have HA : Hid (v.tn.sured (v.cx ls) i ⟨kind, frm, dst, site, num, label, key, value, version, ask, yes, code⟩ = v.tn) := by show _ = _; rw [HSd.out]; rfl
        have qc1 := fun d os => cell_regrown c1 d os
        have qc2 := fun d os => cell_regrown c2 d os
        have qd1 := fun d os => cell_regrown d1 d os
        have qd6 := fun d os => cell_regrown d6 d os
        refine wp_region_quiet_below (by kernel_rfl) (by kernel_rfl) ?_
        repeat (go_big_quiet_step (first | (exact Calls.regrown_of (HHm.out _ (below_regrown _ _ _))) | (exact Calls.regrown_of (HCt.out _ (below_regrown _ _ _)))))
        refine wpQuiet_nil ?_
        intro _ hw'
        obtain ⟨⟨dq, osq⟩, hw''⟩ := hw'
        subst hw''
        have bQ := below_regrown V dq osq
        obtain ⟨Z, eZ⟩ : ∃ Z, Z = Go.Sort.grow (Go.redrawn V dq) osq := ⟨_, rfl⟩
        rw [← eZ] at bQ ⊢
        clear eZ qc1 qc2 qd1 qd6
        have hF := HSame.out Z bQ HA.out
        go_wp2
        exact bodyPost_ret (v := .tuple #[]) (by simp [results, Tryd.results31, go_sem]) rfl hF
      | true =>
        have qc1 := fun d os => cell_regrown c1 d os
        have qc2 := fun d os => cell_regrown c2 d os
        have qd1 := fun d os => cell_regrown d1 d os
        have qd6 := fun d os => cell_regrown d6 d os
        refine wp_region_quiet_below (by kernel_rfl) (by kernel_rfl) ?_
        repeat (go_big_quiet_step (first | (exact Calls.regrown_of (HHm.out _ (below_regrown _ _ _))) | (exact Calls.regrown_of (HCt.out _ (below_regrown _ _ _)))))
        refine wpQuiet_nil ?_
        intro _ hw'
        obtain ⟨⟨dq, osq⟩, hw''⟩ := hw'
        subst hw''
        have bQ := below_regrown V dq osq
        obtain ⟨Z, eZ⟩ : ∃ Z, Z = Go.Sort.grow (Go.redrawn V dq) osq := ⟨_, rfl⟩
        rw [← eZ] at bQ ⊢
        clear eZ qc1 qc2 qd1 qd6
        have HCZ : Hid (Clerk w Z B q v ix (more ++ [(⟨46, 12, .slice (some ⟨bc, 0, none⟩) 1 1, 1, [.int .i64 kind, .int .i64 frm, .int .i64 dst, .int .i64 site, .int .i64 num, .int .i64 label, .int .i64 key, .int .i64 value, .int .i64 version, .int .i64 ask, .bool yes, .int .i64 code]⟩ : Rw)])) := HC.out.below bQ
        have z0 := (bQ.cell (p := ⟨g, i * 6, none⟩) zg).trans c0
        have z9 := (bQ.cell (p := ⟨X.heap.size, 10, none⟩) zmV).trans d10
        have zgZ := Nat.lt_of_lt_of_le zg bQ.size
        have zmZ := Nat.lt_of_lt_of_le zmV bQ.size
        clear c0 c1 c2 d1 d6 d10 HHm HCt HSame
        cases yes with
        | false =>
          have HSn : Hid (v.tn.sured (v.cx ls) i ⟨kind, frm, dst, site, num, label, key, value, version, ask, false, code⟩ = Tn.ended (v.tn.rep (v.cx ls) 4 jn 0 0 11) (v.cx ls) jn tasks) := by show _ = _; rw [HSd.out]; rfl
          clear HSd
          have HRp : Hid (Calls Tryd.prog 23 #[.pointer (some ⟨q, 0, none⟩), .agg #[.int .i64 0, .int .i64 4, .int .i64 jn, .int .i64 0, .int .i64 0, .int .i64 11]] Z fun e X' => e = .returned (.tuple #[]) ∧ ∃ a5 c5, Clerk w X' B q (refusedV v a5 c5 ⟨v.me, 4, jn, 0, 0, 11⟩) ix (more ++ [(⟨46, 12, .slice (some ⟨bc, 0, none⟩) 1 1, 1, [.int .i64 kind, .int .i64 frm, .int .i64 dst, .int .i64 site, .int .i64 num, .int .i64 label, .int .i64 key, .int .i64 value, .int .i64 version, .int .i64 ask, .bool false, .int .i64 code]⟩ : Rw)])) := reply_any Z HCZ.out ⟨0, 4, jn, 0, 0, 11⟩ (fitP (by omega))
          go_upto_region 5 with (go_at_call 23; refine HRp.out.mono ?_; rintro e Y ⟨rfl, a5, c5, hC5⟩)
          obtain ⟨g3, eg3, -, zgY, -, hcY, -⟩ := hC5.jobAt (i := i) hi
          obtain rfl := ptrEq eg (by exact eg3)
          have hTY := hC5.isTasks (i := i) hi
          have eJ5 : (refusedV v a5 c5 ⟨v.me, 4, jn, 0, 0, 11⟩).js.getD i default = ⟨jn, 2, ta, tl, tc, aa, al, ac, asks, age, tasks, asked⟩ := HJ.out.symm
          rw [eJ5] at hcY hTY
          have HEd : Hid (Calls Tryd.prog 27 #[.pointer (some ⟨q, 0, none⟩), .agg #[.int .i64 jn, .int .i64 2, .slice ta tl tc, .slice aa al ac, .int .i64 asks, .int .i64 age]] Y fun e X' => e = .returned (.tuple #[]) ∧ DoneIs w X' B q v (v.tn.sured (v.cx ls) i ⟨kind, frm, dst, site, num, label, key, value, version, ask, false, code⟩) (.returned (.tuple #[]))) := by
            have h1 := end_done Y hC5 HRs0.out ls ⟨jn, 2, ta, tl, tc, aa, al, ac, asks, age, tasks, asked⟩ hTY hs hm hL
            refine h1.mono ?_
            rintro e u ⟨rfl, u', ix', more', g1, g2, g3, g4⟩
            refine ⟨rfl, rfl, u', ix', more', g1, g2, ?_, g4⟩
            rw [g3, HSn.out]
            rfl
          have j0 := hcY 0 (by decide)
          have j1 := hcY 1 (by decide)
          have j2 := hcY 2 (by decide)
          have j3 := hcY 3 (by decide)
          have j4 := hcY 4 (by decide)
          have j5 := hcY 5 (by decide)
          simp only [JbV.cells, List.getElem?_cons_zero, List.getElem?_cons_succ, Nat.add_zero] at j0 j1 j2 j3 j4 j5
          clear hC5 hcY hTY eJ5 eg3 z0 z9 HRp
          go_wp2_with (go_at_call 27; refine HEd.out.mono ?_; rintro e w9 ⟨rfl, h9⟩)
          exact bodyPost_ret (v := .tuple #[]) (by simp [results, Tryd.results31, go_sem]) rfl h9
        | true =>
          have HSy : Hid (v.tn.sured (v.cx ls) i ⟨kind, frm, dst, site, num, label, key, value, version, ask, true, code⟩ = if allSure (tasks.map (mark ⟨kind, frm, dst, site, num, label, key, value, version, ask, true, code⟩)) = true then Tn.comm { v.tn with js := v.tn.js.set i { JbV.bare ⟨jn, 2, ta, tl, tc, aa, al, ac, asks, age, tasks, asked⟩ with tasks := tasks.map (mark ⟨kind, frm, dst, site, num, label, key, value, version, ask, true, code⟩) } } (v.cx ls) i else { v.tn with js := v.tn.js.set i { JbV.bare ⟨jn, 2, ta, tl, tc, aa, al, ac, asks, age, tasks, asked⟩ with tasks := tasks.map (mark ⟨kind, frm, dst, site, num, label, key, value, version, ask, true, code⟩) } }) := by show _ = _; rw [HSd.out]; rfl
          clear HSd
          /- the clerk whose job's first k tasks have been looked at -/
          obtain ⟨VK, eVK⟩ : ∃ VK : Nat → CkV, VK = fun k => { v with js := v.js.set i { v.js.getD i default with tasks := markTo ⟨kind, frm, dst, site, num, label, key, value, version, ask, true, code⟩ tasks k } } := ⟨_, rfl⟩
          have HVK : Hid (∀ k, VK k = { v with js := v.js.set i { v.js.getD i default with tasks := markTo ⟨kind, frm, dst, site, num, label, key, value, version, ask, true, code⟩ tasks k } }) := fun k => by rw [eVK]
          have HVg : Hid (∀ k, (VK k).js.getD i default = ⟨jn, 2, ta, tl, tc, aa, al, ac, asks, age, markTo ⟨kind, frm, dst, site, num, label, key, value, version, ask, true, code⟩ tasks k, asked⟩) := fun k => by
            rw [eVK]
            show (v.js.set i _).getD i default = _
            rw [set_getD _ _ _ hi', ← HJ.out]
          have HVj : Hid (∀ k, (VK k).jl = v.jl ∧ (VK k).ja = v.ja) := fun k => by rw [eVK]; exact ⟨rfl, rfl⟩
          have HV0 : Hid (VK 0 = v) := by
            show _ = _
            rw [eVK]
            simp only [markTo_zero]
            have e9 : ({ v.js.getD i default with tasks := tasks } : JbV) = v.js.getD i default := by rw [← HJ.out]
            rw [e9]
            have e8 : v.js.set i (v.js.getD i default) = v.js := by
              apply List.ext_getElem?
              intro n
              by_cases hn : i = n
              · subst hn; simp [List.getD, hi']
              · rw [List.getElem?_set_ne hn]
            rw [e8]
          clear eVK
          have htc : tl ≤ tc ∧ tc ≤ maxLen := ⟨hT.2.1, hT.2.2.1⟩
          unfold maxLen at htc
          obtain ⟨htc1, htc2⟩ := htc
          have HTl : Hid (tasks.length = tl) := hfit
          /- what such a clerk knows of its job -/
          have HJk : Hid (∀ (U : World) (k : Nat) (m' : List Rw), Clerk w U B q (VK k) ix m' → U.cell? ⟨g, i * 6 + 2, none⟩ = some (.slice ta tl tc) ∧ g < U.heap.size ∧ (0 < tl → ∃ gt, ta = some ⟨gt, 0, none⟩ ∧ gt < U.heap.size ∧ ∀ n, n < tl → ∀ c, c < 8 → U.cell? ⟨gt, n * 8 + c, none⟩ = ((markTo ⟨kind, frm, dst, site, num, label, key, value, version, ask, true, code⟩ tasks k).getD n default).cells[c]? ∧ U.frozen? ⟨gt, n * 8 + c, none⟩ = false) ∧ IsTasks U ta tl tc (markTo ⟨kind, frm, dst, site, num, label, key, value, version, ask, true, code⟩ tasks k)) := fun U k m' hU => by
            obtain ⟨g3, eg3, -, zg3, -, hc3, -⟩ := hU.jobAt (i := i) (by rw [(HVj.out k).1]; exact hi)
            rw [(HVj.out k).2] at eg3
            obtain rfl := ptrEq eg eg3
            have ot := (hU.tasksAt (i := i) (by rw [(HVj.out k).1]; exact hi)).1
            have ht := hU.isTasks (i := i) (by rw [(HVj.out k).1]; exact hi)
            rw [HVg.out k] at hc3 ot ht
            refine ⟨by simpa [JbV.cells] using hc3 2 (by decide), zg3, fun h0 => ?_, ht⟩
            obtain ⟨gt, rfl, _, zt⟩ := own_spot ot h0
            obtain ⟨b, off, e4, zb, hcr⟩ := ht.2.2.2.2 h0
            simp at e4
            obtain ⟨rfl, rfl⟩ := e4
            refine ⟨gt, rfl, zt, fun n hn c hc => ⟨?_, (St.own_there ot (k := n * 8 + c) (by simp only []; omega)).2⟩⟩
            have := hcr n hn c hc
            rw [Nat.zero_add] at this
            exact this
          have HStep : Hid (∀ (U : World) (k : Nat) (m' : List Rw) (gt : Nat), Clerk w U B q (VK k) ix m' → ta = some ⟨gt, 0, none⟩ → k < tl → readB ⟨kind, frm, dst, site, num, label, key, value, version, ask, true, code⟩ (tasks.getD k default) = true → ∃ (kk : Nat) (r : Rw), kk < more.length ∧ Clerk w (U.setCell ⟨gt, k * 8 + 7, none⟩ (.bool true)) B q (VK (k + 1)) ix (m'.set kk r)) := fun U k m' gt hU et hk hb => by
            have hkl : k < tasks.length := by rw [HTl.out]; exact hk
            obtain ⟨kk, r, ⟨y, hy⟩, h9⟩ := hU.tcell (i := i) (gt := gt) (m := k) (by rw [(HVj.out k).1]; exact hi) (by rw [HVg.out k]; exact et) (by rw [HVg.out k]; exact hk) 7 (by decide) (.bool true) (mark ⟨kind, frm, dst, site, num, label, key, value, version, ask, true, code⟩ (tasks.getD k default)) (by
              rw [HVg.out k]
              show _ = (((markTo ⟨kind, frm, dst, site, num, label, key, value, version, ask, true, code⟩ tasks k).getD k default).cells).set 7 _
              rw [markTo_at _ hkl]
              unfold mark
              rw [if_pos hb]
              rfl)
            refine ⟨kk, r, HKM.out kk y hy, ?_⟩
            have e9 : ({ VK k with js := (VK k).js.set i (taskSet ((VK k).js.getD i default) k (mark ⟨kind, frm, dst, site, num, label, key, value, version, ask, true, code⟩ (tasks.getD k default))) } : CkV) = VK (k + 1) := by
              rw [HVg.out k, HVK.out k, HVK.out (k + 1)]
              simp only [List.set_set]
              rw [markTo_succ _ hkl, ← HJ.out]
              rfl
            rw [← e9]
            exact h9
          have HSkip : Hid (∀ k, k < tl → readB ⟨kind, frm, dst, site, num, label, key, value, version, ask, true, code⟩ (tasks.getD k default) = false → VK (k + 1) = VK k) := fun k hk hb => by
            have hkl : k < tasks.length := by rw [HTl.out]; exact hk
            rw [HVK.out (k + 1), HVK.out k, markTo_succ _ hkl]
            have e9 : (markTo ⟨kind, frm, dst, site, num, label, key, value, version, ask, true, code⟩ tasks k).set k (mark ⟨kind, frm, dst, site, num, label, key, value, version, ask, true, code⟩ (tasks.getD k default)) = markTo ⟨kind, frm, dst, site, num, label, key, value, version, ask, true, code⟩ tasks k := by
              unfold mark
              rw [if_neg (by rw [hb]; decide), ← markTo_at ⟨kind, frm, dst, site, num, label, key, value, version, ask, true, code⟩ hkl]
              apply List.ext_getElem?
              intro n
              by_cases hn : k = n
              · subst hn
                have : k < (markTo ⟨kind, frm, dst, site, num, label, key, value, version, ask, true, code⟩ tasks k).length := by rw [markTo_len]; exact hkl
                simp [List.getD, this]
              · rw [List.getElem?_set_ne hn]
            rw [e9]
          have HCZ0 : Hid (Clerk w Z B q (VK 0) ix (more ++ [(⟨46, 12, .slice (some ⟨bc, 0, none⟩) 1 1, 1, [.int .i64 kind, .int .i64 frm, .int .i64 dst, .int .i64 site, .int .i64 num, .int .i64 label, .int .i64 key, .int .i64 value, .int .i64 version, .int .i64 ask, .bool true, .int .i64 code]⟩ : Rw)])) := by rw [HV0.out]; exact HCZ.out
          obtain ⟨y2, -, -, -⟩ := HJk.out Z 0 _ HCZ0.out
          have htl' : (tl : Int) ≤ 1000000 := by omega
          go_upto_region 7 with (fail)
          clear y2 z0 z9 HCZ HC
          go_loopw [7, 8, 54] (fun _ _ s54 wr => ∃ (k : Nat) (m' : List Rw), s54 = .int .i64 (k : Int) ∧ k ≤ tl ∧ Clerk w wr B q (VK k) ix m' ∧ Hid (m'[more.length]? = some (⟨46, 12, .slice (some ⟨bc, 0, none⟩) 1 1, 1, [.int .i64 kind, .int .i64 frm, .int .i64 dst, .int .i64 site, .int .i64 num, .int .i64 label, .int .i64 key, .int .i64 value, .int .i64 version, .int .i64 ask, .bool true, .int .i64 code]⟩ : Rw))) (fun _ _ s54 _ => tl - (intOf s54).toNat)
          case atStart => exact ⟨0, _, rfl, Nat.zero_le _, HCZ0.out, by show _ = _; simp⟩
          case round =>
            clear HCZ0
            obtain ⟨k, m', rfl, hk, hC, hme⟩ := hrel
            by_cases hlt : k < tl
            · have hlt' : (k : Int) < (tl : Int) := by omega
              obtain ⟨x2, zgr, hcell, -⟩ := HJk.out wr k m' hC
              obtain ⟨gt, rfl, zgt, hcl⟩ := hcell (by omega)
              have hkl : k < tasks.length := by rw [HTl.out]; exact hlt
              have hc := hcl k hlt
              rw [markTo_at _ hkl] at hc
              have hf7 := (hc 7 (by decide)).2
              have HStp := HStep.out
              have HSt2 : Hid (∀ U, Below wr.heap.size wr U → readB ⟨kind, frm, dst, site, num, label, key, value, version, ask, true, code⟩ (tasks.getD k default) = true → ∃ (kk : Nat) (r : Rw), kk < more.length ∧ Clerk w (U.setCell ⟨gt, k * 8 + 7, none⟩ (.bool true)) B q (VK (k + 1)) ix (m'.set kk r)) := fun U hU hb => HStp U k m' gt (hC.below hU) rfl hlt hb
              have HSk2 : Hid (readB ⟨kind, frm, dst, site, num, label, key, value, version, ask, true, code⟩ (tasks.getD k default) = false → VK (k + 1) = VK k) := HSkip.out k hlt
              obtain ⟨t, et⟩ : ∃ t, t = tasks.getD k default := ⟨_, rfl⟩
              rw [← et] at hc HSt2 HSk2
              clear et hcl hkl HStp
              obtain ⟨write, tlabel, tkey, tvalue, tversion, task, done, sure⟩ := t
              have a0 := (hc 0 (by decide)).1
              have a1 := (hc 1 (by decide)).1
              have a2 := (hc 2 (by decide)).1
              have a3 := (hc 3 (by decide)).1
              have a4 := (hc 4 (by decide)).1
              have a5 := (hc 5 (by decide)).1
              have a6 := (hc 6 (by decide)).1
              have a7 := (hc 7 (by decide)).1
              simp only [TkV.cells, List.getElem?_cons_zero, List.getElem?_cons_succ, Nat.add_zero] at a0 a1 a2 a3 a4 a5 a6 a7
              clear hc
              obtain ⟨U1, hU1⟩ : ∃ U1 : World, U1 = wr.alloc (.cells #[.bool write, .int .i64 tlabel, .int .i64 tkey, .int .i64 tvalue, .int .i64 tversion, .int .i64 task, .bool done, .bool sure] 87) := ⟨_, rfl⟩
              have bU1 : Below wr.heap.size wr U1 := by rw [hU1]; exact (Below.refl _ _).alloc (Nat.le_refl _) _
              have bx : BoxN U1 wr.heap.size 8 [.bool write, .int .i64 tlabel, .int .i64 tkey, .int .i64 tvalue, .int .i64 tversion, .int .i64 task, .bool done, .bool sure] := by rw [hU1]; exact boxn_new wr #[.bool write, .int .i64 tlabel, .int .i64 tkey, .int .i64 tvalue, .int .i64 tversion, .int .i64 task, .bool done, .bool sure] 87 8 rfl
              have l0 : U1.cell? ⟨wr.heap.size, 0, none⟩ = some (.bool write) := (bx.c 0 (by decide)).1
              have l1 : U1.cell? ⟨wr.heap.size, 1, none⟩ = some (.int .i64 tlabel) := (bx.c 1 (by decide)).1
              have l2 : U1.cell? ⟨wr.heap.size, 2, none⟩ = some (.int .i64 tkey) := (bx.c 2 (by decide)).1
              have l3 : U1.cell? ⟨wr.heap.size, 3, none⟩ = some (.int .i64 tvalue) := (bx.c 3 (by decide)).1
              have l4 : U1.cell? ⟨wr.heap.size, 4, none⟩ = some (.int .i64 tversion) := (bx.c 4 (by decide)).1
              have l5 : U1.cell? ⟨wr.heap.size, 5, none⟩ = some (.int .i64 task) := (bx.c 5 (by decide)).1
              have l6 : U1.cell? ⟨wr.heap.size, 6, none⟩ = some (.bool done) := (bx.c 6 (by decide)).1
              have l7 : U1.cell? ⟨wr.heap.size, 7, none⟩ = some (.bool sure) := (bx.c 7 (by decide)).1
              have zx := bx.lt
              have hAsk := HClo.out U1 (VK k) ix m' (hC.below bU1) hme.out
              obtain ⟨hE, hFn⟩ := hAsk
              clear hE
              have HFn : Hid (Calls Tryd.prog 82 #[.agg #[.bool write, .int .i64 tlabel, .int .i64 tkey, .int .i64 tvalue, .int .i64 tversion, .int .i64 task, .bool done, .bool sure], .pointer (some ⟨bc, 0, none⟩)] U1 fun e w' => e = .returned (.bool (readB ⟨kind, frm, dst, site, num, label, key, value, version, ask, true, code⟩ ⟨write, tlabel, tkey, tvalue, tversion, task, done, sure⟩)) ∧ Below U1.heap.size U1 w') := hFn ⟨write, tlabel, tkey, tvalue, tversion, task, done, sure⟩ U1 (Below.refl _ _)
              obtain ⟨RB, eRB⟩ : ∃ RB, RB = readB ⟨kind, frm, dst, site, num, label, key, value, version, ask, true, code⟩ ⟨write, tlabel, tkey, tvalue, tversion, task, done, sure⟩ := ⟨_, rfl⟩
              rw [← eRB] at HFn HSt2 HSk2
              have hC1 := hC.below bU1
              have HCk : Hid (∀ U, Below U1.heap.size U1 U → Clerk w U B q (VK k) ix m') := fun U hU => hC1.below hU
              clear eRB hFn hC1
              go_upto_region 9 with (fail)
              rw [← hU1]
              clear hU1 a0 a1 a2 a3 a4 a5 a6 a7
              cases RB with
              | false =>
                have e9 := HSk2.out rfl
                have HE9 : Hid (VK (k + 1) = VK k) := e9
                clear e9 HSk2 HSt2
                go_wp2_with (go_at_call 82; refine HFn.out.mono ?_; rintro e w5 ⟨rfl, hb5⟩)
                go_roundw
                case rel => exact ⟨k + 1, m', by go_num, by omega, by rw [HE9.out]; exact HCk.out _ hb5, hme⟩
                case measure => simp [intOf]; omega
              | true =>
                clear HSk2
                go_upto_region 10 with (go_at_call 82; refine HFn.out.mono ?_; rintro e w5 ⟨rfl, hb5⟩)
                have hb15 := nT bU1 hb5
                obtain ⟨kk, r, hkk, hC9⟩ := HSt2.out w5 hb15 (by trivial)
                have hme9 : Hid ((m'.set kk r)[more.length]? = some (⟨46, 12, .slice (some ⟨bc, 0, none⟩) 1 1, 1, [.int .i64 kind, .int .i64 frm, .int .i64 dst, .int .i64 site, .int .i64 num, .int .i64 label, .int .i64 key, .int .i64 value, .int .i64 version, .int .i64 ask, .bool true, .int .i64 code]⟩ : Rw)) := by
                  show _ = _
                  rw [List.getElem?_set_ne (by omega)]
                  exact hme.out
                obtain ⟨w2, zg2, hcell2, -⟩ := HJk.out w5 k m' (HCk.out _ hb5)
                obtain ⟨gt2, egt, zgt2, hcl2⟩ := hcell2 (by omega)
                have egt' : gt = gt2 := by simpa using egt
                subst egt'
                have s7 := (hcl2 k hlt 7 (by decide))
                have hs7 : (w5.cell? ⟨gt, k * 8 + 7, none⟩).isSome = true := by rw [s7.1]; rfl
                obtain ⟨u7, hu7⟩ := Option.isSome_iff_exists.1 hs7
                have hf72 := s7.2
                have hktc : k < tc := by omega
                clear s7 hs7 hcl2 HCk hcell2 hC HSt2
                go_wp2
                go_roundw
                case rel => exact ⟨k + 1, m'.set kk r, by go_num, by omega, hC9, hme9⟩
                case measure => simp [intOf]; omega
            · have HkN : Hid (k = tl) := by show _ = _; omega
              have hlt' : ¬ (k : Int) < (tl : Int) := by omega
              obtain ⟨x2, zgr, -, hTk⟩ := HJk.out wr k m' hC
              have HMk : Hid (markTo ⟨kind, frm, dst, site, num, label, key, value, version, ask, true, code⟩ tasks k = tasks.map (mark ⟨kind, frm, dst, site, num, label, key, value, version, ask, true, code⟩)) := markTo_all _ _ (by rw [HkN.out, HTl.out]; exact Nat.le_refl _)
              rw [HMk.out] at hTk
              have HSu : Hid (Calls Tryd.prog 51 #[.slice ta tl tc] wr fun e w' => e = .returned (.bool (allSure (tasks.map (mark ⟨kind, frm, dst, site, num, label, key, value, version, ask, true, code⟩)))) ∧ Below wr.heap.size wr w') := isSure_any ta tl tc _ wr hTk
              have HTn : Hid ((VK k).tn = { v.tn with js := v.tn.js.set i { JbV.bare ⟨jn, 2, ta, tl, tc, aa, al, ac, asks, age, tasks, asked⟩ with tasks := tasks.map (mark ⟨kind, frm, dst, site, num, label, key, value, version, ask, true, code⟩) } }) := by
                show _ = _
                rw [HVK.out k, HMk.out]
                unfold CkV.tn
                simp only [set_bare]
                rw [← HJ.out]
                rfl
              obtain ⟨AS, eAS⟩ : ∃ b, b = allSure (tasks.map (mark ⟨kind, frm, dst, site, num, label, key, value, version, ask, true, code⟩)) := ⟨_, rfl⟩
              rw [← eAS] at HSu
              have HAS : Hid (AS = allSure (tasks.map (mark ⟨kind, frm, dst, site, num, label, key, value, version, ask, true, code⟩))) := eAS
              have HCk : Hid (∀ U, Below wr.heap.size wr U → Clerk w U B q (VK k) ix m') := fun U hU => hC.below hU
              clear eAS hTk hk hlt
              cases AS with
              | false =>
                have HFF : Hid (∀ U, Below wr.heap.size wr U → DoneIs w U B q v (v.tn.sured (v.cx ls) i ⟨kind, frm, dst, site, num, label, key, value, version, ask, true, code⟩) (.returned (.tuple #[]))) := fun U hU => by
                  refine ⟨rfl, VK k, ix, m', HCk.out U hU, ?_, ?_, ?_⟩
                  · rw [HVK.out k]; show RecsIn v.rs _; exact HRec.out _
                  · rw [HTn.out, HSy.out, if_neg (by rw [← HAS.out]; decide)]
                  · rw [HVK.out k]; exact ⟨rfl, rfl, rfl, rfl, rfl, rfl, rfl⟩
                clear hC
                go_wp2_with (go_at_call 51; refine HSu.out.mono ?_; rintro e w9 ⟨rfl, hb9⟩)
                exact bodyPost_end (v := .tuple #[]) (by simp [results, Tryd.results31, go_sem]) rfl (HFF.out _ hb9)
              | true =>
                have HCm : Hid (∀ U, Below wr.heap.size wr U → Calls Tryd.prog 52 #[.pointer (some ⟨q, 0, none⟩), .pointer (some ⟨g, i * 6, none⟩)] U fun e X' => e = .returned (.tuple #[]) ∧ DoneIs w X' B q v (v.tn.sured (v.cx ls) i ⟨kind, frm, dst, site, num, label, key, value, version, ask, true, code⟩) (.returned (.tuple #[]))) := fun U hU => by
                  have h1 := commit_any U (HCk.out U hU) ls (i := i) (g := g) (by rw [(HVj.out k).1]; exact hi) (by rw [(HVj.out k).2]; exact eg) (by rw [HVK.out k]; exact hs) (by rw [HVK.out k]; exact fitM hm) (by rw [HVK.out k]; exact fitR hrl) (by rw [HVK.out k]; exact fitP (by show v.pl ≤ 1000000; omega)) (fun U' u iy m'' hU' => by rw [HVK.out k]; exact hL U' u iy m'' hU')
                  refine h1.mono ?_
                  intro e u hu
                  have h2 := com_done (v := VK k) (i := i) (ls := ls) (by rw [HVK.out k]; exact HRs0.out) hu
                  obtain ⟨rfl, u', ix', more', g1, g2, g3, g4⟩ := h2
                  refine ⟨rfl, rfl, u', ix', more', g1, g2, ?_, ?_⟩
                  · rw [g3, HTn.out, HSy.out, if_pos (by rw [← HAS.out]), HVK.out k]
                    rfl
                  · rw [HVK.out k] at g4; exact g4
                clear hC
                go_wp2_with (first | (go_at_call 51; refine HSu.out.mono ?_; rintro e w9 ⟨rfl, hb9⟩) | (go_at_call 52; refine (HCm.out _ hb9).mono ?_; rintro e wz ⟨rfl, hz⟩))
                exact bodyPost_end (v := .tuple #[]) (by simp [results, Tryd.results31, go_sem]) rfl hz
  · have hst' : (st != 2) = true := by simpa using hst
    have HA : Hid (v.tn.sured (v.cx ls) i ⟨kind, frm, dst, site, num, label, key, value, version, ask, yes, code⟩ = v.tn) := by show _ = _; rw [HSd.out]; simp [hst]
    clear hst
    have qc1 := fun d os => cell_regrown c1 d os
    have qc2 := fun d os => cell_regrown c2 d os
    have qd1 := fun d os => cell_regrown d1 d os
    have qd6 := fun d os => cell_regrown d6 d os
    refine wp_region_quiet_below (by kernel_rfl) (by kernel_rfl) ?_
    repeat (go_big_quiet_step (first | (exact Calls.regrown_of (HHm.out _ (below_regrown _ _ _))) | (exact Calls.regrown_of (HCt.out _ (below_regrown _ _ _)))))
    refine wpQuiet_nil ?_
    intro _ hw'
    obtain ⟨⟨dq, osq⟩, hw''⟩ := hw'
    subst hw''
    have bQ := below_regrown V dq osq
    obtain ⟨Z, eZ⟩ : ∃ Z, Z = Go.Sort.grow (Go.redrawn V dq) osq := ⟨_, rfl⟩
    rw [← eZ] at bQ ⊢
    clear eZ qc1 qc2 qd1 qd6
    have hF := HSame.out Z bQ HA.out
    go_wp2
    exact bodyPost_ret (v := .tuple #[]) (by simp [results, Tryd.results31, go_sem]) rfl hF
end Go.Proofs.YtdjnaahkcnklhabDoor.Co
/- slices.IndexFunc, DeleteFunc, Index and Contains over numbers. -/
namespace Go.Proofs.YtdjnaahkcnklhabDoor.Co
open Go.ChangeShapes Go.WideShapes Go.ChangeAt Go.RowKit
open Go.Proofs.YtdjnaahkcnklhabDoor.St
set_option linter.unusedVariables false
def inVal (n : Int) : Value := .int .i64 n
set_option maxHeartbeats 1000000 in
theorem indexInt_any (fn : Nat) (cps : Array Value) (p : Int → Bool) (a : Option Addr) (len cap : Nat) (xs : List Int) (w : World) (h : IsSites w a len cap xs) (hF : Asks fn cps inVal p w) :
    Calls Tryd.prog 84 #[.slice a len cap, .func (.func fn) #[] cps] w fun e w' => e = .returned (.int .i64 (idxI p xs)) ∧ Below w.heap.size w w' := by
  obtain ⟨hlen, hcap, hmax, _, hmem⟩ := h
  obtain ⟨hE, hF⟩ := hF
  unfold Enters at hE
  have HL : Hid (xs.length = len) := hlen
  clear hlen
  unfold maxLen at hmax
  go_enter Tryd.func84, Tryd.ntmps84
  go_wp2
  go_loopw [8] (fun s8 wr => ∃ (k : Nat), k ≤ len ∧ s8 = .int .i64 k ∧ (∀ i, i < k → p (xs.getD i default) = false) ∧ Below w.heap.size w wr) (fun s8 _ => len - (intOf s8).toNat)
  case atStart => exact ⟨0, Nat.zero_le _, rfl, fun i hi => absurd hi (by omega), Below.refl _ _⟩
  case round =>
    obtain ⟨k, hk, rfl, hnot, hb⟩ := hrel
    by_cases hlt : k < len
    · have hlt' : (k : Int) < (len : Int) := by omega
      obtain ⟨b, off, rfl, zb, hc⟩ := hmem (by omega)
      have hcells := hc k hlt
      have hx := hF (xs.getD k default) wr hb
      have hhit := idxI_hit (p := p) (l := xs) (k := k) (by have := HL.out; omega) hnot
      have hnot' : p (xs.getD k default) = false → ∀ i, i < k + 1 → p (xs.getD i default) = false := fun hf i hi => by
        by_cases e : i = k
        · rw [e]; exact hf
        · exact hnot i (by omega)
      obtain ⟨x, ex⟩ : ∃ x, x = xs.getD k default := ⟨_, rfl⟩
      rw [← ex] at hcells hx hhit hnot'
      clear ex
      have a0 := hcells 0 (by decide)
      simp [inCell] at a0
      rw [← hb.cell (p := ⟨b, off + k, none⟩) zb] at a0
      clear hcells hc
      simp only [inVal] at hx
      obtain ⟨P, eP⟩ : ∃ P, P = p x := ⟨_, rfl⟩
      rw [← eP] at hx hhit hnot'
      clear eP
      cases P with
      | true =>
        have hh := hhit rfl
        clear hhit hnot'
        go_wp2_with (go_at_fn fn; refine (hx).mono ?_; rintro e w1 ⟨rfl, hb1⟩)
        go_ret
        exact ⟨by rw [hh]; rfl, hb.trans (hb1.mono hb.size)⟩
      | false =>
        have hh := hnot' rfl
        clear hhit hnot'
        go_wp2_with (go_at_fn fn; refine (hx).mono ?_; rintro e w1 ⟨rfl, hb1⟩)
        go_roundw
        case rel => exact ⟨k + 1, by omega, by go_num, hh, hb.trans (hb1.mono hb.size)⟩
        case measure => simp [intOf]; omega
    · have hfin : idxI p xs = -1 := idxI_none (fun i hi => hnot i (by have := HL.out; omega))
      go_wp2
      go_ret
      exact ⟨by rw [hfin]; rfl, hb⟩

theorem run_clear_int (w : World) (ty : TypeId) (b o m c : Nat) (h0 : 0 < m) (hc : ∀ j, j < m * 1 → (w.cell? ⟨b, o + j, none⟩).isSome = true ∧ w.frozen? ⟨b, o + j, none⟩ = false) :
    (Builtin.zeroCells (Value.cells (.int .i64 0)) m).toList.length = m * 1 ∧ (Builtin.clear_ #[22] ty #[.slice (some ⟨b, o, none⟩) m c]).run Tryd.prog w = .ok (.tuple #[]) (w.setCells b o (Builtin.zeroCells (Value.cells (.int .i64 0)) m).toList) := by
  have hv : ∀ w, (zeroValue 3).run Tryd.prog w = .ok (.int .i64 0) w := fun w => by
    exact Tryd.zeroValue3 w
  have hl : (Builtin.zeroCells (Value.cells (.int .i64 0)) m).toList.length = m * 1 := by
    rw [Array.length_toList, size_zeroCells]
    rfl
  refine ⟨hl, ?_⟩
  have hst := run_storeCells_cells (P := Tryd.prog) b o (Builtin.zeroCells (Value.cells (.int .i64 0)) m).toList 0 w (fun j hj => (hc j (by rw [hl] at hj; exact hj)).1) (fun j hj => (hc j (by rw [hl] at hj; exact hj)).2) (by
    intro v hv'
    have := mem_zeroCells hv'
    simp [Value.cells] at this
    subst this; rfl)
  simp only [Nat.add_zero] at hst
  obtain ⟨q, rfl⟩ : ∃ q, m = q + 1 := ⟨m - 1, by omega⟩
  simp [Builtin.clear_, run_underlying Tryd.underlying22, hv, hst]


set_option maxRecDepth 100000 in
set_option maxHeartbeats 4000000 in
theorem deleteInt_any (fn : Nat) (cps : Array Value) (p : Int → Bool) (B : Nat) (a : Option Addr) (n cap : Nat) (xs : List Int) (w : World) (h : w.ownsRow B 3 1 (.slice a n cap) n (flat inCell xs)) (hF : AsksG fn cps inVal p (Value.slice a n cap).ownBlock w) :
    Calls Tryd.prog 62 #[.slice a n cap, .func (.func fn) #[] cps] w fun e w' => e = .returned (.slice a (keep p xs).length cap) ∧ w'.ownsRow B 3 1 (.slice a (keep p xs).length cap) (keep p xs).length (flat inCell (keep p xs)) ∧ w.grownBy w' (Value.slice a n cap).ownBlock := by
  have hl := own_len in_len (by decide) h
  obtain ⟨hrow, _⟩ := own_isRow in_len h hl
  have hIx := fun w' h1 h2 => indexInt_any fn cps p a n cap xs w' h1 h2
  obtain ⟨i0, e0⟩ : ∃ R, R = idxI p xs := ⟨_, rfl⟩
  have hi0 := idxI_lt (p := p) (l := xs)
  rw [← e0] at hIx hi0
  by_cases hneg : i0 = -1
  · have hk := keep_all (p := p) (xs := xs) (by rw [← e0]; exact hneg)
    rw [hk, hl]
    subst hneg
    clear e0 hk
    have hA := hF.asks
    go_enter Tryd.func62, Tryd.ntmps62
    go_wp2_with (go_at_call 84; refine (hIx _ hrow hA).mono ?_; rintro e w1 ⟨rfl, hb1⟩)
    go_ret
    exact ⟨rfl, own_below h hb1, grown_below hb1 _⟩
  · obtain ⟨i1, rfl⟩ : ∃ i1 : Nat, i0 = (i1 : Int) := ⟨i0.toNat, by omega⟩
    obtain ⟨hi1, hk1⟩ := keep_idx (p := p) (xs := xs) e0.symm
    clear e0 hneg hi0
    rw [hl] at hi1
    obtain ⟨g, off, rfl, _, _⟩ := hrow.2.2.2.2 (by omega)
    have hoff : off = 0 := by
      rcases h.2 with ⟨hv, _⟩ | ⟨g', cap', cur, hv, _⟩
      · simp at hv
      · simp at hv; exact hv.1.2
    subst hoff
    have hcm : n ≤ cap ∧ cap ≤ maxLen := ⟨hrow.2.1, hrow.2.2.1⟩
    unfold maxLen at hcm
    have HK1 : Hid (keep p (xs.take (i1 + 1)) = xs.take i1) := hk1
    have HL : Hid (xs.length = n) := hl
    have hA := hF.asks
    obtain ⟨hEn, hFg⟩ := hF
    have HFG : Hid (∀ (x : Int) (w' : World), w.grownBy w' (some g) → Calls Tryd.prog fn (#[inVal x] ++ cps) w' fun e w'' => e = .returned (.bool (p x)) ∧ Below w'.heap.size w' w'') := hFg
    unfold Enters at hEn
    clear hl hk1 hFg
    have hgl := h.lt g rfl
    obtain ⟨YS, eYS⟩ : ∃ YS, YS = keep p xs := ⟨_, rfl⟩
    have HYS : Hid (YS = keep p (xs.take n)) := by show _ = _; rw [eYS, List.take_of_length_le (by rw [HL.out]; exact Nat.le_refl _)]
    rw [← eYS]
    clear eYS
    have hm1 : ((i1 : Int) == -1) = false := by rw [beq_eq_false_iff_ne]; omega
    go_enter Tryd.func62, Tryd.ntmps62
    go_upto_region 5 with (go_at_call 84; refine (hIx _ hrow hA).mono ?_; rintro e w1 ⟨rfl, hb1⟩)
    have hg1 : w.grownBy w1 (some g) := grown_below hb1 _
    have own1 := own_below h hb1
    clear hA hIx hrow
    go_loopw [5, 6, 7] (fun s5 s6 _ wr => ∃ (i j : Nat) (L : List Int), s5 = .int .i64 (i : Int) ∧ s6 = .int .i64 (j : Int) ∧ i < j ∧ j ≤ n ∧ wr.ownsRow B 3 1 (.slice (some ⟨g, 0, none⟩) n cap) n (flat inCell L) ∧ Hid (L.take i = keep p (xs.take j)) ∧ Hid (L.drop j = xs.drop j) ∧ w.grownBy wr (some g)) (fun _ s6 _ _ => n - (intOf s6).toNat)
    case atStart => exact ⟨i1, i1 + 1, xs, rfl, by go_num, by omega, by omega, own1, HK1.out.symm, rfl, hg1⟩
    case round =>
      obtain ⟨i, j, L, rfl, rfl, hij, hjn, hown, hTk, hDr, hgr⟩ := hrel
      have hLl := own_len in_len (by decide) hown
      have HLL : Hid (L.length = n) := hLl
      clear hLl
      by_cases hlt : j < n
      · have hlt' : (j : Int) < (n : Int) := by omega
        have HX : Hid (L.getD j default = xs.getD j default) := by
          show _ = _
          have h1 : j < L.length := by rw [HLL.out]; exact hlt
          have h2 : j < xs.length := by rw [HL.out]; exact hlt
          have h3 := hDr.out
          rw [drop_at h1, drop_at h2] at h3
          simp at h3
          simpa [List.getD] using h3.1
        have HD1 : Hid (L.drop (j + 1) = xs.drop (j + 1)) := by
          show _ = _
          have h3 := congrArg (List.drop 1) hDr.out
          simpa [List.drop_drop] using h3
        have HKA : Hid (keep p (xs.take (j + 1)) = L.take i ++ (if p (xs.getD j default) then [] else [xs.getD j default])) := by show _ = _; rw [hTk.out]; exact keep_at (by rw [HL.out]; exact hlt)
        obtain ⟨hrw, _⟩ := own_isRow in_len hown HLL.out
        obtain ⟨b', off', e', zb, hc⟩ := hrw.2.2.2.2 (by omega)
        simp at e'
        obtain ⟨rfl, rfl⟩ := e'
        have hcells := hc j hlt
        rw [HX.out] at hcells
        have hcall := HFG.out (xs.getD j default)
        obtain ⟨x, ex⟩ : ∃ x, x = xs.getD j default := ⟨_, rfl⟩
        rw [← ex] at hcells HKA hcall
        clear ex hc hrw
        have a0 := hcells 0 (by decide)
        simp only [inCell, List.getElem?_cons_zero, Nat.add_zero, Nat.zero_add, Nat.mul_one] at a0
        clear hcells
        simp only [inVal] at hcall
        obtain ⟨P, eP⟩ : ∃ P, P = p x := ⟨_, rfl⟩
        rw [← eP] at HKA hcall
        clear eP
        have hgw : g < wr.heap.size := (hown.lt g rfl).2
        cases P with
        | true =>
          have HKB : Hid (L.take i = keep p (xs.take (j + 1))) := by show _ = _; rw [HKA.out]; simp
          go_wp2_with (go_at_fn fn; refine (hcall _ hgr).mono ?_; rintro e V ⟨rfl, hbV⟩)
          go_roundw
          case rel => exact ⟨i, j + 1, L, rfl, by go_num, by omega, by omega, own_below hown hbV, HKB, HD1, grown_trans hgr (grown_below hbV _)⟩
          case measure => simp [intOf]; omega
        | false =>
          have HKB : Hid ((L.set i x).take (i + 1) = keep p (xs.take (j + 1))) := by
            show _ = _
            have h1 : i < L.length := by rw [HLL.out]; omega
            rw [HKA.out, List.take_succ_eq_append_getElem (by simpa using h1), List.take_set_of_le (Nat.le_refl _)]
            simp
          have HDB : Hid ((L.set i x).drop (j + 1) = xs.drop (j + 1)) := by
            show _ = _
            rw [List.drop_set_of_lt (by omega)]
            exact HD1.out
          go_upto_region 9 with (go_at_fn fn; refine (hcall _ hgr).mono ?_; rintro e V ⟨rfl, hbV⟩)
          have ownV := own_below hown hbV
          have hgV : w.grownBy V (some g) := grown_trans hgr (grown_below hbV _)
          have hin : (i : Int) < (n : Int) := by omega
          have hth := own_there (k := i) ownV (by omega)
          obtain ⟨u0, e0⟩ := Option.isSome_iff_exists.1 hth.1
          have z0 := hth.2
          clear hth
          have own2 := own_setCells (inCell x) (i * 1) V _ ownV (by rw [in_len]; omega)
          rw [flat_setL in_len _ _ (by rw [HLL.out]; omega)] at own2
          have gr2 := grown_setCells g (inCell x) (i * 1) V
          obtain ⟨U, hU⟩ : ∃ U : World, U = V.setCell ⟨g, i, none⟩ (.int .i64 x) := ⟨_, rfl⟩
          simp only [Nat.mul_one] at own2 gr2
          have own3 : U.ownsRow B 3 1 (.slice (some ⟨g, 0, none⟩) n cap) n (flat inCell (L.set i x)) := by rw [hU]; exact own2
          have gr3 : w.grownBy U (some g) := by rw [hU]; exact grown_trans hgV gr2
          clear own2 gr2
          go_upto_region 10 with (fail)
          rw [← hU]
          clear hU
          go_wp2
          go_roundw
          case rel => exact ⟨i + 1, j + 1, L.set i x, by go_num, by go_num, by omega, by omega, own3, HKB, HDB, gr3⟩
          case measure => simp [intOf]; omega
      · obtain rfl : n = j := by omega
        have HYL : Hid (YS.length = i ∧ YS = L.take i) := by
          have h1 : YS = L.take i := by rw [HYS.out, hTk.out]
          refine ⟨?_, h1⟩
          rw [h1, List.length_take, HLL.out]
          omega
        have hcq : ∀ q, q < (n - i) * 1 → (wr.cell? ⟨g, i + q, none⟩).isSome = true ∧ wr.frozen? ⟨g, i + q, none⟩ = false := fun q hq => own_there hown (by omega)
        have hcl := fun ty c => (run_clear_int wr ty g i (n - i) c (by omega) hcq).2
        have HVL : Hid ((Builtin.zeroCells (Value.cells (.int .i64 0)) (n - i)).toList.length = (n - i) * 1) := (run_clear_int wr 0 g i (n - i) 0 (by omega) hcq).1
        obtain ⟨vs, evs⟩ : ∃ vs, vs = (Builtin.zeroCells (Value.cells (.int .i64 0)) (n - i)).toList := ⟨_, rfl⟩
        rw [← evs] at HVL
        simp only [← evs] at hcl
        clear evs hcq
        have hic : i ≤ cap := by omega
        have hin : i ≤ n := by omega
        have hne : ¬ cap = i := by omega
        have hin' : (i : Int) ≤ (n : Int) := by omega
        have hnc : n ≤ cap := by omega
        have HFIN : Hid ((wr.setCells g i vs).ownsRow B 3 1 (.slice (some ⟨g, 0, none⟩) i cap) i (flat inCell (L.take i)) ∧ w.grownBy (wr.setCells g i vs) (some g)) := by
          have hX : (flat inCell L).length = n * 1 := by rw [flat_len in_len, HLL.out]
          have hfit : i + vs.length ≤ n * 1 := by rw [HVL.out]; omega
          have o1 := own_prefix (own_setCells vs i wr _ hown hfit) (k := i) (by omega) (by omega)
          have e9 := flat_take in_len L i
          rw [Nat.mul_one] at e9 o1
          rw [setL_pre _ _ _ (by rw [hX]; exact hfit), e9] at o1
          exact ⟨o1, grown_trans hgr (grown_setCells g vs i wr)⟩
        go_wp2
        go_ret
        obtain ⟨y1, y2⟩ := HYL.out
        rw [y1, y2]
        exact ⟨rfl, HFIN.out.1, HFIN.out.2⟩


set_option maxHeartbeats 1000000 in
theorem idxInt_any (x : Int) (a : Option Addr) (len cap : Nat) (xs : List Int) (w : World) (h : IsSites w a len cap xs) :
    Calls Tryd.prog 81 #[.slice a len cap, .int .i64 x] w fun e w' => e = .returned (.int .i64 (idxI (fun y => x == y) xs)) ∧ Below w.heap.size w w' := by
  obtain ⟨hlen, hcap, hmax, _, hmem⟩ := h
  have HL : Hid (xs.length = len) := hlen
  clear hlen
  unfold maxLen at hmax
  go_enter Tryd.func81, Tryd.ntmps81
  go_wp2
  go_loopw [5, 8] (fun _ s8 wr => ∃ (k : Nat), k ≤ len ∧ s8 = .int .i64 k ∧ (∀ i, i < k → (x == xs.getD i default) = false) ∧ Below w.heap.size w wr) (fun _ s8 _ => len - (intOf s8).toNat)
  case atStart => exact ⟨0, Nat.zero_le _, rfl, fun i hi => absurd hi (by omega), Below.refl _ _⟩
  case round =>
    obtain ⟨k, hk, rfl, hnot, hb⟩ := hrel
    by_cases hlt : k < len
    · have hlt' : (k : Int) < (len : Int) := by omega
      obtain ⟨b, off, rfl, zb, hc⟩ := hmem (by omega)
      have hhit := idxI_hit (p := fun y => x == y) (l := xs) (k := k) (by have := HL.out; omega) hnot
      have hnot' : (x == xs.getD k default) = false → ∀ i, i < k + 1 → (x == xs.getD i default) = false := fun hf i hi => by
        by_cases e : i = k
        · rw [e]; exact hf
        · exact hnot i (by omega)
      have a0 := hc k hlt 0 (by decide)
      rw [Nat.mul_one, Nat.add_zero] at a0
      obtain ⟨y, ey⟩ : ∃ y, y = xs.getD k default := ⟨_, rfl⟩
      simp only [inCell, List.getElem?_cons_zero] at a0
      rw [← ey] at a0 hhit hnot'
      rw [← hb.cell (p := ⟨b, off + k, none⟩) zb] at a0
      clear ey hc
      obtain ⟨P, eP⟩ : ∃ P, P = (x == y) := ⟨_, rfl⟩
      have eP' := eP.symm
      rw [← eP] at hhit hnot'
      clear eP
      have HN : Hid (P = false → ∀ i, i < k + 1 → (x == xs.getD i default) = false) := hnot'
      have HH : Hid (P = true → idxI (fun y => x == y) xs = k) := hhit
      clear hnot hhit hnot'
      cases P with
      | true =>
        go_wp2
        go_ret
        exact ⟨by rw [HH.out trivial]; rfl, hb⟩
      | false =>
        go_wp2
        go_roundw
        case rel => exact ⟨k + 1, by omega, by go_num, HN.out rfl, hb⟩
        case measure => simp [intOf]; omega
    · have hfin : idxI (fun y => x == y) xs = -1 := idxI_none (fun i hi => hnot i (by have := HL.out; omega))
      go_wp2
      go_ret
      exact ⟨by rw [hfin]; rfl, hb⟩
theorem contInt_any (x : Int) (a : Option Addr) (len cap : Nat) (xs : List Int) (w : World) (h : IsSites w a len cap xs) :
    Calls Tryd.prog 57 #[.slice a len cap, .int .i64 x] w fun e w' => e = .returned (.bool (xs.any fun y => x == y)) ∧ Below w.heap.size w w' := by
  have hI := fun U h1 => idxInt_any x a len cap xs U h1
  have hA := idxI_any (fun y => x == y) xs
  obtain ⟨R, eR⟩ : ∃ R, R = idxI (fun y => x == y) xs := ⟨_, rfl⟩
  rw [← eR] at hI hA
  rw [← hA]
  clear eR hA
  go_enter Tryd.func57, Tryd.ntmps57
  go_wp2_with (go_at_call 81; refine (hI _ h).mono ?_; rintro e w1 ⟨rfl, hb1⟩)
  go_ret
  exact ⟨rfl, hb1⟩
end Go.Proofs.YtdjnaahkcnklhabDoor.Co
/- The clerk's ack and doubts. -/
namespace Go.Proofs.YtdjnaahkcnklhabDoor.Co
open Go.ChangeShapes Go.WideShapes Go.ChangeAt Go.RowKit
open Go.Proofs.YtdjnaahkcnklhabDoor.St (BoxN boxn_new own_below grown_setCell IsRow Elem flat flat_append own_isRow idxI idxI_lt)
set_option linter.unusedVariables false

theorem ackFn_asks (b0 : Nat) (frm : Int) (w : World) (c0 : w.cell? ⟨b0, 1, none⟩ = some (.int .i64 frm)) (z0 : b0 < w.heap.size) : Asks 63 #[.pointer (some ⟨b0, 0, none⟩)] inVal (fun y => y == frm) w := by
  refine ⟨enters_of Tryd.func63 (by kernel_rfl) rfl, fun x w' hb => ?_⟩
  rw [← hb.cell (p := ⟨b0, 1, none⟩) z0] at c0
  have y0 := Nat.lt_of_lt_of_le z0 hb.size
  simp only [inVal]
  show Calls Tryd.prog 63 #[_, .pointer (some ⟨b0, 0, none⟩)] w' _
  go_enter Tryd.func63, Tryd.ntmps63
  go_wp2
  go_ret
  exact ⟨rfl, Below.refl _ _⟩
theorem ackFn_asksG (b0 : Nat) (frm : Int) (row : Option Nat) (w : World) (c0 : w.cell? ⟨b0, 1, none⟩ = some (.int .i64 frm)) (z0 : b0 < w.heap.size) (hr : some b0 ≠ row) : AsksG 63 #[.pointer (some ⟨b0, 0, none⟩)] inVal (fun y => y == frm) row w := by
  refine ⟨enters_of Tryd.func63 (by kernel_rfl) rfl, fun x w' hg => ?_⟩
  have c1 : w'.cell? ⟨b0, 1, none⟩ = some (.int .i64 frm) := hg.cell c0 hr
  exact (ackFn_asks b0 frm w' c1 (Nat.lt_of_lt_of_le z0 hg.size)).2 x w' (Below.refl _ _)
/-- A job's Asked in its own row, changed. -/
theorem Clerk.askRow {w X X' : World} {B q : Nat} {v : CkV} {ix : List (Nat × Nat)} {more : List Rw} (h : Clerk w X B q v ix more) {i g : Nat} (hi : i < v.jl) (eg : v.ja = some ⟨g, 0, none⟩) {aa : Option Addr} {al ac : Nat} {zs : List Int} (hg : X.grownBy X' (Value.slice (v.js.getD i default).aa (v.js.getD i default).al (v.js.getD i default).ac).ownBlock) (ho : X'.ownsRow B 3 1 (.slice aa al ac) al (flat inCell zs)) (hat : (Value.slice aa al ac).ownBlock = (Value.slice (v.js.getD i default).aa (v.js.getD i default).al (v.js.getD i default).ac).ownBlock ∨ (Value.slice aa al ac).ownBlock = some X.heap.size) :
    ∃ (k : Nat) (r : Rw), (∃ y, ix[i]? = some (y, k)) ∧ Clerk w (X'.setCell ⟨g, i * 6 + 3, none⟩ (.slice aa al ac)) B q { v with js := v.js.set i (askedJob (v.js.getD i default) aa al ac zs) } ix (more.set k r) := by
  have hl := h.lens.1
  have hi' : i < v.js.length := by omega
  obtain ⟨x, ex, e1, e2⟩ := h.jobs.at hi'
  have h1 := h.held.grow (i := 4 + x.2) (r' := siteRow aa al ac zs) (more_get e2) hg ho hat
  have hx2 : x.2 < more.length := (List.getElem?_eq_some_iff.1 e2).1
  have er : (v.rows ++ more).set (4 + x.2) (siteRow aa al ac zs) = v.rows ++ more.set x.2 (siteRow aa al ac zs) := by
    rw [List.set_append_right _ _ (by simp [CkV.rows])]
    congr 2
    simp [CkV.rows]
  rw [er] at h1
  have e0 : (v.rows ++ more.set x.2 (siteRow aa al ac zs))[0]? = some ⟨59, 6, .slice (some ⟨g, 0, none⟩) v.jl v.jc, v.jl, flat JbV.cells v.js⟩ := by rw [← eg]; rfl
  have h2 := h1.cell e0 (j := i * 6 + 3) (by omega) (.slice aa al ac)
  rw [← flat_set6 v.js i (askedJob (v.js.getD i default) aa al ac zs) 3 (.slice aa al ac) hi' (by decide) rfl] at h2
  refine ⟨x.2, siteRow aa al ac zs, ⟨x.1, ex⟩, ?_, ?_, by simpa using hl, h.lens.2.1, h.lens.2.2.1, h.lens.2.2.2⟩
  · have er2 : ({ v with js := v.js.set i (askedJob (v.js.getD i default) aa al ac zs) } : CkV).rows ++ more.set x.2 (siteRow aa al ac zs) = (v.rows ++ more.set x.2 (siteRow aa al ac zs)).set 0 ⟨59, 6, .slice (some ⟨g, 0, none⟩) v.jl v.jc, v.jl, flat JbV.cells (v.js.set i (askedJob (v.js.getD i default) aa al ac zs))⟩ := by rw [← eg]; rfl
    rw [er2]
    exact h2
  · obtain ⟨g1, g2, g3, g4⟩ := h.jobs
    have eo : v.js[i]? = some (v.js.getD i default) := by simp [List.getD, hi']
    refine ⟨by simpa using g1, fun k jj y ejj ey => ?_, g3, g4⟩
    rcases set_get eo ejj with ⟨rfl, rfl⟩ | ⟨hk, ejj2⟩
    · rw [ex] at ey
      obtain rfl := Option.some.inj ey
      refine ⟨?_, ?_⟩
      · rw [List.getElem?_set_ne (fun e => g4 _ _ ex e.symm)]; exact e1
      · rw [List.getElem?_set_self hx2]; rfl
    · have ap := g3 i k x y ex ey (fun e => hk e.symm)
      have := g2 k jj y ejj2 ey
      refine ⟨?_, ?_⟩
      · rw [List.getElem?_set_ne ap.2.2.1]; exact this.1
      · rw [List.getElem?_set_ne ap.2.2.2]; exact this.2
def Tn.acked (t : Tn) (i : Nat) (m : MV) : Tn :=
  if (t.js.getD i default).state = 3 then
    (if keep (fun y => y == m.frm) (t.js.getD i default).asked = [] then { t with rs := t.rs ++ [⟨4, m.site, m.num, 0, 0, 0, false, none, 0, 0, []⟩], js := kept (t.js.getD i default).n (t.js.set i { t.js.getD i default with asked := [] }) }
    else { t with js := t.js.set i { t.js.getD i default with asked := keep (fun y => y == m.frm) (t.js.getD i default).asked } })
  else t
set_option maxRecDepth 100000 in
set_option maxHeartbeats 8000000 in
theorem ack_done {w : World} {B q : Nat} {v : CkV} {ix : List (Nat × Nat)} {more : List Rw} (X : World) (h : Clerk w X B q v ix more) (hr : v.rs = []) {i g : Nat} (hi : i < v.jl) (eg : v.ja = some ⟨g, 0, none⟩) (m : MV) (hrl : v.rl ≤ 1000000) :
    Calls Tryd.prog 32 #[.pointer (some ⟨q, 0, none⟩), .pointer (some ⟨g, i * 6, none⟩), m.val] X fun e X' => DoneIs w X' B q v (v.tn.acked i m) e := by
  obtain ⟨kind, frm, dst, site, num, label, key, value, version, ask, yes, code⟩ := m
  simp only [MV.val]
  have hi' : i < v.js.length := by have := h.lens.1; omega
  obtain ⟨W, hW⟩ : ∃ W : World, W = X.alloc (.cells #[.int .i64 kind, .int .i64 frm, .int .i64 dst, .int .i64 site, .int .i64 num, .int .i64 label, .int .i64 key, .int .i64 value, .int .i64 version, .int .i64 ask, .bool yes, .int .i64 code] 46) := ⟨_, rfl⟩
  have bW : Below X.heap.size X W := by rw [hW]; exact (Below.refl _ _).alloc (Nat.le_refl _) _
  have zW : X.heap.size < W.heap.size := by rw [hW]; simp
  have hCW : Clerk w W B q v ix (more ++ [(⟨46, 12, .slice (some ⟨X.heap.size, 0, none⟩) 1 1, 1, [.int .i64 kind, .int .i64 frm, .int .i64 dst, .int .i64 site, .int .i64 num, .int .i64 label, .int .i64 key, .int .i64 value, .int .i64 version, .int .i64 ask, .bool yes, .int .i64 code]⟩ : Rw)]) := h.add bW (by rw [hW]; exact box_row X _ _ 12 rfl)
  have HC : Hid (Clerk w W B q v ix (more ++ [(⟨46, 12, .slice (some ⟨X.heap.size, 0, none⟩) 1 1, 1, [.int .i64 kind, .int .i64 frm, .int .i64 dst, .int .i64 site, .int .i64 num, .int .i64 label, .int .i64 key, .int .i64 value, .int .i64 version, .int .i64 ask, .bool yes, .int .i64 code]⟩ : Rw)])) := hCW
  have HBj : Hid (v.tn.js.getD i default = (v.js.getD i default).bare) := getD_bare _ _
  have HKM : Hid (∀ (k y : Nat), ix[i]? = some (y, k) → k < more.length) := fun k y e => (h.jobs.inn i (y, k) e).2
  have HRs0 : Hid (v.rs = []) := hr
  have HSt : Hid ((v.tn.js.getD i default).state = (v.js.getD i default).state) := by show _ = _; rw [HBj.out]; rfl
  obtain ⟨g2, eg2, -, zg, -, hcj, hfj⟩ := hCW.jobAt hi
  obtain rfl := ptrEq eg eg2
  clear eg2
  have hos := (hCW.tasksAt hi).2
  have hap : some X.heap.size ≠ (Value.slice (v.js.getD i default).aa (v.js.getD i default).al (v.js.getD i default).ac).ownBlock := fun e => by
    have := ((h.tasksAt hi).2.lt _ e.symm).2
    omega
  have hgap : some g ≠ (Value.slice (v.js.getD i default).aa (v.js.getD i default).al (v.js.getD i default).ac).ownBlock := by
    obtain ⟨x, _, _, e2⟩ := hCW.jobs.at hi'
    rcases hCW.held.own.ap 0 (4 + x.2) _ _ (show _ = some (⟨59, 6, .slice v.ja v.jl v.jc, v.jl, _⟩ : Rw) from rfl) (more_get e2) (by omega) with e | e
    · rw [eg] at e; simp [Value.ownBlock] at e
    · rw [eg] at e; exact e
  have mb : BoxN W X.heap.size 12 [.int .i64 kind, .int .i64 frm, .int .i64 dst, .int .i64 site, .int .i64 num, .int .i64 label, .int .i64 key, .int .i64 value, .int .i64 version, .int .i64 ask, .bool yes, .int .i64 code] := by rw [hW]; exact boxn_new X #[.int .i64 kind, .int .i64 frm, .int .i64 dst, .int .i64 site, .int .i64 num, .int .i64 label, .int .i64 key, .int .i64 value, .int .i64 version, .int .i64 ask, .bool yes, .int .i64 code] 46 12 rfl
  have b1 : W.cell? ⟨X.heap.size, 1, none⟩ = some (.int .i64 frm) := (mb.c 1 (by decide)).1
  have HDl : Hid (Calls Tryd.prog 62 #[.slice (v.js.getD i default).aa (v.js.getD i default).al (v.js.getD i default).ac, .func (.func 63) #[] #[.pointer (some ⟨X.heap.size, 0, none⟩)]] W fun e w' => e = .returned (.slice (v.js.getD i default).aa (keep (fun y => y == frm) (v.js.getD i default).asked).length (v.js.getD i default).ac) ∧ w'.ownsRow B 3 1 (.slice (v.js.getD i default).aa (keep (fun y => y == frm) (v.js.getD i default).asked).length (v.js.getD i default).ac) (keep (fun y => y == frm) (v.js.getD i default).asked).length (flat inCell (keep (fun y => y == frm) (v.js.getD i default).asked)) ∧ W.grownBy w' (Value.slice (v.js.getD i default).aa (v.js.getD i default).al (v.js.getD i default).ac).ownBlock) := deleteInt_any _ _ _ B _ _ _ _ W hos (ackFn_asksG X.heap.size frm _ W b1 zW hap)
  obtain ⟨J, eJ⟩ : ∃ J, J = v.js.getD i default := ⟨_, rfl⟩
  have HJ : Hid (J = v.js.getD i default) := eJ
  rw [← eJ] at hcj HDl hap hgap
  have HS : Hid (∀ (U : World) (more' : List Rw), Clerk w U B q v ix more' → ¬ J.state = 3 → DoneIs w U B q v (v.tn.acked i ⟨kind, frm, dst, site, num, label, key, value, version, ask, yes, code⟩) (.returned (.tuple #[]))) := fun U more' hU hst => by
    have e : v.tn.acked i ⟨kind, frm, dst, site, num, label, key, value, version, ask, yes, code⟩ = v.tn := by
      unfold Tn.acked
      rw [if_neg (by rw [HSt.out, ← HJ.out]; exact hst)]
    rw [e]
    exact ⟨rfl, v, ix, more', hU, by rw [HRs0.out]; exact recsIn_nil _, rfl, rfl, rfl, rfl, rfl, rfl, rfl, rfl⟩
  have HFs : Hid (∀ (U : World) (u : CkV) (iy : List (Nat × Nat)) (more' : List Rw), Clerk w U B q u iy more' → RecsIn u.rs more' → Hd v u → u.tn = v.tn.acked i ⟨kind, frm, dst, site, num, label, key, value, version, ask, yes, code⟩ → DoneIs w U B q v (v.tn.acked i ⟨kind, frm, dst, site, num, label, key, value, version, ask, yes, code⟩) (.returned (.tuple #[]))) := fun U u iy more' hU h2 h3 h4 => ⟨rfl, u, iy, more', hU, h2, h4, h3⟩
  have HAk : Hid (J.state = 3 → v.tn.acked i ⟨kind, frm, dst, site, num, label, key, value, version, ask, yes, code⟩ = if keep (fun y => y == frm) J.asked = [] then { v.tn with rs := v.tn.rs ++ [⟨4, site, num, 0, 0, 0, false, none, 0, 0, []⟩], js := kept J.n (v.tn.js.set i { J.bare with asked := [] }) } else { v.tn with js := v.tn.js.set i { J.bare with asked := keep (fun y => y == frm) J.asked } }) := fun hst => by
    unfold Tn.acked
    rw [if_pos (by rw [HSt.out, ← HJ.out]; exact hst), HBj.out, ← HJ.out]
    rfl
  obtain ⟨K, eK⟩ : ∃ K, K = keep (fun y => y == frm) J.asked := ⟨_, rfl⟩
  rw [← eK] at HDl HAk
  have HRow : Hid (∀ (w' : World), w'.ownsRow B 3 1 (.slice J.aa K.length J.ac) K.length (flat inCell K) → W.grownBy w' (Value.slice J.aa J.al J.ac).ownBlock → ∃ (k : Nat) (r : Rw), (∃ y, ix[i]? = some (y, k)) ∧ Clerk w (w'.setCell ⟨g, i * 6 + 3, none⟩ (.slice J.aa K.length J.ac)) B q { v with js := v.js.set i (askedJob J J.aa K.length J.ac K) } ix ((more ++ [(⟨46, 12, .slice (some ⟨X.heap.size, 0, none⟩) 1 1, 1, [.int .i64 kind, .int .i64 frm, .int .i64 dst, .int .i64 site, .int .i64 num, .int .i64 label, .int .i64 key, .int .i64 value, .int .i64 version, .int .i64 ask, .bool yes, .int .i64 code]⟩ : Rw)]).set k r)) := fun w' h1 h2 => by
    have := HC.out.askRow (i := i) (g := g) hi eg (X' := w') (aa := J.aa) (al := K.length) (ac := J.ac) (zs := K) (by rw [← HJ.out]; exact h2) h1 (Or.inl (by rw [← HJ.out]; exact own_blk _ _ _ _ _))
    rw [← HJ.out] at this
    exact this
  clear eJ eK h hr hCW hos
  obtain ⟨jn, st, ta, tl, tc, aa, al, ac, asks, age, tasks, asked⟩ := J
  have c0 := hcj 0 (by decide)
  have c1 := hcj 1 (by decide)
  have c3 := hcj 3 (by decide)
  have f3 := hfj 3 (by decide)
  simp only [JbV.cells, List.getElem?_cons_zero, List.getElem?_cons_succ, Nat.add_zero] at c0 c1 c3
  simp only [] at HDl HRow HAk HS
  clear hcj hfj
  by_cases hst : st = 3
  · subst hst
    have HAk2 := HAk.out rfl
    have HAk3 : Hid (_ = _) := HAk2
    clear HAk HAk2 HS
    obtain ⟨N, eN⟩ : ∃ N, N = K.length := ⟨_, rfl⟩
    have HN : Hid (N = K.length) := eN
    rw [← eN] at HDl HRow
    clear eN
    go_enter Tryd.func32, Tryd.ntmps32
    go_upto_region 1 with (fail)
    rw [← hW]
    clear hW
    go_upto_region 2 with (fail)
    go_upto_region 3 with (go_at_call 62; refine HDl.out.mono ?_; rintro e U ⟨rfl, ho, hgr⟩; obtain ⟨k7, r7, ⟨y7, hy7⟩, hC7⟩ := HRow.out U ho hgr; have u3 := hgr.cell c3 hgap; have uf3 := (World.frozen?_of_block (a := ⟨g, i * 6 + 3, none⟩) (hgr.block g zg hgap)).trans f3; have zgU := Nat.lt_of_lt_of_le zg hgr.size)
    obtain ⟨Y, eY⟩ : ∃ Y, Y = U.setCell ⟨g, i * 6 + 3, none⟩ (.slice aa N ac) := ⟨_, rfl⟩
    rw [← eY] at hC7 ⊢
    obtain ⟨v7, ev7⟩ : ∃ v7 : CkV, v7 = { v with js := v.js.set i (askedJob ⟨jn, 3, ta, tl, tc, aa, al, ac, asks, age, tasks, asked⟩ aa N ac K) } := ⟨_, rfl⟩
    rw [← ev7] at hC7
    have HV7 : Hid (v7 = { v with js := v.js.set i (askedJob ⟨jn, 3, ta, tl, tc, aa, al, ac, asks, age, tasks, asked⟩ aa N ac K) }) := ev7
    have hkm7 := HKM.out k7 y7 hy7
    have em : ((more ++ [(⟨46, 12, .slice (some ⟨X.heap.size, 0, none⟩) 1 1, 1, [.int .i64 kind, .int .i64 frm, .int .i64 dst, .int .i64 site, .int .i64 num, .int .i64 label, .int .i64 key, .int .i64 value, .int .i64 version, .int .i64 ask, .bool yes, .int .i64 code]⟩ : Rw)]).set k7 r7)[more.length]? = some (⟨46, 12, .slice (some ⟨X.heap.size, 0, none⟩) 1 1, 1, [.int .i64 kind, .int .i64 frm, .int .i64 dst, .int .i64 site, .int .i64 num, .int .i64 label, .int .i64 key, .int .i64 value, .int .i64 version, .int .i64 ask, .bool yes, .int .i64 code]⟩ : Rw) := by
      rw [List.getElem?_set_ne (by omega)]
      simp
    have mb7 : BoxN Y X.heap.size 12 [.int .i64 kind, .int .i64 frm, .int .i64 dst, .int .i64 site, .int .i64 num, .int .i64 label, .int .i64 key, .int .i64 value, .int .i64 version, .int .i64 ask, .bool yes, .int .i64 code] := row_box (rowAt (v := v7) (more := more) hC7 em) rfl (by decide)
    have hi7 : i < v7.jl := by rw [ev7]; exact hi
    have eg7 : v7.ja = some ⟨g, 0, none⟩ := by rw [ev7]; exact eg
    obtain ⟨g2, eg2, -, zgY, -, hcY, -⟩ := hC7.jobAt hi7
    obtain rfl := ptrEq eg7 eg2
    have e7 : v7.js.getD i default = askedJob ⟨jn, 3, ta, tl, tc, aa, al, ac, asks, age, tasks, asked⟩ aa N ac K := by rw [ev7]; exact set_getD _ _ _ hi'
    rw [e7] at hcY
    have y0 := hcY 0 (by decide)
    have y3 := hcY 3 (by decide)
    simp only [JbV.cells, askedJob, List.getElem?_cons_zero, List.getElem?_cons_succ, Nat.add_zero] at y0 y3
    have HC7 : Hid (Clerk w Y B q v7 ix ((more ++ [(⟨46, 12, .slice (some ⟨X.heap.size, 0, none⟩) 1 1, 1, [.int .i64 kind, .int .i64 frm, .int .i64 dst, .int .i64 site, .int .i64 num, .int .i64 label, .int .i64 key, .int .i64 value, .int .i64 version, .int .i64 ask, .bool yes, .int .i64 code]⟩ : Rw)]).set k7 r7)) := hC7
    clear ev7 hC7 eg2 eg7 hcY e7 eY u3 uf3 zgU ho hgr c0 c1 c3 f3
    by_cases hN : N = 0
    · have HKn : Hid (K = []) := List.length_eq_zero_iff.1 (by rw [← HN.out]; exact hN)
      have hN' : ((N : Int) == 0) = true := by simpa using hN
      have m3 : Y.cell? ⟨X.heap.size, 3, none⟩ = some (.int .i64 site) := (mb7.c 3 (by decide)).1
      have m4 : Y.cell? ⟨X.heap.size, 4, none⟩ = some (.int .i64 num) := (mb7.c 4 (by decide)).1
      have zm := mb7.lt
      have HWr : Hid (Calls Tryd.prog 42 #[.pointer (some ⟨q, 0, none⟩), .agg #[.int .i64 4, .int .i64 site, .int .i64 num, .int .i64 0, .int .i64 0, .int .i64 0, .bool false, .slice none 0 0]] Y fun e X' => e = .returned (.tuple #[]) ∧ ∃ a6 c6, Clerk w X' B q { v7 with ra := a6, rl := v7.rl + 1, rc := c6, rs := v7.rs ++ [⟨4, site, num, 0, 0, 0, false, none, 0, 0, []⟩] } ix ((more ++ [(⟨46, 12, .slice (some ⟨X.heap.size, 0, none⟩) 1 1, 1, [.int .i64 kind, .int .i64 frm, .int .i64 dst, .int .i64 site, .int .i64 num, .int .i64 label, .int .i64 key, .int .i64 value, .int .i64 version, .int .i64 ask, .bool yes, .int .i64 code]⟩ : Rw)]).set k7 r7)) := write_any Y HC7.out ⟨4, site, num, 0, 0, 0, false, none, 0, 0, []⟩ (by rw [HV7.out]; exact fitR hrl)
      clear hN mb7
      go_upto_region 5 with (go_at_call 42; refine HWr.out.mono ?_; rintro e Y8 ⟨rfl, a6, c6, hC8⟩)
      obtain ⟨g2, eg2, -, zgY8, -, hcY8, -⟩ := hC8.jobAt (i := i) (by exact hi7)
      obtain rfl := ptrEq (show v7.ja = some ⟨g, 0, none⟩ by rw [HV7.out]; exact eg) eg2
      have x0 : Y8.cell? ⟨g, i * 6, none⟩ = some (.int .i64 jn) := by
        have := hcY8 0 (by decide)
        have e7 : v7.js.getD i default = askedJob ⟨jn, 3, ta, tl, tc, aa, al, ac, asks, age, tasks, asked⟩ aa N ac K := by rw [HV7.out]; exact set_getD _ _ _ hi'
        simp only [e7] at this
        simpa [JbV.cells, askedJob] using this
      have HDp : Hid (Calls Tryd.prog 55 #[.pointer (some ⟨q, 0, none⟩), .int .i64 jn] Y8 fun e X' => e = .returned (.tuple #[]) ∧ DoneIs w X' B q v (v.tn.acked i ⟨kind, frm, dst, site, num, label, key, value, version, ask, yes, code⟩) (.returned (.tuple #[]))) := by
        refine (drop_any Y8 hC8 jn).mono ?_
        rintro e u ⟨rfl, ix', h9⟩
        refine ⟨rfl, HFs.out _ _ _ _ h9 ?_ ?_ ?_⟩
        · show RecsIn (v7.rs ++ [_]) _
          rw [HV7.out]
          show RecsIn (v.rs ++ [_]) _
          rw [HRs0.out]
          intro r hx
          simp at hx
          subst hx
          exact Or.inl ⟨rfl, rfl, rfl, rfl⟩
        · rw [HV7.out]; exact ⟨rfl, rfl, rfl, rfl, rfl, rfl, rfl⟩
        · rw [HAk3.out, if_pos HKn.out, HV7.out]
          unfold CkV.tn
          simp only [kept_bare, set_bare, List.map_append]
          rw [HKn.out]
          rfl
      clear hC8 hcY8 eg2 y0 y3
      go_wp2_with (go_at_call 55; refine HDp.out.mono ?_; rintro e w9 ⟨rfl, h9⟩)
      exact bodyPost_end (v := .tuple #[]) (by simp [results, Tryd.results32, go_sem]) rfl h9
    · have HKn : Hid (¬ K = []) := fun e => hN (by rw [HN.out, e]; rfl)
      have hN' : ((N : Int) == 0) = false := by simpa using hN
      have hF := HFs.out Y v7 ix _ HC7.out (by rw [HV7.out]; show RecsIn v.rs _; rw [HRs0.out]; exact recsIn_nil _) (by rw [HV7.out]; exact ⟨rfl, rfl, rfl, rfl, rfl, rfl, rfl⟩) (by
        rw [HAk3.out, if_neg HKn.out, HV7.out]
        unfold CkV.tn
        simp only [set_bare]
        rfl)
      clear hN HC7 mb7
      go_wp2
      exact bodyPost_end (v := .tuple #[]) (by simp [results, Tryd.results32, go_sem]) rfl hF
  · have hst' : (st == 3) = false := by simpa using hst
    have hF := HS.out W _ HC.out hst
    clear hst HAk
    go_enter Tryd.func32, Tryd.ntmps32
    go_upto_region 1 with (fail)
    rw [← hW]
    clear hW
    go_wp2
    exact bodyPost_ret (v := .tuple #[]) (by simp [results, Tryd.results32, go_sem]) rfl hF
end Go.Proofs.YtdjnaahkcnklhabDoor.Co
