/- Texts of this claim, one behind the other. -/
import Derived.Test.YtdjnaahkcnklhabDoorM21CommitAsks
import Derived.Lib.QuietBelow
import Derived.BigQuiet
import Derived.Test.YtdjnaahkcnklhabDoorM11CommitAsks
/- coord.callOf and the clerk's answers. -/
namespace Go.Proofs.YtdjnaahkcnklhabDoor.Co
open Go.ChangeShapes Go.WideShapes Go.ChangeAt Go.RowKit
open Go.Proofs.YtdjnaahkcnklhabDoor.St (BoxN boxn_new own_below grown_setCell IsRow Elem flat flat_append own_isRow idxI idxI_lt)
set_option linter.unusedVariables false

def callKind (t : TkV) : Int := if t.write = true then 3 else 2
theorem callOf_any (t : TkV) (w : World) : Calls Tryd.prog 59 #[t.val] w fun e w' => e = .returned (.int .i64 (callKind t)) ∧ Below w.heap.size w w' := by
  obtain ⟨write, label, key, value, version, ask, done, sure⟩ := t
  have bA : Below w.heap.size w (w.alloc (.cells #[.bool write, .int .i64 label, .int .i64 key, .int .i64 value, .int .i64 version, .int .i64 ask, .bool done, .bool sure] 87)) := (Below.refl _ _).alloc (Nat.le_refl _) _
  simp only [TkV.val]
  cases write with
  | false =>
    go_enter Tryd.func59, Tryd.ntmps59
    go_wp2
    go_ret
    exact ⟨rfl, bA⟩
  | true =>
    go_enter Tryd.func59, Tryd.ntmps59
    go_wp2
    go_ret
    exact ⟨rfl, bA⟩
/-- Is that the answer that a task waits for? -/
def ansB (home : Int) (m : MV) (t : TkV) : Bool := (t.write == (m.kind == 6)) && (t.ask == m.ask) && (t.key == m.key) && (m.frm == home) && (t.write || (t.label == m.label))
set_option maxRecDepth 100000 in
set_option maxHeartbeats 8000000 in
theorem answers_any {w : World} {B q : Nat} {v : CkV} {ix : List (Nat × Nat)} {more : List Rw} (X : World) (h : Clerk w X B q v ix more) (ls : List (Int × Int)) (hl : IsLabs X v.a v.len v.cap ls) (m : MV) (t : TkV) :
    Calls Tryd.prog 58 #[.pointer (some ⟨q, 0, none⟩), m.val, t.val] X fun e X' => e = .returned (.bool (ansB (homeNum v.s ls v.p t.key) m t)) ∧ Below X.heap.size X X' := by
  obtain ⟨kind, frm, dst, site, num, label, key, value, version, ask, yes, code⟩ := m
  obtain ⟨write, tlabel, tkey, tvalue, tversion, task, done, sure⟩ := t
  obtain ⟨H, eH⟩ : ∃ H, H = homeNum v.s ls v.p tkey := ⟨_, rfl⟩
  simp only [MV.val, TkV.val]
  rw [← eH]
  obtain ⟨W, hW⟩ : ∃ W : World, W = (X.alloc (.cells #[.int .i64 kind, .int .i64 frm, .int .i64 dst, .int .i64 site, .int .i64 num, .int .i64 label, .int .i64 key, .int .i64 value, .int .i64 version, .int .i64 ask, .bool yes, .int .i64 code] 46)).alloc (.cells #[.bool write, .int .i64 tlabel, .int .i64 tkey, .int .i64 tvalue, .int .i64 tversion, .int .i64 task, .bool done, .bool sure] 87) := ⟨_, rfl⟩
  have bW : Below X.heap.size X W := by rw [hW]; exact ((Below.refl _ _).alloc (Nat.le_refl _) _).alloc (by simp) _
  have zW : X.heap.size + 1 < W.heap.size := by rw [hW]; simp
  have zW0 : X.heap.size < W.heap.size := by omega
  have m0 : W.cell? ⟨X.heap.size, 0, none⟩ = some (.int .i64 kind) := by rw [hW]; go_simp
  have m1 : W.cell? ⟨X.heap.size, 1, none⟩ = some (.int .i64 frm) := by rw [hW]; go_simp
  have m5 : W.cell? ⟨X.heap.size, 5, none⟩ = some (.int .i64 label) := by rw [hW]; go_simp
  have m6 : W.cell? ⟨X.heap.size, 6, none⟩ = some (.int .i64 key) := by rw [hW]; go_simp
  have m9 : W.cell? ⟨X.heap.size, 9, none⟩ = some (.int .i64 ask) := by rw [hW]; go_simp
  have t0 : W.cell? ⟨X.heap.size + 1, 0, none⟩ = some (.bool write) := by rw [hW]; go_simp
  have t1 : W.cell? ⟨X.heap.size + 1, 1, none⟩ = some (.int .i64 tlabel) := by rw [hW]; go_simp
  have t2 : W.cell? ⟨X.heap.size + 1, 2, none⟩ = some (.int .i64 tkey) := by rw [hW]; go_simp
  have t5 : W.cell? ⟨X.heap.size + 1, 5, none⟩ = some (.int .i64 task) := by rw [hW]; go_simp
  have HH : Hid (∀ U, Below W.heap.size W U → Calls Tryd.prog 50 #[.pointer (some ⟨q, 0, none⟩), .int .i64 tkey] U fun e U' => e = .returned (.int .i64 H) ∧ Below U.heap.size U U') := fun U hU => by
    have hXU := bW.trans (hU.mono bW.size)
    rw [eH]
    exact clerkHome_any U (h.below hXU) ls (hl.below hXU) tkey
  have HF : Hid (∀ U, Below W.heap.size W U → Below X.heap.size X U) := fun U hU => bW.trans (hU.mono bW.size)
  obtain ⟨C1, e1⟩ : ∃ b : Bool, b = (kind == 6) := ⟨_, rfl⟩
  obtain ⟨C2, e2⟩ : ∃ b : Bool, b = (task == ask) := ⟨_, rfl⟩
  obtain ⟨C3, e3⟩ : ∃ b : Bool, b = (tkey == key) := ⟨_, rfl⟩
  obtain ⟨C4, e4⟩ : ∃ b : Bool, b = (frm == H) := ⟨_, rfl⟩
  obtain ⟨C5, e5⟩ : ∃ b : Bool, b = (tlabel == label) := ⟨_, rfl⟩
  have HA : Hid (ansB H ⟨kind, frm, dst, site, num, label, key, value, version, ask, yes, code⟩ ⟨write, tlabel, tkey, tvalue, tversion, task, done, sure⟩ = ((write == C1) && C2 && C3 && C4 && (write || C5))) := by
    show _ = _
    unfold ansB
    rw [e1, e2, e3, e4, e5]
  obtain ⟨R, eR⟩ : ∃ R, R = ansB H ⟨kind, frm, dst, site, num, label, key, value, version, ask, yes, code⟩ ⟨write, tlabel, tkey, tvalue, tversion, task, done, sure⟩ := ⟨_, rfl⟩
  rw [← eR] at HA ⊢
  have hc1 := e1.symm
  have hc2 := e2.symm
  have hc3 := e3.symm
  have hc4 := e4.symm
  have hc5 := e5.symm
  have hn2 : (task != ask) = !C2 := by rw [e2]; rfl
  have hn3 : (tkey != key) = !C3 := by rw [e3]; rfl
  have hn4 : (frm != H) = !C4 := by rw [e4]; rfl
  clear eR eH h hl e1 e2 e3 e4 e5
  cases write with
  | false =>
    cases C1 with
    | false =>
      cases C2 with
      | false =>
        replace hn2 : (task != ask) = true := hn2
        go_enter Tryd.func58, Tryd.ntmps58
        go_upto_region 1 with (fail)
        rw [← hW]
        clear hW
        have qm0 := fun d os => cell_regrown m0 d os
        have qm1 := fun d os => cell_regrown m1 d os
        have qm6 := fun d os => cell_regrown m6 d os
        have qm9 := fun d os => cell_regrown m9 d os
        have qt0 := fun d os => cell_regrown t0 d os
        have qt2 := fun d os => cell_regrown t2 d os
        have qt5 := fun d os => cell_regrown t5 d os
        refine wp_region_quiet_below (by kernel_rfl) (by kernel_rfl) ?_
        repeat (go_big_quiet_step ((exact Calls.regrown_of (HH.out _ (below_regrown _ _ _)))))
        refine wpQuiet_nil ?_
        intro _ hw'
        obtain ⟨⟨dq, osq⟩, hw''⟩ := hw'
        subst hw''
        have bQ := below_regrown W dq osq
        obtain ⟨Z, eZ⟩ : ∃ Z, Z = Go.Sort.grow (Go.redrawn W dq) osq := ⟨_, rfl⟩
        rw [← eZ] at bQ ⊢
        clear eZ qm0 qm1 qm6 qm9 qt0 qt2 qt5
        have y0 := (bQ.cell (p := ⟨X.heap.size + 1, 0, none⟩) zW).trans t0
        have y1 := (bQ.cell (p := ⟨X.heap.size + 1, 1, none⟩) zW).trans t1
        have y5 := (bQ.cell (p := ⟨X.heap.size, 5, none⟩) zW0).trans m5
        have zz := Nat.lt_of_lt_of_le zW bQ.size
        have zz0 := Nat.lt_of_lt_of_le zW0 bQ.size
        clear m0 m1 m5 m6 m9 t0 t1 t2 t5
        go_wp2
        go_ret
        exact ⟨by rw [HA.out]; simp, HF.out _ bQ⟩
      | true =>
        cases C3 with
        | false =>
          replace hn2 : (task != ask) = false := hn2
          replace hn3 : (tkey != key) = true := hn3
          go_enter Tryd.func58, Tryd.ntmps58
          go_upto_region 1 with (fail)
          rw [← hW]
          clear hW
          have qm0 := fun d os => cell_regrown m0 d os
          have qm1 := fun d os => cell_regrown m1 d os
          have qm6 := fun d os => cell_regrown m6 d os
          have qm9 := fun d os => cell_regrown m9 d os
          have qt0 := fun d os => cell_regrown t0 d os
          have qt2 := fun d os => cell_regrown t2 d os
          have qt5 := fun d os => cell_regrown t5 d os
          refine wp_region_quiet_below (by kernel_rfl) (by kernel_rfl) ?_
          repeat (go_big_quiet_step ((exact Calls.regrown_of (HH.out _ (below_regrown _ _ _)))))
          refine wpQuiet_nil ?_
          intro _ hw'
          obtain ⟨⟨dq, osq⟩, hw''⟩ := hw'
          subst hw''
          have bQ := below_regrown W dq osq
          obtain ⟨Z, eZ⟩ : ∃ Z, Z = Go.Sort.grow (Go.redrawn W dq) osq := ⟨_, rfl⟩
          rw [← eZ] at bQ ⊢
          clear eZ qm0 qm1 qm6 qm9 qt0 qt2 qt5
          have y0 := (bQ.cell (p := ⟨X.heap.size + 1, 0, none⟩) zW).trans t0
          have y1 := (bQ.cell (p := ⟨X.heap.size + 1, 1, none⟩) zW).trans t1
          have y5 := (bQ.cell (p := ⟨X.heap.size, 5, none⟩) zW0).trans m5
          have zz := Nat.lt_of_lt_of_le zW bQ.size
          have zz0 := Nat.lt_of_lt_of_le zW0 bQ.size
          clear m0 m1 m5 m6 m9 t0 t1 t2 t5
          go_wp2
          go_ret
          exact ⟨by rw [HA.out]; simp, HF.out _ bQ⟩
        | true =>
          cases C4 with
          | false =>
            replace hn2 : (task != ask) = false := hn2
            replace hn3 : (tkey != key) = false := hn3
            replace hn4 : (frm != H) = true := hn4
            go_enter Tryd.func58, Tryd.ntmps58
            go_upto_region 1 with (fail)
            rw [← hW]
            clear hW
            have qm0 := fun d os => cell_regrown m0 d os
            have qm1 := fun d os => cell_regrown m1 d os
            have qm6 := fun d os => cell_regrown m6 d os
            have qm9 := fun d os => cell_regrown m9 d os
            have qt0 := fun d os => cell_regrown t0 d os
            have qt2 := fun d os => cell_regrown t2 d os
            have qt5 := fun d os => cell_regrown t5 d os
            refine wp_region_quiet_below (by kernel_rfl) (by kernel_rfl) ?_
            repeat (go_big_quiet_step ((exact Calls.regrown_of (HH.out _ (below_regrown _ _ _)))))
            refine wpQuiet_nil ?_
            intro _ hw'
            obtain ⟨⟨dq, osq⟩, hw''⟩ := hw'
            subst hw''
            have bQ := below_regrown W dq osq
            obtain ⟨Z, eZ⟩ : ∃ Z, Z = Go.Sort.grow (Go.redrawn W dq) osq := ⟨_, rfl⟩
            rw [← eZ] at bQ ⊢
            clear eZ qm0 qm1 qm6 qm9 qt0 qt2 qt5
            have y0 := (bQ.cell (p := ⟨X.heap.size + 1, 0, none⟩) zW).trans t0
            have y1 := (bQ.cell (p := ⟨X.heap.size + 1, 1, none⟩) zW).trans t1
            have y5 := (bQ.cell (p := ⟨X.heap.size, 5, none⟩) zW0).trans m5
            have zz := Nat.lt_of_lt_of_le zW bQ.size
            have zz0 := Nat.lt_of_lt_of_le zW0 bQ.size
            clear m0 m1 m5 m6 m9 t0 t1 t2 t5
            go_wp2
            go_ret
            exact ⟨by rw [HA.out]; simp, HF.out _ bQ⟩
          | true =>
            cases C5 with
            | false =>
              replace hn2 : (task != ask) = false := hn2
              replace hn3 : (tkey != key) = false := hn3
              replace hn4 : (frm != H) = false := hn4
              go_enter Tryd.func58, Tryd.ntmps58
              go_upto_region 1 with (fail)
              rw [← hW]
              clear hW
              have qm0 := fun d os => cell_regrown m0 d os
              have qm1 := fun d os => cell_regrown m1 d os
              have qm6 := fun d os => cell_regrown m6 d os
              have qm9 := fun d os => cell_regrown m9 d os
              have qt0 := fun d os => cell_regrown t0 d os
              have qt2 := fun d os => cell_regrown t2 d os
              have qt5 := fun d os => cell_regrown t5 d os
              refine wp_region_quiet_below (by kernel_rfl) (by kernel_rfl) ?_
              repeat (go_big_quiet_step ((exact Calls.regrown_of (HH.out _ (below_regrown _ _ _)))))
              refine wpQuiet_nil ?_
              intro _ hw'
              obtain ⟨⟨dq, osq⟩, hw''⟩ := hw'
              subst hw''
              have bQ := below_regrown W dq osq
              obtain ⟨Z, eZ⟩ : ∃ Z, Z = Go.Sort.grow (Go.redrawn W dq) osq := ⟨_, rfl⟩
              rw [← eZ] at bQ ⊢
              clear eZ qm0 qm1 qm6 qm9 qt0 qt2 qt5
              have y0 := (bQ.cell (p := ⟨X.heap.size + 1, 0, none⟩) zW).trans t0
              have y1 := (bQ.cell (p := ⟨X.heap.size + 1, 1, none⟩) zW).trans t1
              have y5 := (bQ.cell (p := ⟨X.heap.size, 5, none⟩) zW0).trans m5
              have zz := Nat.lt_of_lt_of_le zW bQ.size
              have zz0 := Nat.lt_of_lt_of_le zW0 bQ.size
              clear m0 m1 m5 m6 m9 t0 t1 t2 t5
              go_wp2
              go_ret
              exact ⟨by rw [HA.out]; simp, HF.out _ bQ⟩
            | true =>
              replace hn2 : (task != ask) = false := hn2
              replace hn3 : (tkey != key) = false := hn3
              replace hn4 : (frm != H) = false := hn4
              go_enter Tryd.func58, Tryd.ntmps58
              go_upto_region 1 with (fail)
              rw [← hW]
              clear hW
              have qm0 := fun d os => cell_regrown m0 d os
              have qm1 := fun d os => cell_regrown m1 d os
              have qm6 := fun d os => cell_regrown m6 d os
              have qm9 := fun d os => cell_regrown m9 d os
              have qt0 := fun d os => cell_regrown t0 d os
              have qt2 := fun d os => cell_regrown t2 d os
              have qt5 := fun d os => cell_regrown t5 d os
              refine wp_region_quiet_below (by kernel_rfl) (by kernel_rfl) ?_
              repeat (go_big_quiet_step ((exact Calls.regrown_of (HH.out _ (below_regrown _ _ _)))))
              refine wpQuiet_nil ?_
              intro _ hw'
              obtain ⟨⟨dq, osq⟩, hw''⟩ := hw'
              subst hw''
              have bQ := below_regrown W dq osq
              obtain ⟨Z, eZ⟩ : ∃ Z, Z = Go.Sort.grow (Go.redrawn W dq) osq := ⟨_, rfl⟩
              rw [← eZ] at bQ ⊢
              clear eZ qm0 qm1 qm6 qm9 qt0 qt2 qt5
              have y0 := (bQ.cell (p := ⟨X.heap.size + 1, 0, none⟩) zW).trans t0
              have y1 := (bQ.cell (p := ⟨X.heap.size + 1, 1, none⟩) zW).trans t1
              have y5 := (bQ.cell (p := ⟨X.heap.size, 5, none⟩) zW0).trans m5
              have zz := Nat.lt_of_lt_of_le zW bQ.size
              have zz0 := Nat.lt_of_lt_of_le zW0 bQ.size
              clear m0 m1 m5 m6 m9 t0 t1 t2 t5
              go_wp2
              go_ret
              exact ⟨by rw [HA.out]; simp, HF.out _ bQ⟩
    | true =>
      go_enter Tryd.func58, Tryd.ntmps58
      go_upto_region 1 with (fail)
      rw [← hW]
      clear hW
      have qm0 := fun d os => cell_regrown m0 d os
      have qm1 := fun d os => cell_regrown m1 d os
      have qm6 := fun d os => cell_regrown m6 d os
      have qm9 := fun d os => cell_regrown m9 d os
      have qt0 := fun d os => cell_regrown t0 d os
      have qt2 := fun d os => cell_regrown t2 d os
      have qt5 := fun d os => cell_regrown t5 d os
      refine wp_region_quiet_below (by kernel_rfl) (by kernel_rfl) ?_
      repeat (go_big_quiet_step ((exact Calls.regrown_of (HH.out _ (below_regrown _ _ _)))))
      refine wpQuiet_nil ?_
      intro _ hw'
      obtain ⟨⟨dq, osq⟩, hw''⟩ := hw'
      subst hw''
      have bQ := below_regrown W dq osq
      obtain ⟨Z, eZ⟩ : ∃ Z, Z = Go.Sort.grow (Go.redrawn W dq) osq := ⟨_, rfl⟩
      rw [← eZ] at bQ ⊢
      clear eZ qm0 qm1 qm6 qm9 qt0 qt2 qt5
      have y0 := (bQ.cell (p := ⟨X.heap.size + 1, 0, none⟩) zW).trans t0
      have y1 := (bQ.cell (p := ⟨X.heap.size + 1, 1, none⟩) zW).trans t1
      have y5 := (bQ.cell (p := ⟨X.heap.size, 5, none⟩) zW0).trans m5
      have zz := Nat.lt_of_lt_of_le zW bQ.size
      have zz0 := Nat.lt_of_lt_of_le zW0 bQ.size
      clear m0 m1 m5 m6 m9 t0 t1 t2 t5
      go_wp2
      go_ret
      exact ⟨by rw [HA.out]; simp, HF.out _ bQ⟩
  | true =>
    cases C1 with
    | false =>
      go_enter Tryd.func58, Tryd.ntmps58
      go_upto_region 1 with (fail)
      rw [← hW]
      clear hW
      have qm0 := fun d os => cell_regrown m0 d os
      have qm1 := fun d os => cell_regrown m1 d os
      have qm6 := fun d os => cell_regrown m6 d os
      have qm9 := fun d os => cell_regrown m9 d os
      have qt0 := fun d os => cell_regrown t0 d os
      have qt2 := fun d os => cell_regrown t2 d os
      have qt5 := fun d os => cell_regrown t5 d os
      refine wp_region_quiet_below (by kernel_rfl) (by kernel_rfl) ?_
      repeat (go_big_quiet_step ((exact Calls.regrown_of (HH.out _ (below_regrown _ _ _)))))
      refine wpQuiet_nil ?_
      intro _ hw'
      obtain ⟨⟨dq, osq⟩, hw''⟩ := hw'
      subst hw''
      have bQ := below_regrown W dq osq
      obtain ⟨Z, eZ⟩ : ∃ Z, Z = Go.Sort.grow (Go.redrawn W dq) osq := ⟨_, rfl⟩
      rw [← eZ] at bQ ⊢
      clear eZ qm0 qm1 qm6 qm9 qt0 qt2 qt5
      have y0 := (bQ.cell (p := ⟨X.heap.size + 1, 0, none⟩) zW).trans t0
      have y1 := (bQ.cell (p := ⟨X.heap.size + 1, 1, none⟩) zW).trans t1
      have y5 := (bQ.cell (p := ⟨X.heap.size, 5, none⟩) zW0).trans m5
      have zz := Nat.lt_of_lt_of_le zW bQ.size
      have zz0 := Nat.lt_of_lt_of_le zW0 bQ.size
      clear m0 m1 m5 m6 m9 t0 t1 t2 t5
      go_wp2
      go_ret
      exact ⟨by rw [HA.out]; simp, HF.out _ bQ⟩
    | true =>
      cases C2 with
      | false =>
        replace hn2 : (task != ask) = true := hn2
        go_enter Tryd.func58, Tryd.ntmps58
        go_upto_region 1 with (fail)
        rw [← hW]
        clear hW
        have qm0 := fun d os => cell_regrown m0 d os
        have qm1 := fun d os => cell_regrown m1 d os
        have qm6 := fun d os => cell_regrown m6 d os
        have qm9 := fun d os => cell_regrown m9 d os
        have qt0 := fun d os => cell_regrown t0 d os
        have qt2 := fun d os => cell_regrown t2 d os
        have qt5 := fun d os => cell_regrown t5 d os
        refine wp_region_quiet_below (by kernel_rfl) (by kernel_rfl) ?_
        repeat (go_big_quiet_step ((exact Calls.regrown_of (HH.out _ (below_regrown _ _ _)))))
        refine wpQuiet_nil ?_
        intro _ hw'
        obtain ⟨⟨dq, osq⟩, hw''⟩ := hw'
        subst hw''
        have bQ := below_regrown W dq osq
        obtain ⟨Z, eZ⟩ : ∃ Z, Z = Go.Sort.grow (Go.redrawn W dq) osq := ⟨_, rfl⟩
        rw [← eZ] at bQ ⊢
        clear eZ qm0 qm1 qm6 qm9 qt0 qt2 qt5
        have y0 := (bQ.cell (p := ⟨X.heap.size + 1, 0, none⟩) zW).trans t0
        have y1 := (bQ.cell (p := ⟨X.heap.size + 1, 1, none⟩) zW).trans t1
        have y5 := (bQ.cell (p := ⟨X.heap.size, 5, none⟩) zW0).trans m5
        have zz := Nat.lt_of_lt_of_le zW bQ.size
        have zz0 := Nat.lt_of_lt_of_le zW0 bQ.size
        clear m0 m1 m5 m6 m9 t0 t1 t2 t5
        go_wp2
        go_ret
        exact ⟨by rw [HA.out]; simp, HF.out _ bQ⟩
      | true =>
        cases C3 with
        | false =>
          replace hn2 : (task != ask) = false := hn2
          replace hn3 : (tkey != key) = true := hn3
          go_enter Tryd.func58, Tryd.ntmps58
          go_upto_region 1 with (fail)
          rw [← hW]
          clear hW
          have qm0 := fun d os => cell_regrown m0 d os
          have qm1 := fun d os => cell_regrown m1 d os
          have qm6 := fun d os => cell_regrown m6 d os
          have qm9 := fun d os => cell_regrown m9 d os
          have qt0 := fun d os => cell_regrown t0 d os
          have qt2 := fun d os => cell_regrown t2 d os
          have qt5 := fun d os => cell_regrown t5 d os
          refine wp_region_quiet_below (by kernel_rfl) (by kernel_rfl) ?_
          repeat (go_big_quiet_step ((exact Calls.regrown_of (HH.out _ (below_regrown _ _ _)))))
          refine wpQuiet_nil ?_
          intro _ hw'
          obtain ⟨⟨dq, osq⟩, hw''⟩ := hw'
          subst hw''
          have bQ := below_regrown W dq osq
          obtain ⟨Z, eZ⟩ : ∃ Z, Z = Go.Sort.grow (Go.redrawn W dq) osq := ⟨_, rfl⟩
          rw [← eZ] at bQ ⊢
          clear eZ qm0 qm1 qm6 qm9 qt0 qt2 qt5
          have y0 := (bQ.cell (p := ⟨X.heap.size + 1, 0, none⟩) zW).trans t0
          have y1 := (bQ.cell (p := ⟨X.heap.size + 1, 1, none⟩) zW).trans t1
          have y5 := (bQ.cell (p := ⟨X.heap.size, 5, none⟩) zW0).trans m5
          have zz := Nat.lt_of_lt_of_le zW bQ.size
          have zz0 := Nat.lt_of_lt_of_le zW0 bQ.size
          clear m0 m1 m5 m6 m9 t0 t1 t2 t5
          go_wp2
          go_ret
          exact ⟨by rw [HA.out]; simp, HF.out _ bQ⟩
        | true =>
          cases C4 with
          | false =>
            replace hn2 : (task != ask) = false := hn2
            replace hn3 : (tkey != key) = false := hn3
            replace hn4 : (frm != H) = true := hn4
            go_enter Tryd.func58, Tryd.ntmps58
            go_upto_region 1 with (fail)
            rw [← hW]
            clear hW
            have qm0 := fun d os => cell_regrown m0 d os
            have qm1 := fun d os => cell_regrown m1 d os
            have qm6 := fun d os => cell_regrown m6 d os
            have qm9 := fun d os => cell_regrown m9 d os
            have qt0 := fun d os => cell_regrown t0 d os
            have qt2 := fun d os => cell_regrown t2 d os
            have qt5 := fun d os => cell_regrown t5 d os
            refine wp_region_quiet_below (by kernel_rfl) (by kernel_rfl) ?_
            repeat (go_big_quiet_step ((exact Calls.regrown_of (HH.out _ (below_regrown _ _ _)))))
            refine wpQuiet_nil ?_
            intro _ hw'
            obtain ⟨⟨dq, osq⟩, hw''⟩ := hw'
            subst hw''
            have bQ := below_regrown W dq osq
            obtain ⟨Z, eZ⟩ : ∃ Z, Z = Go.Sort.grow (Go.redrawn W dq) osq := ⟨_, rfl⟩
            rw [← eZ] at bQ ⊢
            clear eZ qm0 qm1 qm6 qm9 qt0 qt2 qt5
            have y0 := (bQ.cell (p := ⟨X.heap.size + 1, 0, none⟩) zW).trans t0
            have y1 := (bQ.cell (p := ⟨X.heap.size + 1, 1, none⟩) zW).trans t1
            have y5 := (bQ.cell (p := ⟨X.heap.size, 5, none⟩) zW0).trans m5
            have zz := Nat.lt_of_lt_of_le zW bQ.size
            have zz0 := Nat.lt_of_lt_of_le zW0 bQ.size
            clear m0 m1 m5 m6 m9 t0 t1 t2 t5
            go_wp2
            go_ret
            exact ⟨by rw [HA.out]; simp, HF.out _ bQ⟩
          | true =>
            replace hn2 : (task != ask) = false := hn2
            replace hn3 : (tkey != key) = false := hn3
            replace hn4 : (frm != H) = false := hn4
            go_enter Tryd.func58, Tryd.ntmps58
            go_upto_region 1 with (fail)
            rw [← hW]
            clear hW
            have qm0 := fun d os => cell_regrown m0 d os
            have qm1 := fun d os => cell_regrown m1 d os
            have qm6 := fun d os => cell_regrown m6 d os
            have qm9 := fun d os => cell_regrown m9 d os
            have qt0 := fun d os => cell_regrown t0 d os
            have qt2 := fun d os => cell_regrown t2 d os
            have qt5 := fun d os => cell_regrown t5 d os
            refine wp_region_quiet_below (by kernel_rfl) (by kernel_rfl) ?_
            repeat (go_big_quiet_step ((exact Calls.regrown_of (HH.out _ (below_regrown _ _ _)))))
            refine wpQuiet_nil ?_
            intro _ hw'
            obtain ⟨⟨dq, osq⟩, hw''⟩ := hw'
            subst hw''
            have bQ := below_regrown W dq osq
            obtain ⟨Z, eZ⟩ : ∃ Z, Z = Go.Sort.grow (Go.redrawn W dq) osq := ⟨_, rfl⟩
            rw [← eZ] at bQ ⊢
            clear eZ qm0 qm1 qm6 qm9 qt0 qt2 qt5
            have y0 := (bQ.cell (p := ⟨X.heap.size + 1, 0, none⟩) zW).trans t0
            have y1 := (bQ.cell (p := ⟨X.heap.size + 1, 1, none⟩) zW).trans t1
            have y5 := (bQ.cell (p := ⟨X.heap.size, 5, none⟩) zW0).trans m5
            have zz := Nat.lt_of_lt_of_le zW bQ.size
            have zz0 := Nat.lt_of_lt_of_le zW0 bQ.size
            clear m0 m1 m5 m6 m9 t0 t1 t2 t5
            go_wp2
            go_ret
            exact ⟨by rw [HA.out]; simp, HF.out _ bQ⟩
end Go.Proofs.YtdjnaahkcnklhabDoor.Co
/- A cell of a task of a job, and a job's tasks cut short: laws of the clerk. -/
namespace Go.Proofs.YtdjnaahkcnklhabDoor.Co
open Go.ChangeShapes Go.WideShapes Go.ChangeAt Go.RowKit
open Go.Proofs.YtdjnaahkcnklhabDoor.St (BoxN boxn_new own_below grown_setCell IsRow Elem flat flat_append own_isRow flat_take own_prefix)
set_option linter.unusedVariables false

theorem flat_set8 : ∀ (ts : List TkV) (i : Nat) (t' : TkV) (c : Nat) (u : Value), i < ts.length → c < 8 → t'.cells = (ts.getD i default).cells.set c u → flat TkV.cells (ts.set i t') = (flat TkV.cells ts).set (i * 8 + c) u
  | [], i, t', c, u, hi, hc, e => by simp at hi
  | a :: l, 0, t', c, u, hi, hc, e => by
    simp only [List.set_cons_zero, flat_cons]
    simp only [List.getD_cons_zero] at e
    rw [e, List.set_append_left _ _ (by show _ < (TkV.cells a).length; rw [tk_len]; omega)]
    simp
  | a :: l, i + 1, t', c, u, hi, hc, e => by
    simp only [List.set_cons_succ, flat_cons]
    rw [flat_set8 l i t' c u (by simpa using hi) hc (by simpa using e), List.set_append_right _ _ (by rw [tk_len]; omega)]
    congr 2
    rw [tk_len]
    omega
/-- A job with other tasks (of the same number, in the same row). -/
def taskSet (j : JbV) (m : Nat) (t : TkV) : JbV := { j with tasks := j.tasks.set m t }
theorem Clerk.tcell {w X : World} {B q : Nat} {v : CkV} {ix : List (Nat × Nat)} {more : List Rw} (h : Clerk w X B q v ix more) {i gt m : Nat} (hi : i < v.jl) (et : (v.js.getD i default).ta = some ⟨gt, 0, none⟩) (hm : m < (v.js.getD i default).tl) (c : Nat) (hc : c < 8) (u : Value) (t' : TkV) (ht : t'.cells = ((v.js.getD i default).tasks.getD m default).cells.set c u) :
    ∃ (k : Nat) (r : Rw), (∃ y, ix[i]? = some (k, y)) ∧ Clerk w (X.setCell ⟨gt, m * 8 + c, none⟩ u) B q { v with js := v.js.set i (taskSet (v.js.getD i default) m t') } ix (more.set k r) := by
  have hl := h.lens.1
  have hi' : i < v.js.length := by omega
  have hfit := (h.fit hi).1
  obtain ⟨x, ex, e1, e2⟩ := h.jobs.at hi'
  have hx1 : x.1 < more.length := (List.getElem?_eq_some_iff.1 e1).1
  obtain ⟨j, ej⟩ : ∃ j, j = v.js.getD i default := ⟨_, rfl⟩
  rw [← ej] at et hm ht hfit e1 e2 ⊢
  have e3 := e1
  rw [et] at e3
  have h1 := h.held.cell (more_get e3) (j := m * 8 + c) (by omega) u
  rw [← flat_set8 j.tasks m t' c u (by omega) hc ht] at h1
  have er : (v.rows ++ more).set (4 + x.1) ⟨87, 8, .slice (some ⟨gt, 0, none⟩) j.tl j.tc, j.tl, flat TkV.cells (j.tasks.set m t')⟩ = v.rows ++ more.set x.1 ⟨87, 8, .slice (some ⟨gt, 0, none⟩) j.tl j.tc, j.tl, flat TkV.cells (j.tasks.set m t')⟩ := by
    rw [List.set_append_right _ _ (by simp [CkV.rows])]
    congr 2
    simp [CkV.rows]
  rw [er] at h1
  have ec : (taskSet j m t').cells = j.cells := rfl
  have ef : flat JbV.cells (v.js.set i (taskSet j m t')) = flat JbV.cells v.js := by
    have : ∀ (js : List JbV) (i : Nat) (k : JbV), k.cells = (js.getD i default).cells → flat JbV.cells (js.set i k) = flat JbV.cells js := by
      intro js
      induction js with
      | nil => intro i k e; rfl
      | cons a l ih =>
        intro i k e
        cases i with
        | zero => simp only [List.set_cons_zero, flat_cons, List.getD_cons_zero] at e ⊢; rw [e]
        | succ i => simp only [List.set_cons_succ, flat_cons]; rw [ih i k (by simpa using e)]
    exact this _ _ _ (by rw [ec, ej])
  refine ⟨x.1, ⟨87, 8, .slice (some ⟨gt, 0, none⟩) j.tl j.tc, j.tl, flat TkV.cells (j.tasks.set m t')⟩, ⟨x.2, ex⟩, ?_, ?_, by simpa using hl, h.lens.2.1, h.lens.2.2.1, h.lens.2.2.2⟩
  · have er2 : ({ v with js := v.js.set i (taskSet j m t') } : CkV).rows = v.rows := by unfold CkV.rows; simp only [ef]
    rw [er2]
    exact h1
  · obtain ⟨g1, g2, g3, g4⟩ := h.jobs
    have eo : v.js[i]? = some j := by rw [ej]; simp [List.getD, hi']
    refine ⟨by simpa using g1, fun k jj y ejj ey => ?_, g3, g4⟩
    rcases set_get eo ejj with ⟨rfl, rfl⟩ | ⟨hk, ejj2⟩
    · rw [ex] at ey
      obtain rfl := Option.some.inj ey
      refine ⟨?_, ?_⟩
      · rw [List.getElem?_set_self hx1, ← et]; rfl
      · rw [List.getElem?_set_ne (g4 _ _ ex)]; exact e2
    · have ap := g3 i k x y ex ey (fun e => hk e.symm)
      have := g2 k jj y ejj2 ey
      refine ⟨?_, ?_⟩
      · rw [List.getElem?_set_ne ap.1]; exact this.1
      · rw [List.getElem?_set_ne ap.2.1]; exact this.2
/-- A job whose last tasks are cut off. -/
def cutJob (j : JbV) (n : Nat) : JbV := { j with tl := n, tasks := j.tasks.take n }
theorem Clerk.cutTasks {w X : World} {B q : Nat} {v : CkV} {ix : List (Nat × Nat)} {more : List Rw} (h : Clerk w X B q v ix more) {i g gt n : Nat} (hi : i < v.jl) (eg : v.ja = some ⟨g, 0, none⟩) (et : (v.js.getD i default).ta = some ⟨gt, 0, none⟩) (hn : n ≤ (v.js.getD i default).tl) (h0 : 0 < (v.js.getD i default).tl) :
    ∃ (k : Nat) (r : Rw), (∃ y, ix[i]? = some (k, y)) ∧ Clerk w (X.setCell ⟨g, i * 6 + 2, none⟩ (.slice (some ⟨gt, 0, none⟩) n (v.js.getD i default).tc)) B q { v with js := v.js.set i (cutJob (v.js.getD i default) n) } ix (more.set k r) := by
  have hl := h.lens.1
  have hi' : i < v.js.length := by omega
  obtain ⟨x, ex, e1, e2⟩ := h.jobs.at hi'
  have hx1 : x.1 < more.length := (List.getElem?_eq_some_iff.1 e1).1
  obtain ⟨j, ej⟩ : ∃ j, j = v.js.getD i default := ⟨_, rfl⟩
  rw [← ej] at et hn h0 e1 e2 ⊢
  have e3 := e1
  rw [et] at e3
  have o1 := h.held.own.own _ _ (more_get e3)
  have o2 := own_prefix o1 (k := n) hn h0
  rw [flat_take tk_len] at o2
  have h1 := h.held.grow (X' := X) (i := 4 + x.1) (r' := ⟨87, 8, .slice (some ⟨gt, 0, none⟩) n j.tc, n, flat TkV.cells (j.tasks.take n)⟩) (more_get e3) (St.grown_below (Below.refl X.heap.size X) _) o2 (Or.inl rfl)
  have er : (v.rows ++ more).set (4 + x.1) ⟨87, 8, .slice (some ⟨gt, 0, none⟩) n j.tc, n, flat TkV.cells (j.tasks.take n)⟩ = v.rows ++ more.set x.1 ⟨87, 8, .slice (some ⟨gt, 0, none⟩) n j.tc, n, flat TkV.cells (j.tasks.take n)⟩ := by
    rw [List.set_append_right _ _ (by simp [CkV.rows])]
    congr 2
    simp [CkV.rows]
  rw [er] at h1
  have e0 : (v.rows ++ more.set x.1 ⟨87, 8, .slice (some ⟨gt, 0, none⟩) n j.tc, n, flat TkV.cells (j.tasks.take n)⟩)[0]? = some ⟨59, 6, .slice (some ⟨g, 0, none⟩) v.jl v.jc, v.jl, flat JbV.cells v.js⟩ := by rw [← eg]; rfl
  have h2 := h1.cell e0 (j := i * 6 + 2) (by omega) (.slice (some ⟨gt, 0, none⟩) n j.tc)
  rw [← flat_set6 v.js i (cutJob j n) 2 (.slice (some ⟨gt, 0, none⟩) n j.tc) hi' (by decide) (by rw [← ej, ← et]; rfl)] at h2
  refine ⟨x.1, ⟨87, 8, .slice (some ⟨gt, 0, none⟩) n j.tc, n, flat TkV.cells (j.tasks.take n)⟩, ⟨x.2, ex⟩, ?_, ?_, by simpa using hl, h.lens.2.1, h.lens.2.2.1, h.lens.2.2.2⟩
  · have er2 : ({ v with js := v.js.set i (cutJob j n) } : CkV).rows ++ more.set x.1 ⟨87, 8, .slice (some ⟨gt, 0, none⟩) n j.tc, n, flat TkV.cells (j.tasks.take n)⟩ = (v.rows ++ more.set x.1 ⟨87, 8, .slice (some ⟨gt, 0, none⟩) n j.tc, n, flat TkV.cells (j.tasks.take n)⟩).set 0 ⟨59, 6, .slice (some ⟨g, 0, none⟩) v.jl v.jc, v.jl, flat JbV.cells (v.js.set i (cutJob j n))⟩ := by rw [← eg]; rfl
    rw [er2]
    exact h2
  · obtain ⟨g1, g2, g3, g4⟩ := h.jobs
    have eo : v.js[i]? = some j := by rw [ej]; simp [List.getD, hi']
    refine ⟨by simpa using g1, fun k jj y ejj ey => ?_, g3, g4⟩
    rcases set_get eo ejj with ⟨rfl, rfl⟩ | ⟨hk, ejj2⟩
    · rw [ex] at ey
      obtain rfl := Option.some.inj ey
      refine ⟨?_, ?_⟩
      · rw [List.getElem?_set_self hx1, ← et]; rfl
      · rw [List.getElem?_set_ne (g4 _ _ ex)]; exact e2
    · have ap := g3 i k x y ex ey (fun e => hk e.symm)
      have := g2 k jj y ejj2 ey
      refine ⟨?_, ?_⟩
      · rw [List.getElem?_set_ne ap.1]; exact this.1
      · rw [List.getElem?_set_ne ap.2.1]; exact this.2
end Go.Proofs.YtdjnaahkcnklhabDoor.Co
/- The clerk's answered: the task that waits is done, or refused; a job of which a write is refused cannot go on. -/
namespace Go.Proofs.YtdjnaahkcnklhabDoor.Co
open Go.ChangeShapes Go.WideShapes Go.ChangeAt Go.RowKit
open Go.Proofs.YtdjnaahkcnklhabDoor.St (BoxN boxn_new own_below grown_setCell IsRow Elem flat flat_append own_isRow idxI idxI_lt)
set_option linter.unusedVariables false

def lastT (j : JbV) : TkV := j.tasks.getD (j.tasks.length - 1) default
def ansTask (t : TkV) (m : MV) : TkV := { t with done := true, value := if t.write = true then t.value else m.value, version := if t.write = true then t.version else m.version }
def Tn.answered (t : Tn) (C : Cx) (i : Nat) (m : MV) : Tn :=
  if (waitB (t.js.getD i default) && ansB (C.home (lastT (t.js.getD i default)).key) m (lastT (t.js.getD i default))) = true then
    (if m.code = 0 then { t.rep C (callKind (lastT (t.js.getD i default))) (t.js.getD i default).n m.key m.value m.code with js := t.js.set i { t.js.getD i default with age := 0, tasks := (t.js.getD i default).tasks.set ((t.js.getD i default).tasks.length - 1) (ansTask (lastT (t.js.getD i default)) m) } }
    else if (lastT (t.js.getD i default)).write = true then Tn.ended { t.rep C (callKind (lastT (t.js.getD i default))) (t.js.getD i default).n m.key m.value m.code with js := t.js.set i { t.js.getD i default with age := 0 } } C (t.js.getD i default).n (t.js.getD i default).tasks
    else { t.rep C (callKind (lastT (t.js.getD i default))) (t.js.getD i default).n m.key m.value m.code with js := t.js.set i { t.js.getD i default with age := 0, tasks := (t.js.getD i default).tasks.take ((t.js.getD i default).tasks.length - 1) } })
  else t
theorem rowAt {v : CkV} {more : List Rw} {w U : World} {B q : Nat} {u : CkV} {iy : List (Nat × Nat)} {m' : List Rw} (h : Clerk w U B q u iy m') {k : Nat} {r : Rw} (e : m'[k]? = some r) : U.ownsRow B r.te r.k r.v r.n r.xs := h.held.own.own _ _ (more_get e)
theorem tn_j6 (v : CkV) (ls : List (Int × Int)) (pa : Option Addr) (pc : Nat) (ck jn key value code : Int) (i : Nat) (J : JbV) : ({ refusedV v pa pc ⟨v.me, ck, jn, key, value, code⟩ with js := v.js.set i J } : CkV).tn = { v.tn.rep (v.cx ls) ck jn key value code with js := v.tn.js.set i J.bare } := by
  unfold CkV.tn refusedV Tn.rep
  simp only [set_bare]
  rfl
theorem row_box {U : World} {B : Nat} {t : TypeId} {k g : Nat} {vs : List Value} (ob : U.ownsRow B t k (.slice (some ⟨g, 0, none⟩) 1 1) 1 vs) (hl : vs.length = k) (h0 : 0 < k) : BoxN U g k vs := by
  refine ⟨hl, (own_at ob (j := 0) (by omega)).2, fun c hc => ⟨?_, (St.own_there ob (k := c) (by omega)).2⟩⟩
  rw [(own_at ob (j := c) (by omega)).1]
  simp [List.getD, show c < vs.length by omega]
set_option maxRecDepth 100000 in
set_option maxHeartbeats 8000000 in
theorem answered_done {w : World} {B q : Nat} {v : CkV} {ix : List (Nat × Nat)} {more : List Rw} (X : World) (h : Clerk w X B q v ix more) (hr : v.rs = []) (ls : List (Int × Int)) {i g : Nat} (hi : i < v.jl) (eg : v.ja = some ⟨g, 0, none⟩) (m : MV) (hs : v.s ≤ 1048576) (hm : v.ml ≤ 1000000) (hp : v.pl ≤ 1000000) (htl : (v.js.getD i default).tl ≤ 1000000) (hL : Labs w B q v ls) :
    Calls Tryd.prog 30 #[.pointer (some ⟨q, 0, none⟩), .pointer (some ⟨g, i * 6, none⟩), m.val] X fun e X' => DoneIs w X' B q v (v.tn.answered (v.cx ls) i m) e := by
  obtain ⟨kind, frm, dst, site, num, label, key, value, version, ask, yes, code⟩ := m
  simp only [MV.val]
  have hi' : i < v.js.length := by have := h.lens.1; omega
  have hfit := (h.fit hi).1
  obtain ⟨W, hW⟩ : ∃ W : World, W = X.alloc (.cells #[.int .i64 kind, .int .i64 frm, .int .i64 dst, .int .i64 site, .int .i64 num, .int .i64 label, .int .i64 key, .int .i64 value, .int .i64 version, .int .i64 ask, .bool yes, .int .i64 code] 46) := ⟨_, rfl⟩
  have bW : Below X.heap.size X W := by rw [hW]; exact (Below.refl _ _).alloc (Nat.le_refl _) _
  have zW : X.heap.size < W.heap.size := by rw [hW]; simp
  have hCW : Clerk w W B q v ix (more ++ [⟨46, 12, .slice (some ⟨X.heap.size, 0, none⟩) 1 1, 1, [.int .i64 kind, .int .i64 frm, .int .i64 dst, .int .i64 site, .int .i64 num, .int .i64 label, .int .i64 key, .int .i64 value, .int .i64 version, .int .i64 ask, .bool yes, .int .i64 code]⟩]) := h.add bW (by rw [hW]; exact box_row X _ _ 12 rfl)
  have HC : Hid (Clerk w W B q v ix (more ++ [⟨46, 12, .slice (some ⟨X.heap.size, 0, none⟩) 1 1, 1, [.int .i64 kind, .int .i64 frm, .int .i64 dst, .int .i64 site, .int .i64 num, .int .i64 label, .int .i64 key, .int .i64 value, .int .i64 version, .int .i64 ask, .bool yes, .int .i64 code]⟩])) := hCW
  have HRs : Hid (∀ more', RecsIn v.rs more') := fun more' => by rw [hr]; exact recsIn_nil _
  have HRs0 : Hid (v.rs = []) := hr
  have HSame : Hid (∀ U, Below W.heap.size W U → v.tn.answered (v.cx ls) i ⟨kind, frm, dst, site, num, label, key, value, version, ask, yes, code⟩ = v.tn → DoneIs w U B q v (v.tn.answered (v.cx ls) i ⟨kind, frm, dst, site, num, label, key, value, version, ask, yes, code⟩) (.returned (.tuple #[]))) := fun U hU e => ⟨rfl, v, ix, _, HC.out.below hU, HRs.out _, e.symm, rfl, rfl, rfl, rfl, rfl, rfl, rfl⟩
  have HWt : Hid (Calls Tryd.prog 46 #[.pointer (some ⟨g, i * 6, none⟩)] W fun e X' => WaitIs e (v.js.getD i default) ∧ X' = W) := waiting_any W hCW hi eg
  have HBj : Hid (v.tn.js.getD i default = (v.js.getD i default).bare) := getD_bare _ _
  have HKM : Hid (∀ (k y : Nat), ix[i]? = some (k, y) → k < more.length) := fun k y e => (h.jobs.inn i (k, y) e).1
  clear hCW h hr
  go_enter Tryd.func30, Tryd.ntmps30
  go_upto_region 1 with (fail)
  rw [← hW]
  clear hW
  go_upto_region 2 with (go_at_call 46; refine HWt.out.mono ?_; rintro e u ⟨hWt, hu⟩; rw [hu]; clear hu u; rcases hWt with ⟨hwb, rfl⟩ | ⟨hwb, gt, mm, eta, etl, rfl⟩)
  · have HA : Hid (v.tn.answered (v.cx ls) i ⟨kind, frm, dst, site, num, label, key, value, version, ask, yes, code⟩ = v.tn) := by
      show _ = _
      unfold Tn.answered
      have e1 : waitB (v.tn.js.getD i default) = false := by rw [HBj.out]; exact hwb
      rw [e1, if_neg (by simp)]
    clear hwb
    refine wp_region_quiet_below (by kernel_rfl) (by kernel_rfl) ?_
    repeat (go_big_quiet_step (fail))
    refine wpQuiet_nil ?_
    intro _ hw'
    obtain ⟨⟨dq, osq⟩, hw''⟩ := hw'
    subst hw''
    have bQ := below_regrown W dq osq
    obtain ⟨Z, eZ⟩ : ∃ Z, Z = Go.Sort.grow (Go.redrawn W dq) osq := ⟨_, rfl⟩
    rw [← eZ] at bQ ⊢
    clear eZ
    have hF := HSame.out Z bQ HA.out
    go_wp2
    exact bodyPost_ret (v := .tuple #[]) (by simp [results, Tryd.results30, go_sem]) rfl hF
  · obtain ⟨J, eJ⟩ : ∃ J, J = v.js.getD i default := ⟨_, rfl⟩
    have hmt : mm < J.tasks.length := by rw [eJ, hfit, etl]; omega
    have HLen : Hid (J.tasks.length = mm + 1) := by show _ = _; rw [eJ, hfit, etl]
    obtain ⟨t, et⟩ : ∃ t, t = J.tasks.getD mm default := ⟨_, rfl⟩
    have HLast : Hid (lastT (v.tn.js.getD i default) = t) := by
      show _ = _
      rw [HBj.out, ← eJ, et]
      unfold lastT
      show J.tasks.getD (J.tasks.length - 1) default = _
      rw [HLen.out]
      rfl
    /- the task's cells, and the job's, in every clerk whose i-th job has these lists -/
    have HTk : Hid (∀ (U : World) (u : CkV) (iy : List (Nat × Nat)) (m' : List Rw), Clerk w U B q u iy m' → u.jl = v.jl → (u.js.getD i default).ta = some ⟨gt, 0, none⟩ → (u.js.getD i default).tl = mm + 1 → (∀ c, c < 8 → U.cell? ⟨gt, mm * 8 + c, none⟩ = ((u.js.getD i default).tasks.getD mm default).cells[c]? ∧ U.frozen? ⟨gt, mm * 8 + c, none⟩ = false) ∧ gt < U.heap.size) := fun U u iy m' hU e1 e2 e3 => by
      have ot := (hU.tasksAt (i := i) (by rw [e1]; exact hi)).1
      have ht := hU.isTasks (i := i) (by rw [e1]; exact hi)
      rw [e2, e3] at ot ht
      obtain ⟨b, off, e4, zb, hcr⟩ := ht.2.2.2.2 (by omega)
      simp at e4
      obtain ⟨rfl, rfl⟩ := e4
      refine ⟨fun c hc => ⟨?_, (St.own_there ot (k := mm * 8 + c) (by omega)).2⟩, zb⟩
      have := hcr mm (by omega) c hc
      rw [Nat.zero_add] at this
      exact this
    have HJc : Hid (∀ (U : World) (u : CkV) (iy : List (Nat × Nat)) (m' : List Rw), Clerk w U B q u iy m' → u.jl = v.jl → u.ja = v.ja → (∀ c, c < 6 → U.cell? ⟨g, i * 6 + c, none⟩ = (u.js.getD i default).cells[c]? ∧ U.frozen? ⟨g, i * 6 + c, none⟩ = false) ∧ g < U.heap.size) := fun U u iy m' hU e1 e2 => by
      obtain ⟨g2, eg2, -, zg2, -, hc2, hf2⟩ := hU.jobAt (i := i) (by rw [e1]; exact hi)
      rw [e2] at eg2
      obtain rfl := ptrEq eg eg2
      exact ⟨fun c hc => ⟨hc2 c hc, hf2 c hc⟩, zg2⟩
    have HMb : Hid (∀ (U : World) (u : CkV) (iy : List (Nat × Nat)) (m' : List Rw), Clerk w U B q u iy m' → m'[more.length]? = some ⟨46, 12, .slice (some ⟨X.heap.size, 0, none⟩) 1 1, 1, [.int .i64 kind, .int .i64 frm, .int .i64 dst, .int .i64 site, .int .i64 num, .int .i64 label, .int .i64 key, .int .i64 value, .int .i64 version, .int .i64 ask, .bool yes, .int .i64 code]⟩ → BoxN U X.heap.size 12 [.int .i64 kind, .int .i64 frm, .int .i64 dst, .int .i64 site, .int .i64 num, .int .i64 label, .int .i64 key, .int .i64 value, .int .i64 version, .int .i64 ask, .bool yes, .int .i64 code]) := fun U u iy m' hU e => by
      have ob := rowAt (v := u) (more := m') hU e
      exact row_box ob rfl (by decide)
    have HAn : Hid (∀ U, Below W.heap.size W U → Calls Tryd.prog 58 #[.pointer (some ⟨q, 0, none⟩), .agg #[.int .i64 kind, .int .i64 frm, .int .i64 dst, .int .i64 site, .int .i64 num, .int .i64 label, .int .i64 key, .int .i64 value, .int .i64 version, .int .i64 ask, .bool yes, .int .i64 code], t.val] U fun e X' => e = .returned (.bool (ansB (homeNum v.s ls v.p t.key) ⟨kind, frm, dst, site, num, label, key, value, version, ask, yes, code⟩ t)) ∧ Below U.heap.size U X') := fun U hU => answers_any U (HC.out.below hU) ls (hL _ _ _ _ (HC.out.below hU)) ⟨kind, frm, dst, site, num, label, key, value, version, ask, yes, code⟩ t
    obtain ⟨A, eA⟩ : ∃ A, A = ansB (homeNum v.s ls v.p t.key) ⟨kind, frm, dst, site, num, label, key, value, version, ask, yes, code⟩ t := ⟨_, rfl⟩
    rw [← eA] at HAn
    have HGo : Hid ((waitB (v.tn.js.getD i default) && ansB ((v.cx ls).home (lastT (v.tn.js.getD i default)).key) ⟨kind, frm, dst, site, num, label, key, value, version, ask, yes, code⟩ (lastT (v.tn.js.getD i default))) = A) := by
      show _ = _
      rw [HLast.out]
      have e1 : waitB (v.tn.js.getD i default) = true := by rw [HBj.out]; exact hwb
      rw [e1, eA]
      rfl
    clear eA hwb
    obtain ⟨hct, zt⟩ := HTk.out W v ix _ HC.out rfl eta etl
    rw [← eJ, ← et] at hct
    have HEt : Hid (t = (v.js.getD i default).tasks.getD mm default) := by rw [← eJ]; exact et
    have HEta : Hid ((v.js.getD i default).ta = some ⟨gt, 0, none⟩ ∧ (v.js.getD i default).tl = mm + 1) := ⟨eta, etl⟩
    clear et eta etl eJ hmt
    obtain ⟨write, tlabel, tkey, tvalue, tversion, task, done, sure⟩ := t
    simp only [TkV.val] at HAn
    have a0 := (hct 0 (by decide)).1
    have a1 := (hct 1 (by decide)).1
    have a2 := (hct 2 (by decide)).1
    have a3 := (hct 3 (by decide)).1
    have a4 := (hct 4 (by decide)).1
    have a5 := (hct 5 (by decide)).1
    have a6 := (hct 6 (by decide)).1
    have a7 := (hct 7 (by decide)).1
    simp only [TkV.cells, List.getElem?_cons_zero, List.getElem?_cons_succ, Nat.add_zero] at a0 a1 a2 a3 a4 a5 a6 a7
    clear hct
    have mb := HMb.out W v ix _ HC.out (by simp)
    have b0 : W.cell? ⟨X.heap.size, 0, none⟩ = some (.int .i64 kind) := (mb.c 0 (by decide)).1
    have b1 : W.cell? ⟨X.heap.size, 1, none⟩ = some (.int .i64 frm) := (mb.c 1 (by decide)).1
    have b2 : W.cell? ⟨X.heap.size, 2, none⟩ = some (.int .i64 dst) := (mb.c 2 (by decide)).1
    have b3 : W.cell? ⟨X.heap.size, 3, none⟩ = some (.int .i64 site) := (mb.c 3 (by decide)).1
    have b4 : W.cell? ⟨X.heap.size, 4, none⟩ = some (.int .i64 num) := (mb.c 4 (by decide)).1
    have b5 : W.cell? ⟨X.heap.size, 5, none⟩ = some (.int .i64 label) := (mb.c 5 (by decide)).1
    have b6 : W.cell? ⟨X.heap.size, 6, none⟩ = some (.int .i64 key) := (mb.c 6 (by decide)).1
    have b7 : W.cell? ⟨X.heap.size, 7, none⟩ = some (.int .i64 value) := (mb.c 7 (by decide)).1
    have b8 : W.cell? ⟨X.heap.size, 8, none⟩ = some (.int .i64 version) := (mb.c 8 (by decide)).1
    have b9 : W.cell? ⟨X.heap.size, 9, none⟩ = some (.int .i64 ask) := (mb.c 9 (by decide)).1
    have b10 : W.cell? ⟨X.heap.size, 10, none⟩ = some (.bool yes) := (mb.c 10 (by decide)).1
    have b11 : W.cell? ⟨X.heap.size, 11, none⟩ = some (.int .i64 code) := (mb.c 11 (by decide)).1
    cases A with
    | false =>
      have HA : Hid (v.tn.answered (v.cx ls) i ⟨kind, frm, dst, site, num, label, key, value, version, ask, yes, code⟩ = v.tn) := by
        show _ = _
        unfold Tn.answered
        rw [HGo.out, if_neg (by simp)]
      have qa0 := fun d os => cell_regrown a0 d os
      have qa1 := fun d os => cell_regrown a1 d os
      have qa2 := fun d os => cell_regrown a2 d os
      have qa3 := fun d os => cell_regrown a3 d os
      have qa4 := fun d os => cell_regrown a4 d os
      have qa5 := fun d os => cell_regrown a5 d os
      have qa6 := fun d os => cell_regrown a6 d os
      have qa7 := fun d os => cell_regrown a7 d os
      have qb0 := fun d os => cell_regrown b0 d os
      have qb1 := fun d os => cell_regrown b1 d os
      have qb2 := fun d os => cell_regrown b2 d os
      have qb3 := fun d os => cell_regrown b3 d os
      have qb4 := fun d os => cell_regrown b4 d os
      have qb5 := fun d os => cell_regrown b5 d os
      have qb6 := fun d os => cell_regrown b6 d os
      have qb7 := fun d os => cell_regrown b7 d os
      have qb8 := fun d os => cell_regrown b8 d os
      have qb9 := fun d os => cell_regrown b9 d os
      have qb10 := fun d os => cell_regrown b10 d os
      have qb11 := fun d os => cell_regrown b11 d os
      refine wp_region_quiet_below (by kernel_rfl) (by kernel_rfl) ?_
      repeat (go_big_quiet_step ((exact Calls.regrown_of (HAn.out _ (below_regrown _ _ _)))))
      refine wpQuiet_nil ?_
      intro _ hw'
      obtain ⟨⟨dq, osq⟩, hw''⟩ := hw'
      subst hw''
      have bQ := below_regrown W dq osq
      obtain ⟨Z, eZ⟩ : ∃ Z, Z = Go.Sort.grow (Go.redrawn W dq) osq := ⟨_, rfl⟩
      rw [← eZ] at bQ ⊢
      clear eZ qa0 qa1 qa2 qa3 qa4 qa5 qa6 qa7 qb0 qb1 qb2 qb3 qb4 qb5 qb6 qb7 qb8 qb9 qb10 qb11 a0 a1 a2 a3 a4 a5 a6 a7 b0 b1 b2 b3 b4 b5 b6 b7 b8 b9 b10 b11 mb
      have hF := HSame.out Z bQ HA.out
      go_wp2
      exact bodyPost_ret (v := .tuple #[]) (by simp [results, Tryd.results30, go_sem]) rfl hF
    | true =>
      have qa0 := fun d os => cell_regrown a0 d os
      have qa1 := fun d os => cell_regrown a1 d os
      have qa2 := fun d os => cell_regrown a2 d os
      have qa3 := fun d os => cell_regrown a3 d os
      have qa4 := fun d os => cell_regrown a4 d os
      have qa5 := fun d os => cell_regrown a5 d os
      have qa6 := fun d os => cell_regrown a6 d os
      have qa7 := fun d os => cell_regrown a7 d os
      have qb0 := fun d os => cell_regrown b0 d os
      have qb1 := fun d os => cell_regrown b1 d os
      have qb2 := fun d os => cell_regrown b2 d os
      have qb3 := fun d os => cell_regrown b3 d os
      have qb4 := fun d os => cell_regrown b4 d os
      have qb5 := fun d os => cell_regrown b5 d os
      have qb6 := fun d os => cell_regrown b6 d os
      have qb7 := fun d os => cell_regrown b7 d os
      have qb8 := fun d os => cell_regrown b8 d os
      have qb9 := fun d os => cell_regrown b9 d os
      have qb10 := fun d os => cell_regrown b10 d os
      have qb11 := fun d os => cell_regrown b11 d os
      refine wp_region_quiet_below (by kernel_rfl) (by kernel_rfl) ?_
      repeat (go_big_quiet_step ((exact Calls.regrown_of (HAn.out _ (below_regrown _ _ _)))))
      refine wpQuiet_nil ?_
      intro _ hw'
      obtain ⟨⟨dq, osq⟩, hw''⟩ := hw'
      subst hw''
      have bQ := below_regrown W dq osq
      obtain ⟨Z, eZ⟩ : ∃ Z, Z = Go.Sort.grow (Go.redrawn W dq) osq := ⟨_, rfl⟩
      rw [← eZ] at bQ ⊢
      clear eZ qa0 qa1 qa2 qa3 qa4 qa5 qa6 qa7 qb0 qb1 qb2 qb3 qb4 qb5 qb6 qb7 qb8 qb9 qb10 qb11 a0 a1 a2 a3 a4 a5 a6 a7 b0 b1 b2 b3 b4 b5 b6 b7 b8 b9 b10 b11 mb
      go_upto_region 3 with (fail)
      have HCZ : Hid (Clerk w Z B q v ix (more ++ [⟨46, 12, .slice (some ⟨X.heap.size, 0, none⟩) 1 1, 1, [.int .i64 kind, .int .i64 frm, .int .i64 dst, .int .i64 site, .int .i64 num, .int .i64 label, .int .i64 key, .int .i64 value, .int .i64 version, .int .i64 ask, .bool yes, .int .i64 code]⟩])) := HC.out.below bQ
      obtain ⟨JN, eJN⟩ : ∃ JN, JN = (v.js.getD i default).n := ⟨_, rfl⟩
      have HJN : Hid (JN = (v.js.getD i default).n) := eJN
      clear eJN
      have KC : Hid (∀ U, Below Z.heap.size Z U → (U.cell? ⟨gt, mm * 8, none⟩ = some (.bool write) ∧ U.cell? ⟨gt, mm * 8 + 1, none⟩ = some (.int .i64 tlabel) ∧ U.cell? ⟨gt, mm * 8 + 2, none⟩ = some (.int .i64 tkey) ∧ U.cell? ⟨gt, mm * 8 + 3, none⟩ = some (.int .i64 tvalue) ∧ U.cell? ⟨gt, mm * 8 + 4, none⟩ = some (.int .i64 tversion) ∧ U.cell? ⟨gt, mm * 8 + 5, none⟩ = some (.int .i64 task) ∧ U.cell? ⟨gt, mm * 8 + 6, none⟩ = some (.bool done) ∧ U.cell? ⟨gt, mm * 8 + 7, none⟩ = some (.bool sure)) ∧ U.cell? ⟨g, i * 6, none⟩ = some (.int .i64 JN) ∧ U.cell? ⟨X.heap.size, 6, none⟩ = some (.int .i64 key) ∧ U.cell? ⟨X.heap.size, 7, none⟩ = some (.int .i64 value) ∧ U.cell? ⟨X.heap.size, 11, none⟩ = some (.int .i64 code)) := fun U hU => by
        have hU2 := HCZ.out.below hU
        have h1 := (HTk.out U v ix _ hU2 rfl HEta.out.1 HEta.out.2).1
        rw [← HEt.out] at h1
        have h2 := ((HJc.out U v ix _ hU2 rfl rfl).1 0 (by decide)).1
        have h3 := HMb.out U v ix _ hU2 (by simp)
        refine ⟨⟨by simpa [TkV.cells] using (h1 0 (by decide)).1, by simpa [TkV.cells] using (h1 1 (by decide)).1, by simpa [TkV.cells] using (h1 2 (by decide)).1, by simpa [TkV.cells] using (h1 3 (by decide)).1, by simpa [TkV.cells] using (h1 4 (by decide)).1, by simpa [TkV.cells] using (h1 5 (by decide)).1, by simpa [TkV.cells] using (h1 6 (by decide)).1, by simpa [TkV.cells] using (h1 7 (by decide)).1⟩, ?_, (h3.c 6 (by decide)).1, (h3.c 7 (by decide)).1, (h3.c 11 (by decide)).1⟩
        rw [HJN.out]
        simpa [JbV.cells] using h2
      obtain ⟨CK, eCK⟩ : ∃ CK, CK = callKind ⟨write, tlabel, tkey, tvalue, tversion, task, done, sure⟩ := ⟨_, rfl⟩
      have HCK : Hid (CK = callKind ⟨write, tlabel, tkey, tvalue, tversion, task, done, sure⟩) := eCK
      have HCo : Hid (∀ U, Calls Tryd.prog 59 #[.agg #[.bool write, .int .i64 tlabel, .int .i64 tkey, .int .i64 tvalue, .int .i64 tversion, .int .i64 task, .bool done, .bool sure]] U fun e w' => e = .returned (.int .i64 CK) ∧ Below U.heap.size U w') := fun U => by rw [eCK]; exact callOf_any ⟨write, tlabel, tkey, tvalue, tversion, task, done, sure⟩ U
      obtain ⟨D, eD⟩ : ∃ D : World → Prop, D = fun u => ∃ (pa : Option Addr) (pc : Nat), Clerk w u B q (refusedV v pa pc ⟨v.me, CK, JN, key, value, code⟩) ix (more ++ [⟨46, 12, .slice (some ⟨X.heap.size, 0, none⟩) 1 1, 1, [.int .i64 kind, .int .i64 frm, .int .i64 dst, .int .i64 site, .int .i64 num, .int .i64 label, .int .i64 key, .int .i64 value, .int .i64 version, .int .i64 ask, .bool yes, .int .i64 code]⟩]) := ⟨_, rfl⟩
      have HD : Hid (∀ u, D u → ∃ (pa : Option Addr) (pc : Nat), Clerk w u B q (refusedV v pa pc ⟨v.me, CK, JN, key, value, code⟩) ix (more ++ [⟨46, 12, .slice (some ⟨X.heap.size, 0, none⟩) 1 1, 1, [.int .i64 kind, .int .i64 frm, .int .i64 dst, .int .i64 site, .int .i64 num, .int .i64 label, .int .i64 key, .int .i64 value, .int .i64 version, .int .i64 ask, .bool yes, .int .i64 code]⟩])) := fun u hu => by rw [eD] at hu; exact hu
      have HRp : Hid (∀ U, Below Z.heap.size Z U → Calls Tryd.prog 23 #[.pointer (some ⟨q, 0, none⟩), .agg #[.int .i64 0, .int .i64 CK, .int .i64 JN, .int .i64 key, .int .i64 value, .int .i64 code]] U fun e X' => e = .returned (.tuple #[]) ∧ D X') := fun U hU => by
        refine (reply_any U (HCZ.out.below hU) ⟨0, CK, JN, key, value, code⟩ (fitP hp)).mono ?_
        rintro e u ⟨rfl, a5, c5, h5⟩
        refine ⟨rfl, ?_⟩
        rw [eD]
        exact ⟨a5, c5, h5⟩
      clear eCK eD
      refine wp_region_inv (by kernel_rfl) [20, 21, 22, 23, 24, 25, 26, 27, 28, 29, 30, 31, 32, 33, 34, 35, 36] (fun L T u => True ∧ (L 0 = true → T 20 = .pointer (some ⟨q, 0, none⟩)) ∧ (L 1 = true → T 21 = .pointer (some ⟨gt, mm * 8, none⟩)) ∧ (L 2 = true → T 22 = .pointer (some ⟨gt, mm * 8, none⟩)) ∧ (L 3 = true → T 23 = .agg #[.bool write, .int .i64 tlabel, .int .i64 tkey, .int .i64 tvalue, .int .i64 tversion, .int .i64 task, .bool done, .bool sure]) ∧ (L 4 = true → T 24 = .int .i64 CK) ∧ (L 5 = true → T 25 = .pointer (some ⟨g, i * 6, none⟩)) ∧ (L 6 = true → T 26 = .pointer (some ⟨g, i * 6, none⟩)) ∧ (L 7 = true → T 27 = .pointer (some ⟨g, i * 6, none⟩)) ∧ (L 8 = true → T 28 = .int .i64 JN) ∧ (L 9 = true → T 29 = .pointer (some ⟨X.heap.size, 6, none⟩)) ∧ (L 10 = true → T 30 = .int .i64 key) ∧ (L 11 = true → T 31 = .pointer (some ⟨X.heap.size, 7, none⟩)) ∧ (L 12 = true → T 32 = .int .i64 value) ∧ (L 13 = true → T 33 = .pointer (some ⟨X.heap.size, 11, none⟩)) ∧ (L 14 = true → T 34 = .int .i64 code) ∧ (L 15 = true → T 35 = .agg #[.int .i64 0, .int .i64 CK, .int .i64 JN, .int .i64 key, .int .i64 value, .int .i64 code]) ∧ (L 16 = false → Below Z.heap.size Z u) ∧ (L 16 = true → D u)) (by decide) (by kernel_rfl) (by kernel_rfl) ?_ ?_ ?_
      · exact ⟨trivial, nofun, nofun, nofun, nofun, nofun, nofun, nofun, nofun, nofun, nofun, nofun, nofun, nofun, nofun, nofun, nofun, fun _ => (Below.refl _ _).drew, nofun⟩
      · refine ⟨?_, ?_, ?_, ?_, ?_, ?_, ?_, ?_, ?_, ?_, ?_, ?_, ?_, ?_, ?_, ?_, ?_, trivial⟩
        · rintro L T u hd hk hcl ⟨hb, p0, p1, p2, p3, p4, p5, p6, p7, p8, p9, p10, p11, p12, p13, p14, p15, c1, c2⟩ K hK
          simp only [fr, Act.put, List.setIfInBounds_toArray, List.set_cons_zero, List.set_cons_succ, updO] at hK ⊢
          simp [Region.binds] at hd
          rw [if_pos (by rfl)]
          simp only [Oper.wpv]
          go_simp
          exact hK _ _ ⟨hb, fun _ => rfl, p1, p2, p3, p4, p5, p6, p7, p8, p9, p10, p11, p12, p13, p14, p15, c1, c2⟩
        · rintro L T u hd hk hcl ⟨hb, p0, p1, p2, p3, p4, p5, p6, p7, p8, p9, p10, p11, p12, p13, p14, p15, c1, c2⟩ K hK
          simp only [fr, Act.put, List.setIfInBounds_toArray, List.set_cons_zero, List.set_cons_succ, updO] at hK ⊢
          simp [Region.binds] at hd
          rw [if_pos (by rfl)]
          simp only [Oper.wpv]
          go_simp
          exact hK _ _ ⟨hb, p0, fun _ => rfl, p2, p3, p4, p5, p6, p7, p8, p9, p10, p11, p12, p13, p14, p15, c1, c2⟩
        · rintro L T u hd hk hcl ⟨hb, p0, p1, p2, p3, p4, p5, p6, p7, p8, p9, p10, p11, p12, p13, p14, p15, c1, c2⟩ K hK
          simp only [fr, Act.put, List.setIfInBounds_toArray, List.set_cons_zero, List.set_cons_succ, updO] at hK ⊢
          simp [Region.binds] at hd
          have g1 := p1 (by simp [hd])
          rw [if_pos (by rfl)]
          simp only [Oper.wpv]
          go_simp
          exact hK _ _ ⟨hb, p0, p1, fun _ => rfl, p3, p4, p5, p6, p7, p8, p9, p10, p11, p12, p13, p14, p15, c1, c2⟩
        · rintro L T u hd hk hcl ⟨hb, p0, p1, p2, p3, p4, p5, p6, p7, p8, p9, p10, p11, p12, p13, p14, p15, c1, c2⟩ K hK
          simp only [fr, Act.put, List.setIfInBounds_toArray, List.set_cons_zero, List.set_cons_succ, updO] at hK ⊢
          simp [Region.binds] at hd
          have g2 := p2 (by simp [hd])
          have k16 := hcl 16 _ rfl
          simp [Region.binds] at k16
          have k15 := hcl 15 _ rfl
          simp [Region.binds] at k15
          have k4 := hcl 4 _ rfl
          simp [Region.binds] at k4
          have hE : L 16 = false := by cases h : L 16 with | false => rfl | true => have a16 := k16 h; have a15 := k15 (by simp [a16]); have a4 := k4 (by simp [a15]); simp [hk] at a4
          obtain ⟨⟨t0, t1, t2, t3, t4, t5, t6, t7⟩, xn, xk, xv, xc⟩ := KC.out u (c1 hE)
          rw [if_pos (by rfl)]
          simp only [Oper.wpv]
          go_simp
          exact hK _ _ ⟨hb, p0, p1, p2, fun _ => rfl, p4, p5, p6, p7, p8, p9, p10, p11, p12, p13, p14, p15, c1, c2⟩
        · rintro L T u hd hk hcl ⟨hb, p0, p1, p2, p3, p4, p5, p6, p7, p8, p9, p10, p11, p12, p13, p14, p15, c1, c2⟩ K hK
          simp only [fr, Act.put, List.setIfInBounds_toArray, List.set_cons_zero, List.set_cons_succ, updO] at hK ⊢
          simp [Region.binds] at hd
          have g3 := p3 (by simp [hd])
          have k16 := hcl 16 _ rfl
          simp [Region.binds] at k16
          have k15 := hcl 15 _ rfl
          simp [Region.binds] at k15
          have hE : L 16 = false := by cases h : L 16 with | false => rfl | true => have a16 := k16 h; have a15 := k15 (by simp [a16]); simp [hk] at a15
          rw [if_pos (by rfl)]
          simp only [Oper.wpv]
          go_simp
          refine (HCo.out _).mono ?_
          rintro e u1 ⟨rfl, hg⟩
          exact hK _ _ ⟨hb, p0, p1, p2, p3, fun _ => rfl, p5, p6, p7, p8, p9, p10, p11, p12, p13, p14, p15, fun _ => nT (c1 hE) hg, fun h => absurd (show L 16 = true from h) (by simp [hE])⟩
        · rintro L T u hd hk hcl ⟨hb, p0, p1, p2, p3, p4, p5, p6, p7, p8, p9, p10, p11, p12, p13, p14, p15, c1, c2⟩ K hK
          simp only [fr, Act.put, List.setIfInBounds_toArray, List.set_cons_zero, List.set_cons_succ, updO] at hK ⊢
          simp [Region.binds] at hd
          rw [if_pos (by rfl)]
          simp only [Oper.wpv]
          go_simp
          exact hK _ _ ⟨hb, p0, p1, p2, p3, p4, fun _ => rfl, p6, p7, p8, p9, p10, p11, p12, p13, p14, p15, c1, c2⟩
        · rintro L T u hd hk hcl ⟨hb, p0, p1, p2, p3, p4, p5, p6, p7, p8, p9, p10, p11, p12, p13, p14, p15, c1, c2⟩ K hK
          simp only [fr, Act.put, List.setIfInBounds_toArray, List.set_cons_zero, List.set_cons_succ, updO] at hK ⊢
          simp [Region.binds] at hd
          have g5 := p5 (by simp [hd])
          rw [if_pos (by rfl)]
          simp only [Oper.wpv]
          go_simp
          exact hK _ _ ⟨hb, p0, p1, p2, p3, p4, p5, fun _ => rfl, p7, p8, p9, p10, p11, p12, p13, p14, p15, c1, c2⟩
        · rintro L T u hd hk hcl ⟨hb, p0, p1, p2, p3, p4, p5, p6, p7, p8, p9, p10, p11, p12, p13, p14, p15, c1, c2⟩ K hK
          simp only [fr, Act.put, List.setIfInBounds_toArray, List.set_cons_zero, List.set_cons_succ, updO] at hK ⊢
          simp [Region.binds] at hd
          have g6 := p6 (by simp [hd])
          rw [if_pos (by rfl)]
          simp only [Oper.wpv]
          go_simp
          exact hK _ _ ⟨hb, p0, p1, p2, p3, p4, p5, p6, fun _ => rfl, p8, p9, p10, p11, p12, p13, p14, p15, c1, c2⟩
        · rintro L T u hd hk hcl ⟨hb, p0, p1, p2, p3, p4, p5, p6, p7, p8, p9, p10, p11, p12, p13, p14, p15, c1, c2⟩ K hK
          simp only [fr, Act.put, List.setIfInBounds_toArray, List.set_cons_zero, List.set_cons_succ, updO] at hK ⊢
          simp [Region.binds] at hd
          have g7 := p7 (by simp [hd])
          have k16 := hcl 16 _ rfl
          simp [Region.binds] at k16
          have k15 := hcl 15 _ rfl
          simp [Region.binds] at k15
          have hE : L 16 = false := by cases h : L 16 with | false => rfl | true => have a16 := k16 h; have a15 := k15 (by simp [a16]); simp [hk] at a15
          obtain ⟨⟨t0, t1, t2, t3, t4, t5, t6, t7⟩, xn, xk, xv, xc⟩ := KC.out u (c1 hE)
          rw [if_pos (by rfl)]
          simp only [Oper.wpv]
          go_simp
          exact hK _ _ ⟨hb, p0, p1, p2, p3, p4, p5, p6, p7, fun _ => rfl, p9, p10, p11, p12, p13, p14, p15, c1, c2⟩
        · rintro L T u hd hk hcl ⟨hb, p0, p1, p2, p3, p4, p5, p6, p7, p8, p9, p10, p11, p12, p13, p14, p15, c1, c2⟩ K hK
          simp only [fr, Act.put, List.setIfInBounds_toArray, List.set_cons_zero, List.set_cons_succ, updO] at hK ⊢
          simp [Region.binds] at hd
          rw [if_pos (by rfl)]
          simp only [Oper.wpv]
          go_simp
          exact hK _ _ ⟨hb, p0, p1, p2, p3, p4, p5, p6, p7, p8, fun _ => rfl, p10, p11, p12, p13, p14, p15, c1, c2⟩
        · rintro L T u hd hk hcl ⟨hb, p0, p1, p2, p3, p4, p5, p6, p7, p8, p9, p10, p11, p12, p13, p14, p15, c1, c2⟩ K hK
          simp only [fr, Act.put, List.setIfInBounds_toArray, List.set_cons_zero, List.set_cons_succ, updO] at hK ⊢
          simp [Region.binds] at hd
          have g9 := p9 (by simp [hd])
          have k16 := hcl 16 _ rfl
          simp [Region.binds] at k16
          have k15 := hcl 15 _ rfl
          simp [Region.binds] at k15
          have hE : L 16 = false := by cases h : L 16 with | false => rfl | true => have a16 := k16 h; have a15 := k15 (by simp [a16]); simp [hk] at a15
          obtain ⟨⟨t0, t1, t2, t3, t4, t5, t6, t7⟩, xn, xk, xv, xc⟩ := KC.out u (c1 hE)
          rw [if_pos (by rfl)]
          simp only [Oper.wpv]
          go_simp
          exact hK _ _ ⟨hb, p0, p1, p2, p3, p4, p5, p6, p7, p8, p9, fun _ => rfl, p11, p12, p13, p14, p15, c1, c2⟩
        · rintro L T u hd hk hcl ⟨hb, p0, p1, p2, p3, p4, p5, p6, p7, p8, p9, p10, p11, p12, p13, p14, p15, c1, c2⟩ K hK
          simp only [fr, Act.put, List.setIfInBounds_toArray, List.set_cons_zero, List.set_cons_succ, updO] at hK ⊢
          simp [Region.binds] at hd
          rw [if_pos (by rfl)]
          simp only [Oper.wpv]
          go_simp
          exact hK _ _ ⟨hb, p0, p1, p2, p3, p4, p5, p6, p7, p8, p9, p10, fun _ => rfl, p12, p13, p14, p15, c1, c2⟩
        · rintro L T u hd hk hcl ⟨hb, p0, p1, p2, p3, p4, p5, p6, p7, p8, p9, p10, p11, p12, p13, p14, p15, c1, c2⟩ K hK
          simp only [fr, Act.put, List.setIfInBounds_toArray, List.set_cons_zero, List.set_cons_succ, updO] at hK ⊢
          simp [Region.binds] at hd
          have g11 := p11 (by simp [hd])
          have k16 := hcl 16 _ rfl
          simp [Region.binds] at k16
          have k15 := hcl 15 _ rfl
          simp [Region.binds] at k15
          have hE : L 16 = false := by cases h : L 16 with | false => rfl | true => have a16 := k16 h; have a15 := k15 (by simp [a16]); simp [hk] at a15
          obtain ⟨⟨t0, t1, t2, t3, t4, t5, t6, t7⟩, xn, xk, xv, xc⟩ := KC.out u (c1 hE)
          rw [if_pos (by rfl)]
          simp only [Oper.wpv]
          go_simp
          exact hK _ _ ⟨hb, p0, p1, p2, p3, p4, p5, p6, p7, p8, p9, p10, p11, fun _ => rfl, p13, p14, p15, c1, c2⟩
        · rintro L T u hd hk hcl ⟨hb, p0, p1, p2, p3, p4, p5, p6, p7, p8, p9, p10, p11, p12, p13, p14, p15, c1, c2⟩ K hK
          simp only [fr, Act.put, List.setIfInBounds_toArray, List.set_cons_zero, List.set_cons_succ, updO] at hK ⊢
          simp [Region.binds] at hd
          rw [if_pos (by rfl)]
          simp only [Oper.wpv]
          go_simp
          exact hK _ _ ⟨hb, p0, p1, p2, p3, p4, p5, p6, p7, p8, p9, p10, p11, p12, fun _ => rfl, p14, p15, c1, c2⟩
        · rintro L T u hd hk hcl ⟨hb, p0, p1, p2, p3, p4, p5, p6, p7, p8, p9, p10, p11, p12, p13, p14, p15, c1, c2⟩ K hK
          simp only [fr, Act.put, List.setIfInBounds_toArray, List.set_cons_zero, List.set_cons_succ, updO] at hK ⊢
          simp [Region.binds] at hd
          have g13 := p13 (by simp [hd])
          have k16 := hcl 16 _ rfl
          simp [Region.binds] at k16
          have k15 := hcl 15 _ rfl
          simp [Region.binds] at k15
          have hE : L 16 = false := by cases h : L 16 with | false => rfl | true => have a16 := k16 h; have a15 := k15 (by simp [a16]); simp [hk] at a15
          obtain ⟨⟨t0, t1, t2, t3, t4, t5, t6, t7⟩, xn, xk, xv, xc⟩ := KC.out u (c1 hE)
          rw [if_pos (by rfl)]
          simp only [Oper.wpv]
          go_simp
          exact hK _ _ ⟨hb, p0, p1, p2, p3, p4, p5, p6, p7, p8, p9, p10, p11, p12, p13, fun _ => rfl, p15, c1, c2⟩
        · rintro L T u hd hk hcl ⟨hb, p0, p1, p2, p3, p4, p5, p6, p7, p8, p9, p10, p11, p12, p13, p14, p15, c1, c2⟩ K hK
          simp only [fr, Act.put, List.setIfInBounds_toArray, List.set_cons_zero, List.set_cons_succ, updO] at hK ⊢
          simp [Region.binds] at hd
          have g4 := p4 (by simp [hd])
          have g8 := p8 (by simp [hd])
          have g10 := p10 (by simp [hd])
          have g12 := p12 (by simp [hd])
          have g14 := p14 (by simp [hd])
          rw [if_pos (by rfl)]
          simp only [Oper.wpv]
          go_simp
          exact hK _ _ ⟨hb, p0, p1, p2, p3, p4, p5, p6, p7, p8, p9, p10, p11, p12, p13, p14, fun _ => rfl, c1, c2⟩
        · rintro L T u hd hk hcl ⟨hb, p0, p1, p2, p3, p4, p5, p6, p7, p8, p9, p10, p11, p12, p13, p14, p15, c1, c2⟩ K hK
          simp only [fr, Act.put, List.setIfInBounds_toArray, List.set_cons_zero, List.set_cons_succ, updO] at hK ⊢
          simp [Region.binds] at hd
          have g0 := p0 (by simp [hd])
          have g15 := p15 (by simp [hd])
          have hE : L 16 = false := hk
          rw [if_pos (by rfl)]
          simp only [Oper.wpv]
          go_simp
          refine (HRp.out _ (c1 hE)).mono ?_
          rintro e u1 ⟨rfl, hg⟩
          exact hK _ _ ⟨hb, p0, p1, p2, p3, p4, p5, p6, p7, p8, p9, p10, p11, p12, p13, p14, p15, fun h => Bool.noConfusion (show true = false from h), fun _ => hg⟩
      · rintro L T u hl ⟨hb, p0, p1, p2, p3, p4, p5, p6, p7, p8, p9, p10, p11, p12, p13, p14, p15, c1, c2⟩
        simp only [fr, Act.put, List.setIfInBounds_toArray, List.set_cons_zero, List.set_cons_succ]
        obtain ⟨pa, pc, hC5⟩ := HD.out _ (c2 (hl 16 (by decide)))
        clear p0 p1 p2 p3 p4 p5 p6 p7 p8 p9 p10 p11 p12 p13 p14 p15 c1 c2 HD HRp HCo KC D
        obtain ⟨Y, eY⟩ : ∃ Y : World, Y = u := ⟨_, rfl⟩
        rw [← eY] at hC5 ⊢
        clear eY u HCZ HSame HWt
        obtain ⟨hj5, zg5⟩ := HJc.out Y _ ix _ hC5 rfl rfl
        have y5 := (hj5 5 (by decide)).1
        have yf5 := (hj5 5 (by decide)).2
        have hC6 := hC5.jcell (i := i) (g := g) hi eg 5 (by decide) (.int .i64 0) { v.js.getD i default with age := 0 } rfl ⟨rfl, rfl, rfl, rfl, rfl, rfl, rfl, rfl⟩
        have e6 : ({ refusedV v pa pc ⟨v.me, CK, JN, key, value, code⟩ with js := (refusedV v pa pc ⟨v.me, CK, JN, key, value, code⟩).js.set i { v.js.getD i default with age := 0 } } : CkV) = { refusedV v pa pc ⟨v.me, CK, JN, key, value, code⟩ with js := v.js.set i { v.js.getD i default with age := 0 } } := rfl
        rw [e6] at hC6
        obtain ⟨v6, ev6⟩ : ∃ v6 : CkV, v6 = { refusedV v pa pc ⟨v.me, CK, JN, key, value, code⟩ with js := v.js.set i { v.js.getD i default with age := 0 } } := ⟨_, rfl⟩
        rw [← ev6] at hC6
        have H6 : Hid (v6.jl = v.jl ∧ v6.ja = v.ja ∧ v6.js.getD i default = { v.js.getD i default with age := 0 } ∧ v6.ml = v.ml ∧ v6.rs = v.rs ∧ v6.s = v.s) := by rw [ev6]; exact ⟨rfl, rfl, set_getD _ _ _ hi', rfl, rfl, rfl⟩
        have HV6 : Hid (v6 = { refusedV v pa pc ⟨v.me, CK, JN, key, value, code⟩ with js := v.js.set i { v.js.getD i default with age := 0 } }) := ev6
        obtain ⟨Y6, eY6⟩ : ∃ Y6, Y6 = Y.setCell ⟨g, i * 6 + 5, none⟩ (.int .i64 0) := ⟨_, rfl⟩
        rw [← eY6] at hC6
        have HC6 : Hid (Clerk w Y6 B q v6 ix (more ++ [⟨46, 12, .slice (some ⟨X.heap.size, 0, none⟩) 1 1, 1, [.int .i64 kind, .int .i64 frm, .int .i64 dst, .int .i64 site, .int .i64 num, .int .i64 label, .int .i64 key, .int .i64 value, .int .i64 version, .int .i64 ask, .bool yes, .int .i64 code]⟩])) := hC6
        clear hC5 e6 ev6 hj5 hC6
        go_upto_region 6 with (fail)
        rw [← eY6]
        clear eY6 y5 yf5 zg5
        have mb6 := HMb.out Y6 v6 ix _ HC6.out (by simp)
        have b11 : Y6.cell? ⟨X.heap.size, 11, none⟩ = some (.int .i64 code) := (mb6.c 11 (by decide)).1
        have b6 : Y6.cell? ⟨X.heap.size, 7, none⟩ = some (.int .i64 value) := (mb6.c 7 (by decide)).1
        have b7 : Y6.cell? ⟨X.heap.size, 8, none⟩ = some (.int .i64 version) := (mb6.c 8 (by decide)).1
        have zb := mb6.lt
        obtain ⟨hk6, zt6⟩ := HTk.out Y6 v6 ix _ HC6.out H6.out.1 (by rw [H6.out.2.2.1]; exact HEta.out.1) (by rw [H6.out.2.2.1]; exact HEta.out.2)
        rw [H6.out.2.2.1] at hk6
        have hk6' : ∀ c, c < 8 → Y6.cell? ⟨gt, mm * 8 + c, none⟩ = (TkV.cells ⟨write, tlabel, tkey, tvalue, tversion, task, done, sure⟩)[c]? ∧ Y6.frozen? ⟨gt, mm * 8 + c, none⟩ = false := fun c hc => by rw [HEt.out]; exact hk6 c hc
        clear hk6 mb6
        have a0 := (hk6' 0 (by decide)).1
        have f0 := (hk6' 0 (by decide)).2
        have a3 := (hk6' 3 (by decide)).1
        have f3 := (hk6' 3 (by decide)).2
        have a4 := (hk6' 4 (by decide)).1
        have f4 := (hk6' 4 (by decide)).2
        have a6 := (hk6' 6 (by decide)).1
        have f6 := (hk6' 6 (by decide)).2
        simp only [TkV.cells, List.getElem?_cons_zero, List.getElem?_cons_succ, Nat.add_zero] at a0 a3 a4 a6 f0
        clear hk6'
        have HAns : Hid (v.tn.answered (v.cx ls) i ⟨kind, frm, dst, site, num, label, key, value, version, ask, yes, code⟩ = if code = 0 then { v.tn.rep (v.cx ls) CK JN key value code with js := v.tn.js.set i { v.tn.js.getD i default with age := 0, tasks := (v.tn.js.getD i default).tasks.set mm (ansTask ⟨write, tlabel, tkey, tvalue, tversion, task, done, sure⟩ ⟨kind, frm, dst, site, num, label, key, value, version, ask, yes, code⟩) } } else if write = true then Tn.ended { v.tn.rep (v.cx ls) CK JN key value code with js := v.tn.js.set i { v.tn.js.getD i default with age := 0 } } (v.cx ls) (v.tn.js.getD i default).n (v.tn.js.getD i default).tasks else { v.tn.rep (v.cx ls) CK JN key value code with js := v.tn.js.set i { v.tn.js.getD i default with age := 0, tasks := (v.tn.js.getD i default).tasks.take mm } }) := by
          show _ = _
          have e1 : (v.tn.js.getD i default).tasks.length - 1 = mm := by
            rw [HBj.out]
            show (v.js.getD i default).tasks.length - 1 = mm
            rw [hfit, HEta.out.2]
            rfl
          have e2 : (v.tn.js.getD i default).n = JN := by rw [HBj.out, HJN.out]; rfl
          unfold Tn.answered
          rw [HGo.out, if_pos rfl, HLast.out, e1, e2, ← HCK.out]
        have hi6 : i < v6.js.length := by have := HC6.out.lens.1; rw [H6.out.1] at this; omega
        have hmt6 : mm < (v.js.getD i default).tasks.length := by rw [hfit, HEta.out.2]; omega
        have HGd : Hid (∀ (u : CkV) (X' : World) (more' : List Rw) (J : JbV), Clerk w X' B q u ix more' → u = { v6 with js := v6.js.set i J } → v.tn.answered (v.cx ls) i ⟨kind, frm, dst, site, num, label, key, value, version, ask, yes, code⟩ = { v.tn.rep (v.cx ls) CK JN key value code with js := v.tn.js.set i J.bare } → DoneIs w X' B q v (v.tn.answered (v.cx ls) i ⟨kind, frm, dst, site, num, label, key, value, version, ask, yes, code⟩) (.returned (.tuple #[]))) := fun u X' more' J hU eu e => by
          subst eu
          refine ⟨rfl, _, ix, more', hU, ?_, ?_, ?_⟩
          · show RecsIn v6.rs more'
            rw [H6.out.2.2.2.2.1]
            exact HRs.out more'
          · rw [e, ← tn_j6 v ls pa pc CK JN key value code i J, HV6.out]
            simp only [List.set_set]
          · rw [HV6.out]
            exact ⟨rfl, rfl, rfl, rfl, rfl, rfl, rfl⟩
        by_cases hcode : code = 0
        · subst hcode
          obtain ⟨k7, r7, ⟨y7, hy7⟩, hC7⟩ := HC6.out.tcell (i := i) (gt := gt) (m := mm) (by rw [H6.out.1]; exact hi) (by rw [H6.out.2.2.1]; exact HEta.out.1) (by rw [H6.out.2.2.1]; show mm < (v.js.getD i default).tl; rw [HEta.out.2]; omega) 6 (by decide) (.bool true) ⟨write, tlabel, tkey, tvalue, tversion, task, true, sure⟩ (by rw [H6.out.2.2.1]; show _ = (((v.js.getD i default).tasks.getD mm default).cells).set 6 _; rw [← HEt.out]; rfl)
          have hkm7 := HKM.out k7 y7 hy7
          have e7 : (v6.js.set i (taskSet (v6.js.getD i default) mm ⟨write, tlabel, tkey, tvalue, tversion, task, true, sure⟩)).getD i default = taskSet (v6.js.getD i default) mm ⟨write, tlabel, tkey, tvalue, tversion, task, true, sure⟩ := set_getD _ _ _ hi6
          cases write with
          | true =>
            have hF := HGd.out _ _ _ (taskSet (v6.js.getD i default) mm ⟨true, tlabel, tkey, tvalue, tversion, task, true, sure⟩) hC7 rfl (by rw [HAns.out, if_pos rfl, HBj.out, H6.out.2.2.1]; rfl)
            clear hC7 e7 HGd HAns
            go_wp2
            exact bodyPost_end (v := .tuple #[]) (by simp [results, Tryd.results30, go_sem]) rfl hF
          | false =>
            have hmt7 : mm < (v6.js.getD i default).tasks.length := by rw [H6.out.2.2.1]; exact hmt6
            have e7t : ((taskSet (v6.js.getD i default) mm ⟨false, tlabel, tkey, tvalue, tversion, task, true, sure⟩).tasks.getD mm default) = ⟨false, tlabel, tkey, tvalue, tversion, task, true, sure⟩ := set_getD _ _ _ hmt7
            obtain ⟨k8, r8, ⟨y8, hy8⟩, hC8⟩ := (hC7.below (Below.refl _ _).drew).tcell (i := i) (gt := gt) (m := mm) (by show i < v6.jl; rw [H6.out.1]; exact hi) (by show (List.getD (v6.js.set i _) i default).ta = _; rw [e7, H6.out.2.2.1]; exact HEta.out.1) (by show mm < (List.getD (v6.js.set i _) i default).tl; rw [e7, H6.out.2.2.1]; show mm < (v.js.getD i default).tl; rw [HEta.out.2]; omega) 3 (by decide) (.int .i64 value) ⟨false, tlabel, tkey, value, tversion, task, true, sure⟩ (by show _ = (((List.getD (v6.js.set i _) i default).tasks.getD mm default).cells).set 3 _; rw [e7, e7t]; rfl)
            have e8 : ((v6.js.set i (taskSet (v6.js.getD i default) mm ⟨false, tlabel, tkey, tvalue, tversion, task, true, sure⟩)).set i (taskSet (taskSet (v6.js.getD i default) mm ⟨false, tlabel, tkey, tvalue, tversion, task, true, sure⟩) mm ⟨false, tlabel, tkey, value, tversion, task, true, sure⟩)).getD i default = taskSet (taskSet (v6.js.getD i default) mm ⟨false, tlabel, tkey, tvalue, tversion, task, true, sure⟩) mm ⟨false, tlabel, tkey, value, tversion, task, true, sure⟩ := set_getD _ _ _ (by simpa using hi6)
            simp only [e7] at hC8
            have e8t : ((taskSet (taskSet (v6.js.getD i default) mm ⟨false, tlabel, tkey, tvalue, tversion, task, true, sure⟩) mm ⟨false, tlabel, tkey, value, tversion, task, true, sure⟩).tasks.getD mm default) = ⟨false, tlabel, tkey, value, tversion, task, true, sure⟩ := set_getD _ _ _ (by show mm < ((v6.js.getD i default).tasks.set mm _).length; simpa using hmt7)
            obtain ⟨k9, r9, ⟨y9, hy9⟩, hC9⟩ := hC8.tcell (i := i) (gt := gt) (m := mm) (by show i < v6.jl; rw [H6.out.1]; exact hi) (by show (List.getD ((v6.js.set i _).set i _) i default).ta = _; rw [e8, H6.out.2.2.1]; exact HEta.out.1) (by show mm < (List.getD ((v6.js.set i _).set i _) i default).tl; rw [e8, H6.out.2.2.1]; show mm < (v.js.getD i default).tl; rw [HEta.out.2]; omega) 4 (by decide) (.int .i64 version) ⟨false, tlabel, tkey, value, version, task, true, sure⟩ (by show _ = (((List.getD ((v6.js.set i _).set i _) i default).tasks.getD mm default).cells).set 4 _; rw [e8, e8t]; rfl)
            simp only [e8] at hC9
            have hF := HGd.out _ _ _ (taskSet (taskSet (taskSet (v6.js.getD i default) mm ⟨false, tlabel, tkey, tvalue, tversion, task, true, sure⟩) mm ⟨false, tlabel, tkey, value, tversion, task, true, sure⟩) mm ⟨false, tlabel, tkey, value, version, task, true, sure⟩) hC9 (by simp only [List.set_set]) (by rw [HAns.out, if_pos rfl, HBj.out, H6.out.2.2.1]; unfold taskSet; simp only [List.set_set]; rfl)
            clear hC7 hC8 hC9 e7 e8 e7t e8t HGd HAns
            go_upto_region 9 with (fail)
            go_region
            all_goals
              go_wp2
              exact bodyPost_end (v := .tuple #[]) (by simp [results, Tryd.results30, go_sem]) rfl hF
        · have hcode' : (code == 0) = false := by simpa using hcode
          cases write with
          | true =>
            have HJ6 := HJc.out Y6 v6 ix _ HC6.out H6.out.1 H6.out.2.1
            rw [H6.out.2.2.1] at HJ6
            obtain ⟨hj6, zg6⟩ := HJ6
            have hT6 := HC6.out.isTasks (i := i) (by rw [H6.out.1]; exact hi)
            rw [H6.out.2.2.1] at hT6
            have HEd : Hid (Calls Tryd.prog 27 #[.pointer (some ⟨q, 0, none⟩), JbV.val { v.js.getD i default with age := 0 }] Y6 fun e X' => e = .returned (.tuple #[]) ∧ DoneIs w X' B q v (v.tn.answered (v.cx ls) i ⟨kind, frm, dst, site, num, label, key, value, version, ask, yes, code⟩) (.returned (.tuple #[]))) := by
              have h1 := end_done Y6 HC6.out (by rw [H6.out.2.2.2.2.1]; exact HRs0.out) ls { v.js.getD i default with age := 0 } hT6 (by rw [H6.out.2.2.2.2.2]; exact hs) (by rw [H6.out.2.2.2.1]; exact hm) (fun U u iy m' hU => by rw [HV6.out]; exact hL U u iy m' hU)
              refine h1.mono ?_
              rintro e u hu
              obtain ⟨rfl, u', ix', more', g1, g2, g3, g4⟩ := hu
              refine ⟨rfl, rfl, u', ix', more', g1, g2, ?_, ?_⟩
              · rw [g3, HAns.out, if_neg hcode, if_pos rfl, HV6.out, tn_j6 v ls, HBj.out]
                rfl
              · rw [HV6.out] at g4
                exact g4
            obtain ⟨J2, eJ2⟩ : ∃ J2 : JbV, J2 = { v.js.getD i default with age := 0 } := ⟨_, rfl⟩
            rw [← eJ2] at HEd hj6
            obtain ⟨jn, st, ta, tl, tc, aa, al, ac, asks, age, tasks, asked⟩ := J2
            have j0 := (hj6 0 (by decide)).1
            have j1 := (hj6 1 (by decide)).1
            have j2 := (hj6 2 (by decide)).1
            have j3 := (hj6 3 (by decide)).1
            have j4 := (hj6 4 (by decide)).1
            have j5 := (hj6 5 (by decide)).1
            simp only [JbV.cells, List.getElem?_cons_zero, List.getElem?_cons_succ, Nat.add_zero] at j0 j1 j2 j3 j4 j5
            simp only [JbV.val] at HEd
            clear eJ2 hj6 hT6 HGd HAns
            go_wp2_with (go_at_call 27; refine HEd.out.mono ?_; rintro e w9 ⟨rfl, h9⟩)
            exact bodyPost_end (v := .tuple #[]) (by simp [results, Tryd.results30, go_sem]) rfl h9
          | false =>
            have HJ6 := HJc.out Y6 v6 ix _ HC6.out H6.out.1 H6.out.2.1
            rw [H6.out.2.2.1] at HJ6
            obtain ⟨hj6, zg6⟩ := HJ6
            have hT6 := HC6.out.isTasks (i := i) (by rw [H6.out.1]; exact hi)
            rw [H6.out.2.2.1] at hT6
            have htc : mm + 1 ≤ (v.js.getD i default).tc ∧ (v.js.getD i default).tc ≤ maxLen := ⟨by rw [← HEta.out.2]; exact hT6.2.1, hT6.2.2.1⟩
            obtain ⟨k7, r7, ⟨y7, hy7⟩, hC7⟩ := (HC6.out.below (Below.refl _ _).drew).cutTasks (i := i) (g := g) (gt := gt) (n := mm) (by rw [H6.out.1]; exact hi) (by rw [H6.out.2.1]; exact eg) (by rw [H6.out.2.2.1]; exact HEta.out.1) (by rw [H6.out.2.2.1]; show mm ≤ (v.js.getD i default).tl; rw [HEta.out.2]; omega) (by rw [H6.out.2.2.1]; show 0 < (v.js.getD i default).tl; rw [HEta.out.2]; omega)
            have hF := HGd.out _ _ _ (cutJob (v6.js.getD i default) mm) hC7 rfl (by rw [HAns.out, if_neg hcode, if_neg (by simp), HBj.out, H6.out.2.2.1]; rfl)
            rw [H6.out.2.2.1] at hF
            have j2 := (hj6 2 (by decide)).1
            have jf2 := (hj6 2 (by decide)).2
            simp only [JbV.cells, List.getElem?_cons_zero, List.getElem?_cons_succ] at j2
            rw [HEta.out.1, HEta.out.2] at j2
            simp only [] at hF
            obtain ⟨tc, etc⟩ : ∃ tc, tc = (v.js.getD i default).tc := ⟨_, rfl⟩
            rw [← etc] at hF j2 htc
            obtain ⟨htc1, htc2⟩ := htc
            unfold maxLen at htc2
            have hsub : ((mm + 1 : Nat) : Int) - 1 = (mm : Int) := by omega
            have hne : ¬ tc = 0 := by omega
            clear etc hj6 hT6 HGd HAns hC7
            go_upto_region 5 with (fail)
            go_region
            all_goals
              go_wp2
              exact bodyPost_end (v := .tuple #[]) (by simp [results, Tryd.results30, go_sem]) rfl hF
end Go.Proofs.YtdjnaahkcnklhabDoor.Co
