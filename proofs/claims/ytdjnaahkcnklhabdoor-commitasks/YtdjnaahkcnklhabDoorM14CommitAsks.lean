/- Texts of this claim, one behind the other. -/
import Derived.Test.YtdjnaahkcnklhabDoorM13CommitAsks
/- The contracts of the clerk's write and home. -/
namespace Go.Proofs.YtdjnaahkcnklhabDoor.Co
open Go.ChangeShapes Go.WideShapes Go.ChangeAt Go.RowKit
open Go.Proofs.YtdjnaahkcnklhabDoor.St (BoxN boxn_new own_below grown_setCell IsRow Elem flat flat_append own_isRow)
set_option linter.unusedVariables false

def RcV.val (r : RcV) : Value := .agg #[.int .i64 r.kind, .int .i64 r.site, .int .i64 r.num, .int .i64 r.key, .int .i64 r.value, .int .i64 r.ask, .bool r.yes, .slice r.sa r.sl r.sc]
theorem rc_len (m : RcV) : (RcV.cells m).length = 8 := rfl
theorem rc_one (y : RcV) : ∀ u ∈ y.cells, u.oneCell' = true := by
  intro u hu
  simp only [RcV.cells, List.mem_cons, List.not_mem_nil, or_false] at hu
  rcases hu with rfl | rfl | rfl | rfl | rfl | rfl | rfl | rfl <;> rfl
theorem rcInfo : (Tryd.prog.info? 96).map (fun i => (i.zero, i.size, i.bytes)) = some (some (.agg #[.int .i64 0, .int .i64 0, .int .i64 0, .int .i64 0, .int .i64 0, .int .i64 0, .bool false, .slice none 0 0]), 8, 80) := by kernel_rfl
theorem rcElem : ∃ i, Elem 8 RcV.cells 96 31 i (.agg #[.int .i64 0, .int .i64 0, .int .i64 0, .int .i64 0, .int .i64 0, .int .i64 0, .bool false, .slice none 0 0]) 80 := by
  obtain ⟨j0, hj, lj0, lj1, lj2⟩ := info_parts rcInfo
  exact ⟨j0, rc_len, by decide, rc_one, Tryd.underlying31, hj, lj0, lj1, lj2, rfl⟩
theorem Clerk.rcd {w X X' : World} {B q : Nat} {v : CkV} {ix : List (Nat × Nat)} {more : List Rw} (h : Clerk w X B q v ix more) {a5 : Option Addr} {c5 : Nat} {r : RcV} (hg : X.grownBy X' (Value.slice v.ra v.rl v.rc).ownBlock) (ho : X'.ownsRow B 96 8 (.slice a5 (v.rl + 1) c5) (v.rl + 1) (flat RcV.cells (v.rs ++ [r]))) (hat : (Value.slice a5 (v.rl + 1) c5).ownBlock = (Value.slice v.ra v.rl v.rc).ownBlock ∨ (Value.slice a5 (v.rl + 1) c5).ownBlock = some X.heap.size) :
    Clerk w (X'.setCell ⟨q, 8, none⟩ (.slice a5 (v.rl + 1) c5)) B q { v with ra := a5, rl := v.rl + 1, rc := c5, rs := v.rs ++ [r] } ix more := by
  have h1 := h.held.grow (i := 2) (r := ⟨96, 8, .slice v.ra v.rl v.rc, v.rl, flat RcV.cells v.rs⟩) (r' := ⟨96, 8, .slice a5 (v.rl + 1) c5, v.rl + 1, flat RcV.cells (v.rs ++ [r])⟩) rfl hg ho hat
  have h2 := h1.tell 8 (by decide) (.slice a5 (v.rl + 1) c5)
  exact ⟨h2, h.jobs, h.lens.1, h.lens.2.1, by simp [h.lens.2.2.1], h.lens.2.2.2⟩
set_option maxRecDepth 100000 in
set_option maxHeartbeats 4000000 in
theorem write_any {w : World} {B q : Nat} {v : CkV} {ix : List (Nat × Nat)} {more : List Rw} (X : World) (h : Clerk w X B q v ix more) (r : RcV) (hn : (v.rl + 1) * 80 ≤ 140737488355328) :
    Calls Tryd.prog 42 #[.pointer (some ⟨q, 0, none⟩), r.val] X fun e X' => e = .returned (.tuple #[]) ∧ ∃ a5 c5, Clerk w X' B q { v with ra := a5, rl := v.rl + 1, rc := c5, rs := v.rs ++ [r] } ix more := by
  obtain ⟨iR, ER⟩ := rcElem
  obtain ⟨kind, site, num, key, value, ask, yes, sa, sl, sc, zs⟩ := r
  simp only [RcV.val]
  obtain ⟨U, eU⟩ : ∃ U : World, U = ((X.alloc (.cells #[.int .i64 kind, .int .i64 site, .int .i64 num, .int .i64 key, .int .i64 value, .int .i64 ask, .bool yes, .slice sa sl sc] 96)).alloc (.cells #[.int .i64 kind, .int .i64 site, .int .i64 num, .int .i64 key, .int .i64 value, .int .i64 ask, .bool yes, .slice sa sl sc] 96)).drew := ⟨_, rfl⟩
  have bU : Below X.heap.size X U := by rw [eU]; exact (((Below.refl _ _).alloc (Nat.le_refl _) _).alloc (by simp) _).drew
  have hU := h.below bU
  have hone : IsRow 8 RcV.cells U (some ⟨X.heap.size + 1, 0, none⟩) 1 1 [(⟨kind, site, num, key, value, ask, yes, sa, sl, sc, zs⟩ : RcV)] := by
    rw [eU]
    have := rowOne (cells := RcV.cells) (k := 8) (X.alloc (.cells #[.int .i64 kind, .int .i64 site, .int .i64 num, .int .i64 key, .int .i64 value, .int .i64 ask, .bool yes, .slice sa sl sc] 96)) #[.int .i64 kind, .int .i64 site, .int .i64 num, .int .i64 key, .int .i64 value, .int .i64 ask, .bool yes, .slice sa sl sc] 96 (⟨kind, site, num, key, value, ask, yes, sa, sl, sc, zs⟩ : RcV) rfl rfl
    refine St.IsRow.below (w := (X.alloc (.cells #[.int .i64 kind, .int .i64 site, .int .i64 num, .int .i64 key, .int .i64 value, .int .i64 ask, .bool yes, .slice sa sl sc] 96)).alloc (.cells #[.int .i64 kind, .int .i64 site, .int .i64 num, .int .i64 key, .int .i64 value, .int .i64 ask, .bool yes, .slice sa sl sc] 96)) ?_ (Below.refl _ _).drew
    simpa using this
  have ownU := hU.held.own.own 2 ⟨96, 8, .slice v.ra v.rl v.rc, v.rl, flat RcV.cells v.rs⟩ rfl
  simp only [] at ownU
  have hap := hU.held.apart 2 ⟨96, 8, .slice v.ra v.rl v.rc, v.rl, flat RcV.cells v.rs⟩ rfl
  have bx := h.held.box
  have q8 : X.cell? ⟨q, 8, none⟩ = some (.slice v.ra v.rl v.rc) := (bx.c 8 (by decide)).1
  have zq := bx.lt
  have hB : B ≤ U.heap.size := Nat.le_trans h.held.le (Nat.le_of_lt (Nat.lt_of_lt_of_le zq bU.size))
  have HU : Hid (Clerk w U B q v ix more) := hU
  clear bx hU h
  go_enter Tryd.func42, Tryd.ntmps42
  go_upto_region 1 with (fail)
  go_region_law (rw [← eU]; refine St.step_append_row ER (by rfl) (.tmp 9) (.tmp 11) (by rfl) B (.slice v.ra v.rl v.rc) v.rl v.rs (by rfl) ownU _ 1 1 [(⟨kind, site, num, key, value, ask, yes, sa, sl, sc, zs⟩ : RcV)] (by rfl) hone (by unfold maxLen; omega) (by omega) hB ?_; intro a5 c5 w5 own5 gr5 at5; have bq := HU.out.held.box.grown gr5 (fun e => hap e.symm); have p8 : w5.cell? ⟨q, 8, none⟩ = some (.slice v.ra v.rl v.rc) := (bq.c 8 (by decide)).1; have pf8 := (bq.c 8 (by decide)).2; have zq5 := bq.lt)
  all_goals
    go_wp2
    exact bodyPost_end (v := .tuple #[]) (by simp [results, Tryd.results42, go_sem]) rfl ⟨rfl, a5, c5, HU.out.rcd gr5 own5 at5⟩
theorem clerkHome_any {w : World} {B q : Nat} {v : CkV} {ix : List (Nat × Nat)} {more : List Rw} (X : World) (h : Clerk w X B q v ix more) (ls : List (Int × Int)) (hl : IsLabs X v.a v.len v.cap ls) (key : Int) :
    Calls Tryd.prog 50 #[.pointer (some ⟨q, 0, none⟩), .int .i64 key] X fun e X' => e = .returned (.int .i64 (homeNum v.s ls v.p key)) ∧ Below X.heap.size X X' := by
  have hH := home_any v.s v.p v.a v.len v.cap ls key X hl
  have bx := h.held.box
  have q0 : X.cell? ⟨q, 0, none⟩ = some (.int .i64 v.s) := (bx.c 0 (by decide)).1
  have q1 : X.cell? ⟨q, 1, none⟩ = some (.slice v.a v.len v.cap) := (bx.c 1 (by decide)).1
  have q2 : X.cell? ⟨q, 2, none⟩ = some (.int .i64 v.p) := (bx.c 2 (by decide)).1
  have zq := bx.lt
  clear bx h
  go_enter Tryd.func50, Tryd.ntmps50
  go_wp2_with (go_at_call 73; refine hH.mono ?_; rintro e w1 ⟨rfl, hb1⟩)
  go_ret
  exact ⟨rfl, hb1⟩
end Go.Proofs.YtdjnaahkcnklhabDoor.Co
/- coord.waiting; coord.isSure, isUnsure, isWrite; coord.hands and what it asks. -/
namespace Go.Proofs.YtdjnaahkcnklhabDoor.Co
open Go.ChangeShapes Go.WideShapes Go.ChangeAt Go.RowKit
open Go.Proofs.YtdjnaahkcnklhabDoor.St (BoxN boxn_new own_below grown_setCell IsRow Elem flat flat_append own_isRow idxI idxI_lt own_setk)
set_option linter.unusedVariables false

/-- The task that is waited for, if there is one: the last one. -/
def waitB (j : JbV) : Bool := decide (0 < j.tasks.length) && !(j.tasks.getD (j.tasks.length - 1) default).done
def WaitIs (e : Ending) (j : JbV) : Prop :=
  (waitB j = false ∧ e = .returned (.pointer none)) ∨ (waitB j = true ∧ ∃ gt m : Nat, j.ta = some ⟨gt, 0, none⟩ ∧ j.tl = m + 1 ∧ e = .returned (.pointer (some ⟨gt, m * 8, none⟩)))
set_option maxRecDepth 100000 in
set_option maxHeartbeats 2000000 in
theorem waiting_any {w : World} {B q : Nat} {v : CkV} {ix : List (Nat × Nat)} {more : List Rw} (X : World) (h : Clerk w X B q v ix more) {i g : Nat} (hi : i < v.jl) (eg : v.ja = some ⟨g, 0, none⟩) :
    Calls Tryd.prog 46 #[.pointer (some ⟨g, i * 6, none⟩)] X fun e X' => WaitIs e (v.js.getD i default) ∧ X' = X := by
  obtain ⟨g', eg', _, zg, _, hc, _⟩ := h.jobAt hi
  rw [eg] at eg'
  simp at eg'
  subst eg'
  have hT := h.isTasks hi
  have hown := (h.tasksAt hi).1
  obtain ⟨j, ej⟩ : ∃ j, j = v.js.getD i default := ⟨_, rfl⟩
  rw [← ej] at hc hT hown ⊢
  clear ej
  have HW : Hid (∀ e, WaitIs e j ↔ WaitIs e j) := fun e => Iff.rfl
  obtain ⟨jn, st, ta, tl, tc, aa, al, ac, asks, age, tasks, asked⟩ := j
  have c2 := hc 2 (by decide)
  simp [JbV.cells] at c2
  have htl : tasks.length = tl := hT.1
  have hmx : tl ≤ tc ∧ tc ≤ maxLen := ⟨hT.2.1, hT.2.2.1⟩
  unfold maxLen at hmx
  clear hc h
  cases tl with
  | zero =>
    have hw : Hid (waitB ⟨jn, st, ta, 0, tc, aa, al, ac, asks, age, tasks, asked⟩ = false) := by show _ = _; unfold waitB; simp [htl]
    clear htl hT hown
    go_enter Tryd.func46, Tryd.ntmps46
    go_wp2
    go_ret
    exact ⟨Or.inl ⟨hw.out, rfl⟩, rfl⟩
  | succ m =>
    obtain ⟨gt, e1, _, zt⟩ := own_spot hown (Nat.succ_pos m)
    obtain ⟨b, off, e2, _, hcT⟩ := hT.2.2.2.2 (Nat.succ_pos m)
    simp only [] at e1 e2
    rw [e1] at e2
    simp at e2
    obtain ⟨rfl, rfl⟩ := e2
    subst e1
    have c6 := hcT m (by simp) 6 (by decide)
    have hm : ((m + 1 : Nat) : Int) - 1 = (m : Int) := by omega
    have hm0 : ¬ (m : Int) < 0 := by omega
    have hm1 : (m : Int) < ((m + 1 : Nat) : Int) := by omega
    obtain ⟨t, et⟩ : ∃ t, t = tasks.getD m default := ⟨_, rfl⟩
    rw [← et] at c6
    have hwb : waitB ⟨jn, st, some ⟨gt, 0, none⟩, m + 1, tc, aa, al, ac, asks, age, tasks, asked⟩ = !t.done := by
      unfold waitB
      simp only [htl]
      rw [et]
      simp
    have HWB : Hid (waitB ⟨jn, st, some ⟨gt, 0, none⟩, m + 1, tc, aa, al, ac, asks, age, tasks, asked⟩ = !t.done) := hwb
    clear hwb et hcT htl hT hown HW
    obtain ⟨write, label, key, value, version, ask, done, sure⟩ := t
    simp [TkV.cells] at c6
    cases done with
    | true =>
      go_enter Tryd.func46, Tryd.ntmps46
      go_wp2
      go_ret
      exact ⟨Or.inl ⟨HWB.out, rfl⟩, rfl⟩
    | false =>
      go_enter Tryd.func46, Tryd.ntmps46
      go_wp2
      go_ret
      exact ⟨Or.inr ⟨HWB.out, gt, m, rfl, rfl, rfl⟩, rfl⟩
theorem isUnsure_any (t : TkV) (w : World) : Calls Tryd.prog 53 #[t.val] w fun e w' => e = .returned (.bool (!t.write && !t.sure)) ∧ Below w.heap.size w w' := by
  obtain ⟨write, label, key, value, version, ask, done, sure⟩ := t
  simp only [TkV.val]
  have hA : ∀ o, Below w.heap.size w (w.alloc o) := fun o => (Below.refl _ _).alloc (Nat.le_refl _) _
  cases write <;> cases sure
  all_goals
    go_enter Tryd.func53, Tryd.ntmps53
    go_wp2
    go_ret
    exact ⟨rfl, hA _⟩
theorem isWrite_any (t : TkV) (w : World) : Calls Tryd.prog 74 #[t.val] w fun e w' => e = .returned (.bool t.write) ∧ Below w.heap.size w w' := by
  obtain ⟨write, label, key, value, version, ask, done, sure⟩ := t
  simp only [TkV.val]
  have hA : ∀ o, Below w.heap.size w (w.alloc o) := fun o => (Below.refl _ _).alloc (Nat.le_refl _) _
  go_enter Tryd.func74, Tryd.ntmps74
  go_wp2
  go_ret
  exact ⟨rfl, hA _⟩
theorem isWrite_asks (w : World) : Asks 74 #[] TkV.val (fun t => t.write) w := ⟨enters_of Tryd.func74 (by kernel_rfl) rfl, fun x w' _ => by simpa using isWrite_any x w'⟩
theorem isUnsure_asks (w : World) : Asks 53 #[] TkV.val (fun t => !t.write && !t.sure) w := ⟨enters_of Tryd.func53 (by kernel_rfl) rfl, fun x w' _ => by simpa using isUnsure_any x w'⟩
def allSure (ts : List TkV) : Bool := !(ts.any fun t => !t.write && !t.sure)
theorem isSure_any (a : Option Addr) (n c : Nat) (ts : List TkV) (w : World) (h : IsTasks w a n c ts) : Calls Tryd.prog 51 #[.slice a n c] w fun e w' => e = .returned (.bool (allSure ts)) ∧ Below w.heap.size w w' := by
  have hC := fun U h1 h2 => containsTask_any 53 #[] (fun t => !t.write && !t.sure) a n c ts U h1 h2
  unfold allSure
  obtain ⟨R, eR⟩ : ∃ R, R = ts.any fun t => !t.write && !t.sure := ⟨_, rfl⟩
  rw [← eR] at hC ⊢
  clear eR
  go_enter Tryd.func51, Tryd.ntmps51
  go_wp2_with (go_at_call 61; refine (hC _ h (isUnsure_asks _)).mono ?_; rintro e w1 ⟨rfl, hb1⟩)
  go_ret
  exact ⟨rfl, hb1⟩
end Go.Proofs.YtdjnaahkcnklhabDoor.Co
/- What the clerk's hands asks of a task; and the sites that have a hand in a transaction. -/
namespace Go.Proofs.YtdjnaahkcnklhabDoor.Co
open Go.ChangeShapes Go.WideShapes Go.ChangeAt Go.RowKit
open Go.Proofs.YtdjnaahkcnklhabDoor.St (BoxN boxn_new own_below grown_setCell IsRow Elem flat flat_append own_isRow idxI idxI_lt own_setk)
set_option linter.unusedVariables false

theorem nT {w u v : World} (h : Below w.heap.size w u) (h2 : Below u.heap.size u v) : Below w.heap.size w v := h.trans (h2.mono h.size)
/-- Has the task left something at that site? -/
def handAt (s : Int) (ls : List (Int × Int)) (p l site : Int) (t : TkV) : Bool := (t.label == l) && (homeNum s ls p t.key == site)
set_option maxRecDepth 100000 in
set_option maxHeartbeats 4000000 in
theorem hand_asks {w : World} {B q : Nat} {v : CkV} {ix : List (Nat × Nat)} {more : List Rw} (X : World) (h : Clerk w X B q v ix more) (ls : List (Int × Int)) (hl : IsLabs X v.a v.len v.cap ls) (bK bS : Nat) (site : Int) (cK : X.cell? ⟨bK, 0, none⟩ = some (.pointer (some ⟨q, 0, none⟩))) (zK : bK < X.heap.size) (cS : X.cell? ⟨bS, 0, none⟩ = some (.int .i64 site)) (zS : bS < X.heap.size) :
    Asks 75 #[.pointer (some ⟨bK, 0, none⟩), .pointer (some ⟨bS, 0, none⟩)] TkV.val (handAt v.s ls v.p v.l site) X := by
  refine ⟨enters_of Tryd.func75 (by kernel_rfl) rfl, fun x Y hb => ?_⟩
  have hY := h.below hb
  have hlY := hl.below hb
  have cK := (hb.cell (p := ⟨bK, 0, none⟩) zK).trans cK
  have cS := (hb.cell (p := ⟨bS, 0, none⟩) zS).trans cS
  have zK := Nat.lt_of_lt_of_le zK hb.size
  have zS := Nat.lt_of_lt_of_le zS hb.size
  have zq := hY.held.box.lt
  obtain ⟨write, label, key, value, version, ask, done, sure⟩ := x
  have HH : Hid (∀ U, Below Y.heap.size Y U → Calls Tryd.prog 50 #[.pointer (some ⟨q, 0, none⟩), .int .i64 key] U fun e U' => e = .returned (.int .i64 (homeNum v.s ls v.p key)) ∧ Below U.heap.size U U') := fun U hU => clerkHome_any U (hY.below hU) ls (hlY.below hU) key
  have q3 : Y.cell? ⟨q, 3, none⟩ = some (.int .i64 v.l) := (hY.held.box.c 3 (by decide)).1
  have HP : Hid (handAt v.s ls v.p v.l site ⟨write, label, key, value, version, ask, done, sure⟩ = ((label == v.l) && (homeNum v.s ls v.p key == site))) := rfl
  obtain ⟨H, eH⟩ : ∃ H, H = homeNum v.s ls v.p key := ⟨_, rfl⟩
  rw [← eH] at HH HP
  obtain ⟨R, eR⟩ : ∃ R, R = handAt v.s ls v.p v.l site ⟨write, label, key, value, version, ask, done, sure⟩ := ⟨_, rfl⟩
  rw [← eR] at HP ⊢
  clear eH eR h hl hY hlY hb
  obtain ⟨VL, eVL⟩ : ∃ x, x = v.l := ⟨_, rfl⟩
  rw [← eVL] at q3 HP
  clear eVL
  simp only [TkV.val]
  obtain ⟨W, hW⟩ : ∃ W : World, W = Y.alloc (.cells #[.bool write, .int .i64 label, .int .i64 key, .int .i64 value, .int .i64 version, .int .i64 ask, .bool done, .bool sure] 87) := ⟨_, rfl⟩
  have bW : Below Y.heap.size Y W := by rw [hW]; exact (Below.refl _ _).alloc (Nat.le_refl _) _
  have t1 : W.cell? ⟨Y.heap.size, 1, none⟩ = some (.int .i64 label) := by rw [hW]; go_simp
  have t2 : W.cell? ⟨Y.heap.size, 2, none⟩ = some (.int .i64 key) := by rw [hW]; go_simp
  have zW : Y.heap.size < W.heap.size := by rw [hW]; simp
  have KC : Hid (∀ U, Below W.heap.size W U → (U.cell? ⟨Y.heap.size, 1, none⟩ = some (.int .i64 label) ∧ U.cell? ⟨Y.heap.size, 2, none⟩ = some (.int .i64 key)) ∧ U.cell? ⟨bK, 0, none⟩ = some (.pointer (some ⟨q, 0, none⟩)) ∧ U.cell? ⟨bS, 0, none⟩ = some (.int .i64 site) ∧ U.cell? ⟨q, 3, none⟩ = some (.int .i64 VL)) := fun U hU => by
    have hv := bW.trans (hU.mono bW.size)
    exact ⟨⟨(hU.cell (p := ⟨Y.heap.size, 1, none⟩) zW).trans t1, (hU.cell (p := ⟨Y.heap.size, 2, none⟩) zW).trans t2⟩, (hv.cell (p := ⟨bK, 0, none⟩) zK).trans cK, (hv.cell (p := ⟨bS, 0, none⟩) zS).trans cS, (hv.cell (p := ⟨q, 3, none⟩) zq).trans q3⟩
  show Calls Tryd.prog 75 #[_, .pointer (some ⟨bK, 0, none⟩), .pointer (some ⟨bS, 0, none⟩)] Y _
  go_enter Tryd.func75, Tryd.ntmps75
  go_upto_region 1 with (fail)
  rw [← hW]
  clear hW t1 t2
  by_cases hlb : label = VL
  · have EB : Hid ((label == VL) = true) := by show _ = _; simpa using hlb
    have hf : Hid (R = (H == site)) := by show _ = _; rw [HP.out, EB.out]; rfl
    clear HP hlb
    refine wp_region_inv (by kernel_rfl) [5, 6, 7, 8, 9, 10, 11, 12, 13, 14, 15, 16, 17, 18, 19, 4] (fun L T u => Below W.heap.size W u ∧ (L 0 = true → T 5 = .pointer (some ⟨Y.heap.size, 1, none⟩)) ∧ (L 1 = true → T 6 = .int .i64 label) ∧ (L 2 = true → T 7 = .pointer (some ⟨q, 0, none⟩)) ∧ (L 3 = true → T 8 = .pointer (some ⟨q, 0, none⟩)) ∧ (L 4 = true → T 9 = .pointer (some ⟨q, 3, none⟩)) ∧ (L 5 = true → T 10 = .int .i64 VL) ∧ (L 6 = true → T 11 = .bool true) ∧ (L 7 = true → T 12 = .bool true) ∧ (L 8 = true → T 13 = .pointer (some ⟨q, 0, none⟩)) ∧ (L 9 = true → T 14 = .pointer (some ⟨Y.heap.size, 2, none⟩)) ∧ (L 10 = true → T 15 = .int .i64 key) ∧ (L 11 = true → T 16 = .int .i64 H) ∧ (L 12 = true → T 17 = .int .i64 site) ∧ (L 13 = true → T 18 = .bool (H == site)) ∧ (L 14 = true → T 19 = .bool (H == site)) ∧ (L 15 = true → T 4 = .bool (H == site))) (by decide) (by kernel_rfl) (by kernel_rfl) ?_ ?_ ?_
    · exact ⟨(Below.refl _ _).drew, nofun, nofun, nofun, nofun, nofun, nofun, nofun, nofun, nofun, nofun, nofun, nofun, nofun, nofun, nofun, nofun⟩
    · refine ⟨?_, ?_, ?_, ?_, ?_, ?_, ?_, ?_, ?_, ?_, ?_, ?_, ?_, ?_, ?_, ?_, trivial⟩
      · rintro L T u hd hk hcl ⟨hb, p0, p1, p2, p3, p4, p5, p6, p7, p8, p9, p10, p11, p12, p13, p14, p15⟩ K hK
        simp only [fr, Act.put, List.setIfInBounds_toArray, List.set_cons_zero, List.set_cons_succ, updO] at hK ⊢
        simp [Region.binds] at hd
        rw [if_pos (by first | rfl | simp [Region.wanted, yielded, gw])]
        simp only [Oper.wpv]
        go_simp
        exact hK _ _ ⟨hb, fun _ => rfl, p1, p2, p3, p4, p5, p6, p7, p8, p9, p10, p11, p12, p13, p14, p15⟩
      · rintro L T u hd hk hcl ⟨hb, p0, p1, p2, p3, p4, p5, p6, p7, p8, p9, p10, p11, p12, p13, p14, p15⟩ K hK
        simp only [fr, Act.put, List.setIfInBounds_toArray, List.set_cons_zero, List.set_cons_succ, updO] at hK ⊢
        simp [Region.binds] at hd
        have g0 := p0 (by simp [hd])
        obtain ⟨⟨x1, x2⟩, xK, xS, x3⟩ := KC.out u hb
        rw [if_pos (by first | rfl | simp [Region.wanted, yielded, gw])]
        simp only [Oper.wpv]
        go_simp
        exact hK _ _ ⟨hb, p0, fun _ => rfl, p2, p3, p4, p5, p6, p7, p8, p9, p10, p11, p12, p13, p14, p15⟩
      · rintro L T u hd hk hcl ⟨hb, p0, p1, p2, p3, p4, p5, p6, p7, p8, p9, p10, p11, p12, p13, p14, p15⟩ K hK
        simp only [fr, Act.put, List.setIfInBounds_toArray, List.set_cons_zero, List.set_cons_succ, updO] at hK ⊢
        simp [Region.binds] at hd
        obtain ⟨⟨x1, x2⟩, xK, xS, x3⟩ := KC.out u hb
        rw [if_pos (by first | rfl | simp [Region.wanted, yielded, gw])]
        simp only [Oper.wpv]
        go_simp
        exact hK _ _ ⟨hb, p0, p1, fun _ => rfl, p3, p4, p5, p6, p7, p8, p9, p10, p11, p12, p13, p14, p15⟩
      · rintro L T u hd hk hcl ⟨hb, p0, p1, p2, p3, p4, p5, p6, p7, p8, p9, p10, p11, p12, p13, p14, p15⟩ K hK
        simp only [fr, Act.put, List.setIfInBounds_toArray, List.set_cons_zero, List.set_cons_succ, updO] at hK ⊢
        simp [Region.binds] at hd
        have g2 := p2 (by simp [hd])
        rw [if_pos (by first | rfl | simp [Region.wanted, yielded, gw])]
        simp only [Oper.wpv]
        go_simp
        exact hK _ _ ⟨hb, p0, p1, p2, fun _ => rfl, p4, p5, p6, p7, p8, p9, p10, p11, p12, p13, p14, p15⟩
      · rintro L T u hd hk hcl ⟨hb, p0, p1, p2, p3, p4, p5, p6, p7, p8, p9, p10, p11, p12, p13, p14, p15⟩ K hK
        simp only [fr, Act.put, List.setIfInBounds_toArray, List.set_cons_zero, List.set_cons_succ, updO] at hK ⊢
        simp [Region.binds] at hd
        have g3 := p3 (by simp [hd])
        rw [if_pos (by first | rfl | simp [Region.wanted, yielded, gw])]
        simp only [Oper.wpv]
        go_simp
        exact hK _ _ ⟨hb, p0, p1, p2, p3, fun _ => rfl, p5, p6, p7, p8, p9, p10, p11, p12, p13, p14, p15⟩
      · rintro L T u hd hk hcl ⟨hb, p0, p1, p2, p3, p4, p5, p6, p7, p8, p9, p10, p11, p12, p13, p14, p15⟩ K hK
        simp only [fr, Act.put, List.setIfInBounds_toArray, List.set_cons_zero, List.set_cons_succ, updO] at hK ⊢
        simp [Region.binds] at hd
        have g4 := p4 (by simp [hd])
        obtain ⟨⟨x1, x2⟩, xK, xS, x3⟩ := KC.out u hb
        rw [if_pos (by first | rfl | simp [Region.wanted, yielded, gw])]
        simp only [Oper.wpv]
        go_simp
        exact hK _ _ ⟨hb, p0, p1, p2, p3, p4, fun _ => rfl, p6, p7, p8, p9, p10, p11, p12, p13, p14, p15⟩
      · rintro L T u hd hk hcl ⟨hb, p0, p1, p2, p3, p4, p5, p6, p7, p8, p9, p10, p11, p12, p13, p14, p15⟩ K hK
        simp only [fr, Act.put, List.setIfInBounds_toArray, List.set_cons_zero, List.set_cons_succ, updO] at hK ⊢
        simp [Region.binds] at hd
        have g1 := p1 (by simp [hd])
        have g5 := p5 (by simp [hd])
        have eb := EB.out
        rw [if_pos (by first | rfl | simp [Region.wanted, yielded, gw])]
        simp only [Oper.wpv]
        go_simp
        exact hK _ _ ⟨hb, p0, p1, p2, p3, p4, p5, fun _ => rfl, p7, p8, p9, p10, p11, p12, p13, p14, p15⟩
      · rintro L T u hd hk hcl ⟨hb, p0, p1, p2, p3, p4, p5, p6, p7, p8, p9, p10, p11, p12, p13, p14, p15⟩ K hK
        simp only [fr, Act.put, List.setIfInBounds_toArray, List.set_cons_zero, List.set_cons_succ, updO] at hK ⊢
        simp [Region.binds] at hd
        have g6 := p6 (by simp [hd])
        rw [if_pos (by first | rfl | simp [Region.wanted, yielded, gw])]
        simp only [Oper.wpv]
        go_simp
        exact hK _ _ ⟨hb, p0, p1, p2, p3, p4, p5, p6, fun _ => rfl, p8, p9, p10, p11, p12, p13, p14, p15⟩
      · rintro L T u hd hk hcl ⟨hb, p0, p1, p2, p3, p4, p5, p6, p7, p8, p9, p10, p11, p12, p13, p14, p15⟩ K hK
        simp only [fr, Act.put, List.setIfInBounds_toArray, List.set_cons_zero, List.set_cons_succ, updO] at hK ⊢
        simp [Region.binds] at hd
        have hwt : L 7 = true := by simp [hd]
        have gw := p7 hwt
        obtain ⟨⟨x1, x2⟩, xK, xS, x3⟩ := KC.out u hb
        rw [if_pos (by first | rfl | simp [Region.wanted, yielded, gw])]
        simp only [Oper.wpv]
        go_simp
        exact hK _ _ ⟨hb, p0, p1, p2, p3, p4, p5, p6, p7, fun _ => rfl, p9, p10, p11, p12, p13, p14, p15⟩
      · rintro L T u hd hk hcl ⟨hb, p0, p1, p2, p3, p4, p5, p6, p7, p8, p9, p10, p11, p12, p13, p14, p15⟩ K hK
        simp only [fr, Act.put, List.setIfInBounds_toArray, List.set_cons_zero, List.set_cons_succ, updO] at hK ⊢
        simp [Region.binds] at hd
        have hwt : L 7 = true := by simp [hd]
        have gw := p7 hwt
        rw [if_pos (by first | rfl | simp [Region.wanted, yielded, gw])]
        simp only [Oper.wpv]
        go_simp
        exact hK _ _ ⟨hb, p0, p1, p2, p3, p4, p5, p6, p7, p8, fun _ => rfl, p10, p11, p12, p13, p14, p15⟩
      · rintro L T u hd hk hcl ⟨hb, p0, p1, p2, p3, p4, p5, p6, p7, p8, p9, p10, p11, p12, p13, p14, p15⟩ K hK
        simp only [fr, Act.put, List.setIfInBounds_toArray, List.set_cons_zero, List.set_cons_succ, updO] at hK ⊢
        simp [Region.binds] at hd
        have hwt : L 7 = true := by simp [hd]
        have gw := p7 hwt
        have g9 := p9 (by simp [hd])
        obtain ⟨⟨x1, x2⟩, xK, xS, x3⟩ := KC.out u hb
        rw [if_pos (by first | rfl | simp [Region.wanted, yielded, gw])]
        simp only [Oper.wpv]
        go_simp
        exact hK _ _ ⟨hb, p0, p1, p2, p3, p4, p5, p6, p7, p8, p9, fun _ => rfl, p11, p12, p13, p14, p15⟩
      · rintro L T u hd hk hcl ⟨hb, p0, p1, p2, p3, p4, p5, p6, p7, p8, p9, p10, p11, p12, p13, p14, p15⟩ K hK
        simp only [fr, Act.put, List.setIfInBounds_toArray, List.set_cons_zero, List.set_cons_succ, updO] at hK ⊢
        simp [Region.binds] at hd
        have hwt : L 7 = true := by simp [hd]
        have gw := p7 hwt
        have g8 := p8 (by simp [hd])
        have g10 := p10 (by simp [hd])
        rw [if_pos (by first | rfl | simp [Region.wanted, yielded, gw])]
        simp only [Oper.wpv]
        go_simp
        refine (HH.out _ (bW.trans (hb.mono bW.size))).mono ?_
        rintro e u1 ⟨rfl, hg⟩
        exact hK _ _ ⟨(nT hb hg), p0, p1, p2, p3, p4, p5, p6, p7, p8, p9, p10, fun _ => rfl, p12, p13, p14, p15⟩
      · rintro L T u hd hk hcl ⟨hb, p0, p1, p2, p3, p4, p5, p6, p7, p8, p9, p10, p11, p12, p13, p14, p15⟩ K hK
        simp only [fr, Act.put, List.setIfInBounds_toArray, List.set_cons_zero, List.set_cons_succ, updO] at hK ⊢
        simp [Region.binds] at hd
        have hwt : L 7 = true := by simp [hd]
        have gw := p7 hwt
        obtain ⟨⟨x1, x2⟩, xK, xS, x3⟩ := KC.out u hb
        rw [if_pos (by first | rfl | simp [Region.wanted, yielded, gw])]
        simp only [Oper.wpv]
        go_simp
        exact hK _ _ ⟨hb, p0, p1, p2, p3, p4, p5, p6, p7, p8, p9, p10, p11, fun _ => rfl, p13, p14, p15⟩
      · rintro L T u hd hk hcl ⟨hb, p0, p1, p2, p3, p4, p5, p6, p7, p8, p9, p10, p11, p12, p13, p14, p15⟩ K hK
        simp only [fr, Act.put, List.setIfInBounds_toArray, List.set_cons_zero, List.set_cons_succ, updO] at hK ⊢
        simp [Region.binds] at hd
        have hwt : L 7 = true := by simp [hd]
        have gw := p7 hwt
        have g11 := p11 (by simp [hd])
        have g12 := p12 (by simp [hd])
        rw [if_pos (by first | rfl | simp [Region.wanted, yielded, gw])]
        simp only [Oper.wpv]
        go_simp
        exact hK _ _ ⟨hb, p0, p1, p2, p3, p4, p5, p6, p7, p8, p9, p10, p11, p12, fun _ => rfl, p14, p15⟩
      · rintro L T u hd hk hcl ⟨hb, p0, p1, p2, p3, p4, p5, p6, p7, p8, p9, p10, p11, p12, p13, p14, p15⟩ K hK
        simp only [fr, Act.put, List.setIfInBounds_toArray, List.set_cons_zero, List.set_cons_succ, updO] at hK ⊢
        simp [Region.binds] at hd
        have g7 := p7 (by simp [hd])
        have g13 := p13 (by simp [hd])
        rw [if_pos (by first | rfl | simp [Region.wanted, yielded, gw])]
        simp only [Oper.wpv]
        go_simp
        exact hK _ _ ⟨hb, p0, p1, p2, p3, p4, p5, p6, p7, p8, p9, p10, p11, p12, p13, fun _ => rfl, p15⟩
      · rintro L T u hd hk hcl ⟨hb, p0, p1, p2, p3, p4, p5, p6, p7, p8, p9, p10, p11, p12, p13, p14, p15⟩ K hK
        simp only [fr, Act.put, List.setIfInBounds_toArray, List.set_cons_zero, List.set_cons_succ, updO] at hK ⊢
        simp [Region.binds] at hd
        have g14 := p14 (by simp [hd])
        rw [if_pos (by first | rfl | simp [Region.wanted, yielded, gw])]
        simp only [Oper.wpv]
        go_simp
        exact hK _ _ ⟨hb, p0, p1, p2, p3, p4, p5, p6, p7, p8, p9, p10, p11, p12, p13, p14, fun _ => rfl⟩
    · rintro L T u hl ⟨hb, p0, p1, p2, p3, p4, p5, p6, p7, p8, p9, p10, p11, p12, p13, p14, p15⟩
      simp only [fr, Act.put, List.setIfInBounds_toArray, List.set_cons_zero, List.set_cons_succ]
      have g4 := p15 (hl 15 (by decide))
      clear p0 p1 p2 p3 p4 p5 p6 p7 p8 p9 p10 p11 p12 p13 p14 p15
      have HE : Hid (T 4 = .bool (H == site)) := g4
      clear g4
      go_wp2
      go_ret
      exact ⟨by rw [hf.out]; exact congrArg Ending.returned HE.out, bW.trans (hb.mono bW.size)⟩
  · have EB : Hid ((label == VL) = false) := by show _ = _; simpa using hlb
    have hf : Hid (R = false) := by show _ = _; rw [HP.out, EB.out]; rfl
    clear HP hlb
    refine wp_region_inv (by kernel_rfl) [5, 6, 7, 8, 9, 10, 11, 12, 13, 14, 15, 16, 17, 18, 19, 4] (fun L T u => Below W.heap.size W u ∧ (L 0 = true → T 5 = .pointer (some ⟨Y.heap.size, 1, none⟩)) ∧ (L 1 = true → T 6 = .int .i64 label) ∧ (L 2 = true → T 7 = .pointer (some ⟨q, 0, none⟩)) ∧ (L 3 = true → T 8 = .pointer (some ⟨q, 0, none⟩)) ∧ (L 4 = true → T 9 = .pointer (some ⟨q, 3, none⟩)) ∧ (L 5 = true → T 10 = .int .i64 VL) ∧ (L 6 = true → T 11 = .bool false) ∧ (L 7 = true → T 12 = .bool false) ∧ (L 14 = true → T 19 = .bool false) ∧ (L 15 = true → T 4 = .bool false)) (by decide) (by kernel_rfl) (by kernel_rfl) ?_ ?_ ?_
    · exact ⟨(Below.refl _ _).drew, nofun, nofun, nofun, nofun, nofun, nofun, nofun, nofun, nofun, nofun⟩
    · refine ⟨?_, ?_, ?_, ?_, ?_, ?_, ?_, ?_, ?_, ?_, ?_, ?_, ?_, ?_, ?_, ?_, trivial⟩
      · rintro L T u hd hk hcl ⟨hb, p0, p1, p2, p3, p4, p5, p6, p7, p14, p15⟩ K hK
        simp only [fr, Act.put, List.setIfInBounds_toArray, List.set_cons_zero, List.set_cons_succ, updO] at hK ⊢
        simp [Region.binds] at hd
        rw [if_pos (by first | rfl | simp [Region.wanted, yielded, gw])]
        simp only [Oper.wpv]
        go_simp
        exact hK _ _ ⟨hb, fun _ => rfl, p1, p2, p3, p4, p5, p6, p7, p14, p15⟩
      · rintro L T u hd hk hcl ⟨hb, p0, p1, p2, p3, p4, p5, p6, p7, p14, p15⟩ K hK
        simp only [fr, Act.put, List.setIfInBounds_toArray, List.set_cons_zero, List.set_cons_succ, updO] at hK ⊢
        simp [Region.binds] at hd
        have g0 := p0 (by simp [hd])
        obtain ⟨⟨x1, x2⟩, xK, xS, x3⟩ := KC.out u hb
        rw [if_pos (by first | rfl | simp [Region.wanted, yielded, gw])]
        simp only [Oper.wpv]
        go_simp
        exact hK _ _ ⟨hb, p0, fun _ => rfl, p2, p3, p4, p5, p6, p7, p14, p15⟩
      · rintro L T u hd hk hcl ⟨hb, p0, p1, p2, p3, p4, p5, p6, p7, p14, p15⟩ K hK
        simp only [fr, Act.put, List.setIfInBounds_toArray, List.set_cons_zero, List.set_cons_succ, updO] at hK ⊢
        simp [Region.binds] at hd
        obtain ⟨⟨x1, x2⟩, xK, xS, x3⟩ := KC.out u hb
        rw [if_pos (by first | rfl | simp [Region.wanted, yielded, gw])]
        simp only [Oper.wpv]
        go_simp
        exact hK _ _ ⟨hb, p0, p1, fun _ => rfl, p3, p4, p5, p6, p7, p14, p15⟩
      · rintro L T u hd hk hcl ⟨hb, p0, p1, p2, p3, p4, p5, p6, p7, p14, p15⟩ K hK
        simp only [fr, Act.put, List.setIfInBounds_toArray, List.set_cons_zero, List.set_cons_succ, updO] at hK ⊢
        simp [Region.binds] at hd
        have g2 := p2 (by simp [hd])
        rw [if_pos (by first | rfl | simp [Region.wanted, yielded, gw])]
        simp only [Oper.wpv]
        go_simp
        exact hK _ _ ⟨hb, p0, p1, p2, fun _ => rfl, p4, p5, p6, p7, p14, p15⟩
      · rintro L T u hd hk hcl ⟨hb, p0, p1, p2, p3, p4, p5, p6, p7, p14, p15⟩ K hK
        simp only [fr, Act.put, List.setIfInBounds_toArray, List.set_cons_zero, List.set_cons_succ, updO] at hK ⊢
        simp [Region.binds] at hd
        have g3 := p3 (by simp [hd])
        rw [if_pos (by first | rfl | simp [Region.wanted, yielded, gw])]
        simp only [Oper.wpv]
        go_simp
        exact hK _ _ ⟨hb, p0, p1, p2, p3, fun _ => rfl, p5, p6, p7, p14, p15⟩
      · rintro L T u hd hk hcl ⟨hb, p0, p1, p2, p3, p4, p5, p6, p7, p14, p15⟩ K hK
        simp only [fr, Act.put, List.setIfInBounds_toArray, List.set_cons_zero, List.set_cons_succ, updO] at hK ⊢
        simp [Region.binds] at hd
        have g4 := p4 (by simp [hd])
        obtain ⟨⟨x1, x2⟩, xK, xS, x3⟩ := KC.out u hb
        rw [if_pos (by first | rfl | simp [Region.wanted, yielded, gw])]
        simp only [Oper.wpv]
        go_simp
        exact hK _ _ ⟨hb, p0, p1, p2, p3, p4, fun _ => rfl, p6, p7, p14, p15⟩
      · rintro L T u hd hk hcl ⟨hb, p0, p1, p2, p3, p4, p5, p6, p7, p14, p15⟩ K hK
        simp only [fr, Act.put, List.setIfInBounds_toArray, List.set_cons_zero, List.set_cons_succ, updO] at hK ⊢
        simp [Region.binds] at hd
        have g1 := p1 (by simp [hd])
        have g5 := p5 (by simp [hd])
        have eb := EB.out
        rw [if_pos (by first | rfl | simp [Region.wanted, yielded, gw])]
        simp only [Oper.wpv]
        go_simp
        exact hK _ _ ⟨hb, p0, p1, p2, p3, p4, p5, fun _ => rfl, p7, p14, p15⟩
      · rintro L T u hd hk hcl ⟨hb, p0, p1, p2, p3, p4, p5, p6, p7, p14, p15⟩ K hK
        simp only [fr, Act.put, List.setIfInBounds_toArray, List.set_cons_zero, List.set_cons_succ, updO] at hK ⊢
        simp [Region.binds] at hd
        have g6 := p6 (by simp [hd])
        rw [if_pos (by first | rfl | simp [Region.wanted, yielded, gw])]
        simp only [Oper.wpv]
        go_simp
        exact hK _ _ ⟨hb, p0, p1, p2, p3, p4, p5, p6, fun _ => rfl, p14, p15⟩
      · rintro L T u hd hk hcl ⟨hb, p0, p1, p2, p3, p4, p5, p6, p7, p14, p15⟩ K hK
        simp only [fr, Act.put, List.setIfInBounds_toArray, List.set_cons_zero, List.set_cons_succ, updO] at hK ⊢
        simp [Region.binds] at hd
        have hwt : L 7 = true := by simp [hd]
        have gw := p7 hwt
        rw [if_neg (by simp [Region.wanted, yielded, gw])]
        exact hK _ _ ⟨hb, p0, p1, p2, p3, p4, p5, p6, p7, p14, p15⟩
      · rintro L T u hd hk hcl ⟨hb, p0, p1, p2, p3, p4, p5, p6, p7, p14, p15⟩ K hK
        simp only [fr, Act.put, List.setIfInBounds_toArray, List.set_cons_zero, List.set_cons_succ, updO] at hK ⊢
        simp [Region.binds] at hd
        have hwt : L 7 = true := by simp [hd]
        have gw := p7 hwt
        rw [if_neg (by simp [Region.wanted, yielded, gw])]
        exact hK _ _ ⟨hb, p0, p1, p2, p3, p4, p5, p6, p7, p14, p15⟩
      · rintro L T u hd hk hcl ⟨hb, p0, p1, p2, p3, p4, p5, p6, p7, p14, p15⟩ K hK
        simp only [fr, Act.put, List.setIfInBounds_toArray, List.set_cons_zero, List.set_cons_succ, updO] at hK ⊢
        simp [Region.binds] at hd
        have hwt : L 7 = true := by simp [hd]
        have gw := p7 hwt
        rw [if_neg (by simp [Region.wanted, yielded, gw])]
        exact hK _ _ ⟨hb, p0, p1, p2, p3, p4, p5, p6, p7, p14, p15⟩
      · rintro L T u hd hk hcl ⟨hb, p0, p1, p2, p3, p4, p5, p6, p7, p14, p15⟩ K hK
        simp only [fr, Act.put, List.setIfInBounds_toArray, List.set_cons_zero, List.set_cons_succ, updO] at hK ⊢
        simp [Region.binds] at hd
        have hwt : L 7 = true := by simp [hd]
        have gw := p7 hwt
        rw [if_neg (by simp [Region.wanted, yielded, gw])]
        exact hK _ _ ⟨hb, p0, p1, p2, p3, p4, p5, p6, p7, p14, p15⟩
      · rintro L T u hd hk hcl ⟨hb, p0, p1, p2, p3, p4, p5, p6, p7, p14, p15⟩ K hK
        simp only [fr, Act.put, List.setIfInBounds_toArray, List.set_cons_zero, List.set_cons_succ, updO] at hK ⊢
        simp [Region.binds] at hd
        have hwt : L 7 = true := by simp [hd]
        have gw := p7 hwt
        rw [if_neg (by simp [Region.wanted, yielded, gw])]
        exact hK _ _ ⟨hb, p0, p1, p2, p3, p4, p5, p6, p7, p14, p15⟩
      · rintro L T u hd hk hcl ⟨hb, p0, p1, p2, p3, p4, p5, p6, p7, p14, p15⟩ K hK
        simp only [fr, Act.put, List.setIfInBounds_toArray, List.set_cons_zero, List.set_cons_succ, updO] at hK ⊢
        simp [Region.binds] at hd
        have hwt : L 7 = true := by simp [hd]
        have gw := p7 hwt
        rw [if_neg (by simp [Region.wanted, yielded, gw])]
        exact hK _ _ ⟨hb, p0, p1, p2, p3, p4, p5, p6, p7, p14, p15⟩
      · rintro L T u hd hk hcl ⟨hb, p0, p1, p2, p3, p4, p5, p6, p7, p14, p15⟩ K hK
        simp only [fr, Act.put, List.setIfInBounds_toArray, List.set_cons_zero, List.set_cons_succ, updO] at hK ⊢
        simp [Region.binds] at hd
        have g7 := p7 (by simp [hd])
        rw [if_pos (by first | rfl | simp [Region.wanted, yielded, gw])]
        simp only [Oper.wpv]
        go_simp
        exact hK _ _ ⟨hb, p0, p1, p2, p3, p4, p5, p6, p7, fun _ => rfl, p15⟩
      · rintro L T u hd hk hcl ⟨hb, p0, p1, p2, p3, p4, p5, p6, p7, p14, p15⟩ K hK
        simp only [fr, Act.put, List.setIfInBounds_toArray, List.set_cons_zero, List.set_cons_succ, updO] at hK ⊢
        simp [Region.binds] at hd
        have g14 := p14 (by simp [hd])
        rw [if_pos (by first | rfl | simp [Region.wanted, yielded, gw])]
        simp only [Oper.wpv]
        go_simp
        exact hK _ _ ⟨hb, p0, p1, p2, p3, p4, p5, p6, p7, p14, fun _ => rfl⟩
    · rintro L T u hl ⟨hb, p0, p1, p2, p3, p4, p5, p6, p7, p14, p15⟩
      simp only [fr, Act.put, List.setIfInBounds_toArray, List.set_cons_zero, List.set_cons_succ]
      have g4 := p15 (hl 15 (by decide))
      clear p0 p1 p2 p3 p4 p5 p6 p7 p14 p15
      have HE : Hid (T 4 = .bool false) := g4
      clear g4
      go_wp2
      go_ret
      exact ⟨by rw [hf.out]; exact congrArg Ending.returned HE.out, bW.trans (hb.mono bW.size)⟩
end Go.Proofs.YtdjnaahkcnklhabDoor.Co
