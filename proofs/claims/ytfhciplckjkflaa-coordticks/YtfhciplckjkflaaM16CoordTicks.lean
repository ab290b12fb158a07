/- Texts of this claim, one behind the other. -/
import Derived.Test.YtfhciplckjkflaaProg
import Derived.WalkKit
import Derived.ProofKit
import Derived.Below
import Derived.Test.YtfhciplckjkflaaM2CoordTicks
import Derived.Test.YtfhciplckjkflaaM15CoordTicks
import Derived.Test.YtfhciplckjkflaaM14CoordTicks
/- Contracts of label.Home: what it returns at every config and key. -/
namespace Go.Proofs.Ytfhciplckjkflaa
open Go.ChangeShapes Go.WideShapes Go.ChangeAt Go.RowKit

def homeErr (s : Int) (ls : List (Int × Int)) (p key : Int) : Int := if cfgFault s ls p = 0 then (if key < 0 ∨ 7 < key then 2 else 0) else cfgFault s ls p
def homeNum (s : Int) (ls : List (Int × Int)) (p key : Int) : Int := if homeErr s ls p key = 0 then key % s else 0

theorem home_bad {s : Int} {ls : List (Int × Int)} {p key : Int} (h : cfgFault s ls p ≠ 0) : homeErr s ls p key = cfgFault s ls p ∧ homeNum s ls p key = 0 := by
  unfold homeNum homeErr
  simp [h]
theorem home_key {s : Int} {ls : List (Int × Int)} {p key : Int} (h : cfgFault s ls p = 0) (hk : key < 0 ∨ 7 < key) : homeErr s ls p key = 2 ∧ homeNum s ls p key = 0 := by
  unfold homeNum homeErr
  simp [h, hk]
theorem home_ok {s : Int} {ls : List (Int × Int)} {p key : Int} (h : cfgFault s ls p = 0) (h0 : 0 ≤ key) (h7 : key ≤ 7) : homeErr s ls p key = 0 ∧ homeNum s ls p key = key % s := by
  have hk : ¬ (key < 0 ∨ 7 < key) := by omega
  unfold homeNum homeErr
  simp [h, hk]

theorem key_any (n : Int) (w : World) :
    Calls Try.prog 68 #[.int .i64 n] w fun e w' => e = .returned (.bool (inR n 0 7)) ∧ w' = w := by
  go_enter Try.func68, Try.ntmps68
  go_wp2_with (go_at_call 15; refine (within_any _ _ _ _).mono ?_; rintro e w1 ⟨rfl, hu1⟩; rw [hu1]; clear hu1)
  go_ret
  exact ⟨rfl, rfl⟩

theorem home_any (s p : Int) (a : Option Addr) (len cap : Nat) (ls : List (Int × Int)) (key : Int) (w : World) (h : IsLabs w a len cap ls) :
    Calls Try.prog 71 #[.agg #[.int .i64 s, .slice a len cap, .int .i64 p], .int .i64 key] w fun e w' => e = .returned (.tuple #[.int .i64 (homeNum s ls p key), .int .i64 (homeErr s ls p key)]) ∧ Below w.heap.size w w' := by
  have hA : Below w.heap.size w (w.alloc (.cells #[.int .i64 s, .slice a len cap, .int .i64 p] 24)) := (Below.refl _ _).alloc (Nat.le_refl _) _
  by_cases hF : cfgFault s ls p = 0
  · have hs := cfg_zero hF
    have hs1 := hs.1
    have hs4 := hs.2.1
    by_cases hk : key < 0 ∨ 7 < key
    · have hkk : inR key 0 7 = false := by unfold inR; simp; omega
      rw [(home_key hF hk).1, (home_key hF hk).2]
      rcases hk with hk | hk
      · go_enter Try.func71, Try.ntmps71
        go_wp2_with (first | (go_at_call 65; refine (check_any s p a len cap ls _ (h.below hA)).mono ?_; rintro e w1 ⟨rfl, hb1⟩) | (go_at_call 68; refine (key_any _ _).mono ?_; rintro e w2 ⟨rfl, hu2⟩; rw [hu2, hkk]; clear hu2))
        go_ret2
        exact ⟨rfl, hA.trans (hb1.mono (by simp))⟩
      · have hk' : ¬ key < 0 := by omega
        have hk8 : 8 ≤ key := by omega
        go_enter Try.func71, Try.ntmps71
        go_wp2_with (first | (go_at_call 65; refine (check_any s p a len cap ls _ (h.below hA)).mono ?_; rintro e w1 ⟨rfl, hb1⟩) | (go_at_call 68; refine (key_any _ _).mono ?_; rintro e w2 ⟨rfl, hu2⟩; rw [hu2, hkk]; clear hu2))
        go_ret2
        exact ⟨rfl, hA.trans (hb1.mono (by simp))⟩
    · have k0 : 0 ≤ key := by omega
      have k7 : key < 8 := by omega
      have hkk : inR key 0 7 = true := by unfold inR; simp; omega
      rw [(home_ok hF k0 (by omega)).1, (home_ok hF k0 (by omega)).2]
      go_enter Try.func71, Try.ntmps71
      go_wp2_with (first | (go_at_call 65; refine (check_any s p a len cap ls _ (h.below hA)).mono ?_; rintro e w1 ⟨rfl, hb1⟩; have hz1 : w.heap.size < w1.heap.size := (by have := hb1.size; simp at this; omega); obtain ⟨hc1, hf1⟩ := bcell hb1) | (go_at_call 68; refine (key_any _ _).mono ?_; rintro e w2 ⟨rfl, hu2⟩; rw [hu2, hkk]; clear hu2))
      go_ret2
      exact ⟨rfl, hA.trans (hb1.mono (by simp))⟩
  · rw [(home_bad hF).1, (home_bad hF).2]
    go_enter Try.func71, Try.ntmps71
    go_wp2_with (go_at_call 65; refine (check_any s p a len cap ls _ (h.below hA)).mono ?_; rintro e w1 ⟨rfl, hb1⟩)
    go_ret2
    exact ⟨rfl, hA.trans (hb1.mono (by simp))⟩

end Go.Proofs.Ytfhciplckjkflaa
/- The contracts of the clerk's write and home. -/
namespace Go.Proofs.Ytfhciplckjkflaa.Co
open Go.ChangeShapes Go.WideShapes Go.ChangeAt Go.RowKit
open Go.Proofs.Ytfhciplckjkflaa.St (BoxN boxn_new own_below grown_setCell IsRow Elem flat flat_append own_isRow)
set_option linter.unusedVariables false

def RcV.val (r : RcV) : Value := .agg #[.int .i64 r.kind, .int .i64 r.site, .int .i64 r.num, .int .i64 r.key, .int .i64 r.value, .int .i64 r.ask, .bool r.yes, .slice r.sa r.sl r.sc]
theorem rc_len (m : RcV) : (RcV.cells m).length = 8 := rfl
theorem rc_one (y : RcV) : ∀ u ∈ y.cells, u.oneCell' = true := by
  intro u hu
  simp only [RcV.cells, List.mem_cons, List.not_mem_nil, or_false] at hu
  rcases hu with rfl | rfl | rfl | rfl | rfl | rfl | rfl | rfl <;> rfl
theorem rcInfo : (Try.prog.info? 69).map (fun i => (i.zero, i.size, i.bytes)) = some (some (.agg #[.int .i64 0, .int .i64 0, .int .i64 0, .int .i64 0, .int .i64 0, .int .i64 0, .bool false, .slice none 0 0]), 8, 80) := by kernel_rfl
theorem rcElem : ∃ i, Elem 8 RcV.cells 69 32 i (.agg #[.int .i64 0, .int .i64 0, .int .i64 0, .int .i64 0, .int .i64 0, .int .i64 0, .bool false, .slice none 0 0]) 80 := by
  obtain ⟨j0, hj, lj0, lj1, lj2⟩ := info_parts rcInfo
  exact ⟨j0, rc_len, by decide, rc_one, Try.underlying32, hj, lj0, lj1, lj2, rfl⟩
theorem Clerk.rcd {w X X' : World} {B q : Nat} {v : CkV} {ix : List (Nat × Nat)} {more : List Rw} (h : Clerk w X B q v ix more) {a5 : Option Addr} {c5 : Nat} {r : RcV} (hg : X.grownBy X' (Value.slice v.ra v.rl v.rc).ownBlock) (ho : X'.ownsRow B 69 8 (.slice a5 (v.rl + 1) c5) (v.rl + 1) (flat RcV.cells (v.rs ++ [r]))) (hat : (Value.slice a5 (v.rl + 1) c5).ownBlock = (Value.slice v.ra v.rl v.rc).ownBlock ∨ (Value.slice a5 (v.rl + 1) c5).ownBlock = some X.heap.size) :
    Clerk w (X'.setCell ⟨q, 8, none⟩ (.slice a5 (v.rl + 1) c5)) B q { v with ra := a5, rl := v.rl + 1, rc := c5, rs := v.rs ++ [r] } ix more := by
  have h1 := h.held.grow (i := 2) (r := ⟨69, 8, .slice v.ra v.rl v.rc, v.rl, flat RcV.cells v.rs⟩) (r' := ⟨69, 8, .slice a5 (v.rl + 1) c5, v.rl + 1, flat RcV.cells (v.rs ++ [r])⟩) rfl hg ho hat
  have h2 := h1.tell 8 (by decide) (.slice a5 (v.rl + 1) c5)
  exact ⟨h2, h.jobs, h.lens.1, h.lens.2.1, by simp [h.lens.2.2.1], h.lens.2.2.2⟩
set_option maxRecDepth 100000 in
set_option maxHeartbeats 4000000 in
theorem write_any {w : World} {B q : Nat} {v : CkV} {ix : List (Nat × Nat)} {more : List Rw} (X : World) (h : Clerk w X B q v ix more) (r : RcV) (hn : (v.rl + 1) * 80 ≤ 140737488355328) :
    Calls Try.prog 43 #[.pointer (some ⟨q, 0, none⟩), r.val] X fun e X' => e = .returned (.tuple #[]) ∧ ∃ a5 c5, Clerk w X' B q { v with ra := a5, rl := v.rl + 1, rc := c5, rs := v.rs ++ [r] } ix more := by
  obtain ⟨iR, ER⟩ := rcElem
  obtain ⟨kind, site, num, key, value, ask, yes, sa, sl, sc, zs⟩ := r
  simp only [RcV.val]
  obtain ⟨U, eU⟩ : ∃ U : World, U = ((X.alloc (.cells #[.int .i64 kind, .int .i64 site, .int .i64 num, .int .i64 key, .int .i64 value, .int .i64 ask, .bool yes, .slice sa sl sc] 69)).alloc (.cells #[.int .i64 kind, .int .i64 site, .int .i64 num, .int .i64 key, .int .i64 value, .int .i64 ask, .bool yes, .slice sa sl sc] 69)).drew := ⟨_, rfl⟩
  have bU : Below X.heap.size X U := by rw [eU]; exact (((Below.refl _ _).alloc (Nat.le_refl _) _).alloc (by simp) _).drew
  have hU := h.below bU
  have hone : IsRow 8 RcV.cells U (some ⟨X.heap.size + 1, 0, none⟩) 1 1 [(⟨kind, site, num, key, value, ask, yes, sa, sl, sc, zs⟩ : RcV)] := by
    rw [eU]
    have := rowOne (cells := RcV.cells) (k := 8) (X.alloc (.cells #[.int .i64 kind, .int .i64 site, .int .i64 num, .int .i64 key, .int .i64 value, .int .i64 ask, .bool yes, .slice sa sl sc] 69)) #[.int .i64 kind, .int .i64 site, .int .i64 num, .int .i64 key, .int .i64 value, .int .i64 ask, .bool yes, .slice sa sl sc] 69 (⟨kind, site, num, key, value, ask, yes, sa, sl, sc, zs⟩ : RcV) rfl rfl
    refine St.IsRow.below (w := (X.alloc (.cells #[.int .i64 kind, .int .i64 site, .int .i64 num, .int .i64 key, .int .i64 value, .int .i64 ask, .bool yes, .slice sa sl sc] 69)).alloc (.cells #[.int .i64 kind, .int .i64 site, .int .i64 num, .int .i64 key, .int .i64 value, .int .i64 ask, .bool yes, .slice sa sl sc] 69)) ?_ (Below.refl _ _).drew
    simpa using this
  have ownU := hU.held.own.own 2 ⟨69, 8, .slice v.ra v.rl v.rc, v.rl, flat RcV.cells v.rs⟩ rfl
  simp only [] at ownU
  have hap := hU.held.apart 2 ⟨69, 8, .slice v.ra v.rl v.rc, v.rl, flat RcV.cells v.rs⟩ rfl
  have bx := h.held.box
  have q8 : X.cell? ⟨q, 8, none⟩ = some (.slice v.ra v.rl v.rc) := (bx.c 8 (by decide)).1
  have zq := bx.lt
  have hB : B ≤ U.heap.size := Nat.le_trans h.held.le (Nat.le_of_lt (Nat.lt_of_lt_of_le zq bU.size))
  have HU : Hid (Clerk w U B q v ix more) := hU
  clear bx hU h
  go_enter Try.func43, Try.ntmps43
  go_upto_region 1 with (fail)
  go_region_law (rw [← eU]; refine St.step_append_row ER (by rfl) (.tmp 9) (.tmp 11) (by rfl) B (.slice v.ra v.rl v.rc) v.rl v.rs (by rfl) ownU _ 1 1 [(⟨kind, site, num, key, value, ask, yes, sa, sl, sc, zs⟩ : RcV)] (by rfl) hone (by unfold maxLen; omega) (by omega) hB ?_; intro a5 c5 w5 own5 gr5 at5; have bq := HU.out.held.box.grown gr5 (fun e => hap e.symm); have p8 : w5.cell? ⟨q, 8, none⟩ = some (.slice v.ra v.rl v.rc) := (bq.c 8 (by decide)).1; have pf8 := (bq.c 8 (by decide)).2; have zq5 := bq.lt)
  all_goals
    go_wp2
    exact bodyPost_end (v := .tuple #[]) (by simp [results, Try.results43, go_sem]) rfl ⟨rfl, a5, c5, HU.out.rcd gr5 own5 at5⟩
theorem clerkHome_any {w : World} {B q : Nat} {v : CkV} {ix : List (Nat × Nat)} {more : List Rw} (X : World) (h : Clerk w X B q v ix more) (ls : List (Int × Int)) (hl : IsLabs X v.a v.len v.cap ls) (key : Int) :
    Calls Try.prog 51 #[.pointer (some ⟨q, 0, none⟩), .int .i64 key] X fun e X' => e = .returned (.int .i64 (homeNum v.s ls v.p key)) ∧ Below X.heap.size X X' := by
  have hH := home_any v.s v.p v.a v.len v.cap ls key X hl
  have bx := h.held.box
  have q0 : X.cell? ⟨q, 0, none⟩ = some (.int .i64 v.s) := (bx.c 0 (by decide)).1
  have q1 : X.cell? ⟨q, 1, none⟩ = some (.slice v.a v.len v.cap) := (bx.c 1 (by decide)).1
  have q2 : X.cell? ⟨q, 2, none⟩ = some (.int .i64 v.p) := (bx.c 2 (by decide)).1
  have zq := bx.lt
  clear bx h
  go_enter Try.func51, Try.ntmps51
  go_wp2_with (go_at_call 71; refine hH.mono ?_; rintro e w1 ⟨rfl, hb1⟩)
  go_ret
  exact ⟨rfl, hb1⟩
end Go.Proofs.Ytfhciplckjkflaa.Co
/- coord.waiting; coord.isSure, isUnsure, isWrite; coord.hands and what it asks. -/
namespace Go.Proofs.Ytfhciplckjkflaa.Co
open Go.ChangeShapes Go.WideShapes Go.ChangeAt Go.RowKit
open Go.Proofs.Ytfhciplckjkflaa.St (BoxN boxn_new own_below grown_setCell IsRow Elem flat flat_append own_isRow idxI idxI_lt own_setk)
set_option linter.unusedVariables false

/-- The task that is waited for, if there is one: the last one. -/
def waitB (j : JbV) : Bool := decide (0 < j.tasks.length) && !(j.tasks.getD (j.tasks.length - 1) default).done
def WaitIs (e : Ending) (j : JbV) : Prop :=
  (waitB j = false ∧ e = .returned (.pointer none)) ∨ (waitB j = true ∧ ∃ gt m : Nat, j.ta = some ⟨gt, 0, none⟩ ∧ j.tl = m + 1 ∧ e = .returned (.pointer (some ⟨gt, m * 8, none⟩)))
set_option maxRecDepth 100000 in
set_option maxHeartbeats 2000000 in
theorem waiting_any {w : World} {B q : Nat} {v : CkV} {ix : List (Nat × Nat)} {more : List Rw} (X : World) (h : Clerk w X B q v ix more) {i g : Nat} (hi : i < v.jl) (eg : v.ja = some ⟨g, 0, none⟩) :
    Calls Try.prog 47 #[.pointer (some ⟨g, i * 6, none⟩)] X fun e X' => WaitIs e (v.js.getD i default) ∧ X' = X := by
  obtain ⟨g', eg', _, zg, _, hc, _⟩ := h.jobAt hi
  rw [eg] at eg'
  simp at eg'
  subst eg'
  have hT := h.isTasks hi
  have hown := (h.tasksAt hi).1
  obtain ⟨j, ej⟩ : ∃ j, j = v.js.getD i default := ⟨_, rfl⟩
  rw [← ej] at hc hT hown ⊢
  clear ej
  have HW : Hid (∀ e, WaitIs e j ↔ WaitIs e j) := fun e => Iff.rfl
  obtain ⟨jn, st, ta, tl, tc, aa, al, ac, asks, age, tasks, asked⟩ := j
  have c2 := hc 2 (by decide)
  simp [JbV.cells] at c2
  have htl : tasks.length = tl := hT.1
  have hmx : tl ≤ tc ∧ tc ≤ maxLen := ⟨hT.2.1, hT.2.2.1⟩
  unfold maxLen at hmx
  clear hc h
  cases tl with
  | zero =>
    have hw : Hid (waitB ⟨jn, st, ta, 0, tc, aa, al, ac, asks, age, tasks, asked⟩ = false) := by show _ = _; unfold waitB; simp [htl]
    clear htl hT hown
    go_enter Try.func47, Try.ntmps47
    go_wp2
    go_ret
    exact ⟨Or.inl ⟨hw.out, rfl⟩, rfl⟩
  | succ m =>
    obtain ⟨gt, e1, _, zt⟩ := own_spot hown (Nat.succ_pos m)
    obtain ⟨b, off, e2, _, hcT⟩ := hT.2.2.2.2 (Nat.succ_pos m)
    simp only [] at e1 e2
    rw [e1] at e2
    simp at e2
    obtain ⟨rfl, rfl⟩ := e2
    subst e1
    have c6 := hcT m (by simp) 6 (by decide)
    have hm : ((m + 1 : Nat) : Int) - 1 = (m : Int) := by omega
    have hm0 : ¬ (m : Int) < 0 := by omega
    have hm1 : (m : Int) < ((m + 1 : Nat) : Int) := by omega
    obtain ⟨t, et⟩ : ∃ t, t = tasks.getD m default := ⟨_, rfl⟩
    rw [← et] at c6
    have hwb : waitB ⟨jn, st, some ⟨gt, 0, none⟩, m + 1, tc, aa, al, ac, asks, age, tasks, asked⟩ = !t.done := by
      unfold waitB
      simp only [htl]
      rw [et]
      simp
    have HWB : Hid (waitB ⟨jn, st, some ⟨gt, 0, none⟩, m + 1, tc, aa, al, ac, asks, age, tasks, asked⟩ = !t.done) := hwb
    clear hwb et hcT htl hT hown HW
    obtain ⟨write, label, key, value, version, ask, done, sure⟩ := t
    simp [TkV.cells] at c6
    cases done with
    | true =>
      go_enter Try.func47, Try.ntmps47
      go_wp2
      go_ret
      exact ⟨Or.inl ⟨HWB.out, rfl⟩, rfl⟩
    | false =>
      go_enter Try.func47, Try.ntmps47
      go_wp2
      go_ret
      exact ⟨Or.inr ⟨HWB.out, gt, m, rfl, rfl, rfl⟩, rfl⟩
theorem isUnsure_any (t : TkV) (w : World) : Calls Try.prog 54 #[t.val] w fun e w' => e = .returned (.bool (!t.write && !t.sure)) ∧ Below w.heap.size w w' := by
  obtain ⟨write, label, key, value, version, ask, done, sure⟩ := t
  simp only [TkV.val]
  have hA : ∀ o, Below w.heap.size w (w.alloc o) := fun o => (Below.refl _ _).alloc (Nat.le_refl _) _
  cases write <;> cases sure
  all_goals
    go_enter Try.func54, Try.ntmps54
    go_wp2
    go_ret
    exact ⟨rfl, hA _⟩
theorem isWrite_any (t : TkV) (w : World) : Calls Try.prog 73 #[t.val] w fun e w' => e = .returned (.bool t.write) ∧ Below w.heap.size w w' := by
  obtain ⟨write, label, key, value, version, ask, done, sure⟩ := t
  simp only [TkV.val]
  have hA : ∀ o, Below w.heap.size w (w.alloc o) := fun o => (Below.refl _ _).alloc (Nat.le_refl _) _
  go_enter Try.func73, Try.ntmps73
  go_wp2
  go_ret
  exact ⟨rfl, hA _⟩
theorem isWrite_asks (w : World) : Asks 73 #[] TkV.val (fun t => t.write) w := ⟨enters_of Try.func73 (by kernel_rfl) rfl, fun x w' _ => by simpa using isWrite_any x w'⟩
theorem isUnsure_asks (w : World) : Asks 54 #[] TkV.val (fun t => !t.write && !t.sure) w := ⟨enters_of Try.func54 (by kernel_rfl) rfl, fun x w' _ => by simpa using isUnsure_any x w'⟩
def allSure (ts : List TkV) : Bool := !(ts.any fun t => !t.write && !t.sure)
theorem isSure_any (a : Option Addr) (n c : Nat) (ts : List TkV) (w : World) (h : IsTasks w a n c ts) : Calls Try.prog 52 #[.slice a n c] w fun e w' => e = .returned (.bool (allSure ts)) ∧ Below w.heap.size w w' := by
  have hC := fun U h1 h2 => containsTask_any 54 #[] (fun t => !t.write && !t.sure) a n c ts U h1 h2
  unfold allSure
  obtain ⟨R, eR⟩ : ∃ R, R = ts.any fun t => !t.write && !t.sure := ⟨_, rfl⟩
  rw [← eR] at hC ⊢
  clear eR
  go_enter Try.func52, Try.ntmps52
  go_wp2_with (go_at_call 72; refine (hC _ h (isUnsure_asks _)).mono ?_; rintro e w1 ⟨rfl, hb1⟩)
  go_ret
  exact ⟨rfl, hb1⟩
end Go.Proofs.Ytfhciplckjkflaa.Co
