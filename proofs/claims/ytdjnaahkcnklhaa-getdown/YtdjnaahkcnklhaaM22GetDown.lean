/- Texts of this claim, one behind the other. -/
import Derived.Test.YtdjnaahkcnklhaaM21GetDown
import Derived.Deep.QuietTactic
import Derived.BigQuiet
import Derived.Lib.QuietBelow
/- Small desks over the config of two labels, as plain data. -/
namespace Go.Proofs.Ytdjnaahkcnklhaa.Co
open Go.ChangeShapes Go.WideShapes Go.ChangeAt Go.RowKit
open Go.Proofs.Ytdjnaahkcnklhaa.St (IsRow idxI)
open Go.Proofs.Ytdjnaahkcnklhaa.Pt (LS2 cfg_two two_any)
set_option linter.unusedVariables false

theorem rf_two {s l next : Int} {js : List JbV} (h1 : 1 ≤ s) (h2 : s ≤ 4) (hl : l = 0 ∨ l = 1) (hn : 1 ≤ next ∧ next ≤ 1048577) (hj : jbsOK s 2 next js = true) : rfErr s LS2 3 l 0 next js = 0 := by
  have hd : dkErr s LS2 3 next js = 0 := by
    unfold dkErr
    rw [if_pos (cfg_two h1 h2 (by omega) (by omega))]
    have e : ((LS2.length : Nat) : Int) = 2 := rfl
    rw [e, hj]
    have : inR next 1 1048577 = true := by simp [inR, hn]
    rw [this]
    rfl
  unfold rfErr
  rw [if_pos hd, if_pos (by rcases hl with rfl | rfl <;> decide), if_pos (by simp [inR]; omega)]
theorem cl_two {s l next kind : Int} {js : List JbV} (h1 : 1 ≤ s) (h2 : s ≤ 4) (hl : l = 0 ∨ l = 1) (hn : 1 ≤ next ∧ next ≤ 1048577) (hj : jbsOK s 2 next js = true) (hk : 1 ≤ kind ∧ kind ≤ 5) : clErr ⟨s, LS2, 3, l, 0⟩ next js kind = 0 := by
  unfold clErr
  rw [if_pos (rf_two h1 h2 hl hn hj), if_pos (by simp [inR, hk])]
theorem sees_two {s l b : Int} (h1 : 1 ≤ s) (h2 : s ≤ 4) (hl : l = 0 ∨ l = 1) (hb : b = 0 ∨ b = 1) : Se.seesB s LS2 3 l b = decide (b ≤ l) := by
  have hc := cfg_two (p := 3) h1 h2 (by omega) (by omega)
  unfold Se.seesB Se.seesErr
  rw [if_pos hc]
  rcases hl with rfl | rfl <;> rcases hb with rfl | rfl <;> decide
def tBegin : Tn := ⟨2, [newJob 1], [], [⟨5, 0, 1, 0, 0, 0, false, none, 0, 0, []⟩], [⟨0, 1, 1, 0, 0, 0⟩], 0, 0⟩
theorem ans_begin {s l : Int} (h1 : 1 ≤ s) (h2 : s ≤ 4) (hl : l = 0 ∨ l = 1) : clErr ⟨s, LS2, 3, l, 0⟩ 1 [] 1 = 0 ∧ CallAns ⟨s, LS2, 3, l, 0⟩ 1 [] 6000 ⟨1, 0, 0, 0, 0⟩ = tBegin := by
  have hc := cl_two (js := []) (kind := 1) (next := 1) h1 h2 hl (by omega) rfl (by omega)
  refine ⟨hc, ?_⟩
  unfold CallAns
  rw [if_pos hc]
  rfl
theorem jbs_new {s : Int} (h1 : 1 ≤ s) : jbsOK s 2 2 [newJob 1] = true := by
  simp [jbsOK, jbsGo, jbOK, rise, tksOK, tksGo, newJob, inR]
def jOne (t : TkV) : JbV := ⟨1, 1, none, 0, 0, none, 0, 0, 1, 0, [t], []⟩
theorem jbs_one {s : Int} {t : TkV} (h1 : 1 ≤ s) (ha : t.ask = 1) (hl : t.label = 0 ∨ t.label = 1) (hk : 0 ≤ t.key ∧ t.key ≤ 7) (hv : t.value = 0) (hw : t.version = 0) (hs : t.sure = false) : jbsOK s 2 2 [jOne t] = true := by
  have hl2 : 0 ≤ t.label ∧ t.label ≤ 1 := by omega
  simp [jbsOK, jbsGo, jbOK, rise, tksOK, tksGo, jOne, inR, tkOK, ha, hl2, hk, hv, hw, hs]
theorem idx_one {t : JbV} (h : t.n = 1) : idxI (isN 1) [t] = 0 := by
  simp [idxI, isN, h, List.findIdx?, List.findIdx?.go]
/-- A Get or a Put of the job 1 that has no task yet. -/
theorem ans_ask {s l kind label key : Int} (h1 : 1 ≤ s) (h2 : s ≤ 4) (hl : l = 0 ∨ l = 1) (hb : label = 0 ∨ label = 1) (hs : kind = 2 → label ≤ l) (hk : 0 ≤ key ∧ key ≤ 7) (hK : kind = 2 ∨ kind = 3) : CallAns ⟨s, LS2, 3, l, 0⟩ 2 [newJob 1] 6000 ⟨kind, 1, label, key, 0⟩ = ⟨2, [jOne ⟨decide (kind = 3), if kind = 2 then label else l, key, 0, 0, 1, false, false⟩], [⟨if kind = 2 then 1 else 2, 0, homeNum s LS2 3 key, 0, 1, if kind = 2 then label else 0, key, 0, 0, 1, false, 0⟩], [], [], 0, 0⟩ := by
  have hc := cl_two (js := [newJob 1]) (kind := kind) (next := 2) h1 h2 hl (by omega) (jbs_new h1) (by omega)
  unfold CallAns
  rw [if_pos hc]
  have e1 : ¬ kind = 1 := by omega
  have e2 : idxI (isN 1) (tn0 2 [newJob 1]).js = 0 := idx_one rfl
  have e3 : (tn0 2 [newJob 1]).js.getD 0 default = newJob 1 := rfl
  have e4 : askErr ⟨s, LS2, 3, l, 0⟩ ⟨kind, 1, label, key, 0⟩ (newJob 1) = 0 := by
    unfold askErr
    have k1 : (kind == 2 || kind == 3) = true := by simpa using hK
    have k2 : (inR key 0 7 && inR (0 : Int) 0 1073741824) = true := by simp [inR, hk]
    have k3 : (kind == 2 && !Cx.sees ⟨s, LS2, 3, l, 0⟩ label) = false := by
      unfold Cx.sees
      simp only []
      rw [sees_two h1 h2 hl hb]
      rcases hK with rfl | rfl
      · have := hs rfl
        simp [this]
      · rfl
    simp only []
    rw [k1, k2, k3]
    rfl
  unfold Tn.call
  simp only [e2, e3, Int.toNat_zero]
  rw [if_neg e1, if_neg (by decide), e4, if_neg (by decide)]
  rcases hK with rfl | rfl
  · rfl
  · rfl
/-- Of a label that is not seen nothing is asked. -/
theorem ans_up {s key : Int} (h1 : 1 ≤ s) (h2 : s ≤ 4) (hk : 0 ≤ key ∧ key ≤ 7) : CallAns ⟨s, LS2, 3, 0, 0⟩ 2 [newJob 1] 6000 ⟨2, 1, 1, key, 0⟩ = ⟨2, [newJob 1], [], [], [⟨0, 2, 1, key, 0, 10⟩], 0, 0⟩ := by
  have hc := cl_two (js := [newJob 1]) (kind := 2) (next := 2) (l := 0) h1 h2 (by omega) (by omega) (jbs_new h1) (by omega)
  unfold CallAns
  rw [if_pos hc]
  have e2 : idxI (isN 1) (tn0 2 [newJob 1]).js = 0 := idx_one rfl
  have e3 : (tn0 2 [newJob 1]).js.getD 0 default = newJob 1 := rfl
  have e4 : askErr ⟨s, LS2, 3, 0, 0⟩ ⟨2, 1, 1, key, 0⟩ (newJob 1) = 10 := by
    unfold askErr
    have k2 : (inR key 0 7 && inR (0 : Int) 0 1073741824) = true := by simp [inR, hk]
    have k3 : Cx.sees ⟨s, LS2, 3, 0, 0⟩ 1 = false := by
      unfold Cx.sees
      simp only []
      rw [sees_two h1 h2 (Or.inl rfl) (Or.inr rfl)]
      rfl
    simp only []
    rw [k2, k3]
    rfl
  unfold Tn.call
  simp only [e2, e3, Int.toNat_zero]
  rw [if_neg (by decide), if_neg (by decide), e4, if_pos (by decide)]
  rfl
/-- Who waits for a task asks for no other one. -/
theorem ans_wait {s l kind label key : Int} {t : TkV} (h1 : 1 ≤ s) (h2 : s ≤ 4) (hl : l = 0 ∨ l = 1) (ha : t.ask = 1) (hb : t.label = 0 ∨ t.label = 1) (hk : 0 ≤ t.key ∧ t.key ≤ 7) (hv : t.value = 0) (hw : t.version = 0) (hs : t.sure = false) (hd : t.done = false) (hK : 2 ≤ kind ∧ kind ≤ 5) : CallAns ⟨s, LS2, 3, l, 0⟩ 2 [jOne t] 6000 ⟨kind, 1, label, key, 0⟩ = ⟨2, [jOne t], [], [], [⟨0, kind, 1, key, 0, 14⟩], 0, 0⟩ ∧ clErr ⟨s, LS2, 3, l, 0⟩ 2 [jOne t] kind = 0 := by
  have hc := cl_two (js := [jOne t]) (kind := kind) (next := 2) h1 h2 hl (by omega) (jbs_one h1 ha hb hk hv hw hs) (by omega)
  refine ⟨?_, hc⟩
  unfold CallAns
  rw [if_pos hc]
  have e2 : idxI (isN 1) (tn0 2 [jOne t]).js = 0 := idx_one rfl
  have e3 : (tn0 2 [jOne t]).js.getD 0 default = jOne t := rfl
  have e4 : askErr ⟨s, LS2, 3, l, 0⟩ ⟨kind, 1, label, key, 0⟩ (jOne t) = 14 := by
    unfold askErr
    have k2 : waitB (jOne t) = true := by simp [waitB, jOne, hd]
    rw [k2]
    rfl
  unfold Tn.call
  simp only [e2, e3, Int.toNat_zero]
  rw [if_neg (by omega), if_neg (by decide), e4, if_pos (by decide)]
  rfl
end Go.Proofs.Ytdjnaahkcnklhaa.Co
/- The walk of the law GetDown: at any numbers it returns true and leaves what was in memory. -/
namespace Go.Proofs.Ytdjnaahkcnklhaa.Co
open Go.ChangeShapes Go.WideShapes Go.ChangeAt Go.RowKit
open Go.Proofs.Ytdjnaahkcnklhaa.St (BoxN boxn_new own_below grown_setCell IsRow Elem flat flat_append own_isRow idxI)
open Go.Proofs.Ytdjnaahkcnklhaa.Pt (LS2 cfg_two two_any)
set_option linter.unusedVariables false

theorem home_two {s key : Int} (h1 : 1 ≤ s) (h2 : s ≤ 4) (hk : 0 ≤ key ∧ key ≤ 7) : homeNum s LS2 3 key = key.tmod s := by
  have hc := cfg_two (p := 3) h1 h2 (by omega) (by omega)
  unfold homeNum homeErr
  rw [if_pos hc]
  have h3 : (0 ≤ key ∧ key ≤ 7) := hk
  simp [h3, Int.tmod_eq_emod_of_nonneg hk.1]
set_option maxRecDepth 100000 in
set_option maxHeartbeats 8000000 in
theorem getDown_walk (s l key : Int) (w : World) (hs : (Lit.int .i64 s).wf = true) (hl0 : (Lit.int .i64 l).wf = true) (hk : (Lit.int .i64 key).wf = true) :
    Calls Try.prog 3 #[.int .i64 s, .int .i64 l, .int .i64 key] w fun e w' => e = .returned (.bool true) ∧ Below w.heap.size w w' := by
  have bds : -9223372036854775808 ≤ s ∧ s ≤ 9223372036854775807 := by
    simp [Lit.wf, IntKind.min, IntKind.max, IntKind.signed, IntKind.bits] at hs
    omega
  have bdl : -9223372036854775808 ≤ l ∧ l ≤ 9223372036854775807 := by
    simp [Lit.wf, IntKind.min, IntKind.max, IntKind.signed, IntKind.bits] at hl0
    omega
  have bdk : -9223372036854775808 ≤ key ∧ key ≤ 9223372036854775807 := by
    simp [Lit.wf, IntKind.min, IntKind.max, IntKind.signed, IntKind.bits] at hk
    omega
  clear hs hk hl0
  have hkp := pk_bd key 8 (by omega)
  have hPKK := fun u => picked_any key 8 u bdk (by omega) (by omega)
  obtain ⟨KK, eKK⟩ : ∃ x, x = pk key 8 := ⟨_, rfl⟩
  rw [← eKK] at hkp hPKK
  clear eKK
  have hlp := pk_bd l 2 (by omega)
  have hPLL := fun u => picked_any l 2 u bdl (by omega) (by omega)
  obtain ⟨LL, eLL⟩ : ∃ x, x = pk l 2 := ⟨_, rfl⟩
  rw [← eLL] at hlp hPLL
  clear eLL
  have hsp := pk_bd s 3 (by omega)
  have hTw := fun u => two_any s u bds
  obtain ⟨S1, eS1⟩ : ∃ x, x = 1 + pk s 3 := ⟨_, rfl⟩
  rw [← eS1] at hTw
  have hS1 : 1 ≤ S1 := by omega
  have hS4 : S1 ≤ 4 := by omega
  have hK7 : 0 ≤ KK ∧ KK ≤ 7 := by omega
  have hL01 : LL = 0 ∨ LL = 1 := by omega
  clear eS1 hsp hkp hlp
  have bw : Below w.heap.size w w := Below.refl _ _
  go_enter Try.func3, Try.ntmps3
  go_upto_region 2 with (go_at_call 5; refine (hTw _).mono ?_; rintro e w1 ⟨g0, rfl, hl, hg0, hb1⟩)
  clear hTw
  replace bw := bw.trans (hb1.mono bw.size)
  obtain ⟨X1, eX1⟩ : ∃ X : World, X = w1.alloc (.cells #[.int .i64 S1, .slice (some ⟨g0, 0, none⟩) 2 2, .int .i64 3] 24) := ⟨_, rfl⟩
  have cb : BoxN X1 w1.heap.size 3 [.int .i64 S1, .slice (some ⟨g0, 0, none⟩) 2 2, .int .i64 3] := by rw [eX1]; exact boxn_new w1 #[.int .i64 S1, .slice (some ⟨g0, 0, none⟩) 2 2, .int .i64 3] 24 3 rfl
  have bX1 : Below w1.heap.size w1 X1 := by rw [eX1]; exact (Below.refl _ _).alloc (Nat.le_refl _) _
  rw [← eX1]
  clear eX1
  replace bw := bw.trans (bX1.mono bw.size)
  replace hl := hl.below bX1
  have HC1 : Hid (Calls Try.prog 6 #[.agg #[.int .i64 S1, .slice (some ⟨g0, 0, none⟩) 2 2, .int .i64 3], .int .i64 0, .int .i64 0, .agg #[.int .i64 1, .slice none 0 0], .int .i64 6000, .agg #[.int .i64 1, .int .i64 0, .int .i64 0, .int .i64 0, .int .i64 0]] X1 fun e w' => ∃ (v' : CkV) (ix' : List (Nat × Nat)) (more' : List Rw), e = .returned (.tuple #[.agg #[.int .i64 2, .slice v'.ja 1 v'.jc, .slice v'.ma 0 v'.mc, .slice v'.ra 1 v'.rc, .slice v'.pa 1 v'.pc, .int .i64 0, .int .i64 0], .int .i64 0]) ∧ Live X1.heap.size w' v' ix' more' tBegin ∧ Below X1.heap.size X1 w') := call_first S1 3 (some ⟨g0, 0, none⟩) 2 2 LS2 0 0 1 6000 ⟨1, 0, 0, 0, 0⟩ X1 hl (ans_begin hS1 hS4 (Or.inl rfl)).1 (ans_begin hS1 hS4 (Or.inl rfl)).2 rfl rfl rfl rfl rfl rfl rfl
  have cb_0 : X1.cell? ⟨w1.heap.size, 0, none⟩ = some (.int .i64 S1) := (cb.c 0 (by decide)).1
  have cb_1 : X1.cell? ⟨w1.heap.size, 1, none⟩ = some (.slice (some ⟨g0, 0, none⟩) 2 2) := (cb.c 1 (by decide)).1
  have cb_2 : X1.cell? ⟨w1.heap.size, 2, none⟩ = some (.int .i64 3) := (cb.c 2 (by decide)).1
  have cb_z := cb.lt
  go_upto_region 3 with (go_at_call 6; refine HC1.out.mono ?_; rintro e y1 ⟨v1, ix1, more1, rfl, hL1, hc1⟩)
  clear cb_0 cb_1 cb_2 cb_z
  clear HC1
  replace cb := cb.below hc1 cb.lt
  replace bw := bw.trans (hc1.mono bw.size)
  replace hl := hl.below hc1
  obtain ⟨X2, eX2⟩ : ∃ X : World, X = y1.alloc (.cells #[.int .i64 2, .slice v1.ja 1 v1.jc, .slice v1.ma 0 v1.mc, .slice v1.ra 1 v1.rc, .slice v1.pa 1 v1.pc, .int .i64 0, .int .i64 0] 33) := ⟨_, rfl⟩
  have tb1 : BoxN X2 y1.heap.size 7 [.int .i64 2, .slice v1.ja 1 v1.jc, .slice v1.ma 0 v1.mc, .slice v1.ra 1 v1.rc, .slice v1.pa 1 v1.pc, .int .i64 0, .int .i64 0] := by rw [eX2]; exact boxn_new y1 #[.int .i64 2, .slice v1.ja 1 v1.jc, .slice v1.ma 0 v1.mc, .slice v1.ra 1 v1.rc, .slice v1.pa 1 v1.pc, .int .i64 0, .int .i64 0] 33 7 rfl
  have bX2 : Below y1.heap.size y1 X2 := by rw [eX2]; exact (Below.refl _ _).alloc (Nat.le_refl _) _
  rw [← eX2]
  clear eX2
  replace cb := cb.below bX2 cb.lt
  replace bw := bw.trans (bX2.mono bw.size)
  replace hl := hl.below bX2
  replace hL1 := hL1.below bX2
  go_upto_region 4 with (go_at_call 7; refine (hPKK _).mono ?_; rintro e u ⟨rfl, hu⟩; rw [hu]; clear hu)
  clear hPKK
  have HC2 : Hid (Calls Try.prog 6 #[.agg #[.int .i64 S1, .slice (some ⟨g0, 0, none⟩) 2 2, .int .i64 3], .int .i64 0, .int .i64 0, .agg #[.int .i64 2, .slice v1.ja 1 v1.jc], .int .i64 6000, .agg #[.int .i64 2, .int .i64 1, .int .i64 1, .int .i64 KK, .int .i64 0]] X2 fun e w' => ∃ (v' : CkV) (ix' : List (Nat × Nat)) (more' : List Rw), e = .returned (.tuple #[.agg #[.int .i64 2, .slice v'.ja 1 v'.jc, .slice v'.ma 0 v'.mc, .slice v'.ra 0 v'.rc, .slice v'.pa 1 v'.pc, .int .i64 0, .int .i64 0], .int .i64 0]) ∧ Live X2.heap.size w' v' ix' more' ⟨2, [newJob 1], [], [], [⟨0, 2, 1, KK, 0, 10⟩], 0, 0⟩ ∧ Below X2.heap.size X2 w') := call_on S1 3 (some ⟨g0, 0, none⟩) 2 2 LS2 0 0 6000 ⟨2, 1, 1, KK, 0⟩ X2 hl hL1 (nx0 := 2) (jl0 := 1) rfl rfl (cl_two hS1 hS4 (Or.inl rfl) (by decide) (jbs_new hS1) (by simp)) (ans_up hS1 hS4 hK7) rfl rfl rfl rfl rfl rfl rfl
  have cb_0 : X2.cell? ⟨w1.heap.size, 0, none⟩ = some (.int .i64 S1) := (cb.c 0 (by decide)).1
  have cb_1 : X2.cell? ⟨w1.heap.size, 1, none⟩ = some (.slice (some ⟨g0, 0, none⟩) 2 2) := (cb.c 1 (by decide)).1
  have cb_2 : X2.cell? ⟨w1.heap.size, 2, none⟩ = some (.int .i64 3) := (cb.c 2 (by decide)).1
  have cb_z := cb.lt
  have tb1_0 : X2.cell? ⟨y1.heap.size, 0, none⟩ = some (.int .i64 2) := (tb1.c 0 (by decide)).1
  have tb1_1 : X2.cell? ⟨y1.heap.size, 1, none⟩ = some (.slice v1.ja 1 v1.jc) := (tb1.c 1 (by decide)).1
  have tb1_z := tb1.lt
  go_upto_region 5 with (go_at_call 6; refine HC2.out.mono ?_; rintro e y2 ⟨v2, ix2, more2, rfl, hL2, hc2⟩)
  clear cb_0 cb_1 cb_2 cb_z tb1_0 tb1_1 tb1_z
  clear HC2
  replace cb := cb.below hc2 cb.lt
  replace tb1 := tb1.below hc2 tb1.lt
  replace bw := bw.trans (hc2.mono bw.size)
  replace hl := hl.below hc2
  replace hL1 := hL1.below hc2
  obtain ⟨X3, eX3⟩ : ∃ X : World, X = y2.alloc (.cells #[.int .i64 2, .slice v2.ja 1 v2.jc, .slice v2.ma 0 v2.mc, .slice v2.ra 0 v2.rc, .slice v2.pa 1 v2.pc, .int .i64 0, .int .i64 0] 33) := ⟨_, rfl⟩
  have tb2 : BoxN X3 y2.heap.size 7 [.int .i64 2, .slice v2.ja 1 v2.jc, .slice v2.ma 0 v2.mc, .slice v2.ra 0 v2.rc, .slice v2.pa 1 v2.pc, .int .i64 0, .int .i64 0] := by rw [eX3]; exact boxn_new y2 #[.int .i64 2, .slice v2.ja 1 v2.jc, .slice v2.ma 0 v2.mc, .slice v2.ra 0 v2.rc, .slice v2.pa 1 v2.pc, .int .i64 0, .int .i64 0] 33 7 rfl
  have bX3 : Below y2.heap.size y2 X3 := by rw [eX3]; exact (Below.refl _ _).alloc (Nat.le_refl _) _
  rw [← eX3]
  clear eX3
  replace cb := cb.below bX3 cb.lt
  replace tb1 := tb1.below bX3 tb1.lt
  replace bw := bw.trans (bX3.mono bw.size)
  replace hl := hl.below bX3
  replace hL1 := hL1.below bX3
  replace hL2 := hL2.below bX3
  have HC3 : Hid (∀ U, Below X3.heap.size X3 U → Calls Try.prog 6 #[.agg #[.int .i64 S1, .slice (some ⟨g0, 0, none⟩) 2 2, .int .i64 3], .int .i64 1, .int .i64 0, .agg #[.int .i64 2, .slice v1.ja 1 v1.jc], .int .i64 6000, .agg #[.int .i64 2, .int .i64 1, .int .i64 LL, .int .i64 KK, .int .i64 0]] U fun e w' => ∃ (v' : CkV) (ix' : List (Nat × Nat)) (more' : List Rw), e = .returned (.tuple #[.agg #[.int .i64 2, .slice v'.ja 1 v'.jc, .slice v'.ma 1 v'.mc, .slice v'.ra 0 v'.rc, .slice v'.pa 0 v'.pc, .int .i64 0, .int .i64 0], .int .i64 0]) ∧ Live U.heap.size w' v' ix' more' ⟨2, [jOne ⟨false, LL, KK, 0, 0, 1, false, false⟩], [⟨1, 0, homeNum S1 LS2 3 KK, 0, 1, LL, KK, 0, 0, 1, false, 0⟩], [], [], 0, 0⟩ ∧ Below U.heap.size U w') := fun U hU => call_on S1 3 (some ⟨g0, 0, none⟩) 2 2 LS2 1 0 6000 ⟨2, 1, LL, KK, 0⟩ U (hl.below hU) (hL1.below hU) (nx0 := 2) (jl0 := 1) rfl rfl (cl_two hS1 hS4 (Or.inr rfl) (by decide) (jbs_new hS1) (by simp)) (ans_ask (kind := 2) hS1 hS4 (Or.inr rfl) hL01 (by omega) hK7 (by omega)) rfl rfl rfl rfl rfl rfl rfl
  have HP3 : Hid (∀ U, Calls Try.prog 7 #[.int .i64 l, .int .i64 2] U fun e w' => e = .returned (.int .i64 LL) ∧ Below U.heap.size U w') := fun U => by
    refine (hPLL U).mono ?_
    rintro e u ⟨rfl, hu⟩
    rw [hu]
    exact ⟨rfl, Below.refl _ _⟩
  have KC : Hid (∀ U, Below X3.heap.size X3 U → U.cell? ⟨w1.heap.size, 0, none⟩ = some (.int .i64 S1) ∧ U.cell? ⟨w1.heap.size, 1, none⟩ = some (.slice (some ⟨g0, 0, none⟩) 2 2) ∧ U.cell? ⟨w1.heap.size, 2, none⟩ = some (.int .i64 3) ∧ U.cell? ⟨y1.heap.size, 0, none⟩ = some (.int .i64 2) ∧ U.cell? ⟨y1.heap.size, 1, none⟩ = some (.slice v1.ja 1 v1.jc)) := fun U hU => ⟨(((cb).below hU (cb).lt).c 0 (by decide)).1, (((cb).below hU (cb).lt).c 1 (by decide)).1, (((cb).below hU (cb).lt).c 2 (by decide)).1, (((tb1).below hU (tb1).lt).c 0 (by decide)).1, (((tb1).below hU (tb1).lt).c 1 (by decide)).1⟩
  go_upto_region 5 with (fail)
  refine wp_region_inv (by kernel_rfl) [36, 37, 38, 39, 40, 41, 42, 43, 35, 44, 45, 13, 14] (fun L T u => ∃ (V : CkV) (ixx : List (Nat × Nat)) (mm : List Rw) (A : Nat), Below X3.heap.size X3 u ∧ (L 0 = true → T 36 = .agg #[.int .i64 S1, .slice (some ⟨g0, 0, none⟩) 2 2, .int .i64 3]) ∧ (L 1 = true → T 37 = .pointer (some ⟨y1.heap.size, 0, none⟩)) ∧ (L 2 = true → T 38 = .agg #[.int .i64 2, .slice v1.ja 1 v1.jc]) ∧ (L 3 = true → T 39 = .int .i64 l) ∧ (L 4 = true → T 40 = .int .i64 LL) ∧ (L 5 = true → T 41 = .int .i64 KK) ∧ (L 6 = true → T 42 = .agg #[.int .i64 2, .int .i64 1, .int .i64 LL, .int .i64 KK, .int .i64 0]) ∧ (L 7 = true → T 43 = .tuple #[.agg #[.int .i64 2, .slice V.ja 1 V.jc, .slice V.ma 1 V.mc, .slice V.ra 0 V.rc, .slice V.pa 0 V.pc, .int .i64 0, .int .i64 0], .int .i64 0]) ∧ (L 8 = true → T 35 = .tuple #[.agg #[.int .i64 2, .slice V.ja 1 V.jc, .slice V.ma 1 V.mc, .slice V.ra 0 V.rc, .slice V.pa 0 V.pc, .int .i64 0, .int .i64 0], .int .i64 0]) ∧ (L 9 = true → T 44 = .agg #[.int .i64 2, .slice V.ja 1 V.jc, .slice V.ma 1 V.mc, .slice V.ra 0 V.rc, .slice V.pa 0 V.pc, .int .i64 0, .int .i64 0]) ∧ (L 10 = true → T 45 = .int .i64 0) ∧ (L 13 = true → T 14 = .int .i64 0) ∧ (L 7 = true → Live X3.heap.size u V ixx mm ⟨2, [jOne ⟨false, LL, KK, 0, 0, 1, false, false⟩], [⟨1, 0, homeNum S1 LS2 3 KK, 0, 1, LL, KK, 0, 0, 1, false, 0⟩], [], [], 0, 0⟩) ∧ (L 11 = true → (T 13 = .pointer (some ⟨A, 0, none⟩) ∧ X3.heap.size ≤ A ∧ A < u.heap.size)) ∧ (L 11 = true → L 12 = false → BoxN u A 7 [.int .i64 0, .slice none 0 0, .slice none 0 0, .slice none 0 0, .slice none 0 0, .int .i64 0, .int .i64 0]) ∧ (L 12 = true → BoxN u A 7 [.int .i64 2, .slice V.ja 1 V.jc, .slice V.ma 1 V.mc, .slice V.ra 0 V.rc, .slice V.pa 0 V.pc, .int .i64 0, .int .i64 0]) ∧ (L 7 = true → L 11 = true → Far A (V.rows ++ mm))) (by decide) (by kernel_rfl) (by kernel_rfl) ?_ ?_ ?_
  · exact ⟨default, default, default, 0, (Below.refl _ _).drew, nofun, nofun, nofun, nofun, nofun, nofun, nofun, nofun, nofun, nofun, nofun, nofun, nofun, nofun, nofun, nofun, nofun⟩
  · refine ⟨?_, ?_, ?_, ?_, ?_, ?_, ?_, ?_, ?_, ?_, ?_, ?_, ?_, ?_, trivial⟩
    · rintro L T u hd hk hcl ⟨V, ixx, mm, A, hb, p0, p1, p2, p3, p4, p5, p6, p7, p8, p9, p10, p13, lv, pa11, bz11, bv11, fr11_lv⟩ K hK
      simp only [fr, Act.put, List.setIfInBounds_toArray, List.set_cons_zero, List.set_cons_succ, updO] at hK ⊢
      simp [Region.binds] at hd
      obtain ⟨x0, x1, x2, x3, x4⟩ := KC.out u hb
      rw [if_pos (by rfl)]
      simp only [Oper.wpv]
      go_simp
      exact hK _ _ ⟨V, ixx, mm, A, hb, fun _ => rfl, p1, p2, p3, p4, p5, p6, p7, p8, p9, p10, p13, lv, pa11, bz11, bv11, fr11_lv⟩
    · rintro L T u hd hk hcl ⟨V, ixx, mm, A, hb, p0, p1, p2, p3, p4, p5, p6, p7, p8, p9, p10, p13, lv, pa11, bz11, bv11, fr11_lv⟩ K hK
      simp only [fr, Act.put, List.setIfInBounds_toArray, List.set_cons_zero, List.set_cons_succ, updO] at hK ⊢
      simp [Region.binds] at hd
      rw [if_pos (by rfl)]
      simp only [Oper.wpv]
      go_simp
      exact hK _ _ ⟨V, ixx, mm, A, hb, p0, fun _ => rfl, p2, p3, p4, p5, p6, p7, p8, p9, p10, p13, lv, pa11, bz11, bv11, fr11_lv⟩
    · rintro L T u hd hk hcl ⟨V, ixx, mm, A, hb, p0, p1, p2, p3, p4, p5, p6, p7, p8, p9, p10, p13, lv, pa11, bz11, bv11, fr11_lv⟩ K hK
      simp only [fr, Act.put, List.setIfInBounds_toArray, List.set_cons_zero, List.set_cons_succ, updO] at hK ⊢
      simp [Region.binds] at hd
      have g1 := p1 (by simp [hd])
      obtain ⟨x0, x1, x2, x3, x4⟩ := KC.out u hb
      rw [if_pos (by rfl)]
      simp only [Oper.wpv]
      go_simp
      exact hK _ _ ⟨V, ixx, mm, A, hb, p0, p1, fun _ => rfl, p3, p4, p5, p6, p7, p8, p9, p10, p13, lv, pa11, bz11, bv11, fr11_lv⟩
    · rintro L T u hd hk hcl ⟨V, ixx, mm, A, hb, p0, p1, p2, p3, p4, p5, p6, p7, p8, p9, p10, p13, lv, pa11, bz11, bv11, fr11_lv⟩ K hK
      simp only [fr, Act.put, List.setIfInBounds_toArray, List.set_cons_zero, List.set_cons_succ, updO] at hK ⊢
      simp [Region.binds] at hd
      rw [if_pos (by rfl)]
      simp only [Oper.wpv]
      go_simp
      exact hK _ _ ⟨V, ixx, mm, A, hb, p0, p1, p2, fun _ => rfl, p4, p5, p6, p7, p8, p9, p10, p13, lv, pa11, bz11, bv11, fr11_lv⟩
    · rintro L T u hd hk hcl ⟨V, ixx, mm, A, hb, p0, p1, p2, p3, p4, p5, p6, p7, p8, p9, p10, p13, lv, pa11, bz11, bv11, fr11_lv⟩ K hK
      simp only [fr, Act.put, List.setIfInBounds_toArray, List.set_cons_zero, List.set_cons_succ, updO] at hK ⊢
      simp [Region.binds] at hd
      have g3 := p3 (by simp [hd])
      rw [if_pos (by rfl)]
      simp only [Oper.wpv]
      go_simp
      refine (HP3.out _).mono ?_
      rintro e u1 ⟨rfl, hg⟩
      exact hK _ _ ⟨V, ixx, mm, A, nT hb hg, p0, p1, p2, p3, fun _ => rfl, p5, p6, p7, p8, p9, p10, p13, fun h0 => ((lv h0)).below hg, fun h0 => ⟨(pa11 h0).1, (pa11 h0).2.1, Nat.lt_of_lt_of_le (pa11 h0).2.2 hg.size⟩, fun h0 h1 => (bz11 h0 h1).below hg (bz11 h0 h1).lt, fun h0 => (bv11 h0).below hg (bv11 h0).lt, fr11_lv⟩
    · rintro L T u hd hk hcl ⟨V, ixx, mm, A, hb, p0, p1, p2, p3, p4, p5, p6, p7, p8, p9, p10, p13, lv, pa11, bz11, bv11, fr11_lv⟩ K hK
      simp only [fr, Act.put, List.setIfInBounds_toArray, List.set_cons_zero, List.set_cons_succ, updO] at hK ⊢
      simp [Region.binds] at hd
      rw [if_pos (by rfl)]
      simp only [Oper.wpv]
      go_simp
      exact hK _ _ ⟨V, ixx, mm, A, hb, p0, p1, p2, p3, p4, fun _ => rfl, p6, p7, p8, p9, p10, p13, lv, pa11, bz11, bv11, fr11_lv⟩
    · rintro L T u hd hk hcl ⟨V, ixx, mm, A, hb, p0, p1, p2, p3, p4, p5, p6, p7, p8, p9, p10, p13, lv, pa11, bz11, bv11, fr11_lv⟩ K hK
      simp only [fr, Act.put, List.setIfInBounds_toArray, List.set_cons_zero, List.set_cons_succ, updO] at hK ⊢
      simp [Region.binds] at hd
      have g4 := p4 (by simp [hd])
      have g5 := p5 (by simp [hd])
      rw [if_pos (by rfl)]
      simp only [Oper.wpv]
      go_simp
      exact hK _ _ ⟨V, ixx, mm, A, hb, p0, p1, p2, p3, p4, p5, fun _ => rfl, p7, p8, p9, p10, p13, lv, pa11, bz11, bv11, fr11_lv⟩
    · rintro L T u hd hk hcl ⟨V, ixx, mm, A, hb, p0, p1, p2, p3, p4, p5, p6, p7, p8, p9, p10, p13, lv, pa11, bz11, bv11, fr11_lv⟩ K hK
      simp only [fr, Act.put, List.setIfInBounds_toArray, List.set_cons_zero, List.set_cons_succ, updO] at hK ⊢
      simp [Region.binds] at hd
      have g0 := p0 (by simp [hd])
      have g2 := p2 (by simp [hd])
      have g6 := p6 (by simp [hd])
      have k8 := hcl 8 _ rfl
      simp [Region.binds] at k8
      have k9 := hcl 9 _ rfl
      simp [Region.binds] at k9
      have k10 := hcl 10 _ rfl
      simp [Region.binds] at k10
      have k12 := hcl 12 _ rfl
      simp [Region.binds] at k12
      have k13 := hcl 13 _ rfl
      simp [Region.binds] at k13
      rw [if_pos (by rfl)]
      simp only [Oper.wpv]
      go_simp
      refine (HC3.out _ hb).mono ?_
      rintro e u1 ⟨V5, ix5, mm5, rfl, hlv, hg⟩
      exact hK _ _ ⟨V5, ix5, mm5, A, nT hb hg, p0, p1, p2, p3, p4, p5, p6, fun _ => rfl, fun h => absurd (show L 8 = true from h) (by intro hh; have a8 := k8 hh; simp [hk] at a8), fun h => absurd (show L 9 = true from h) (by intro hh; have a9 := k9 hh; have a8 := k8 (by simp [a9]); simp [hk] at a8), fun h => absurd (show L 10 = true from h) (by intro hh; have a10 := k10 hh; have a8 := k8 (by simp [a10]); simp [hk] at a8), fun h => absurd (show L 13 = true from h) (by intro hh; have a13 := k13 hh; have a10 := k10 (by simp [a13]); have a8 := k8 (by simp [a10]); simp [hk] at a8), fun _ => hlv.base hb.size, fun h0 => ⟨(pa11 h0).1, (pa11 h0).2.1, Nat.lt_of_lt_of_le (pa11 h0).2.2 hg.size⟩, fun h0 h1 => (bz11 h0 h1).below hg (bz11 h0 h1).lt, fun h => absurd (show L 12 = true from h) (by intro hh; have a12 := k12 hh; have a9 := k9 (by simp [a12]); have a8 := k8 (by simp [a9]); simp [hk] at a8), fun _ h1 => (hlv).farOld ((pa11 (show L 11 = true from h1)).2.2)⟩
    · rintro L T u hd hk hcl ⟨V, ixx, mm, A, hb, p0, p1, p2, p3, p4, p5, p6, p7, p8, p9, p10, p13, lv, pa11, bz11, bv11, fr11_lv⟩ K hK
      simp only [fr, Act.put, List.setIfInBounds_toArray, List.set_cons_zero, List.set_cons_succ, updO] at hK ⊢
      simp [Region.binds] at hd
      have g7 := p7 (by simp [hd])
      rw [if_pos (by rfl)]
      simp only [Oper.wpv]
      go_simp
      exact hK _ _ ⟨V, ixx, mm, A, hb, p0, p1, p2, p3, p4, p5, p6, p7, fun _ => rfl, p9, p10, p13, lv, pa11, bz11, bv11, fr11_lv⟩
    · rintro L T u hd hk hcl ⟨V, ixx, mm, A, hb, p0, p1, p2, p3, p4, p5, p6, p7, p8, p9, p10, p13, lv, pa11, bz11, bv11, fr11_lv⟩ K hK
      simp only [fr, Act.put, List.setIfInBounds_toArray, List.set_cons_zero, List.set_cons_succ, updO] at hK ⊢
      simp [Region.binds] at hd
      have g8 := p8 (by simp [hd])
      rw [if_pos (by rfl)]
      simp only [Oper.wpv]
      go_simp
      exact hK _ _ ⟨V, ixx, mm, A, hb, p0, p1, p2, p3, p4, p5, p6, p7, p8, fun _ => rfl, p10, p13, lv, pa11, bz11, bv11, fr11_lv⟩
    · rintro L T u hd hk hcl ⟨V, ixx, mm, A, hb, p0, p1, p2, p3, p4, p5, p6, p7, p8, p9, p10, p13, lv, pa11, bz11, bv11, fr11_lv⟩ K hK
      simp only [fr, Act.put, List.setIfInBounds_toArray, List.set_cons_zero, List.set_cons_succ, updO] at hK ⊢
      simp [Region.binds] at hd
      have g8 := p8 (by simp [hd])
      rw [if_pos (by rfl)]
      simp only [Oper.wpv]
      go_simp
      exact hK _ _ ⟨V, ixx, mm, A, hb, p0, p1, p2, p3, p4, p5, p6, p7, p8, p9, fun _ => rfl, p13, lv, pa11, bz11, bv11, fr11_lv⟩
    · rintro L T u hd hk hcl ⟨V, ixx, mm, A, hb, p0, p1, p2, p3, p4, p5, p6, p7, p8, p9, p10, p13, lv, pa11, bz11, bv11, fr11_lv⟩ K hK
      simp only [fr, Act.put, List.setIfInBounds_toArray, List.set_cons_zero, List.set_cons_succ, updO] at hK ⊢
      simp [Region.binds] at hd
      have kst := hcl 12 _ rfl
      simp [Region.binds] at kst
      rw [if_pos (by rfl)]
      simp only [Oper.wpv]
      go_simp
      have hg : Below u.heap.size u _ := (Below.refl u.heap.size u).alloc (Nat.le_refl _) (.cells #[.int .i64 0, .slice none 0 0, .slice none 0 0, .slice none 0 0, .slice none 0 0, .int .i64 0, .int .i64 0] 33)
      exact hK _ _ ⟨V, ixx, mm, u.heap.size, nT hb hg, p0, p1, p2, p3, p4, p5, p6, p7, p8, p9, p10, p13, fun h0 => ((lv h0)).below hg, fun _ => ⟨rfl, hb.size, by simp⟩, fun _ _ => boxn_new u #[.int .i64 0, .slice none 0 0, .slice none 0 0, .slice none 0 0, .slice none 0 0, .int .i64 0, .int .i64 0] 33 7 rfl, fun h => absurd (show L 12 = true from h) (by intro hh; have := kst hh; simp [hk] at this), fun h0 _ => (lv (show L 7 = true from h0)).farNew⟩
    · rintro L T u hd hk hcl ⟨V, ixx, mm, A, hb, p0, p1, p2, p3, p4, p5, p6, p7, p8, p9, p10, p13, lv, pa11, bz11, bv11, fr11_lv⟩ K hK
      simp only [fr, Act.put, List.setIfInBounds_toArray, List.set_cons_zero, List.set_cons_succ, updO] at hK ⊢
      simp [Region.binds] at hd
      have g9 := p9 (by simp [hd])
      have g11 := pa11 (by simp [hd])
      have HK11 : L 11 = true := by simp [hd]
      obtain ⟨gA, gB, gC⟩ := pa11 HK11
      have bz := bz11 HK11 hk
      have z0 : u.cell? ⟨A, 0, none⟩ = some (.int .i64 0) := (bz.c 0 (by decide)).1
      have zf0 := (bz.c 0 (by decide)).2
      have z1 : u.cell? ⟨A, 1, none⟩ = some (.slice none 0 0) := (bz.c 1 (by decide)).1
      have zf1 := (bz.c 1 (by decide)).2
      have z2 : u.cell? ⟨A, 2, none⟩ = some (.slice none 0 0) := (bz.c 2 (by decide)).1
      have zf2 := (bz.c 2 (by decide)).2
      have z3 : u.cell? ⟨A, 3, none⟩ = some (.slice none 0 0) := (bz.c 3 (by decide)).1
      have zf3 := (bz.c 3 (by decide)).2
      have z4 : u.cell? ⟨A, 4, none⟩ = some (.slice none 0 0) := (bz.c 4 (by decide)).1
      have zf4 := (bz.c 4 (by decide)).2
      have z5 : u.cell? ⟨A, 5, none⟩ = some (.int .i64 0) := (bz.c 5 (by decide)).1
      have zf5 := (bz.c 5 (by decide)).2
      have z6 : u.cell? ⟨A, 6, none⟩ = some (.int .i64 0) := (bz.c 6 (by decide)).1
      have zf6 := (bz.c 6 (by decide)).2
      clear g11
      rw [if_pos (by rfl)]
      simp only [Oper.wpv]
      go_simp
      exact hK _ _ ⟨V, ixx, mm, A, (((((((hb.setCell (p := ⟨A, 0, none⟩) gB _).setCell (p := ⟨A, 1, none⟩) gB _).setCell (p := ⟨A, 2, none⟩) gB _).setCell (p := ⟨A, 3, none⟩) gB _).setCell (p := ⟨A, 4, none⟩) gB _).setCell (p := ⟨A, 5, none⟩) gB _).setCell (p := ⟨A, 6, none⟩) gB _), p0, p1, p2, p3, p4, p5, p6, p7, p8, p9, p10, p13, fun h0 => Live.aside7 (lv h0) (fr11_lv h0 HK11) _ _ _ _ _ _ _, fun h0 => ⟨(pa11 h0).1, (pa11 h0).2.1, by simpa using (pa11 h0).2.2⟩, fun h0 h1 => Bool.noConfusion (show true = false from h1), fun _ => (((((((bz.set 0 (by decide) _).set 1 (by decide) _).set 2 (by decide) _).set 3 (by decide) _).set 4 (by decide) _).set 5 (by decide) _).set 6 (by decide) _), fr11_lv⟩
    · rintro L T u hd hk hcl ⟨V, ixx, mm, A, hb, p0, p1, p2, p3, p4, p5, p6, p7, p8, p9, p10, p13, lv, pa11, bz11, bv11, fr11_lv⟩ K hK
      simp only [fr, Act.put, List.setIfInBounds_toArray, List.set_cons_zero, List.set_cons_succ, updO] at hK ⊢
      simp [Region.binds] at hd
      have g10 := p10 (by simp [hd])
      rw [if_pos (by rfl)]
      simp only [Oper.wpv]
      go_simp
      exact hK _ _ ⟨V, ixx, mm, A, hb, p0, p1, p2, p3, p4, p5, p6, p7, p8, p9, p10, fun _ => rfl, lv, pa11, bz11, bv11, fr11_lv⟩
  · rintro L T u hl ⟨V, ixx, mm, A, hb, p0, p1, p2, p3, p4, p5, p6, p7, p8, p9, p10, p13, lv, pa11, bz11, bv11, fr11_lv⟩
    simp only [fr, Act.put, List.setIfInBounds_toArray, List.set_cons_zero, List.set_cons_succ]
    have hLv := lv (hl 7 (by decide))
    have hPa := pa11 (hl 11 (by decide))
    have bV := bv11 (hl 12 (by decide))
    have h14 := p13 (hl 13 (by decide))
    clear p0 p1 p2 p3 p4 p5 p6 p7 p8 p9 p10 p13 lv pa11 bz11 bv11 fr11_lv HC3 KC
    obtain ⟨hA1, hA2, hA3⟩ := hPa
    rw [hA1, h14]
    clear hA1 h14
    replace cb := cb.below hb cb.lt
    replace tb1 := tb1.below hb tb1.lt
    replace tb2 := tb2.below hb tb2.lt
    replace bw := bw.trans (hb.mono bw.size)
    replace hL1 := hL1.below hb
    replace hL2 := hL2.below hb
    have hR2 := hL2.reps
    rw [hL2.ps.1, hL2.ps.2] at hR2
    simp only [List.length_cons, List.length_nil, Nat.zero_add] at hR2
    obtain ⟨rb2, ro2, er2, zr2, hr2⟩ := hR2.2.2.2.2 (by decide)
    have hp2 := hr2 0 (by decide) 5 (by decide)
    have hcap2 : 0 < v2.pc := hR2.2.1
    simp only [List.getD_cons_zero, RpV.cells, List.getElem?_cons_zero, List.getElem?_cons_succ, Nat.zero_mul, Nat.add_zero] at hp2
    clear hr2 hR2
    have tb2_2 : u.cell? ⟨y2.heap.size, 2, none⟩ = some (.slice v2.ma 0 v2.mc) := (tb2.c 2 (by decide)).1
    have tb2_4 : u.cell? ⟨y2.heap.size, 4, none⟩ = some (.slice v2.pa 1 v2.pc) := (tb2.c 4 (by decide)).1
    have tb2_z := tb2.lt
    rw [er2] at tb2_4
    go_upto_region 8 with (fail)
    clear tb2_2 tb2_4 tb2_z
    clear hp2 er2 zr2
    have hM := hLv.msgs
    rw [hLv.ms.1, hLv.ms.2] at hM
    simp only [List.length_cons, List.length_nil, Nat.zero_add] at hM
    obtain ⟨mb, mo, em, zm, hmc⟩ := hM.2.2.2.2 (by decide)
    have hcm : 0 < V.mc := hM.2.1
    rw [home_two hS1 hS4 hK7] at hmc
    have p0 := hmc 0 (by decide) 0 (by decide)
    have p1 := hmc 0 (by decide) 1 (by decide)
    have p2 := hmc 0 (by decide) 2 (by decide)
    have p3 := hmc 0 (by decide) 3 (by decide)
    have p4 := hmc 0 (by decide) 4 (by decide)
    have p5 := hmc 0 (by decide) 5 (by decide)
    have p6 := hmc 0 (by decide) 6 (by decide)
    have p7 := hmc 0 (by decide) 7 (by decide)
    have p8 := hmc 0 (by decide) 8 (by decide)
    have p9 := hmc 0 (by decide) 9 (by decide)
    have p10 := hmc 0 (by decide) 10 (by decide)
    have p11 := hmc 0 (by decide) 11 (by decide)
    simp only [List.getD_cons_zero, mcells, List.getElem?_cons_zero, List.getElem?_cons_succ, Nat.zero_mul, Nat.add_zero] at p0 p1 p2 p3 p4 p5 p6 p7 p8 p9 p10 p11
    clear hmc hM
    have bV_2 : u.cell? ⟨A, 2, none⟩ = some (.slice V.ma 1 V.mc) := (bV.c 2 (by decide)).1
    have bV_z := bV.lt
    have cb_0 : u.cell? ⟨w1.heap.size, 0, none⟩ = some (.int .i64 S1) := (cb.c 0 (by decide)).1
    have cb_z := cb.lt
    rw [em] at bV_2
    have qbV_2 := fun d os => cell_regrown bV_2 d os
    have qcb_0 := fun d os => cell_regrown cb_0 d os
    have qp0 := fun d os => cell_regrown p0 d os
    have qp1 := fun d os => cell_regrown p1 d os
    have qp2 := fun d os => cell_regrown p2 d os
    have qp3 := fun d os => cell_regrown p3 d os
    have qp4 := fun d os => cell_regrown p4 d os
    have qp5 := fun d os => cell_regrown p5 d os
    have qp6 := fun d os => cell_regrown p6 d os
    have qp7 := fun d os => cell_regrown p7 d os
    have qp8 := fun d os => cell_regrown p8 d os
    have qp9 := fun d os => cell_regrown p9 d os
    have qp10 := fun d os => cell_regrown p10 d os
    have qp11 := fun d os => cell_regrown p11 d os
    have hsn : (S1 == 0) = false := by simp; omega
    refine wp_region_quiet_below (by kernel_rfl) (by kernel_rfl) ?_
    repeat (go_big_quiet_step ((exact Calls.regrown_of (HP3.out _))))
    refine wpQuiet_nil ?_
    intro _ hw'
    obtain ⟨⟨dq, osq⟩, hw''⟩ := hw'
    subst hw''
    have bQ := below_regrown u dq osq
    obtain ⟨Z, eZ⟩ : ∃ Z, Z = Go.Sort.grow (Go.redrawn u dq) osq := ⟨_, rfl⟩
    rw [← eZ] at bQ ⊢
    clear eZ qbV_2 qcb_0 qp0 qp1 qp2 qp3 qp4 qp5 qp6 qp7 qp8 qp9 qp10 qp11
    go_wp2
    go_ret
    exact ⟨by simp, bw.trans (bQ.mono bw.size)⟩
end Go.Proofs.Ytdjnaahkcnklhaa.Co
