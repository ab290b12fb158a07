/- Texts of this claim, one behind the other. -/
import Derived.Test.YtdjnaahkcnklhabDoorM38CommitAsks
/- A transaction that reads and writes nothing, as plain data. -/
namespace Go.Proofs.YtdjnaahkcnklhabDoor.Co
open Go.Proofs.YtdjnaahkcnklhabDoor.St (idxI idxI_lt idxI_hit idxI_none)
open Go.Proofs.YtdjnaahkcnklhabDoor.Pt (LS2 cfg_two)
set_option linter.unusedVariables false

/-- The i-th read; y: it is sure. -/
def rdT (y : Bool) (i : Nat) : TkV := ⟨false, (i : Int) % 2, i, i, (i : Int) % 4, i + 1, true, y⟩
def rds (n : Nat) : List TkV := (List.range n).map (rdT false)
/-- The first i ones are sure. -/
def rdsS (n i : Nat) : List TkV := (List.range n).map fun j => rdT (decide (j < i)) j
theorem rds_len (n : Nat) : (rds n).length = n := by simp [rds]
theorem rdsS_zero (n : Nat) : rdsS n 0 = rds n := by simp [rdsS, rds]
theorem rds_succ (n : Nat) : rds (n + 1) = rds n ++ [rdT false n] := by simp [rds, List.range_succ]
theorem rds_mem {n : Nat} {t : TkV} (h : t ∈ rds n) : t.done = true ∧ t.write = false ∧ t.sure = false := by
  unfold rds at h
  obtain ⟨i, hi, rfl⟩ := List.mem_map.1 h
  exact ⟨rfl, rfl, rfl⟩
theorem get_R {s : Int} {i : Nat} (h1 : 1 ≤ s) (h2 : s ≤ 4) (hi : i < 5) (hd : DOK s 2 2 [jDn (rds i)]) :
    CallAns (C2 s 1) 2 [jDn (rds i)] 6000 ⟨2, 1, (i : Int) % 2, i, 0⟩ = ⟨2, [jWt (rds i) ⟨false, (i : Int) % 2, i, 0, 0, i + 1, false, false⟩], [⟨1, 0, (i : Int) % s, 0, 1, (i : Int) % 2, i, 0, 0, i + 1, false, 0⟩], [], [], 0, 0⟩ := by
  have h := ask_D (s := s) (l := 1) (kind := 2) (label := (i : Int) % 2) (key := i) (value := 0) (ts := rds i) h1 h2 (Or.inr rfl) (by omega) (by omega) (by omega) (by omega) (by omega) hd (fun t ht => (rds_mem ht).1) (by rw [rds_len]; omega)
  rw [rds_len, home_at h1 h2 (by omega)] at h
  exact h
theorem mf_got {s k f lb v n a : Int} (h1 : 1 ≤ s) (h2 : s ≤ 4) (hk : 0 ≤ k ∧ k ≤ 7) (hf : 0 ≤ f ∧ f ≤ s - 1) (hl : lb = 0 ∨ lb = 1) (hv : 0 ≤ v ∧ v ≤ 100) (hn : 0 ≤ n ∧ n ≤ 100) (ha : 0 ≤ a ∧ a ≤ 100) : msgFault s LS2 3 ⟨5, f, 0, 0, 1, lb, k, v, n, a, false, 0⟩ = 0 := by
  have hc := cfg_two (p := 3) h1 h2 (by omega) (by omega)
  refine mf_ok hc rfl ?_ ?_
  · have hn2 : n ≤ 1048576 := by omega
    have ha2 : a ≤ 1048576 := by omega
    have hv2 : v ≤ 1073741824 := by omega
    have hl2 : 0 ≤ lb ∧ lb ≤ 5 := by omega
    have hl3 : lb < 2 := by omega
    simp [msgRange, txnOK, partsOK, MV.parts, topL, inTops, inR, hf, hk, hn, hn2, ha, ha2, hv, hv2, hl2, bit, plc, LS2, isCd]
    omega
  · simp [msgForm, MV.parts, mHasOf, mHas, hasAll, bit]
theorem mf_sure {s k f lb n : Int} {y : Bool} (h1 : 1 ≤ s) (h2 : s ≤ 4) (hk : 0 ≤ k ∧ k ≤ 7) (hf : 0 ≤ f ∧ f ≤ s - 1) (hl : lb = 0 ∨ lb = 1) (hn : 0 ≤ n ∧ n ≤ 100) : msgFault s LS2 3 ⟨7, f, 0, 0, 1, lb, k, 0, n, 0, y, 0⟩ = 0 := by
  have hc := cfg_two (p := 3) h1 h2 (by omega) (by omega)
  refine mf_ok hc rfl ?_ ?_
  · have hn2 : n ≤ 1048576 := by omega
    have hl2 : 0 ≤ lb ∧ lb ≤ 5 := by omega
    have hl3 : lb < 2 := by omega
    cases y <;> simp [msgRange, txnOK, partsOK, MV.parts, topL, inTops, inR, hf, hk, hn, hn2, hl2, bit, plc, LS2, isCd] <;> omega
  · cases y <;> simp [msgForm, MV.parts, mHasOf, mHas, hasAll, bit]
theorem back_R {s : Int} {i : Nat} (h1 : 1 ≤ s) (h2 : s ≤ 4) (hi : i < 5) (hd : DOK s 2 2 [jDn (rds i)]) :
    backNx (C2 s 1) 2 [jWt (rds i) ⟨false, (i : Int) % 2, i, 0, 0, i + 1, false, false⟩] ⟨1, 0, (i : Int) % s, 0, 1, (i : Int) % 2, i, 0, 0, i + 1, false, 0⟩ ⟨0, i, 0, 0, i, 0⟩ = 2 ∧ backJs (C2 s 1) 2 [jWt (rds i) ⟨false, (i : Int) % 2, i, 0, 0, i + 1, false, false⟩] ⟨1, 0, (i : Int) % s, 0, 1, (i : Int) % 2, i, 0, 0, i + 1, false, 0⟩ ⟨0, i, 0, 0, i, 0⟩ = [jDn (rds (i + 1))] := by
  have hd2 := dok_ask h1 h2 (Or.inr rfl) (Or.inl rfl) hd (get_R h1 h2 hi hd)
  have hks : 0 ≤ (i : Int) % s ∧ (i : Int) % s ≤ s - 1 := ⟨Int.emod_nonneg _ (by omega), by have := Int.emod_lt_of_pos (i : Int) (show 0 < s by omega); omega⟩
  have e1 : pk (i : Int) 50 = i := by rw [pk_pos (by omega)]; omega
  have e2 : pk (i : Int) 4 = (i : Int) % 4 := pk_pos (by omega)
  have h := back_D (s := s) (l := 1) (ts := rds i) (t := ⟨false, (i : Int) % 2, i, 0, 0, i + 1, false, false⟩) (m := ⟨1, 0, (i : Int) % s, 0, 1, (i : Int) % 2, i, 0, 0, i + 1, false, 0⟩) (x := ⟨5, (i : Int) % s, 0, 0, 1, (i : Int) % 2, i, i, (i : Int) % 4, i + 1, false, 0⟩) (r := ⟨0, i, 0, 0, i, 0⟩) h1 h2 (Or.inr rfl) hd2 (by show (⟨5, (i : Int) % s, 0, 0, 1, (i : Int) % 2, i, pk (i : Int) 50, pk (i : Int) 4, i + 1, false, 0⟩ : MV) = _; rw [e1, e2]) (mf_got h1 h2 (by omega) hks (by omega) (by omega) (by omega) (by omega)) rfl rfl rfl rfl (home_at h1 h2 (by omega)).symm rfl rfl (Or.inr rfl) rfl rfl
  refine ⟨h.1, h.2.trans ?_⟩
  rw [jDn_snoc, rds_succ]
  rfl
theorem dok_R {s : Int} {i : Nat} (h1 : 1 ≤ s) (h2 : s ≤ 4) (hi : i < 5) (hd : DOK s 2 2 [jDn (rds i)]) : DOK s 2 2 [jDn (rds (i + 1))] :=
  dok_back (dok_ask h1 h2 (Or.inr rfl) (Or.inl rfl) hd (get_R h1 h2 hi hd)) (back_R h1 h2 hi hd)
/-- The job while it is checked. -/
def jC (n i : Nat) : JbV := ⟨1, 2, none, 0, 0, none, 0, 0, n, 0, rdsS n i, []⟩
def ckM (s : Int) (i : Nat) : MV := ⟨3, 0, (i : Int) % s, 0, 1, (i : Int) % 2, i, 0, (i : Int) % 4, 0, false, 0⟩
theorem commit_R {s : Int} {n : Nat} (h1 : 1 ≤ s) (h2 : s ≤ 4) (hn : 1 ≤ n) (hn5 : n ≤ 5) (hd : DOK s 2 2 [jDn (rds n)]) :
    CallAns (C2 s 1) 2 [jDn (rds n)] 6000 ⟨4, 1, 0, 0, 0⟩ = ⟨2, [jC n 0], (List.range n).map (ckM s), [], [], 1, 0⟩ := by
  have hc := cl_c2 (s := s) (l := 1) (kind := 4) h1 h2 (Or.inr rfl) hd (by omega)
  unfold CallAns
  rw [if_pos hc]
  have e2 : idxI (isN 1) (tn0 2 [jDn (rds n)]).js = 0 := idx_one rfl
  have e3 : (tn0 2 [jDn (rds n)]).js.getD 0 default = jDn (rds n) := rfl
  have e4 : askErr (C2 s 1) ⟨4, 1, 0, 0, 0⟩ (jDn (rds n)) = 0 := by
    unfold askErr
    have k0 : (jDn (rds n)).state = 1 := rfl
    rw [if_pos k0, wait_D (fun t ht => (rds_mem ht).1)]
    rfl
  unfold Tn.call
  simp only [e2, e3, Int.toNat_zero]
  rw [if_neg (by decide), if_neg (by decide), e4, if_neg (by decide), if_neg (by decide), if_neg (by decide), if_pos trivial]
  unfold Tn.check
  rw [e3]
  have es : allSure (jDn (rds n)).tasks = false := by
    unfold allSure
    have : ((rds n).any fun t => !t.write && !t.sure) = true := by
      rw [List.any_eq_true]
      refine ⟨rdT false 0, ?_, rfl⟩
      unfold rds
      exact List.mem_map.2 ⟨0, List.mem_range.2 (by omega), rfl⟩
    show (!((rds n).any fun t => !t.write && !t.sure)) = false
    rw [this]
    rfl
  rw [if_neg (by rw [es]; decide)]
  have em : chkMs s LS2 3 0 1 (rds n) = (List.range n).map (ckM s) := by
    unfold chkMs
    have ef : (rds n).filter unsure = rds n := List.filter_eq_self.2 fun t ht => by
      have := rds_mem ht
      unfold unsure
      rw [this.2.1, this.2.2]
      rfl
    rw [ef]
    unfold rds
    rw [List.map_map]
    refine List.map_congr_left fun i hi => ?_
    have hi2 := List.mem_range.1 hi
    show chkM s LS2 3 0 1 (rdT false i) = ckM s i
    unfold chkM ckM
    show (⟨3, 0, homeNum s LS2 3 (i : Int), 0, 1, (i : Int) % 2, i, 0, (i : Int) % 4, 0, false, 0⟩ : MV) = _
    rw [home_at h1 h2 (by omega)]
  have ej : ({ jDn (rds n) with state := 2, age := 0 } : JbV) = jC n 0 := by
    unfold jDn jC
    rw [rdsS_zero, rds_len]
  show (⟨2, [({ jDn (rds n) with state := 2, age := 0 } : JbV)], [] ++ chkMs s LS2 3 0 1 (rds n), [], [], 1, 0⟩ : Tn) = _
  rw [em, ej]
  rfl
def srM (s : Int) (i : Nat) (y : Bool) : MV := ⟨7, (i : Int) % s, 0, 0, 1, (i : Int) % 2, i, 0, (i : Int) % 4, 0, y, 0⟩
theorem dok_C {s : Int} {n : Nat} (h1 : 1 ≤ s) (h2 : s ≤ 4) (hn : 1 ≤ n) (hn5 : n ≤ 5) (hd : DOK s 2 2 [jDn (rds n)]) : DOK s 2 2 [jC n 0] := by
  have h := good_call (C := C2 s 1) (next := 2) (js := [jDn (rds n)]) (room := 6000) (x := ⟨4, 1, 0, 0, 0⟩) (cl_c2 h1 h2 (Or.inr rfl) hd (by show (1 : Int) ≤ 4 ∧ (4 : Int) ≤ 5; omega))
  rw [commit_R h1 h2 hn hn5 hd] at h
  exact h
theorem hr_C {s : Int} {n i : Nat} {y : Bool} (h1 : 1 ≤ s) (h2 : s ≤ 4) (hi : i < 5) (hd : DOK s 2 2 [jC n i]) : hrErr (C2 s 1) 2 [jC n i] (srM s i y) = 0 := by
  have hr : rfErr s LS2 3 1 0 2 [jC n i] = 0 := rf_of (cfg_two h1 h2 (by omega) (by omega)) ⟨by omega, by decide⟩ ⟨by omega, by omega⟩ hd
  have hks : 0 ≤ (i : Int) % s ∧ (i : Int) % s ≤ s - 1 := ⟨Int.emod_nonneg _ (by omega), by have := Int.emod_lt_of_pos (i : Int) (show 0 < s by omega); omega⟩
  have hm : msgFault s LS2 3 (srM s i y) = 0 := mf_sure h1 h2 (by omega) hks (by omega) (by omega)
  unfold hrErr
  rw [if_pos hr, if_pos hm]
  rfl
theorem mark_S {s : Int} {n i : Nat} {y : Bool} : (rdsS n i).map (mark (srM s i y)) = rdsS n (i + 1) := by
  unfold rdsS
  rw [List.map_map]
  refine List.map_congr_left fun j hj => ?_
  show mark (srM s i y) (rdT (decide (j < i)) j) = rdT (decide (j < i + 1)) j
  unfold mark
  by_cases e : j = i
  · subst e
    have : readB (srM s j y) (rdT (decide (j < j)) j) = true := by simp [readB, srM, rdT]
    rw [if_pos this]
    simp [rdT]
  · have : ¬ readB (srM s i y) (rdT (decide (j < i)) j) = true := by
      simp [readB, srM, rdT]
      omega
    rw [if_neg this]
    have e2 : decide (j < i + 1) = decide (j < i) := by
      rw [decide_eq_decide]
      omega
    rw [e2]
theorem sure_S {n i : Nat} : allSure (rdsS n i) = decide (n ≤ i) := by
  unfold allSure
  by_cases h : n ≤ i
  · rw [decide_eq_true h]
    have : ((rdsS n i).any fun t => !t.write && !t.sure) = false := by
      rw [List.any_eq_false]
      intro t ht
      unfold rdsS at ht
      obtain ⟨j, hj, rfl⟩ := List.mem_map.1 ht
      have := List.mem_range.1 hj
      simp [rdT]
      omega
    rw [this]
    rfl
  · rw [decide_eq_false h]
    have : ((rdsS n i).any fun t => !t.write && !t.sure) = true := by
      rw [List.any_eq_true]
      refine ⟨rdT (decide (i < i)) i, ?_, by simp [rdT]⟩
      unfold rdsS
      exact List.mem_map.2 ⟨i, List.mem_range.2 (by omega), rfl⟩
    rw [this]
    rfl
theorem any_S {s : Int} {n i : Nat} {y : Bool} (hi : i < n) : (rdsS n i).any (readB (srM s i y)) = true := by
  rw [List.any_eq_true]
  refine ⟨rdT (decide (i < i)) i, ?_, by simp [readB, srM, rdT]⟩
  unfold rdsS
  exact List.mem_map.2 ⟨i, List.mem_range.2 hi, rfl⟩
theorem heard_C {s : Int} {n i : Nat} {y : Bool} (h1 : 1 ≤ s) (h2 : s ≤ 4) (hi : i < 5) (hd : DOK s 2 2 [jC n i]) : HearAns (C2 s 1) 2 [jC n i] (srM s i y) = (⟨2, [jC n i], [], [], [], 0, 0⟩ : Tn).sured (C2 s 1) 0 (srM s i y) := by
  unfold HearAns
  rw [if_pos (hr_C h1 h2 hi hd)]
  have e0 : tn0 2 [jC n i] = ⟨2, [jC n i], [], [], [], 0, 0⟩ := rfl
  rw [e0]
  have hx : idxI (isN (srM s i y).num) [jC n i] = 0 := idx_one rfl
  unfold Tn.heard
  simp only [hx]
  rw [if_neg (by show ¬ (7 : Int) = 9; decide), if_neg (by decide), if_neg (by show ¬ ((7 : Int) = 5 ∨ (7 : Int) = 6); decide), if_pos (by rfl)]
  rfl
theorem cond_C {s : Int} {n i : Nat} {y : Bool} (h1 : 1 ≤ s) (h2 : s ≤ 4) (hi : i < n) (hn : n ≤ 5) : (decide ((jC n i).state = 2) && ((srM s i y).frm == (C2 s 1).home (srM s i y).key) && (jC n i).tasks.any (readB (srM s i y))) = true := by
  have e1 : (jC n i).tasks.any (readB (srM s i y)) = true := any_S hi
  have e2 : ((srM s i y).frm == (C2 s 1).home (srM s i y).key) = true := by
    show ((i : Int) % s == homeNum s LS2 3 (i : Int)) = true
    rw [home_at h1 h2 (by omega)]
    simp
  rw [e1, e2]
  rfl
/-- Sure, and not the last one. -/
theorem sure_on {s : Int} {n i : Nat} (h1 : 1 ≤ s) (h2 : s ≤ 4) (hi : i + 1 < n) (hn : n ≤ 5) (hd : DOK s 2 2 [jC n i]) : HearAns (C2 s 1) 2 [jC n i] (srM s i true) = ⟨2, [jC n (i + 1)], [], [], [], 0, 0⟩ := by
  rw [heard_C h1 h2 (by omega) hd]
  unfold Tn.sured
  have eg : ([jC n i] : List JbV).getD 0 default = jC n i := rfl
  simp only [eg]
  rw [if_pos (cond_C h1 h2 (by omega) hn), if_pos (by rfl)]
  have et : (jC n i).tasks.map (mark (srM s i true)) = rdsS n (i + 1) := mark_S
  rw [et, sure_S, if_neg (by simp; omega)]
  rfl
theorem dok_on {s : Int} {n i : Nat} (h1 : 1 ≤ s) (h2 : s ≤ 4) (hi : i + 1 < n) (hn : n ≤ 5) (hd : DOK s 2 2 [jC n i]) : DOK s 2 2 [jC n (i + 1)] := by
  have h := good_hear (C := C2 s 1) (m := srM s i true) (hr_C h1 h2 (by omega) hd)
  rw [sure_on h1 h2 hi hn hd] at h
  exact h
theorem sure_last {s : Int} {n i : Nat} (h1 : 1 ≤ s) (h2 : s ≤ 4) (hi : i + 1 = n) (hn : n ≤ 5) (hd : DOK s 2 2 [jC n i]) : ∃ nx js ms rs, HearAns (C2 s 1) 2 [jC n i] (srM s i true) = ⟨nx, js, ms, rs, [⟨0, 4, 1, 0, 0, 0⟩], 0, 1⟩ := by
  rw [heard_C h1 h2 (by omega) hd]
  unfold Tn.sured
  have eg : ([jC n i] : List JbV).getD 0 default = jC n i := rfl
  simp only [eg]
  rw [if_pos (cond_C h1 h2 (by omega) hn), if_pos (by rfl)]
  have et : (jC n i).tasks.map (mark (srM s i true)) = rdsS n (i + 1) := mark_S
  rw [et, sure_S, if_pos (by simp; omega)]
  unfold Tn.comm
  split
  · exact ⟨_, _, _, _, rfl⟩
  · exact ⟨_, _, _, _, rfl⟩
theorem sure_bad {s : Int} {n i : Nat} (h1 : 1 ≤ s) (h2 : s ≤ 4) (hi : i < n) (hn : n ≤ 5) (hd : DOK s 2 2 [jC n i]) : ∃ nx js ms rs, HearAns (C2 s 1) 2 [jC n i] (srM s i false) = ⟨nx, js, ms, rs, [⟨0, 4, 1, 0, 0, 11⟩], 0, 0⟩ := by
  rw [heard_C h1 h2 (by omega) hd]
  unfold Tn.sured
  have eg : ([jC n i] : List JbV).getD 0 default = jC n i := rfl
  simp only [eg]
  rw [if_pos (cond_C h1 h2 hi hn), if_neg (by show ¬ false = true; decide)]
  exact ⟨_, _, _, _, rfl⟩
end Go.Proofs.YtdjnaahkcnklhabDoor.Co
/- A desk in a variable's box, told anew again and again. -/
namespace Go.Proofs.YtdjnaahkcnklhabDoor.Co
open Go.ChangeShapes Go.WideShapes Go.ChangeAt Go.RowKit
open Go.Proofs.YtdjnaahkcnklhabDoor.St (BoxN boxn_new own_below grown_setCell IsRow Elem flat flat_append own_isRow idxI)
set_option linter.unusedVariables false

/-- The desk in the box at d; P is known of what it says. -/
structure DeskBox (P : Int → List JbV → Prop) (B d : Nat) (W wr : World) (nx : Int) (da : Option Addr) (N dc : Nat) : Prop where
  box : BoxN wr d 2 [.int .i64 nx, .slice da N dc]
  dk : ∃ bs js ix more, N = bs.length ∧ DeskAt wr B da N dc js ix more ∧ Far d (jobRow da N dc js :: more) ∧ js.map JbV.bare = bs ∧ P nx bs
  bel : Below d W wr
theorem DeskBox.below {P : Int → List JbV → Prop} {B d : Nat} {W wr u : World} {nx : Int} {da : Option Addr} {N dc : Nat} (h : DeskBox P B d W wr nx da N dc) (hb : Below wr.heap.size wr u) : DeskBox P B d W u nx da N dc := by
  obtain ⟨bs, js, ix, more, h1, h2, h3, h4, h5⟩ := h.dk
  exact ⟨h.box.below hb h.box.lt, ⟨bs, js, ix, more, h1, h2.below hb, h3, h4, h5⟩, h.bel.trans (hb.mono (Nat.le_of_lt h.box.lt))⟩
theorem DeskBox.le {P : Int → List JbV → Prop} {B d : Nat} {W wr : World} {nx : Int} {da : Option Addr} {N dc : Nat} (h : DeskBox P B d W wr nx da N dc) : d < wr.heap.size := h.box.lt
theorem DeskBox.put {P Q : Int → List JbV → Prop} {B d : Nat} {W wr : World} {nx : Int} {da : Option Addr} {N dc : Nat} (h : DeskBox P B d W wr nx da N dc) {nx' : Int} {bs js : List JbV} {ix : List (Nat × Nat)} {more : List Rw} {B2 : Nat} {a2 : Option Addr} {N2 c2 : Nat} (hN : N2 = bs.length) (hD : DeskAt wr B2 a2 N2 c2 js ix more) (hd : d < B2) (hB : B ≤ B2) (hb : js.map JbV.bare = bs) (hQ : Q nx' bs) : DeskBox Q B d W (set2 wr d (.int .i64 nx') (.slice a2 N2 c2)) nx' a2 N2 c2 := by
  have hf := hD.farOld hd
  refine ⟨(h.box.set 0 (by decide) _).set 1 (by decide) _, ⟨bs, js, ix, more, hN, ((hD.asideF hf 0 _).asideF hf 1 _).base hB, hf, hb, hQ⟩, ?_⟩
  exact (h.bel.setCell (p := ⟨d, 0, none⟩) (Nat.le_refl _) _).setCell (p := ⟨d, 1, none⟩) (Nat.le_refl _) _
theorem deskBox_new {P : Int → List JbV → Prop} {B : Nat} {W X : World} {nx : Int} {da : Option Addr} {N dc : Nat} {bs js : List JbV} {ix : List (Nat × Nat)} {more : List Rw} (hx : BoxN X W.heap.size 2 [.int .i64 nx, .slice da N dc]) (hb : Below W.heap.size W X) (hN : N = bs.length) (hD : DeskAt W B da N dc js ix more) (hbs : js.map JbV.bare = bs) (hP : P nx bs) : DeskBox P B W.heap.size W X nx da N dc := ⟨hx, ⟨bs, js, ix, more, hN, hD.below hb, hD.farNew (Nat.le_refl _), hbs, hP⟩, hb⟩
end Go.Proofs.YtdjnaahkcnklhabDoor.Co
/- A desk in a box, and beside it the sites that were written at. -/
namespace Go.Proofs.YtdjnaahkcnklhabDoor.Co
open Go.ChangeShapes Go.WideShapes Go.ChangeAt Go.RowKit
open Go.Proofs.YtdjnaahkcnklhabDoor.St (BoxN boxn_new own_below grown_setCell IsRow Elem flat flat_append own_isRow idxI)
set_option linter.unusedVariables false

theorem DkIs.below {B : Nat} {w u : World} {D : Value} {nx : Int} {bs : List JbV} (h : DkIs B w D nx bs) (hb : Below w.heap.size w u) : DkIs B u D nx bs := by
  obtain ⟨a, c, js, ix, more, h1, h2, h3⟩ := h
  exact ⟨a, c, js, ix, more, h1, h2.below hb, h3⟩
structure PlainSt (S B D G : Nat) (W wr : World) (ks hs : List Int) (da : Option Addr) (dc : Nat) : Prop where
  box : BoxN wr D 2 [.int .i64 2, .slice da 1 dc]
  dk : ∃ js ix more, DeskAt wr B da 1 dc js ix more ∧ Far D (jobRow da 1 dc js :: more) ∧ Far G (jobRow da 1 dc js :: more) ∧ js.map JbV.bare = [jDn (wrs ks)]
  hands : BoxN wr G S (handW S hs)
  bel : Below D W wr
theorem PlainSt.below {S B D G : Nat} {W wr u : World} {ks hs : List Int} {da : Option Addr} {dc : Nat} (h : PlainSt S B D G W wr ks hs da dc) (hb : Below wr.heap.size wr u) : PlainSt S B D G W u ks hs da dc := by
  obtain ⟨js, ix, more, h2, h3, h4, h5⟩ := h.dk
  exact ⟨h.box.below hb h.box.lt, ⟨js, ix, more, h2.below hb, h3, h4, h5⟩, h.hands.below hb h.hands.lt, h.bel.trans (hb.mono (Nat.le_of_lt h.box.lt))⟩
theorem PlainSt.put {S B D G : Nat} {W wr : World} {ks hs : List Int} {da : Option Addr} {dc : Nat} (h : PlainSt S B D G W wr ks hs da dc) {ks2 : List Int} {B2 : Nat} {a2 : Option Addr} {c2 : Nat} (hD : DkIs B2 wr (.agg #[.int .i64 2, .slice a2 1 c2]) 2 [jDn (wrs ks2)]) (h1 : D < B2) (h2 : G < B2) (h3 : B ≤ B2) (h4 : D ≠ G) : PlainSt S B D G W (set2 wr D (.int .i64 2) (.slice a2 1 c2)) ks2 hs a2 c2 := by
  obtain ⟨a, c, js, ix, more, e1, e2, e3⟩ := hD
  simp at e1
  obtain ⟨rfl, rfl⟩ := e1
  have hf := e2.farOld h1
  have hg := e2.farOld h2
  refine ⟨(h.box.set 0 (by decide) _).set 1 (by decide) _, ⟨js, ix, more, ((e2.asideF hf 0 _).asideF hf 1 _).base h3, hf, hg, e3⟩, (h.hands.far (fun e => h4 e.symm)).far (fun e => h4 e.symm), ?_⟩
  exact (h.bel.setCell (p := ⟨D, 0, none⟩) (Nat.le_refl _) _).setCell (p := ⟨D, 1, none⟩) (Nat.le_refl _) _
theorem PlainSt.hand {S B D G : Nat} {W wr : World} {ks hs : List Int} {da : Option Addr} {dc : Nat} (h : PlainSt S B D G W wr ks hs da dc) {k : Int} {r : Nat} (hr : k % (S : Int) = (r : Int)) (hS : r < S) (h4 : D < G) : PlainSt S B D G W (wr.setCell ⟨G, r, none⟩ (.bool true)) ks (hs ++ [k]) da dc := by
  obtain ⟨js, ix, more, h2, h3, h5, h6⟩ := h.dk
  refine ⟨h.box.far (by omega), ⟨js, ix, more, h2.asideF h5 _ _, h3, h5, h6⟩, ?_, h.bel.setCell (p := ⟨G, r, none⟩) (by show D ≤ G; omega) _⟩
  rw [handW_snoc hr hS]
  exact h.hands.set r hS _
theorem PlainSt.same {S B D G : Nat} {W wr : World} {ks hs : List Int} {da : Option Addr} {dc : Nat} (h : PlainSt S B D G W wr ks hs da dc) {k : Int} {r : Nat} (hr : k % (S : Int) = (r : Int)) (hS : r < S) (ha : (hs.any fun k => k % (S : Int) == (r : Int)) = true) : PlainSt S B D G W wr ks (hs ++ [k]) da dc := by
  refine ⟨h.box, h.dk, ?_, h.bel⟩
  rw [handW_same hr hS ha]
  exact h.hands
theorem PlainSt.dkIs {S B D G : Nat} {W wr : World} {ks hs : List Int} {da : Option Addr} {dc : Nat} (h : PlainSt S B D G W wr ks hs da dc) : ∃ js ix more, DeskAt wr B da 1 dc js ix more ∧ js.map JbV.bare = [jDn (wrs ks)] := by
  obtain ⟨js, ix, more, h2, h3, h4, h5⟩ := h.dk
  exact ⟨js, ix, more, h2, h5⟩
theorem row_boxS {U : World} {B : Nat} {t : TypeId} {g n : Nat} {vs : List Value} (ob : U.ownsRow B t 1 (.slice (some ⟨g, 0, none⟩) n n) n vs) (hl : vs.length = n) (h0 : 0 < n) : BoxN U g n vs := by
  refine ⟨hl, (own_at ob (j := 0) (by omega)).2, fun c hc => ⟨?_, (St.own_there ob (k := c) (by omega)).2⟩⟩
  rw [(own_at ob (j := c) (by omega)).1]
  simp [List.getD, show c < vs.length by omega]
end Go.Proofs.YtdjnaahkcnklhabDoor.Co
